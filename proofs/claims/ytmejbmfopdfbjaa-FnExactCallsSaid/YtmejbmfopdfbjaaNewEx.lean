/-
  The laws' own copies: all their blocks are new ones, none frozen.
-/
import Derived.Test.YtmejbmfopdfbjaaExAll
import Derived.Test.YtmejbmfopdfbjaaBytes
namespace Go.Proofs.Ytmejbmfopdfbjaa
open Go.RowKit
set_option linter.unusedVariables false

/-- all blocks from lo on are cells, none frozen -/
def New (lo : Nat) (w : World) : Prop := ∀ k, lo ≤ k → k < w.heap.size → ∃ cs t, w.heap[k]? = some (.cells cs t)
theorem New.refl (w : World) : New w.heap.size w := fun k h1 h2 => by omega
theorem New.alloc {lo : Nat} {w : World} (h : New lo w) (cs : Array Value) (t : TypeId) : New lo (w.alloc (.cells cs t)) := fun k h1 h2 => by
  by_cases hk : k < w.heap.size
  · obtain ⟨cs', t', e⟩ := h k h1 hk
    exact ⟨cs', t', (((Below.refl w.heap.size w).alloc (Nat.le_refl _) (.cells cs t)).block k hk).trans e⟩
  · rw [World.size_alloc] at h2
    obtain rfl : k = w.heap.size := by omega
    exact ⟨cs, t, Blk.new w t cs⟩
theorem New.set_ {lo : Nat} {w : World} (h : New lo w) (p : Addr) (v : Value) : New lo (w.setCell p v) := fun k h1 h2 => by
  rw [World.size_setCell] at h2
  obtain ⟨cs, t, e⟩ := h k h1 h2
  by_cases hp : p.block = k
  · subst hp
    refine ⟨(if p.spot.isSome then cs else cs.setIfInBounds p.off v), t, ?_⟩
    unfold World.setCell
    rw [Array.getElem?_modify]
    simp [e]
  · exact ⟨cs, t, (Below.heap_setCell w p v k (fun e => hp e.symm)).trans e⟩
theorem New.join {lo : Nat} {w w' : World} (h : New lo w) (hb : Below w.heap.size w w') (h' : New w.heap.size w') : New lo w' := fun k h1 h2 => by
  by_cases hk : k < w.heap.size
  · obtain ⟨cs, t, e⟩ := h k h1 hk
    exact ⟨cs, t, (hb.block k hk).trans e⟩
  · exact h' k (by omega) h2
theorem toByteS_n (l : List UInt8) (A : Option Addr) (c B : Nat) (w : World) (hl : l.length ≤ 4294967296) (hB : B ≤ w.heap.size) (h : RB w B A l) :
    Calls Try.prog 16 #[.slice A l.length c] w fun e w' => ∃ g, e = .returned (.slice (some ⟨g, 0, none⟩) l.length l.length) ∧ Blk w' g 5 (vb l).toArray ∧ w.heap.size ≤ g ∧ g < w'.heap.size ∧ Below w.heap.size w w' ∧ New w.heap.size w' := by
  refine (toByteS_c0 l A c w hl (h.more hB)).mono ?_
  rintro e w' ⟨rfl, hb, hs, hbl⟩
  refine ⟨w.heap.size, rfl, hb, Nat.le_refl _, by omega, hbl, fun k h1 h2 => ?_⟩
  obtain rfl : k = w.heap.size := by omega
  exact ⟨_, _, hb⟩

def ToExN (e : Ex) : Prop := ∀ (v0 v1 v2 v3 : Value) (w : World) (L B : Nat), ExV w L B v0 v1 v2 v3 e → B ≤ w.heap.size → exSz e ≤ 1048576 →
  Calls Try.prog 87 #[.agg #[v0, v1, v2, v3]] w fun r w' => ∃ u0 u1 u2 u3, r = .returned (.agg #[u0, u1, u2, u3]) ∧ ExV w' w.heap.size w'.heap.size u0 u1 u2 u3 e ∧ Below w.heap.size w w' ∧ New w.heap.size w'

set_option maxHeartbeats 2000000 in
theorem toExS_n (l : List Ex) (ih : ∀ e ∈ l, ToExN e) (A : Option Addr) (c L B : Nat) (w : World) (hB : B ≤ w.heap.size) (hl : exsSz l ≤ 1048576) (h : ExL w L B A l) :
    Calls Try.prog 109 #[.slice A l.length c] w fun r w' => ∃ g, r = .returned (.slice (some ⟨g, 0, none⟩) l.length l.length) ∧ g < w'.heap.size ∧ w.heap.size ≤ g ∧ ExL w' w.heap.size w'.heap.size (some ⟨g, 0, none⟩) l ∧ Below w.heap.size w w' ∧ New w.heap.size w' := by
  obtain ⟨i0, hi, hz0, hz1, hz2⟩ := info_parts infoEx
  have hlen := exsSz_len l
  have hmk : ∀ u : World, (Instr.makeSlice 71 (.int .i64 (l.length : Int)) (.int .i64 (l.length : Int))).run Try.prog u =
      .ok (.slice (some ⟨u.heap.size, 0, none⟩) l.length l.length) (u.alloc (.cells (madeCells #[.int .i64 0, .int .i64 0, .slice none 0 0, .slice none 0 0] (l.length * 4)) 73)) := fun u => by
    have h := run_make (P := Try.prog) u 71 73 i0 (.agg #[.int .i64 0, .int .i64 0, .slice none 0 0, .slice none 0 0]) Try.underlying71 hi hz0 .i64 .i64 (l.length : Int) (l.length : Int) (by omega) (Int.le_refl _) (by rw [hz2]; omega) (by omega)
    rw [Int.toNat_natCast] at h
    simpa [hz1, Value.cells] using h
  have Ih := Lib.hid ih
  clear hi hz0 hz1 hz2 ih
  go_enter Try.func109, Try.ntmps109
  go_wp2
  go_loopw [4] (fun i wr => ∃ (k : Nat) (cs : Array Value), k ≤ l.length ∧ i = .int .i64 k ∧ cs.size = l.length * 4 ∧ Blk wr w.heap.size 73 cs ∧ ExsP wr (w.heap.size + 1) cs l k ∧ Below w.heap.size w wr ∧ New w.heap.size wr) (fun i _ => l.length - (intOf i).toNat)
  case atStart => exact ⟨0, _, Nat.zero_le _, rfl, by simp [madeCells], Blk.new _ _ _, fun i _ hk => by omega, (Below.refl _ _).alloc (Nat.le_refl _) _, (New.refl w).alloc _ _⟩
  case round =>
    obtain ⟨k, cs, hk, rfl, hcs, hblk, hown, hbl, hnw⟩ := hrel
    have Hcs := Lib.hid hcs
    clear hcs
    by_cases hlt : k < l.length
    · obtain ⟨ad, rfl, _, hb, hat⟩ := (h.below (hbl.mono hB)).2 (by omega)
      obtain ⟨v0, v1, v2, v3, ⟨c0, c1, c2, c3⟩, hv⟩ := hat k hlt
      have hsz1 := exsSz_get hlt
      have hc := Ih.out l[k] (List.getElem_mem hlt) v0 v1 v2 v3 wr L B hv (Nat.le_trans hB hbl.size) (by omega)
      have Hc := Lib.hid hc
      clear hc
      go_wp2_with fail
      refine Hc.out.mono ?_
      rintro e w1 ⟨u0, u1, u2, u3, rfl, hu, hb1, hn1⟩
      obtain ⟨xk, xn, xA, xa, xc, xA', xa', xc', rfl, rfl, rfl, rfl⟩ := hu.shape
      have hblk1 := hblk.below hb1 hblk.lt
      have hsz := Hcs.out
      obtain ⟨x0, e0⟩ : ∃ v, cs[k * 4]? = some v := ⟨_, Array.getElem?_eq_getElem (by omega)⟩
      obtain ⟨x1, e1⟩ : ∃ v, cs[k * 4 + 1]? = some v := ⟨_, Array.getElem?_eq_getElem (by omega)⟩
      obtain ⟨x2, e2⟩ : ∃ v, cs[k * 4 + 2]? = some v := ⟨_, Array.getElem?_eq_getElem (by omega)⟩
      obtain ⟨x3, e3⟩ : ∃ v, cs[k * 4 + 3]? = some v := ⟨_, Array.getElem?_eq_getElem (by omega)⟩
      have q0 : w1.cell? ⟨w.heap.size, k * 4, none⟩ = some x0 := by rw [hblk1.cell]; exact e0
      have q1 : w1.cell? ⟨w.heap.size, k * 4 + 1, none⟩ = some x1 := by rw [hblk1.cell]; exact e1
      have q2 : w1.cell? ⟨w.heap.size, k * 4 + 2, none⟩ = some x2 := by rw [hblk1.cell]; exact e2
      have q3 : w1.cell? ⟨w.heap.size, k * 4 + 3, none⟩ = some x3 := by rw [hblk1.cell]; exact e3
      have z0 : w1.frozen? ⟨w.heap.size, k * 4, none⟩ = false := hblk1.frozen _
      have z1 : w1.frozen? ⟨w.heap.size, k * 4 + 1, none⟩ = false := hblk1.frozen _
      have z2 : w1.frozen? ⟨w.heap.size, k * 4 + 2, none⟩ = false := hblk1.frozen _
      have z3 : w1.frozen? ⟨w.heap.size, k * 4 + 3, none⟩ = false := hblk1.frozen _
      have hlt1 := hblk.lt
      have hbl1 := hbl.trans (hb1.mono hbl.size)
      have hnw1 := hnw.join hb1 hn1
      have hfin := (hown.keep hb1).step hlt (by omega) (ExV.more (by omega) (Nat.le_refl _) _ _ _ _ _ hu)
      have Hfin := Lib.hid hfin
      clear hsz e0 e1 e2 e3 hfin
      go_wp2
      go_roundw
      case rel =>
        exact ⟨k + 1, _, by omega, by go_num, by rw [put4_size]; exact Hcs.out, hblk1.put4 (k * 4) _ _ _ _, (((Hfin.out.low (by simp) _).low (by simp) _).low (by simp) _).low (by simp) _, (((hbl1.setCell (by simp) _).setCell (by simp) _).setCell (by simp) _).setCell (by simp) _, (((hnw1.set_ _ _).set_ _ _).set_ _ _).set_ _ _⟩
      case measure => simp [intOf]; omega
    · go_wp2
      go_ret
      have : k = l.length := by omega
      subst this
      exact ⟨_, rfl, hblk.lt, Nat.le_refl _, hown.exl (by unfold maxLen; omega) hblk (by omega), hbl, hnw⟩


set_option maxHeartbeats 2000000 in
theorem toEx_n (e : Ex) : ToExN e := by
  refine Ex.ind (P := ToExN) ?_ e
  intro k n name args ih v0 v1 v2 v3 w L B hv hB hsz
  obtain ⟨A, c, A', c', rfl, rfl, rfl, rfl, hR, hm, hx⟩ := hv.open_
  rw [exSz_mk] at hsz
  have hb0 : Below w.heap.size w (((w.alloc (.cells #[.int .i64 k, .int .i64 n, .slice A name.length c, .slice A' args.length c'] 93)).alloc (.cells #[.int .i64 0, .int .i64 0, .slice none 0 0, .slice none 0 0] 73)).alloc (.cells #[.int .i64 k, .int .i64 n, .slice none 0 0, .slice none 0 0] 73)) := (((Below.refl _ _).alloc (Nat.le_refl _) _).alloc (by simp) _).alloc (by simp; omega) _
  have hR0 := (hR.below (hb0.mono hB)).1
  have hx0 := hx.below (hb0.mono hB)
  have Ih := Lib.hid ih
  clear ih hv
  go_enter Try.func87, Try.ntmps87
  go_wp2_with fail
  refine (toByteS_n name A c B _ (by omega) (by simp; omega) hR0).mono ?_
  rintro e w1 ⟨g1, rfl, hB1, hg1, hs1, hb1, hn1⟩
  have K2 : Blk w1 (w.heap.size + 1 + 1) 73 #[.int .i64 k, .int .i64 n, .slice none 0 0, .slice none 0 0] :=
    Blk.below (by have := Blk.new ((w.alloc (.cells #[.int .i64 k, .int .i64 n, .slice A name.length c, .slice A' args.length c'] 93)).alloc (.cells #[.int .i64 0, .int .i64 0, .slice none 0 0, .slice none 0 0] 73)) 73 #[.int .i64 k, .int .i64 n, .slice none 0 0, .slice none 0 0]; simpa using this) hb1 (by simp)
  have K1 : Blk w1 (w.heap.size + 1) 73 #[.int .i64 0, .int .i64 0, .slice none 0 0, .slice none 0 0] :=
    Blk.below ((by have := Blk.new (w.alloc (.cells #[.int .i64 k, .int .i64 n, .slice A name.length c, .slice A' args.length c'] 93)) 73 #[.int .i64 0, .int .i64 0, .slice none 0 0, .slice none 0 0]; simpa using this : Blk ((w.alloc (.cells #[.int .i64 k, .int .i64 n, .slice A name.length c, .slice A' args.length c'] 93)).alloc (.cells #[.int .i64 0, .int .i64 0, .slice none 0 0, .slice none 0 0] 73)) (w.heap.size + 1) 73 _).alloc _) hb1 (by simp)
  have K0 : Blk w1 w.heap.size 93 #[.int .i64 k, .int .i64 n, .slice A name.length c, .slice A' args.length c'] :=
    Blk.below (((Blk.new w 93 _).alloc _).alloc _) hb1 (by simp; omega)
  have hg1' : w.heap.size + 1 + 1 + 1 ≤ g1 := by simpa using hg1
  have hnw1 := ((((New.refl w).alloc #[.int .i64 k, .int .i64 n, .slice A name.length c, .slice A' args.length c'] 93).alloc #[.int .i64 0, .int .i64 0, .slice none 0 0, .slice none 0 0] 73).alloc #[.int .i64 k, .int .i64 n, .slice none 0 0, .slice none 0 0] 73).join hb1 hn1
  have hbw : Below w.heap.size w w1 := hb0.trans (hb1.mono (by simp; omega))
  have hx1 := hx0.below (hb1.mono (by simp; omega))
  have a3 := K0.cell_of 3 rfl
  have n2 := K2.cell_of 2 rfl
  have z2 : w1.frozen? ⟨w.heap.size + 1 + 1, 2, none⟩ = false := K2.frozen 2
  have hs1' := hs1
  clear hb1 hg1 hR hR0 hx hx0 hb0
  go_wp2_with fail
  have hx2 : ExL (w1.setCell ⟨w.heap.size + 1 + 1, 2, none⟩ (.slice (some ⟨g1, 0, none⟩) name.length name.length)) L B A' args :=
    hx1.keep fun p _ hp => World.cell?_setCell_other w1 _ p _ (fun e => by subst e; simp at hp; omega)
  refine (toExS_n args Ih.out A' c' L B _ (by simp; have := hbw.size; omega) (by omega) hx2).mono ?_
  rintro e w2 ⟨g2, rfl, hg2, hg2', hv2, hb2, hn2⟩
  have hnw2 := (hnw1.set_ ⟨w.heap.size + 1 + 1, 2, none⟩ (.slice (some ⟨g1, 0, none⟩) name.length name.length)).join hb2 hn2
  rw [World.size_setCell] at hb2 hv2 hg2'
  have K2' := (K2.set_ 2 (.slice (some ⟨g1, 0, none⟩) name.length name.length)).below hb2 K2.lt
  have K1' := (K1.far (p := ⟨w.heap.size + 1 + 1, 2, none⟩) (by simp) (.slice (some ⟨g1, 0, none⟩) name.length name.length)).below hb2 K1.lt
  have hB1' := (hB1.far (p := ⟨w.heap.size + 1 + 1, 2, none⟩) (by simp; omega) (.slice (some ⟨g1, 0, none⟩) name.length name.length)).below hb2 hB1.lt
  have hbw2 : Below w.heap.size w w2 := (hbw.setCell (p := ⟨w.heap.size + 1 + 1, 2, none⟩) (by simp; omega) _).trans (hb2.mono hbw.size)
  have m0 := K1'.cell_of 0 rfl
  have m1 := K1'.cell_of 1 rfl
  have m2 := K1'.cell_of 2 rfl
  have m3 := K1'.cell_of 3 rfl
  have p0 := K2'.cell_of 0 rfl
  have p1 := K2'.cell_of 1 rfl
  have p2 := K2'.cell_of 2 rfl
  have p3 := K2'.cell_of 3 rfl
  have y0 : w2.frozen? ⟨w.heap.size + 1, 0, none⟩ = false := K1'.frozen 0
  have y1 : w2.frozen? ⟨w.heap.size + 1, 1, none⟩ = false := K1'.frozen 1
  have y2 : w2.frozen? ⟨w.heap.size + 1, 2, none⟩ = false := K1'.frozen 2
  have y3 : w2.frozen? ⟨w.heap.size + 1, 3, none⟩ = false := K1'.frozen 3
  have y4 : w2.frozen? ⟨w.heap.size + 1 + 1, 3, none⟩ = false := K2'.frozen 3
  have hlt1 : g1 < w1.heap.size := hs1
  clear hb2 a3 n2 z2 hx1 hx2 K0 K1 K2
  go_wp2_with fail
  refine bodyPost_ret (v := .agg #[.int .i64 k, .int .i64 n, .slice (some ⟨g1, 0, none⟩) name.length name.length, .slice (some ⟨g2, 0, none⟩) args.length args.length]) (by simp [results, Try.results87, go_sem, m0, m1, m2, m3]) rfl ?_
  have hw1 := hbw.size
  have hx3 := ((((hv2.low (p := ⟨w.heap.size + 1 + 1, 3, none⟩) (by simp; omega) (.slice (some ⟨g2, 0, none⟩) args.length args.length)).low (p := ⟨w.heap.size + 1, 0, none⟩) (by simp; omega) (.int .i64 k)).low (p := ⟨w.heap.size + 1, 1, none⟩) (by simp; omega) (.int .i64 n)).low (p := ⟨w.heap.size + 1, 2, none⟩) (by simp; omega) (.slice (some ⟨g1, 0, none⟩) name.length name.length)).low (p := ⟨w.heap.size + 1, 3, none⟩) (by simp; omega) (.slice (some ⟨g2, 0, none⟩) args.length args.length)
  have hr3 := ((((hB1'.far (p := ⟨w.heap.size + 1 + 1, 3, none⟩) (by simp; omega) (.slice (some ⟨g2, 0, none⟩) args.length args.length)).far (p := ⟨w.heap.size + 1, 0, none⟩) (by simp; omega) (.int .i64 k)).far (p := ⟨w.heap.size + 1, 1, none⟩) (by simp; omega) (.int .i64 n)).far (p := ⟨w.heap.size + 1, 2, none⟩) (by simp; omega) (.slice (some ⟨g1, 0, none⟩) name.length name.length)).far (p := ⟨w.heap.size + 1, 3, none⟩) (by simp; omega) (.slice (some ⟨g2, 0, none⟩) args.length args.length)
  refine ⟨_, _, _, _, rfl, ExV.mk_ ⟨RB.of_blk hr3 hr3.lt, fun _ => ⟨_, rfl, by show w.heap.size ≤ g1; omega⟩⟩ hm (hx3.more hw1 (by simp)), ?_, ((((hnw2.set_ _ _).set_ _ _).set_ _ _).set_ _ _).set_ _ _⟩
  exact ((((hbw2.setCell (by simp; omega) _).setCell (by simp) _).setCell (by simp) _).setCell (by simp) _).setCell (by simp) _
end Go.Proofs.Ytmejbmfopdfbjaa
