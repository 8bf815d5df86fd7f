/-
  Marks of arenas.
-/
import Derived.Test.YtfmlgpnjckamjaaMarn
namespace Go.Proofs.Ytfmlgpnjckamjaa
open Go.RowKit
set_option linter.unusedVariables false
namespace ArnN

/-- all blocks from lo on are cells, none frozen -/
def New (lo : Nat) (w : World) : Prop := ∀ k, lo ≤ k → k < w.heap.size → ∃ cs t, w.heap[k]? = some (.cells cs t)
theorem New.refl (w : World) : New w.heap.size w := fun k h1 h2 => by omega
theorem New.alloc {lo : Nat} {w : World} (h : New lo w) (cs : Array Value) (t : TypeId) : New lo (w.alloc (.cells cs t)) := fun k h1 h2 => by
  by_cases hk : k < w.heap.size
  · obtain ⟨cs', t', e⟩ := h k h1 hk
    exact ⟨cs', t', (((Below.refl w.heap.size w).alloc (Nat.le_refl _) (.cells cs t)).block k hk).trans e⟩
  · rw [World.size_alloc] at h2
    obtain rfl : k = w.heap.size := by omega
    exact ⟨cs, t, Blk.new w t cs⟩
theorem New.set_ {lo : Nat} {w : World} (h : New lo w) (p : Addr) (v : Value) : New lo (w.setCell p v) := fun k h1 h2 => by
  rw [World.size_setCell] at h2
  obtain ⟨cs, t, e⟩ := h k h1 h2
  by_cases hp : p.block = k
  · subst hp
    refine ⟨(if p.spot.isSome then cs else cs.setIfInBounds p.off v), t, ?_⟩
    unfold World.setCell
    rw [Array.getElem?_modify]
    simp [e]
  · exact ⟨cs, t, (Below.heap_setCell w p v k (fun e => hp e.symm)).trans e⟩
theorem New.join {lo : Nat} {w w' : World} (h : New lo w) (hb : Below w.heap.size w w') (h' : New w.heap.size w') : New lo w' := fun k h1 h2 => by
  by_cases hk : k < w.heap.size
  · obtain ⟨cs, t, e⟩ := h k h1 hk
    exact ⟨cs, t, (hb.block k hk).trans e⟩
  · exact h' k (by omega) h2
theorem toByteS_n (l : List UInt8) (A : Option Addr) (c B : Nat) (w : World) (hl : l.length ≤ 4294967296) (hB : B ≤ w.heap.size) (h : RB w B A l) :
    Calls Try.prog 28 #[.slice A l.length c] w fun e w' => ∃ g, e = .returned (.slice (some ⟨g, 0, none⟩) l.length l.length) ∧ Blk w' g 5 (vb l).toArray ∧ w.heap.size ≤ g ∧ g < w'.heap.size ∧ Below w.heap.size w w' ∧ New w.heap.size w' := by
  refine (toByteS_c0 l A c w hl (h.more hB)).mono ?_
  rintro e w' ⟨rfl, hb, hs, hbl⟩
  refine ⟨w.heap.size, rfl, hb, Nat.le_refl _, by omega, hbl, fun k h1 h2 => ?_⟩
  obtain rfl : k = w.heap.size := by omega
  exact ⟨_, _, hb⟩

set_option maxHeartbeats 1000000 in
theorem toVal_n (k n g : Int) (w : World) :
    Calls Try.prog 19 #[.agg #[.int .i64 k, .int .i64 n, .int .i64 g]] w fun e w' => e = .returned (.agg #[.int .i64 k, .int .i64 n, .int .i64 g]) ∧ Below w.heap.size w w' ∧ New w.heap.size w' := by
  go_enter Try.func19, Try.ntmps19
  go_wp2
  refine bodyPost_ret (v := .agg #[.int .i64 k, .int .i64 n, .int .i64 g]) (by simp [results, Try.results19, go_sem]) rfl ⟨rfl, ?_, (((New.refl w).alloc _ _).alloc _ _).alloc _ _⟩
  have hb0 : Below w.heap.size w (((w.alloc (.cells #[.int .i64 k, .int .i64 n, .int .i64 g] 40)).alloc (.cells #[.int .i64 k, .int .i64 n, .int .i64 g] 43)).alloc (.cells #[.int .i64 k, .int .i64 n, .int .i64 g] 43)) := (((Below.refl _ _).alloc (Nat.le_refl _) _).alloc (by simp) _).alloc (by simp; omega) _
  exact hb0

set_option maxHeartbeats 1000000 in
theorem toField_n (f : Fd) (v0 v1 v2 v3 : Value) (L B : Nat) (w : World) (hB : B ≤ w.heap.size) (hl : fdSz f ≤ 1050000) (hv : FdV w L B v0 v1 v2 v3 f) :
    Calls Try.prog 124 #[.agg #[v0, v1, v2, v3]] w fun e w' => ∃ g, e = .returned (.agg #[.slice (some ⟨g, 0, none⟩) f.name.length f.name.length, .int .i64 f.k, .int .i64 f.n, .int .i64 f.g]) ∧
      Blk w' g 5 (vb f.name).toArray ∧ w.heap.size ≤ g ∧ g < w'.heap.size ∧ Below w.heap.size w w' ∧ New w.heap.size w' := by
  obtain ⟨A, c, rfl, hR, hm, rfl, rfl, rfl⟩ := hv
  obtain ⟨l, k, n, gn⟩ := f
  unfold fdSz at hl
  dsimp only at *
  go_enter Try.func124, Try.ntmps124
  go_wp2_with fail
  refine (toByteS_n l A c B _ (by omega) (by simp; omega) (((hR.1.alloc hB _).alloc (by simp; omega) _).alloc (by simp; omega) _)).mono ?_
  rintro e w1 ⟨g1, rfl, hB1, hg1, hs1, hb1, hn1⟩
  have hnw1 := New.join ((((New.refl w).alloc _ _).alloc _ _).alloc _ _) hb1 hn1
  have K3 : Blk w1 (w.heap.size + 1 + 1) 92 #[.slice none 0 0, .int .i64 0, .int .i64 0, .int .i64 0] :=
    Blk.below (by have := Blk.new ((w.alloc (.cells #[.slice A l.length c, .int .i64 k, .int .i64 n, .int .i64 gn] 151)).alloc (.cells #[.slice none 0 0, .int .i64 0, .int .i64 0, .int .i64 0] 92)) 92 #[.slice none 0 0, .int .i64 0, .int .i64 0, .int .i64 0]; simpa using this) hb1 (by simp)
  have K2 : Blk w1 (w.heap.size + 1) 92 #[.slice none 0 0, .int .i64 0, .int .i64 0, .int .i64 0] :=
    Blk.below ((by have := Blk.new (w.alloc (.cells #[.slice A l.length c, .int .i64 k, .int .i64 n, .int .i64 gn] 151)) 92 #[.slice none 0 0, .int .i64 0, .int .i64 0, .int .i64 0]; simpa using this : Blk ((w.alloc (.cells #[.slice A l.length c, .int .i64 k, .int .i64 n, .int .i64 gn] 151)).alloc (.cells #[.slice none 0 0, .int .i64 0, .int .i64 0, .int .i64 0] 92)) (w.heap.size + 1) 92 _).alloc _) hb1 (by simp)
  have K0 : Blk w1 w.heap.size 151 #[.slice A l.length c, .int .i64 k, .int .i64 n, .int .i64 gn] :=
    Blk.below (((Blk.new w 151 _).alloc _).alloc _) hb1 (by simp; omega)
  have hg1' : w.heap.size + 1 + 1 + 1 ≤ g1 := by simpa using hg1
  have hbw : Below w.heap.size w w1 := ((((Below.refl _ _).alloc (Nat.le_refl _) _).alloc (by simp) _).alloc (by simp; omega) _).trans (hb1.mono (by simp; omega))
  have a1 := K0.cel 1 rfl
  have a2 := K0.cel 2 rfl
  have a3 := K0.cel 3 rfl
  have n0 := K3.cel 0 rfl
  have fz0 : w1.frozen? ⟨w.heap.size + 1 + 1, 0, none⟩ = false := K3.frozen 0
  clear hb1 hg1
  go_wp2_with fail
  obtain ⟨W1, hW1⟩ : ∃ W1, W1 = w1.setCell ⟨w.heap.size + 1 + 1, 0, none⟩ (.slice (some ⟨g1, 0, none⟩) l.length l.length) := ⟨_, rfl⟩
  have KA := (K3.set_ 0 (.slice (some ⟨g1, 0, none⟩) l.length l.length))
  have KB := (K2.far (p := ⟨w.heap.size + 1 + 1, 0, none⟩) (by simp) (.slice (some ⟨g1, 0, none⟩) l.length l.length))
  have hB1' := (hB1.far (p := ⟨w.heap.size + 1 + 1, 0, none⟩) (by simp; omega) (.slice (some ⟨g1, 0, none⟩) l.length l.length))
  have hbW := hbw.setCell (p := ⟨w.heap.size + 1 + 1, 0, none⟩) (by simp; omega) (.slice (some ⟨g1, 0, none⟩) l.length l.length)
  have hsz : W1.heap.size = w1.heap.size := by rw [hW1]; simp
  rw [← hW1] at KA KB hB1' hbW
  rw [← hW1]
  have hnW1 : New w.heap.size W1 := by rw [hW1]; exact hnw1.set_ _ _
  clear hW1
  refine (toVal_n k n gn W1).mono ?_
  rintro e w2 ⟨rfl, hb2, hn2⟩
  have hnw2 := hnW1.join hb2 hn2
  have KA2 := KA.below hb2 KA.lt
  have KB2 := KB.below hb2 KB.lt
  have hB2 := hB1'.below hb2 hB1'.lt
  have hbw2 := hbW.trans (hb2.mono hbW.size)
  have n0 := KA2.cel 0 rfl
  have n1 := KA2.cel 1 rfl
  have n2 := KA2.cel 2 rfl
  have n3 := KA2.cel 3 rfl
  have m0 := KB2.cel 0 rfl
  have m1 := KB2.cel 1 rfl
  have m2 := KB2.cel 2 rfl
  have m3 := KB2.cel 3 rfl
  have x0 : w2.frozen? ⟨w.heap.size + 1 + 1, 0, none⟩ = false := KA2.frozen 0
  have x1 : w2.frozen? ⟨w.heap.size + 1 + 1, 1, none⟩ = false := KA2.frozen 1
  have x2 : w2.frozen? ⟨w.heap.size + 1 + 1, 2, none⟩ = false := KA2.frozen 2
  have x3 : w2.frozen? ⟨w.heap.size + 1 + 1, 3, none⟩ = false := KA2.frozen 3
  have y0 : w2.frozen? ⟨w.heap.size + 1, 0, none⟩ = false := KB2.frozen 0
  have y1 : w2.frozen? ⟨w.heap.size + 1, 1, none⟩ = false := KB2.frozen 1
  have y2 : w2.frozen? ⟨w.heap.size + 1, 2, none⟩ = false := KB2.frozen 2
  have y3 : w2.frozen? ⟨w.heap.size + 1, 3, none⟩ = false := KB2.frozen 3
  have hs2 : w1.heap.size ≤ w2.heap.size := by have := hb2.size; omega
  clear hb2 a1 a2 a3 K0 K2 K3 hbW
  go_wp2_with fail
  refine bodyPost_ret (v := .agg #[.slice (some ⟨g1, 0, none⟩) l.length l.length, .int .i64 k, .int .i64 n, .int .i64 gn]) (by simp [results, Try.results124, go_sem, m0, m1, m2, m3]) rfl
    ⟨g1, rfl, ?_, by omega, by simp; omega, ?_, ?_⟩
  · exact ((((((hB2.far (by simp; omega) _).far (by simp; omega) _).far (by simp; omega) _).far (by simp; omega) _).far (by simp; omega) _).far (by simp; omega) _).far (by simp; omega) _
  · exact ((((((hbw2.setCell (by simp; omega) _).setCell (by simp; omega) _).setCell (by simp; omega) _).setCell (by simp) _).setCell (by simp) _).setCell (by simp) _).setCell (by simp) _
  · repeat (with_reducible first | exact hnw2 | apply New.set_)

set_option maxHeartbeats 2000000 in
theorem toFieldS_n (l : List Fd) (A : Option Addr) (c L B : Nat) (w : World) (hB : B ≤ w.heap.size) (hl : fsSz l ≤ 1050000) (h : FdL w L B A l) :
    Calls Try.prog 94 #[.slice A l.length c] w fun r w' => ∃ g, r = .returned (.slice (some ⟨g, 0, none⟩) l.length l.length) ∧ g < w'.heap.size ∧ w.heap.size ≤ g ∧ FdL w' w.heap.size w'.heap.size (some ⟨g, 0, none⟩) l ∧ Below w.heap.size w w' ∧ New w.heap.size w' := by
  obtain ⟨i0, hi, hz0, hz1, hz2⟩ := info_parts infoFd
  have hlen : l.length ≤ 1050000 := by unfold fsSz at hl; omega
  have hmk : ∀ u : World, (Instr.makeSlice 88 (.int .i64 (l.length : Int)) (.int .i64 (l.length : Int))).run Try.prog u =
      .ok (.slice (some ⟨u.heap.size, 0, none⟩) l.length l.length) (u.alloc (.cells (madeCells #[.slice none 0 0, .int .i64 0, .int .i64 0, .int .i64 0] (l.length * 4)) 92)) := fun u => by
    have h := run_make (P := Try.prog) u 88 92 i0 (.agg #[.slice none 0 0, .int .i64 0, .int .i64 0, .int .i64 0]) Try.underlying88 hi hz0 .i64 .i64 (l.length : Int) (l.length : Int) (by omega) (Int.le_refl _) (by rw [hz2]; omega) (by omega)
    rw [Int.toNat_natCast] at h
    simpa [hz1, Value.cells] using h
  clear hi hz0 hz1 hz2
  go_enter Try.func94, Try.ntmps94
  go_wp2
  go_loopw [4] (fun i wr => ∃ (k : Nat) (cs : Array Value), k ≤ l.length ∧ i = .int .i64 k ∧ cs.size = l.length * 4 ∧ Blk wr w.heap.size 92 cs ∧ RowP (FdV wr (w.heap.size + 1) wr.heap.size) cs l k ∧ Below w.heap.size w wr ∧ New w.heap.size wr) (fun i _ => l.length - (intOf i).toNat)
  case atStart => exact ⟨0, _, Nat.zero_le _, rfl, by simp [madeCells], Blk.new _ _ _, fun i _ hk => by omega, (Below.refl _ _).alloc (Nat.le_refl _) _, (New.refl w).alloc _ _⟩
  case round =>
    obtain ⟨k, cs, hk, rfl, hcs, hblk, hown, hbl, hnw⟩ := hrel
    have Hcs := Lib.hid hcs
    have Hown := Lib.hid hown
    clear hcs hown
    by_cases hlt : k < l.length
    · obtain ⟨ad, rfl, _, hb, hat⟩ := (h.below (hbl.mono hB)).2 (by omega)
      obtain ⟨v0, v1, v2, v3, ⟨c0, c1, c2, c3⟩, hv⟩ := hat k hlt
      have hsz1 : fdSz l[k] ≤ 1050000 := by have := sum_get fdSz hlt; unfold fsSz at hl; omega
      have hc := toField_n l[k] v0 v1 v2 v3 L B wr (Nat.le_trans hB hbl.size) hsz1 hv
      have Hc := Lib.hid hc
      clear hc hat
      go_wp2_with fail
      refine Hc.out.mono ?_
      rintro e w1 ⟨g1, rfl, hB1, hg1, hs1, hb1, hn1⟩
      have hnw1 := hnw.join hb1 hn1
      have hmn : l[k].name.length ≤ maxLen := by unfold maxLen; unfold fdSz at hsz1; omega
      have hu : FdV w1 (w.heap.size + 1) w1.heap.size (.slice (some ⟨g1, 0, none⟩) l[k].name.length l[k].name.length) (.int .i64 l[k].k) (.int .i64 l[k].n) (.int .i64 l[k].g) l[k] :=
        ⟨_, _, rfl, ⟨RB.of_blk hB1 hs1, fun _ => ⟨_, rfl, by show w.heap.size + 1 ≤ g1; have := hblk.lt; omega⟩⟩, hmn, rfl, rfl, rfl⟩
      have hblk1 := hblk.below hb1 hblk.lt
      have hsz := Hcs.out
      obtain ⟨x0, e0⟩ : ∃ v, cs[k * 4]? = some v := ⟨_, Array.getElem?_eq_getElem (by omega)⟩
      obtain ⟨x1, e1⟩ : ∃ v, cs[k * 4 + 1]? = some v := ⟨_, Array.getElem?_eq_getElem (by omega)⟩
      obtain ⟨x2, e2⟩ : ∃ v, cs[k * 4 + 2]? = some v := ⟨_, Array.getElem?_eq_getElem (by omega)⟩
      obtain ⟨x3, e3⟩ : ∃ v, cs[k * 4 + 3]? = some v := ⟨_, Array.getElem?_eq_getElem (by omega)⟩
      have q0 : w1.cell? ⟨w.heap.size, k * 4, none⟩ = some x0 := by rw [hblk1.cell]; exact e0
      have q1 : w1.cell? ⟨w.heap.size, k * 4 + 1, none⟩ = some x1 := by rw [hblk1.cell]; exact e1
      have q2 : w1.cell? ⟨w.heap.size, k * 4 + 2, none⟩ = some x2 := by rw [hblk1.cell]; exact e2
      have q3 : w1.cell? ⟨w.heap.size, k * 4 + 3, none⟩ = some x3 := by rw [hblk1.cell]; exact e3
      have z0 : w1.frozen? ⟨w.heap.size, k * 4, none⟩ = false := hblk1.frozen _
      have z1 : w1.frozen? ⟨w.heap.size, k * 4 + 1, none⟩ = false := hblk1.frozen _
      have z2 : w1.frozen? ⟨w.heap.size, k * 4 + 2, none⟩ = false := hblk1.frozen _
      have z3 : w1.frozen? ⟨w.heap.size, k * 4 + 3, none⟩ = false := hblk1.frozen _
      have hlt1 := hblk.lt
      have hbl1 := hbl.trans (hb1.mono hbl.size)
      have hfin := (Hown.out.mono (V' := FdV w1 (w.heap.size + 1) w1.heap.size) (fun _ _ _ _ _ hv => (FdV.keep hv (fun _ _ hp => hb1.cell hp)).more (Nat.le_refl _) hb1.size)).step hlt (by omega) hu
      have hfin2 := hfin.mono (V' := FdV ((((w1.setCell ⟨w.heap.size, k * 4, none⟩ (.slice (some ⟨g1, 0, none⟩) l[k].name.length l[k].name.length)).setCell ⟨w.heap.size, k * 4 + 1, none⟩ (.int .i64 l[k].k)).setCell ⟨w.heap.size, k * 4 + 2, none⟩ (.int .i64 l[k].n)).setCell ⟨w.heap.size, k * 4 + 3, none⟩ (.int .i64 l[k].g)) (w.heap.size + 1) w1.heap.size)
        (fun _ _ _ _ _ hv => FdV.keep hv (fun p hp _ => by
          rw [World.cell?_setCell_other _ _ _ _ (fun e => by subst e; simp at hp; omega), World.cell?_setCell_other _ _ _ _ (fun e => by subst e; simp at hp; omega), World.cell?_setCell_other _ _ _ _ (fun e => by subst e; simp at hp; omega), World.cell?_setCell_other _ _ _ _ (fun e => by subst e; simp at hp; omega)]))
      have Hfin := Lib.hid hfin2
      clear hsz e0 e1 e2 e3 hfin hfin2 hu
      go_wp2
      go_roundw
      case rel =>
        exact ⟨k + 1, _, by omega, by go_num, by rw [pt4_size]; exact Hcs.out, hblk1.pt4 (k * 4) _ _ _ _, by simpa only [World.size_setCell] using Hfin.out, (((hbl1.setCell (by simp) _).setCell (by simp) _).setCell (by simp) _).setCell (by simp) _, (((hnw1.set_ _ _).set_ _ _).set_ _ _).set_ _ _⟩
      case measure => simp [intOf]; omega
    · go_wp2
      go_ret
      have : k = l.length := by omega
      subst this
      exact ⟨_, rfl, hblk.lt, Nat.le_refl _, Hown.out.row (by unfold maxLen; omega) hblk (Nat.le_refl _) |>.more (Nat.le_refl _) (Nat.le_refl _) (fun _ _ _ _ _ hv => FdV.more hv (by omega) (Nat.le_refl _)), hbl, hnw⟩

set_option maxHeartbeats 2000000 in
theorem toSlot_n (f : Sl) (v0 v1 v2 v3 : Value) (L B : Nat) (w : World) (hB : B ≤ w.heap.size) (hl : slSz f ≤ 1050000) (hv : SlV w L B v0 v1 v2 v3 f) :
    Calls Try.prog 72 #[.agg #[v0, v1, v2, v3]] w fun e w' => ∃ g, e = .returned (.agg #[.bool f.live, .int .i64 f.gen, .int .i64 f.count, .slice (some ⟨g, 0, none⟩) f.fs.length f.fs.length]) ∧
      FdL w' w.heap.size w'.heap.size (some ⟨g, 0, none⟩) f.fs ∧ Below w.heap.size w w' ∧ New w.heap.size w' := by
  obtain ⟨rfl, rfl, rfl, A, c, rfl, hx⟩ := hv
  obtain ⟨lv, gn, ct, l⟩ := f
  unfold slSz at hl
  dsimp only at *
  have hb0 : Below w.heap.size w (((w.alloc (.cells #[.bool lv, .int .i64 gn, .int .i64 ct, .slice A l.length c] 86)).alloc (.cells #[.bool false, .int .i64 0, .int .i64 0, .slice none 0 0] 90)).alloc (.cells #[.bool lv, .int .i64 gn, .int .i64 ct, .slice none 0 0] 90)) := (((Below.refl _ _).alloc (Nat.le_refl _) _).alloc (by simp) _).alloc (by simp; omega) _
  have hx0 := hx.below (hb0.mono hB)
  go_enter Try.func72, Try.ntmps72
  go_wp2_with fail
  refine (toFieldS_n l A c L B _ (by simp; omega) hl hx0).mono ?_
  rintro e w1 ⟨g1, rfl, hs1, hg1, hx1, hb1, hn1⟩
  have hnw1 := New.join ((((New.refl w).alloc _ _).alloc _ _).alloc _ _) hb1 hn1
  have K3 : Blk w1 (w.heap.size + 1 + 1) 90 #[.bool lv, .int .i64 gn, .int .i64 ct, .slice none 0 0] :=
    Blk.below (by have := Blk.new ((w.alloc (.cells #[.bool lv, .int .i64 gn, .int .i64 ct, .slice A l.length c] 86)).alloc (.cells #[.bool false, .int .i64 0, .int .i64 0, .slice none 0 0] 90)) 90 #[.bool lv, .int .i64 gn, .int .i64 ct, .slice none 0 0]; simpa using this) hb1 (by simp)
  have K2 : Blk w1 (w.heap.size + 1) 90 #[.bool false, .int .i64 0, .int .i64 0, .slice none 0 0] :=
    Blk.below ((by have := Blk.new (w.alloc (.cells #[.bool lv, .int .i64 gn, .int .i64 ct, .slice A l.length c] 86)) 90 #[.bool false, .int .i64 0, .int .i64 0, .slice none 0 0]; simpa using this : Blk ((w.alloc (.cells #[.bool lv, .int .i64 gn, .int .i64 ct, .slice A l.length c] 86)).alloc (.cells #[.bool false, .int .i64 0, .int .i64 0, .slice none 0 0] 90)) (w.heap.size + 1) 90 _).alloc _) hb1 (by simp)
  have hg1' : w.heap.size + 1 + 1 + 1 ≤ g1 := by simpa using hg1
  have hbw : Below w.heap.size w w1 := hb0.trans (hb1.mono (by simp; omega))
  have n0 := K3.cel 0 rfl
  have n1 := K3.cel 1 rfl
  have n2 := K3.cel 2 rfl
  have n3 := K3.cel 3 rfl
  have m0 := K2.cel 0 rfl
  have m1 := K2.cel 1 rfl
  have m2 := K2.cel 2 rfl
  have m3 := K2.cel 3 rfl
  have x3 : w1.frozen? ⟨w.heap.size + 1 + 1, 3, none⟩ = false := K3.frozen 3
  have y0 : w1.frozen? ⟨w.heap.size + 1, 0, none⟩ = false := K2.frozen 0
  have y1 : w1.frozen? ⟨w.heap.size + 1, 1, none⟩ = false := K2.frozen 1
  have y2 : w1.frozen? ⟨w.heap.size + 1, 2, none⟩ = false := K2.frozen 2
  have y3 : w1.frozen? ⟨w.heap.size + 1, 3, none⟩ = false := K2.frozen 3
  have hs2 : w.heap.size + 1 + 1 < w1.heap.size := K3.lt
  have hx2 : FdL w1 (w.heap.size + 1 + 1 + 1) w1.heap.size (some ⟨g1, 0, none⟩) l := by simpa using hx1
  clear hb1 hg1 hx1 hx hx0 hb0 K3 K2
  go_wp2_with fail
  refine bodyPost_ret (v := .agg #[.bool lv, .int .i64 gn, .int .i64 ct, .slice (some ⟨g1, 0, none⟩) l.length l.length]) (by simp [results, Try.results72, go_sem, m0, m1, m2, m3]) rfl
    ⟨g1, rfl, ?_, ?_, ?_⟩
  · refine (hx2.keep (fun p hp _ => ?_)).more (by omega) (by simp)
    rw [World.cell?_setCell_other _ _ _ _ (fun e => by subst e; simp at hp; omega), World.cell?_setCell_other _ _ _ _ (fun e => by subst e; simp at hp; omega), World.cell?_setCell_other _ _ _ _ (fun e => by subst e; simp at hp; omega), World.cell?_setCell_other _ _ _ _ (fun e => by subst e; simp at hp; omega), World.cell?_setCell_other _ _ _ _ (fun e => by subst e; simp at hp; omega)]
  · exact ((((hbw.setCell (by simp; omega) _).setCell (by simp) _).setCell (by simp) _).setCell (by simp) _).setCell (by simp) _
  · repeat (with_reducible first | exact hnw1 | apply New.set_)

set_option maxHeartbeats 2000000 in
theorem toSlotS_n (l : List Sl) (A : Option Addr) (c L B : Nat) (w : World) (hB : B ≤ w.heap.size) (hl : slsSz l ≤ 1050000) (h : SlL w L B A l) :
    Calls Try.prog 36 #[.slice A l.length c] w fun r w' => ∃ g, r = .returned (.slice (some ⟨g, 0, none⟩) l.length l.length) ∧ g < w'.heap.size ∧ w.heap.size ≤ g ∧ SlL w' w.heap.size w'.heap.size (some ⟨g, 0, none⟩) l ∧ Below w.heap.size w w' ∧ New w.heap.size w' := by
  obtain ⟨i0, hi, hz0, hz1, hz2⟩ := info_parts infoSl
  have hlen : l.length ≤ 1050000 := by unfold slsSz at hl; omega
  have hmk : ∀ u : World, (Instr.makeSlice 30 (.int .i64 (l.length : Int)) (.int .i64 (l.length : Int))).run Try.prog u =
      .ok (.slice (some ⟨u.heap.size, 0, none⟩) l.length l.length) (u.alloc (.cells (madeCells #[.bool false, .int .i64 0, .int .i64 0, .slice none 0 0] (l.length * 4)) 90)) := fun u => by
    have h := run_make (P := Try.prog) u 30 90 i0 (.agg #[.bool false, .int .i64 0, .int .i64 0, .slice none 0 0]) Try.underlying30 hi hz0 .i64 .i64 (l.length : Int) (l.length : Int) (by omega) (Int.le_refl _) (by rw [hz2]; omega) (by omega)
    rw [Int.toNat_natCast] at h
    simpa [hz1, Value.cells] using h
  clear hi hz0 hz1 hz2
  go_enter Try.func36, Try.ntmps36
  go_wp2
  go_loopw [4] (fun i wr => ∃ (k : Nat) (cs : Array Value), k ≤ l.length ∧ i = .int .i64 k ∧ cs.size = l.length * 4 ∧ Blk wr w.heap.size 90 cs ∧ RowP (SlV wr (w.heap.size + 1) wr.heap.size) cs l k ∧ Below w.heap.size w wr ∧ New w.heap.size wr) (fun i _ => l.length - (intOf i).toNat)
  case atStart => exact ⟨0, _, Nat.zero_le _, rfl, by simp [madeCells], Blk.new _ _ _, fun i _ hk => by omega, (Below.refl _ _).alloc (Nat.le_refl _) _, (New.refl w).alloc _ _⟩
  case round =>
    obtain ⟨k, cs, hk, rfl, hcs, hblk, hown, hbl, hnw⟩ := hrel
    have Hcs := Lib.hid hcs
    have Hown := Lib.hid hown
    clear hcs hown
    by_cases hlt : k < l.length
    · obtain ⟨ad, rfl, _, hb, hat⟩ := (h.below (hbl.mono hB)).2 (by omega)
      obtain ⟨v0, v1, v2, v3, ⟨c0, c1, c2, c3⟩, hv⟩ := hat k hlt
      have hsz1 : slSz l[k] ≤ 1050000 := by have := sum_get slSz hlt; unfold slsSz at hl; omega
      have hc := toSlot_n l[k] v0 v1 v2 v3 L B wr (Nat.le_trans hB hbl.size) hsz1 hv
      have Hc := Lib.hid hc
      clear hc hat
      go_wp2_with fail
      refine Hc.out.mono ?_
      rintro e w1 ⟨g1, rfl, hF1, hb1, hn1⟩
      have hnw1 := hnw.join hb1 hn1
      have hu : SlV w1 (w.heap.size + 1) w1.heap.size (.bool l[k].live) (.int .i64 l[k].gen) (.int .i64 l[k].count) (.slice (some ⟨g1, 0, none⟩) l[k].fs.length l[k].fs.length) l[k] :=
        ⟨rfl, rfl, rfl, _, _, rfl, hF1.more (by have := hblk.lt; omega) (Nat.le_refl _)⟩
      have hblk1 := hblk.below hb1 hblk.lt
      have hsz := Hcs.out
      obtain ⟨x0, e0⟩ : ∃ v, cs[k * 4]? = some v := ⟨_, Array.getElem?_eq_getElem (by omega)⟩
      obtain ⟨x1, e1⟩ : ∃ v, cs[k * 4 + 1]? = some v := ⟨_, Array.getElem?_eq_getElem (by omega)⟩
      obtain ⟨x2, e2⟩ : ∃ v, cs[k * 4 + 2]? = some v := ⟨_, Array.getElem?_eq_getElem (by omega)⟩
      obtain ⟨x3, e3⟩ : ∃ v, cs[k * 4 + 3]? = some v := ⟨_, Array.getElem?_eq_getElem (by omega)⟩
      have q0 : w1.cell? ⟨w.heap.size, k * 4, none⟩ = some x0 := by rw [hblk1.cell]; exact e0
      have q1 : w1.cell? ⟨w.heap.size, k * 4 + 1, none⟩ = some x1 := by rw [hblk1.cell]; exact e1
      have q2 : w1.cell? ⟨w.heap.size, k * 4 + 2, none⟩ = some x2 := by rw [hblk1.cell]; exact e2
      have q3 : w1.cell? ⟨w.heap.size, k * 4 + 3, none⟩ = some x3 := by rw [hblk1.cell]; exact e3
      have z0 : w1.frozen? ⟨w.heap.size, k * 4, none⟩ = false := hblk1.frozen _
      have z1 : w1.frozen? ⟨w.heap.size, k * 4 + 1, none⟩ = false := hblk1.frozen _
      have z2 : w1.frozen? ⟨w.heap.size, k * 4 + 2, none⟩ = false := hblk1.frozen _
      have z3 : w1.frozen? ⟨w.heap.size, k * 4 + 3, none⟩ = false := hblk1.frozen _
      have hlt1 := hblk.lt
      have hbl1 := hbl.trans (hb1.mono hbl.size)
      have hfin := (Hown.out.mono (V' := SlV w1 (w.heap.size + 1) w1.heap.size) (fun _ _ _ _ _ hv => (SlV.keep hv (fun _ _ hp => hb1.cell hp)).more (Nat.le_refl _) hb1.size)).step hlt (by omega) hu
      have hfin2 := hfin.mono (V' := SlV ((((w1.setCell ⟨w.heap.size, k * 4, none⟩ (.bool l[k].live)).setCell ⟨w.heap.size, k * 4 + 1, none⟩ (.int .i64 l[k].gen)).setCell ⟨w.heap.size, k * 4 + 2, none⟩ (.int .i64 l[k].count)).setCell ⟨w.heap.size, k * 4 + 3, none⟩ (.slice (some ⟨g1, 0, none⟩) l[k].fs.length l[k].fs.length)) (w.heap.size + 1) w1.heap.size)
        (fun _ _ _ _ _ hv => SlV.keep hv (fun p hp _ => by
          rw [World.cell?_setCell_other _ _ _ _ (fun e => by subst e; simp at hp; omega), World.cell?_setCell_other _ _ _ _ (fun e => by subst e; simp at hp; omega), World.cell?_setCell_other _ _ _ _ (fun e => by subst e; simp at hp; omega), World.cell?_setCell_other _ _ _ _ (fun e => by subst e; simp at hp; omega)]))
      have Hfin := Lib.hid hfin2
      clear hsz e0 e1 e2 e3 hfin hfin2 hu
      go_wp2
      go_roundw
      case rel =>
        exact ⟨k + 1, _, by omega, by go_num, by rw [pt4_size]; exact Hcs.out, hblk1.pt4 (k * 4) _ _ _ _, by simpa only [World.size_setCell] using Hfin.out, (((hbl1.setCell (by simp) _).setCell (by simp) _).setCell (by simp) _).setCell (by simp) _, (((hnw1.set_ _ _).set_ _ _).set_ _ _).set_ _ _⟩
      case measure => simp [intOf]; omega
    · go_wp2
      go_ret
      have : k = l.length := by omega
      subst this
      exact ⟨_, rfl, hblk.lt, Nat.le_refl _, Hown.out.row (by unfold maxLen; omega) hblk (Nat.le_refl _) |>.more (Nat.le_refl _) (Nat.le_refl _) (fun _ _ _ _ _ hv => SlV.more hv (by omega) (Nat.le_refl _)), hbl, hnw⟩

set_option maxHeartbeats 400000 in
theorem toIntS_n (l : List Int) (A : Option Addr) (c L B : Nat) (w : World) (hl : l.length ≤ 1050000) (hB : B ≤ w.heap.size) (h : IL w L B A l) :
    Calls Try.prog 37 #[.slice A l.length c] w fun e w' => ∃ g, e = .returned (.slice (some ⟨g, 0, none⟩) l.length l.length) ∧ Blk w' g 3 (vi l).toArray ∧ w.heap.size ≤ g ∧ g < w'.heap.size ∧ Below w.heap.size w w' ∧ New w.heap.size w' := by
  have hmk := run_make_row' (P := Try.prog) 23 3 (.int .i64 0) 8 Try.underlying23 infoI rfl .i64 .i64 l.length (by omega) (by omega)
  go_enter Try.func37, Try.ntmps37
  go_wp2
  go_loopw [4] (fun i wr => ∃ (k : Nat) (cs : Array Value), k ≤ l.length ∧ i = .int .i64 k ∧ cs.size = l.length ∧ (∀ j, j < k → cs[j]? = (vi l)[j]?) ∧ wr = w.alloc (.cells cs 3)) (fun i _ => l.length - (intOf i).toNat)
  case atStart => exact ⟨0, madeCells #[.int .i64 0] l.length, Nat.zero_le _, rfl, by simp [madeCells], fun j hj => by omega, rfl⟩
  case round =>
    obtain ⟨k, cs, hk, rfl, hcs, hsame, rfl⟩ := hrel
    have hc := Lib.hid hcs
    have hs := Lib.hid hsame
    clear hcs hsame
    by_cases hlt : k < l.length
    · obtain ⟨ad, rfl, _, hb, hcell⟩ := (h.below ((Below.refl B w).alloc hB (.cells cs 3))).2 (by omega)
      have hck := hcell k hlt
      clear hcell
      obtain ⟨v, hv⟩ : ∃ v, cs[k]? = some v := ⟨_, Array.getElem?_eq_getElem (by have := hc.out; omega)⟩
      go_wp2
      go_roundw
      case rel =>
        refine ⟨k + 1, cs.setIfInBounds k (.int .i64 l[k]), by omega, by go_num, by simpa using hc.out, fun j hj => ?_, ?_⟩
        · have h1 := hs.out j
          have h2 := hc.out
          by_cases hjk : j = k
          · subst hjk
            rw [Array.getElem?_setIfInBounds_self_of_lt (by omega), vi_get, List.getElem?_eq_getElem hlt]; rfl
          · rw [Array.getElem?_setIfInBounds_ne (by omega)]
            exact h1 (by omega)
        · simp
      case measure => simp [intOf]; omega
    · go_wp2
      go_ret
      have : k = l.length := by omega
      subst this
      have e : cs = (vi l).toArray := by
        apply Array.ext'
        apply List.ext_getElem?
        intro j
        have h1 := hs.out j
        have h2 := hc.out
        by_cases hj : j < l.length
        · simpa using h1 hj
        · rw [List.getElem?_eq_none, List.getElem?_eq_none] <;> simp [vi] <;> omega
      subst e
      exact ⟨_, rfl, Blk.new _ _ _, Nat.le_refl _, by simp, (Below.refl _ _).alloc (Nat.le_refl _) _, (New.refl w).alloc _ _⟩

set_option maxHeartbeats 2000000 in
theorem toArena_n (a : Ar) (A0 A1 A2 : Option Addr) (c0 c1 c2 L B : Nat) (w : World) (hB : B ≤ w.heap.size) (hl : arSz a ≤ 1050000) (h : ArL w L B A0 A1 A2 a) :
    Calls Try.prog 11 #[.agg #[.slice A0 a.slots.length c0, .slice A1 a.queue.length c1, .slice A2 a.purple.length c2]] w fun e w' => ∃ g0 g1 g2,
      e = .returned (.agg #[.slice (some ⟨g0, 0, none⟩) a.slots.length a.slots.length, .slice (some ⟨g1, 0, none⟩) a.queue.length a.queue.length, .slice (some ⟨g2, 0, none⟩) a.purple.length a.purple.length]) ∧
      ArL w' w.heap.size w'.heap.size (some ⟨g0, 0, none⟩) (some ⟨g1, 0, none⟩) (some ⟨g2, 0, none⟩) a ∧ Below w.heap.size w w' ∧ New w.heap.size w' := by
  obtain ⟨S, Q, P⟩ := a
  obtain ⟨hS, hQ, hP⟩ := h
  unfold arSz at hl
  dsimp only at *
  have hb0 : Below w.heap.size w (((w.alloc (.cells #[.slice A0 S.length c0, .slice A1 Q.length c1, .slice A2 P.length c2] 25)).alloc (.cells #[.slice none 0 0, .slice none 0 0, .slice none 0 0] 32)).alloc (.cells #[.slice none 0 0, .slice none 0 0, .slice none 0 0] 32)) := (((Below.refl _ _).alloc (Nat.le_refl _) _).alloc (by simp) _).alloc (by simp; omega) _
  have hS0 := hS.below (hb0.mono hB)
  go_enter Try.func11, Try.ntmps11
  go_wp2_with fail
  refine (toSlotS_n S A0 c0 L B _ (by simp; omega) (by omega) hS0).mono ?_
  rintro e w1 ⟨g1, rfl, hs1, hg1, hx1, hb1, hn1⟩
  have hnw1 := New.join ((((New.refl w).alloc _ _).alloc _ _).alloc _ _) hb1 hn1
  have K3 : Blk w1 (w.heap.size + 1 + 1) 32 #[.slice none 0 0, .slice none 0 0, .slice none 0 0] :=
    Blk.below (by have := Blk.new ((w.alloc (.cells #[.slice A0 S.length c0, .slice A1 Q.length c1, .slice A2 P.length c2] 25)).alloc (.cells #[.slice none 0 0, .slice none 0 0, .slice none 0 0] 32)) 32 #[.slice none 0 0, .slice none 0 0, .slice none 0 0]; simpa using this) hb1 (by simp)
  have K2 : Blk w1 (w.heap.size + 1) 32 #[.slice none 0 0, .slice none 0 0, .slice none 0 0] :=
    Blk.below ((by have := Blk.new (w.alloc (.cells #[.slice A0 S.length c0, .slice A1 Q.length c1, .slice A2 P.length c2] 25)) 32 #[.slice none 0 0, .slice none 0 0, .slice none 0 0]; simpa using this : Blk ((w.alloc (.cells #[.slice A0 S.length c0, .slice A1 Q.length c1, .slice A2 P.length c2] 25)).alloc (.cells #[.slice none 0 0, .slice none 0 0, .slice none 0 0] 32)) (w.heap.size + 1) 32 _).alloc _) hb1 (by simp)
  have K0 : Blk w1 w.heap.size 25 #[.slice A0 S.length c0, .slice A1 Q.length c1, .slice A2 P.length c2] :=
    Blk.below (((Blk.new w 25 _).alloc _).alloc _) hb1 (by simp; omega)
  have hbw : Below w.heap.size w w1 := hb0.trans (hb1.mono (by simp; omega))
  have hx1' : SlL w1 (w.heap.size + 1 + 1 + 1) w1.heap.size (some ⟨g1, 0, none⟩) S := by simpa using hx1
  have a1 := K0.cel 1 rfl
  have a2 := K0.cel 2 rfl
  have n0 := K3.cel 0 rfl
  have x0 : w1.frozen? ⟨w.heap.size + 1 + 1, 0, none⟩ = false := K3.frozen 0
  have hs1' := K3.lt
  clear hb1 hx1 hb0 hg1 hS hS0
  go_wp2_with fail
  obtain ⟨W1, hW1⟩ : ∃ W1, W1 = w1.setCell ⟨w.heap.size + 1 + 1, 0, none⟩ (.slice (some ⟨g1, 0, none⟩) S.length S.length) := ⟨_, rfl⟩
  have KA := (K3.set_ 0 (.slice (some ⟨g1, 0, none⟩) S.length S.length))
  have KB := (K2.far (p := ⟨w.heap.size + 1 + 1, 0, none⟩) (by simp) (.slice (some ⟨g1, 0, none⟩) S.length S.length))
  have KC := (K0.far (p := ⟨w.heap.size + 1 + 1, 0, none⟩) (by simp; omega) (.slice (some ⟨g1, 0, none⟩) S.length S.length))
  have hxW : SlL (w1.setCell ⟨w.heap.size + 1 + 1, 0, none⟩ (.slice (some ⟨g1, 0, none⟩) S.length S.length)) (w.heap.size + 1 + 1 + 1) w1.heap.size (some ⟨g1, 0, none⟩) S :=
    hx1'.keep fun p hp _ => World.cell?_setCell_other _ _ _ _ (fun e => by subst e; simp at hp; omega)
  have hbW := hbw.setCell (p := ⟨w.heap.size + 1 + 1, 0, none⟩) (by simp; omega) (.slice (some ⟨g1, 0, none⟩) S.length S.length)
  have hsz : (w1.setCell ⟨w.heap.size + 1 + 1, 0, none⟩ (.slice (some ⟨g1, 0, none⟩) S.length S.length)).heap.size = w1.heap.size := by simp
  rw [← hW1] at KA KB KC hxW hbW hsz
  rw [← hW1]
  have hnW1 : New w.heap.size W1 := by rw [hW1]; exact hnw1.set_ _ _
  clear hW1 K0 K2 K3 a1 a2 n0 x0 hx1'
  refine (toIntS_n Q A1 c1 L B W1 (by omega) (by omega) (hQ.below (hbW.mono hB))).mono ?_
  rintro e w2 ⟨g2, rfl, hB2, hg2, hs2, hb2, hn2⟩
  have hnw2 := hnW1.join hb2 hn2
  have KA2 := KA.below hb2 KA.lt
  have KB2 := KB.below hb2 KB.lt
  have KC2 := KC.below hb2 KC.lt
  have hbw2 := hbW.trans (hb2.mono hbW.size)
  have hx2 := (hxW.below (hb2.mono (by omega)))
  have a2 := KC2.cel 2 rfl
  have n1 := KA2.cel 1 rfl
  have x1 : w2.frozen? ⟨w.heap.size + 1 + 1, 1, none⟩ = false := KA2.frozen 1
  have hsz2 := hb2.size
  clear hb2 KA KB KC hbW hxW
  go_wp2_with fail
  obtain ⟨W2, hW2⟩ : ∃ W2, W2 = w2.setCell ⟨w.heap.size + 1 + 1, 1, none⟩ (.slice (some ⟨g2, 0, none⟩) Q.length Q.length) := ⟨_, rfl⟩
  have KA := (KA2.set_ 1 (.slice (some ⟨g2, 0, none⟩) Q.length Q.length))
  have KB := (KB2.far (p := ⟨w.heap.size + 1 + 1, 1, none⟩) (by simp) (.slice (some ⟨g2, 0, none⟩) Q.length Q.length))
  have hBW := (hB2.far (p := ⟨w.heap.size + 1 + 1, 1, none⟩) (by simp; omega) (.slice (some ⟨g2, 0, none⟩) Q.length Q.length))
  have hxW : SlL (w2.setCell ⟨w.heap.size + 1 + 1, 1, none⟩ (.slice (some ⟨g2, 0, none⟩) Q.length Q.length)) (w.heap.size + 1 + 1 + 1) w1.heap.size (some ⟨g1, 0, none⟩) S :=
    hx2.keep fun p hp _ => World.cell?_setCell_other _ _ _ _ (fun e => by subst e; simp at hp; omega)
  have hbW := hbw2.setCell (p := ⟨w.heap.size + 1 + 1, 1, none⟩) (by simp; omega) (.slice (some ⟨g2, 0, none⟩) Q.length Q.length)
  have hszz : (w2.setCell ⟨w.heap.size + 1 + 1, 1, none⟩ (.slice (some ⟨g2, 0, none⟩) Q.length Q.length)).heap.size = w2.heap.size := by simp
  rw [← hW2] at KA KB hBW hxW hbW hszz
  rw [← hW2]
  have hnW2 : New w.heap.size W2 := by rw [hW2]; exact hnw2.set_ _ _
  clear hW2 KA2 KB2 KC2 a2 n1 x1 hx2
  refine (toIntS_n P A2 c2 L B W2 (by omega) (by have := hbW.size; omega) (hP.below (hbW.mono hB))).mono ?_
  rintro e w3 ⟨g3, rfl, hB3, hg3, hs3, hb3, hn3⟩
  have hnw3 := hnW2.join hb3 hn3
  have KA3 := KA.below hb3 KA.lt
  have KB3 := KB.below hb3 KB.lt
  have hBQ := hBW.below hb3 hBW.lt
  have hbw3 := hbW.trans (hb3.mono hbW.size)
  have hx3 := (hxW.below (hb3.mono (by omega)))
  have n0 := KA3.cel 0 rfl
  have n1 := KA3.cel 1 rfl
  have n2 := KA3.cel 2 rfl
  have m0 := KB3.cel 0 rfl
  have m1 := KB3.cel 1 rfl
  have m2 := KB3.cel 2 rfl
  have x2 : w3.frozen? ⟨w.heap.size + 1 + 1, 2, none⟩ = false := KA3.frozen 2
  have y0 : w3.frozen? ⟨w.heap.size + 1, 0, none⟩ = false := KB3.frozen 0
  have y1 : w3.frozen? ⟨w.heap.size + 1, 1, none⟩ = false := KB3.frozen 1
  have y2 : w3.frozen? ⟨w.heap.size + 1, 2, none⟩ = false := KB3.frozen 2
  have hsz3 := hb3.size
  clear hb3 KA KB hbW hxW hBW KA3 KB3
  go_wp2_with fail
  refine bodyPost_ret (v := .agg #[.slice (some ⟨g1, 0, none⟩) S.length S.length, .slice (some ⟨g2, 0, none⟩) Q.length Q.length, .slice (some ⟨g3, 0, none⟩) P.length P.length]) (by simp [results, Try.results11, go_sem, m0, m1, m2]) rfl
    ⟨g1, g2, g3, rfl, ⟨?_, ?_, ?_⟩, ?_, ?_⟩
  · refine (hx3.keep (fun p hp _ => ?_)).more (by omega) (by simp; omega)
    rw [World.cell?_setCell_other _ _ _ _ (fun e => by subst e; simp at hp; omega), World.cell?_setCell_other _ _ _ _ (fun e => by subst e; simp at hp; omega), World.cell?_setCell_other _ _ _ _ (fun e => by subst e; simp at hp; omega), World.cell?_setCell_other _ _ _ _ (fun e => by subst e; simp at hp; omega)]
  · refine IL.of_blk ((((hBQ.far (by simp; omega) _).far (by simp; omega) _).far (by simp; omega) _).far (by simp; omega) _) (by omega) (by simp; omega) (by show Q.length ≤ _; unfold maxLen; omega)
  · refine IL.of_blk ((((hB3.far (by simp; omega) _).far (by simp; omega) _).far (by simp; omega) _).far (by simp; omega) _) (by omega) (by simp; omega) (by show P.length ≤ _; unfold maxLen; omega)
  · exact (((hbw3.setCell (by simp; omega) _).setCell (by simp) _).setCell (by simp) _).setCell (by simp) _
  · repeat (with_reducible first | exact hnw3 | apply New.set_)
end ArnN
end Go.Proofs.Ytfmlgpnjckamjaa

namespace Go.Proofs.Ytfmlgpnjckamjaa
open Go.RowKit
set_option linter.unusedVariables false
namespace ArnM

/-- a cell's number, byte or bool has been overwritten by one of its kind, or nothing -/
def MkC (a b : Option Value) : Prop := b = a ∨ (∃ x y : Int, a = some (.int .i64 x) ∧ b = some (.int .i64 y)) ∨ (∃ x y : UInt8, a = some (.int .u8 x.toNat) ∧ b = some (.int .u8 y.toNat)) ∨ (∃ x y : Bool, a = some (.bool x) ∧ b = some (.bool y))
theorem MkC.slice {a b : Option Value} {A : Option Addr} {n c : Nat} (h : MkC a b) (ha : a = some (.slice A n c)) : b = some (.slice A n c) := by
  rcases h with rfl | ⟨x, y, rfl, rfl⟩ | ⟨x, y, rfl, rfl⟩ | ⟨x, y, rfl, rfl⟩
  · exact ha
  · cases ha
  · cases ha
  · cases ha
theorem MkC.i64 {a b : Option Value} {x : Int} (h : MkC a b) (ha : a = some (.int .i64 x)) : ∃ y, b = some (.int .i64 y) := by
  rcases h with rfl | ⟨x', y, rfl, rfl⟩ | ⟨x', y, rfl, rfl⟩ | ⟨x', y, rfl, rfl⟩
  · exact ⟨x, ha⟩
  · exact ⟨y, rfl⟩
  · injection ha with e; injection e with e _; cases e
  · cases ha
theorem MkC.u8 {a b : Option Value} {x : UInt8} (h : MkC a b) (ha : a = some (.int .u8 x.toNat)) : ∃ y : UInt8, b = some (.int .u8 y.toNat) := by
  rcases h with rfl | ⟨x', y, rfl, rfl⟩ | ⟨x', y, rfl, rfl⟩ | ⟨x', y, rfl, rfl⟩
  · exact ⟨x, ha⟩
  · injection ha with e; injection e with e _; cases e
  · exact ⟨y, rfl⟩
  · cases ha
theorem MkC.bool {a b : Option Value} {x : Bool} (h : MkC a b) (ha : a = some (.bool x)) : ∃ y : Bool, b = some (.bool y) := by
  rcases h with rfl | ⟨x', y, rfl, rfl⟩ | ⟨x', y, rfl, rfl⟩ | ⟨x', y, rfl, rfl⟩
  · exact ⟨x, ha⟩
  · cases ha
  · cases ha
  · exact ⟨y, rfl⟩
theorem MkC.trans {a b c : Option Value} (h : MkC a b) (k : MkC b c) : MkC a c := by
  rcases h with rfl | ⟨x, y, rfl, rfl⟩ | ⟨x, y, rfl, rfl⟩ | ⟨x, y, rfl, rfl⟩
  · exact k
  · obtain ⟨z, hz⟩ := k.i64 rfl
    exact .inr (.inl ⟨x, z, rfl, hz⟩)
  · obtain ⟨z, hz⟩ := k.u8 rfl
    exact .inr (.inr (.inl ⟨x, z, rfl, hz⟩))
  · obtain ⟨z, hz⟩ := k.bool rfl
    exact .inr (.inr (.inr ⟨x, z, rfl, hz⟩))
theorem MkC.u8_ (x : UInt8) (n : Nat) : MkC (some (.int .u8 x.toNat)) (some (.int .u8 ((n % 256 : Nat) : Int))) :=
  .inr (.inr (.inl ⟨x, UInt8.ofNat n, rfl, by simp⟩))
theorem MkC.i64_ (x y : Int) : MkC (some (.int .i64 x)) (some (.int .i64 y)) := .inr (.inl ⟨x, y, rfl, rfl⟩)
theorem MkC.bool_ (x y : Bool) : MkC (some (.bool x)) (some (.bool y)) := .inr (.inr (.inr ⟨x, y, rfl, rfl⟩))

/-- marks in the blocks from L to B, and nowhere else -/
structure Mk (L B : Nat) (w w' : World) : Prop where
  os : w'.os = w.os
  tape : w'.tape = w.tape
  output : w'.output = w.output
  size : w'.heap.size = w.heap.size
  block : ∀ k, (k < L ∨ B ≤ k) → w'.heap[k]? = w.heap[k]?
  frozen : ∀ p, w'.frozen? p = w.frozen? p
  cell : ∀ p, MkC (w.cell? p) (w'.cell? p)
/-- no block from L to B is frozen -/
def Thaw (L B : Nat) (w : World) : Prop := ∀ k, L ≤ k → k < B → ∃ cs t, w.heap[k]? = some (.cells cs t)
section
variable {L B : Nat} {w w' w2 : World}
theorem Mk.refl (L B : Nat) (w : World) : Mk L B w w := ⟨rfl, rfl, rfl, rfl, fun _ _ => rfl, fun _ => rfl, fun _ => .inl rfl⟩
theorem Mk.trans (h : Mk L B w w') (k : Mk L B w' w2) : Mk L B w w2 :=
  ⟨k.os.trans h.os, k.tape.trans h.tape, k.output.trans h.output, k.size.trans h.size, fun i hi => (k.block i hi).trans (h.block i hi), fun p => (k.frozen p).trans (h.frozen p), fun p => (h.cell p).trans (k.cell p)⟩
theorem Mk.below (h : Mk L B w w') : Below L w w' := ⟨h.os, h.tape, h.output, by rw [h.size]; exact Nat.le_refl _, fun k hk => h.block k (.inl hk)⟩
theorem cell_set {p : Addr} {x v : Value} (h : w.cell? p = some x) (q : Addr) : (w.setCell p v).cell? q = w.cell? q ∨ ((w.setCell p v).cell? q = some v ∧ w.cell? q = some x) := by
  unfold World.cell? at h
  cases hb : w.heap[p.block]? with
  | none => rw [hb] at h; cases h
  | some o =>
    rw [hb] at h
    cases o with
    | cells c t fz =>
      simp only at h
      cases hs : p.spot with
      | some sp => rw [hs] at h; cases h
      | none =>
        rw [hs] at h
        simp only [Option.isSome_none, Bool.false_eq_true, if_false] at h
        by_cases hq : q.block = p.block
        · have e : (w.setCell p v).heap[q.block]? = some (.cells (c.setIfInBounds p.off v) t fz) := by
            unfold World.setCell
            rw [hq, Array.getElem?_modify, hb]
            simp [hs]
          unfold World.cell?
          rw [e, hq, hb]
          cases hsq : q.spot with
          | some sp => left; rfl
          | none =>
            simp only [Option.isSome_none, Bool.false_eq_true, if_false]
            by_cases ho : q.off = p.off
            · right
              rw [ho]
              have hlt : p.off < c.size := (Array.getElem?_eq_some_iff.1 h).1
              exact ⟨by simp [hlt], h⟩
            · left
              rw [Array.getElem?_setIfInBounds, if_neg (fun e => ho e.symm)]
        · left
          exact World.cell?_of_block (Below.heap_setCell w p v q.block hq)
    | _ => cases h
theorem frozen_set (p : Addr) (v : Value) (q : Addr) : (w.setCell p v).frozen? q = w.frozen? q := by
  unfold World.frozen?
  by_cases hq : q.block = p.block
  · unfold World.setCell
    rw [hq]
    simp only [Array.getElem?_modify]
    cases hb : w.heap[p.block]? with
    | none => simp
    | some o => cases o <;> simp
  · rw [Below.heap_setCell w p v q.block hq]
theorem Mk.set_ {p : Addr} {x v : Value} (hL : L ≤ p.block) (hB : p.block < B) (h : w.cell? p = some x) (hk : MkC (some x) (some v)) : Mk L B w (w.setCell p v) :=
  ⟨rfl, rfl, rfl, by rw [World.size_setCell], fun k hk' => Below.heap_setCell w p v k (by omega), fun q => frozen_set p v q, fun q => by
    rcases cell_set (v := v) h q with e | ⟨e1, e2⟩
    · exact .inl e
    · rw [e1, e2]; exact hk⟩
theorem thaw_frozen (h : Thaw L B w) {p : Addr} (hL : L ≤ p.block) (hB : p.block < B) : w.frozen? p = false := by
  obtain ⟨cs, t, e⟩ := h p.block hL hB
  unfold World.frozen?
  rw [e]
  simp
theorem Thaw.set_ (h : Thaw L B w) (p : Addr) (v : Value) : Thaw L B (w.setCell p v) := fun k hk hB => by
  obtain ⟨cs, t, e⟩ := h k hk hB
  by_cases hp : p.block = k
  · subst hp
    refine ⟨(if p.spot.isSome then cs else cs.setIfInBounds p.off v), t, ?_⟩
    unfold World.setCell
    rw [Array.getElem?_modify]
    simp [e]
  · exact ⟨cs, t, (Below.heap_setCell w p v k (fun e => hp e.symm)).trans e⟩
end

/-- bytes that have been marked are bytes, as many -/
theorem NmB.mk_ {L B : Nat} {w w' : World} {A : Option Addr} {l : List UInt8} (h : NmB w L B A l) (hm : Mk L B w w') : ∃ l' : List UInt8, l'.length = l.length ∧ NmB w' L B A l' := by
  by_cases hn : 0 < l.length
  · obtain ⟨ad, eA, hb, hc⟩ := h.1.2 hn
    obtain ⟨ad', eA', hL⟩ := h.2 hn
    have each : ∀ k, k < l.length → ∃ y : UInt8, w'.cell? (ad.add k) = some (.int .u8 y.toNat) := fun k hk => by
      have h1 := hc k (.int .u8 l[k].toNat) (by rw [vb_get, List.getElem?_eq_getElem hk]; rfl)
      exact (hm.cell (ad.add k)).u8 h1
    let f : Fin l.length → UInt8 := fun i => Classical.choose (each i.1 i.2)
    have hfl : (List.ofFn f).length = l.length := by simp
    refine ⟨List.ofFn f, hfl, ⟨by rw [vb_len, Nat.mul_one], fun _ => ⟨ad, eA, hb, fun k u hu => ?_⟩⟩, fun _ => ⟨ad', eA', hL⟩⟩
    have hk : k < l.length := by rw [← hfl, ← vb_len]; exact (List.getElem?_eq_some_iff.1 hu).1
    rw [vb_get, List.getElem?_eq_getElem (by rw [hfl]; exact hk)] at hu
    have e : (List.ofFn f)[k]'(by rw [hfl]; exact hk) = f ⟨k, hk⟩ := by simp
    rw [e] at hu
    injection hu with hu
    rw [← hu]
    exact Classical.choose_spec (each k hk)
  · have h0 : l = [] := by cases l with | nil => rfl | cons x r => simp at hn
    subst h0
    exact ⟨[], rfl, ⟨h.1.1, fun hp => by simp at hp⟩, h.2⟩

/-- a row of things of four cells, marked -/
theorem row_mk {α : Type} {V V' : Value → Value → Value → Value → α → Prop} {R : α → α → Prop} {L B : Nat} {w w' : World} {A : Option Addr} {l : List α} (h : Row4 V w L B A l) (hm : Mk L B w w')
    (hV : ∀ v0 v1 v2 v3 x, V v0 v1 v2 v3 x → ∀ u0 u1 u2 u3, MkC (some v0) (some u0) → MkC (some v1) (some u1) → MkC (some v2) (some u2) → MkC (some v3) (some u3) → ∃ y, V' u0 u1 u2 u3 y ∧ R x y)
    (hsome : ∀ v b, MkC (some v) b → ∃ u, b = some u) :
    ∃ l' : List α, ∃ hl : l'.length = l.length, Row4 V' w' L B A l' ∧ ∀ i (hi : i < l.length), R l[i] (l'[i]'(by omega)) := by
  by_cases hn : 0 < l.length
  · obtain ⟨ad, eA, hL, hB, hs⟩ := h.2 hn
    have each : ∀ i (hi : i < l.length), ∃ y, (∃ u0 u1 u2 u3, C4 w' (ad.add (i * 4)) u0 u1 u2 u3 ∧ V' u0 u1 u2 u3 y) ∧ R l[i] y := fun i hi => by
      obtain ⟨v0, v1, v2, v3, ⟨c0, c1, c2, c3⟩, hv⟩ := hs i hi
      have m0 := hm.cell (ad.add (i * 4))
      have m1 := hm.cell ⟨(ad.add (i * 4)).block, (ad.add (i * 4)).off + 1, none⟩
      have m2 := hm.cell ⟨(ad.add (i * 4)).block, (ad.add (i * 4)).off + 2, none⟩
      have m3 := hm.cell ⟨(ad.add (i * 4)).block, (ad.add (i * 4)).off + 3, none⟩
      rw [c0] at m0
      rw [c1] at m1
      rw [c2] at m2
      rw [c3] at m3
      obtain ⟨u0, e0⟩ := hsome _ _ m0
      obtain ⟨u1, e1⟩ := hsome _ _ m1
      obtain ⟨u2, e2⟩ := hsome _ _ m2
      obtain ⟨u3, e3⟩ := hsome _ _ m3
      rw [e0] at m0
      rw [e1] at m1
      rw [e2] at m2
      rw [e3] at m3
      obtain ⟨y, hy, hr⟩ := hV v0 v1 v2 v3 _ hv u0 u1 u2 u3 m0 m1 m2 m3
      exact ⟨y, ⟨u0, u1, u2, u3, ⟨e0, e1, e2, e3⟩, hy⟩, hr⟩
    let f : Fin l.length → α := fun i => Classical.choose (each i.1 i.2)
    have hfl : (List.ofFn f).length = l.length := by simp
    refine ⟨List.ofFn f, hfl, ⟨by rw [hfl]; exact h.1, fun _ => ⟨ad, eA, hL, hB, fun i hi => ?_⟩⟩, fun i hi => ?_⟩
    · have hi' : i < l.length := by rw [← hfl]; exact hi
      have hs := (Classical.choose_spec (each i hi')).1
      have e : (List.ofFn f)[i] = f ⟨i, hi'⟩ := by simp
      rw [e]
      exact hs
    · have e : (List.ofFn f)[i]'(by rw [hfl]; exact hi) = f ⟨i, hi⟩ := by simp
      rw [e]
      exact (Classical.choose_spec (each i hi)).2
  · have h0 : l = [] := List.eq_nil_of_length_eq_zero (by omega)
    subst h0
    exact ⟨[], rfl, Row4.none_ _ _ _ _ _, fun i hi => absurd hi (by simp)⟩
theorem mk_some (v : Value) (b : Option Value) (h : MkC (some v) b) : ∃ u, b = some u := by
  rcases h with rfl | ⟨x, y, e, rfl⟩ | ⟨x, y, e, rfl⟩ | ⟨x, y, e, rfl⟩
  · exact ⟨v, rfl⟩
  · exact ⟨_, rfl⟩
  · exact ⟨_, rfl⟩
  · exact ⟨_, rfl⟩

/-- fields marked: as many, with names as long -/
theorem FdL.mk_ {L B : Nat} {w w' : World} {A : Option Addr} {l : List Fd} (h : FdL w L B A l) (hm : Mk L B w w') : ∃ l' : List Fd, ∃ hl : l'.length = l.length, FdL w' L B A l' ∧ ∀ i (hi : i < l.length), (l'[i]'(by omega)).name.length = l[i].name.length :=
  row_mk (V := FdV w L B) (V' := FdV w' L B) (R := fun (x y : Fd) => y.name.length = x.name.length) h hm (fun v0 v1 v2 v3 x hv u0 u1 u2 u3 m0 m1 m2 m3 => by
    obtain ⟨A', c, rfl, hN, hl, rfl, rfl, rfl⟩ := hv
    obtain ⟨n', hn', hN'⟩ := NmB.mk_ hN hm
    have e0 := m0.slice rfl
    injection e0 with e0
    obtain ⟨y1, e1⟩ := m1.i64 rfl
    injection e1 with e1
    obtain ⟨y2, e2⟩ := m2.i64 rfl
    injection e2 with e2
    obtain ⟨y3, e3⟩ := m3.i64 rfl
    injection e3 with e3
    exact ⟨⟨n', y1, y2, y3⟩, ⟨A', c, by rw [e0, hn'], hN', by show n'.length ≤ _; rw [hn']; exact hl, e1, e2, e3⟩, hn'⟩) mk_some
/-- slots marked -/
def Like (s t : Sl) : Prop := ∃ hl : t.fs.length = s.fs.length, ∀ i (hi : i < s.fs.length), (t.fs[i]'(by omega)).name.length = s.fs[i].name.length
theorem SlL.mk_ {L B : Nat} {w w' : World} {A : Option Addr} {l : List Sl} (h : SlL w L B A l) (hm : Mk L B w w') : ∃ l' : List Sl, ∃ hl : l'.length = l.length, SlL w' L B A l' ∧ ∀ i (hi : i < l.length), Like l[i] (l'[i]'(by omega)) :=
  row_mk (V := SlV w L B) (V' := SlV w' L B) (R := Like) h hm (fun v0 v1 v2 v3 x hv u0 u1 u2 u3 m0 m1 m2 m3 => by
    obtain ⟨rfl, rfl, rfl, A', c, rfl, hF⟩ := hv
    obtain ⟨f', hf', hF', hn'⟩ := FdL.mk_ hF hm
    obtain ⟨y0, e0⟩ := m0.bool rfl
    injection e0 with e0
    obtain ⟨y1, e1⟩ := m1.i64 rfl
    injection e1 with e1
    obtain ⟨y2, e2⟩ := m2.i64 rfl
    injection e2 with e2
    have e3 := m3.slice rfl
    injection e3 with e3
    exact ⟨⟨y0, y1, y2, f'⟩, ⟨e0, e1, e2, A', c, by rw [e3, hf'], hF'⟩, hf', hn'⟩) mk_some

set_option maxHeartbeats 1000000 in
theorem markByteS_m (l : List UInt8) (A : Option Addr) (c L B k : Nat) (w : World) (hl : l.length ≤ 4294967296) (hk : k ≤ 1099511627776) (hT : Thaw L B w) (h : NmB w L B A l) :
    Calls Try.prog 16 #[.slice A l.length c, .int .i64 (k : Int)] w fun r w' => r = .returned (.int .i64 ((k + l.length : Nat) : Int)) ∧ Mk L B w w' ∧ Thaw L B w' := by
  go_enter Try.func16, Try.ntmps16
  go_wp2
  go_loopw [1, 5] (fun s i wr => ∃ (m : Nat), m ≤ l.length ∧ i = .int .i64 m ∧ s = .int .i64 ((k + m : Nat) : Int) ∧ Mk L B w wr ∧ Thaw L B wr) (fun _ i _ => l.length - (intOf i).toNat)
  case atStart => exact ⟨0, Nat.zero_le _, rfl, rfl, Mk.refl _ _ _, hT⟩
  case round =>
    obtain ⟨m, hm, rfl, rfl, hmk, hTr⟩ := hrel
    by_cases hlt : m < l.length
    · obtain ⟨l', hl', hR'⟩ := NmB.mk_ h hmk
      obtain ⟨ad, rfl, hb, hc0⟩ := hR'.1.at_ (k := m) (by omega)
      obtain ⟨ad', e, hL⟩ := hR'.2 (by omega)
      injection e with e
      subst e
      have hLm : L ≤ (ad.add m).block := by rw [block_of_add]; exact hL
      have hBm : (ad.add m).block < B := by rw [block_of_add]; exact hb
      have hf0 := thaw_frozen hTr hLm hBm
      have hst := fun n => Mk.set_ hLm hBm hc0 (MkC.u8_ (l'[m]'(by omega)) n)
      have Hst := Lib.hid hst
      clear hst hR'
      go_wp2
      go_roundw
      case rel =>
        refine ⟨m + 1, by omega, by go_num, by go_num, ?_, hTr.set_ _ _⟩
        have e9 : (((k : Int) + (m : Int)) % 256) = (((k + m) % 256 : Nat) : Int) := by omega
        rw [e9]
        exact hmk.trans (Hst.out (k + m))
      case measure => simp [intOf]; omega
    · go_wp2
      go_ret
      have : m = l.length := by omega
      subst this
      exact ⟨rfl, hmk, hTr⟩

end ArnM
end Go.Proofs.Ytfmlgpnjckamjaa

namespace Go.Proofs.Ytfmlgpnjckamjaa
open Go.RowKit
set_option linter.unusedVariables false
namespace ArnM

def mkFd (f : Fd) : Nat := f.name.length + 3
def mkSl (s : Sl) : Nat := 3 + sumIn mkFd s.fs s.fs.length
theorem mkFd_sum : ∀ (l : List Fd) (k : Nat), sumIn mkFd l k ≤ 3 * l.length + (l.map fdSz).sum
  | [], k => by simp [sumIn]
  | x :: r, 0 => by simp [sumIn]
  | x :: r, k + 1 => by
    have := mkFd_sum r k
    unfold sumIn at this ⊢
    simp only [List.take_succ_cons, List.map_cons, List.sum_cons, List.length_cons, mkFd, fdSz] at this ⊢
    omega
theorem mkSl_sum : ∀ (l : List Sl) (k : Nat), sumIn mkSl l k ≤ 3 * l.length + 3 * (l.map slSz).sum
  | [], k => by simp [sumIn]
  | x :: r, 0 => by simp [sumIn]
  | x :: r, k + 1 => by
    have := mkSl_sum r k
    have h1 := mkFd_sum x.fs x.fs.length
    unfold sumIn at this ⊢
    have h2 : mkSl x = 3 + sumIn mkFd x.fs x.fs.length := rfl
    have h3 : slSz x = x.fs.length + (x.fs.map fdSz).sum := rfl
    simp only [List.take_succ_cons, List.map_cons, List.sum_cons, List.length_cons]
    omega

set_option maxRecDepth 100000 in
set_option maxHeartbeats 2000000 in
theorem markFieldS_m (l : List Fd) (A : Option Addr) (c L B k : Nat) (w : World) (hl : fsSz l ≤ 1050000) (hk : k ≤ 1073741824) (hT : Thaw L B w) (h : FdL w L B A l) :
    Calls Try.prog 79 #[.slice A l.length c, .int .i64 (k : Int)] w fun r w' => r = .returned (.int .i64 ((k + sumIn mkFd l l.length : Nat) : Int)) ∧ Mk L B w w' ∧ Thaw L B w' := by
  have hlen : l.length ≤ 1050000 := by unfold fsSz at hl; omega
  have Hl := Lib.hid hl
  clear hl
  go_enter Try.func79, Try.ntmps79
  go_wp2
  go_loopw [1, 5] (fun s i wr => ∃ (m : Nat), m ≤ l.length ∧ i = .int .i64 m ∧ s = .int .i64 ((k + sumIn mkFd l m : Nat) : Int) ∧ Mk L B w wr ∧ Thaw L B wr) (fun _ i _ => l.length - (intOf i).toNat)
  case atStart => exact ⟨0, Nat.zero_le _, rfl, rfl, Mk.refl _ _ _, hT⟩
  case round =>
    obtain ⟨m, hm, rfl, rfl, hmk, hTr⟩ := hrel
    by_cases hlt : m < l.length
    · obtain ⟨l', hl', hF', hn'⟩ := FdL.mk_ h hmk
      obtain ⟨ad, rfl, hL, hB, hat⟩ := hF'.2 (by omega)
      obtain ⟨v0, v1, v2, v3, ⟨c0, c1, c2, c3⟩, NA, nc, rfl, hN, hnm, rfl, rfl, rfl⟩ := hat m (by omega)
      have hstep := sumIn_step mkFd hlt
      have hsum := mkFd_sum l m
      have hnl : l'[m].name.length = l[m].name.length := hn' m hlt
      have hnsz : l[m].name.length ≤ 1050000 := by
        have h2 := sum_get fdSz hlt
        have h3 := Hl.out
        have h4 : fdSz l[m] = l[m].name.length := rfl
        unfold fsSz at h3
        omega
      have hfs := Hl.out
      unfold fsSz at hfs
      obtain ⟨t, ht⟩ : ∃ t, t = k + sumIn mkFd l m := ⟨_, rfl⟩
      rw [← ht]
      have htb : t ≤ 1099511627776 := by omega
      have hnext : k + sumIn mkFd l (m + 1) = t + l'[m].name.length + 3 := by rw [hstep, ht, hnl]; unfold mkFd; omega
      obtain ⟨nm, hnme⟩ : ∃ n, n = l'[m].name := ⟨_, rfl⟩
      obtain ⟨y1, hy1⟩ : ∃ n, n = l'[m].k := ⟨_, rfl⟩
      obtain ⟨y2, hy2⟩ : ∃ n, n = l'[m].n := ⟨_, rfl⟩
      obtain ⟨y3, hy3⟩ : ∃ n, n = l'[m].g := ⟨_, rfl⟩
      rw [← hnme] at c0 hN hnext hnl
      rw [← hy1] at c1
      rw [← hy2] at c2
      rw [← hy3] at c3
      have hnm20 : nm.length ≤ 1050000 := by omega
      have Hmb := Lib.hid (markByteS_m nm NA nc L B t wr (by omega) htb hTr hN)
      have Hnext := Lib.hid hnext
      have Hmk := Lib.hid hmk
      obtain ⟨p, hp⟩ : ∃ p, p = ad.add (m * 4) := ⟨_, rfl⟩
      have hpb : p.block = ad.block := by rw [hp, block_of_add]
      have htb2 : t ≤ 1099511627776 := htb
      clear hat hF' hn' hstep hsum hnsz hfs ht hnl hnme hy1 hy2 hy3 hmk hTr hnext hN hnm
      go_wp2_with fail
      refine Hmb.out.mono ?_
      rintro e w1 ⟨rfl, hm1, hT1⟩
      have d0 := (hm1.cell (ad.add (m * 4))).slice c0
      obtain ⟨z1, d1⟩ := (hm1.cell ⟨(ad.add (m * 4)).block, (ad.add (m * 4)).off + 1, none⟩).i64 c1
      obtain ⟨z2, d2⟩ := (hm1.cell ⟨(ad.add (m * 4)).block, (ad.add (m * 4)).off + 2, none⟩).i64 c2
      obtain ⟨z3, d3⟩ := (hm1.cell ⟨(ad.add (m * 4)).block, (ad.add (m * 4)).off + 3, none⟩).i64 c3
      have hLp : L ≤ (ad.add (m * 4)).block := by rw [block_of_add]; exact hL
      have hBp : (ad.add (m * 4)).block < B := by rw [block_of_add]; exact hB
      have x1 : w1.frozen? ⟨(ad.add (m * 4)).block, (ad.add (m * 4)).off + 1, none⟩ = false := thaw_frozen hT1 hLp hBp
      have x2 : w1.frozen? ⟨(ad.add (m * 4)).block, (ad.add (m * 4)).off + 2, none⟩ = false := thaw_frozen hT1 hLp hBp
      have x3 : w1.frozen? ⟨(ad.add (m * 4)).block, (ad.add (m * 4)).off + 3, none⟩ = false := thaw_frozen hT1 hLp hBp
      have HM := Lib.hid (fun (a1 a2 a3 : Int) => show Mk L B w (((w1.setCell ⟨(ad.add (m * 4)).block, (ad.add (m * 4)).off + 1, none⟩ (.int .i64 a1)).setCell ⟨(ad.add (m * 4)).block, (ad.add (m * 4)).off + 2, none⟩ (.int .i64 a2)).setCell ⟨(ad.add (m * 4)).block, (ad.add (m * 4)).off + 3, none⟩ (.int .i64 a3)) ∧ Thaw L B (((w1.setCell ⟨(ad.add (m * 4)).block, (ad.add (m * 4)).off + 1, none⟩ (.int .i64 a1)).setCell ⟨(ad.add (m * 4)).block, (ad.add (m * 4)).off + 2, none⟩ (.int .i64 a2)).setCell ⟨(ad.add (m * 4)).block, (ad.add (m * 4)).off + 3, none⟩ (.int .i64 a3)) from by
        refine ⟨?_, ((hT1.set_ _ _).set_ _ _).set_ _ _⟩
        refine (Hmk.out.trans hm1).trans (((Mk.set_ (p := ⟨(ad.add (m * 4)).block, (ad.add (m * 4)).off + 1, none⟩) (v := .int .i64 a1) hLp hBp d1 (MkC.i64_ _ _)).trans (Mk.set_ (p := ⟨(ad.add (m * 4)).block, (ad.add (m * 4)).off + 2, none⟩) (x := .int .i64 z2) (v := .int .i64 a2) hLp hBp ?_ (MkC.i64_ _ _))).trans (Mk.set_ (p := ⟨(ad.add (m * 4)).block, (ad.add (m * 4)).off + 3, none⟩) (x := .int .i64 z3) (v := .int .i64 a3) hLp hBp ?_ (MkC.i64_ _ _)))
        · rw [World.cell?_setCell_other _ _ _ _ (fun e => by injection e with _ e _; omega)]; exact d2
        · rw [World.cell?_setCell_other _ _ _ _ (fun e => by injection e with _ e _; omega), World.cell?_setCell_other _ _ _ _ (fun e => by injection e with _ e _; omega)]; exact d3)
      clear c0 c1 c2 c3 hm1 hT1 Hmb
      have ht63 : t + nm.length ≤ 2199023255552 := by omega
      obtain ⟨t2, ht2⟩ : ∃ t2, t2 = t + nm.length := ⟨_, rfl⟩
      rw [← ht2] at Hnext ht63
      rw [← ht2]
      clear ht2
      go_wp2
      go_roundw
      case rel => exact ⟨m + 1, by omega, by go_num, by rw [Hnext.out]; go_num, (HM.out _ _ _).1, (HM.out _ _ _).2⟩
      case measure => simp [intOf]; omega
    · go_wp2
      go_ret
      have : m = l.length := by omega
      subst this
      exact ⟨rfl, hmk, hTr⟩
end ArnM
end Go.Proofs.Ytfmlgpnjckamjaa
