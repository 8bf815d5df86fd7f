/-
  The laws' own copy of a whole program.
-/
import Derived.Test.YtofnkhejpkfokaaFnTo
namespace Go.Proofs.Ytofnkhejpkfokaa
open Go.RowKit
set_option linter.unusedVariables false

theorem infoFn : (Try.prog.info? 49).map (fun i => (i.zero, i.size, i.bytes)) = some (some (.agg #[.slice none 0 0, .slice none 0 0, .slice none 0 0]), 3, 72) := by kernel_rfl

theorem FnV.low {w : World} {L B : Nat} {u0 u1 u2 : Value} {f : Fn} (h : FnV w L B u0 u1 u2 f) {p : Addr} (hp : p.block < L) (v : Value) : FnV (w.setCell p v) L B u0 u1 u2 f :=
  h.keep fun q hq _ => World.cell?_setCell_other w p q v (fun e => by subst e; omega)
def FnsP (w : World) (L : Nat) (cs : Array Value) (l : List Fn) (k : Nat) : Prop :=
  ∀ i (h : i < l.length), i < k → ∃ u0 u1 u2, cs[i * 3]? = some u0 ∧ cs[i * 3 + 1]? = some u1 ∧ cs[i * 3 + 2]? = some u2 ∧ FnV w L w.heap.size u0 u1 u2 l[i]
theorem FnsP.keep {w w' : World} {L k : Nat} {cs : Array Value} {l : List Fn} (h : FnsP w L cs l k) (hb : Below w.heap.size w w') : FnsP w' L cs l k := fun i hi hk => by
  obtain ⟨u0, u1, u2, c0, c1, c2, hv⟩ := h i hi hk
  exact ⟨u0, u1, u2, c0, c1, c2, (hv.below hb).more (Nat.le_refl _) hb.size⟩
theorem FnsP.low {w : World} {L k : Nat} {cs : Array Value} {l : List Fn} (h : FnsP w L cs l k) {p : Addr} (hp : p.block < L) (v : Value) : FnsP (w.setCell p v) L cs l k := fun i hi hk => by
  obtain ⟨u0, u1, u2, c0, c1, c2, hv⟩ := h i hi hk
  exact ⟨u0, u1, u2, c0, c1, c2, by rw [World.size_setCell]; exact hv.low hp v⟩
theorem FnsP.step {w : World} {L k : Nat} {cs : Array Value} {l : List Fn} (h : FnsP w L cs l k) (hk : k < l.length) (hcs : l.length * 3 ≤ cs.size) {u0 u1 u2 : Value} (hv : FnV w L w.heap.size u0 u1 u2 l[k]) :
    FnsP w L (putL cs (k * 3) [u0, u1, u2]) l (k + 1) := by
  intro i hi hik
  by_cases e : i = k
  · subst e
    have a0 := putL_at [u0, u1, u2] cs (i * 3) 0 u0 (by simp; omega) rfl
    exact ⟨u0, u1, u2, by simpa using a0, putL_at [u0, u1, u2] cs (i * 3) 1 u1 (by simp; omega) rfl, putL_at [u0, u1, u2] cs (i * 3) 2 u2 (by simp; omega) rfl, hv⟩
  · obtain ⟨x0, x1, x2, c0, c1, c2, hx⟩ := h i hi (by omega)
    refine ⟨x0, x1, x2, ?_, ?_, ?_, hx⟩
    · rw [putL_ne _ _ _ _ (by simp; omega)]; exact c0
    · rw [putL_ne _ _ _ _ (by simp; omega)]; exact c1
    · rw [putL_ne _ _ _ _ (by simp; omega)]; exact c2
theorem FnsP.fnl {w : World} {L g : Nat} {t : TypeId} {cs : Array Value} {l : List Fn} (h : FnsP w L cs l l.length) (hm : l.length ≤ maxLen) (hb : Blk w g t cs) (hL : g ≤ L) : FnL w g w.heap.size (some ⟨g, 0, none⟩) l := by
  refine ⟨hm, fun _ => ⟨_, rfl, Nat.le_refl _, hb.lt, fun k hk => ?_⟩⟩
  obtain ⟨u0, u1, u2, c0, c1, c2, hv⟩ := h k hk hk
  have e : (Addr.add ⟨g, 0, none⟩ (k * 3)) = ⟨g, k * 3, none⟩ := by unfold Addr.add; split <;> simp_all
  refine ⟨u0, u1, u2, ?_, hv.more hL (Nat.le_refl _)⟩
  rw [e]
  exact ⟨by rw [hb.cell]; exact c0, by show w.cell? ⟨g, k * 3 + 1, none⟩ = _; rw [hb.cell]; exact c1, by show w.cell? ⟨g, k * 3 + 2, none⟩ = _; rw [hb.cell]; exact c2⟩

set_option maxHeartbeats 4000000 in
theorem toFuncS_c (l : List Fn) (A : Option Addr) (c L B : Nat) (w : World) (hB : B ≤ w.heap.size) (hl : fnsSz l ≤ 1048576) (h : FnL w L B A l) :
    Calls Try.prog 53 #[.slice A l.length c] w fun r w' => ∃ g, r = .returned (.slice (some ⟨g, 0, none⟩) l.length l.length) ∧ g < w'.heap.size ∧ w.heap.size ≤ g ∧ FnL w' w.heap.size w'.heap.size (some ⟨g, 0, none⟩) l ∧ Below w.heap.size w w' := by
  obtain ⟨i0, hi, hz0, hz1, hz2⟩ := info_parts infoFn
  have hlen : l.length ≤ fnsSz l := by unfold fnsSz; omega
  have hmk : ∀ u : World, (Instr.makeSlice 27 (.int .i64 (l.length : Int)) (.int .i64 (l.length : Int))).run Try.prog u =
      .ok (.slice (some ⟨u.heap.size, 0, none⟩) l.length l.length) (u.alloc (.cells (madeCells #[.slice none 0 0, .slice none 0 0, .slice none 0 0] (l.length * 3)) 49)) := fun u => by
    have h := run_make (P := Try.prog) u 27 49 i0 (.agg #[.slice none 0 0, .slice none 0 0, .slice none 0 0]) Try.underlying27 hi hz0 .i64 .i64 (l.length : Int) (l.length : Int) (by omega) (Int.le_refl _) (by rw [hz2]; omega) (by omega)
    rw [Int.toNat_natCast] at h
    simpa [hz1, Value.cells] using h
  clear hi hz0 hz1 hz2
  go_enter Try.func53, Try.ntmps53
  go_wp2
  go_loopw [4] (fun i wr => ∃ (k : Nat) (cs : Array Value), k ≤ l.length ∧ i = .int .i64 k ∧ cs.size = l.length * 3 ∧ Blk wr w.heap.size 49 cs ∧ FnsP wr (w.heap.size + 1) cs l k ∧ Below w.heap.size w wr) (fun i _ => l.length - (intOf i).toNat)
  case atStart => exact ⟨0, _, Nat.zero_le _, rfl, by simp [madeCells], Blk.new _ _ _, fun i _ hk => by omega, (Below.refl _ _).alloc (Nat.le_refl _) _⟩
  case round =>
    obtain ⟨k, cs, hk, rfl, hcs, hblk, hown, hbl⟩ := hrel
    have Hcs := Lib.hid hcs
    clear hcs
    by_cases hlt : k < l.length
    · obtain ⟨ad, rfl, _, hb, hat⟩ := (h.below (hbl.mono hB)).2 (by omega)
      obtain ⟨v0, v1, v2, ⟨c0, c1, c2⟩, hv⟩ := hat k hlt
      have hsz1 := fnsSz_get hlt
      have hc := toFunc_c l[k] v0 v1 v2 wr L B hv (Nat.le_trans hB hbl.size) (by omega)
      obtain ⟨xA, xc, xA1, xc1, xA2, xc2, rfl, rfl, rfl, _⟩ := hv
      have Hc := Lib.hid hc
      clear hc hat
      go_wp2_with fail
      refine Hc.out.mono ?_
      rintro e w1 ⟨u0, u1, u2, rfl, hu, hb1⟩
      have hu' := hu
      obtain ⟨zA, zc, zA1, zc1, zA2, zc2, rfl, rfl, rfl, _⟩ := hu'
      generalize ey1 : zA = y1 at *
      generalize ey2 : l[k].name.length = y2 at *
      generalize ey3 : zc = y3 at *
      generalize ey4 : zA1 = y4 at *
      generalize ey5 : l[k].params.length = y5 at *
      generalize ey6 : zc1 = y6 at *
      generalize ey7 : zA2 = y7 at *
      generalize ey8 : l[k].body.length = y8 at *
      generalize ey9 : zc2 = y9 at *
      have hblk1 := hblk.below hb1 hblk.lt
      have hsz := Hcs.out
      obtain ⟨o0, e0⟩ : ∃ v, cs[k * 3]? = some v := ⟨_, Array.getElem?_eq_getElem (by omega)⟩
      have q0 : w1.cell? ⟨w.heap.size, k * 3, none⟩ = some o0 := by rw [hblk1.cell]; exact e0
      have z0 : w1.frozen? ⟨w.heap.size, k * 3, none⟩ = false := hblk1.frozen _
      obtain ⟨o1, e1⟩ : ∃ v, cs[k * 3 + 1]? = some v := ⟨_, Array.getElem?_eq_getElem (by omega)⟩
      have q1 : w1.cell? ⟨w.heap.size, k * 3 + 1, none⟩ = some o1 := by rw [hblk1.cell]; exact e1
      have z1 : w1.frozen? ⟨w.heap.size, k * 3 + 1, none⟩ = false := hblk1.frozen _
      obtain ⟨o2, e2⟩ : ∃ v, cs[k * 3 + 2]? = some v := ⟨_, Array.getElem?_eq_getElem (by omega)⟩
      have q2 : w1.cell? ⟨w.heap.size, k * 3 + 2, none⟩ = some o2 := by rw [hblk1.cell]; exact e2
      have z2 : w1.frozen? ⟨w.heap.size, k * 3 + 2, none⟩ = false := hblk1.frozen _
      have hlt1 := hblk.lt
      have hbl1 := hbl.trans (hb1.mono hbl.size)
      have hfin := (hown.keep hb1).step hlt (by omega) (hu.more (by omega) (Nat.le_refl _))
      have Hfin := Lib.hid hfin
      clear hsz e0 e1 e2 hfin ey1 ey2 ey3 ey4 ey5 ey6 ey7 ey8 ey9 hu Hc
      go_wp2
      go_roundw
      case rel =>
        have e12 : (((w1.setCell ⟨w.heap.size, k * 3, none⟩ (.slice y1 y2 y3)).setCell ⟨w.heap.size, k * 3 + 1, none⟩ (.slice y4 y5 y6)).setCell ⟨w.heap.size, k * 3 + 2, none⟩ (.slice y7 y8 y9)) = setL w1 w.heap.size (k * 3) [.slice y1 y2 y3, .slice y4 y5 y6, .slice y7 y8 y9] := rfl
        rw [e12]
        exact ⟨k + 1, putL cs (k * 3) [.slice y1 y2 y3, .slice y4 y5 y6, .slice y7 y8 y9], by omega, by go_num, by rw [putL_size]; exact Hcs.out, hblk1.putL _ (k * 3), setL_ind (P := fun u => FnsP u (w.heap.size + 1) (putL cs (k * 3) [.slice y1 y2 y3, .slice y4 y5 y6, .slice y7 y8 y9]) l (k + 1)) (fun u j v hu => FnsP.low hu (by simp) v) _ (k * 3) Hfin.out, setL_below _ (k * 3) hbl1 (Nat.le_refl _)⟩
      case measure => simp [intOf]; omega
    · go_wp2
      go_ret
      have : k = l.length := by omega
      subst this
      exact ⟨_, rfl, hblk.lt, Nat.le_refl _, hown.fnl (by unfold maxLen; omega) hblk (by omega), hbl⟩

set_option maxHeartbeats 2000000 in
theorem toProg_c (l : List Fn) (A : Option Addr) (c L B : Nat) (w : World) (hB : B ≤ w.heap.size) (hl : fnsSz l ≤ 1048576) (h : FnL w L B A l) :
    Calls Try.prog 16 #[.agg #[.slice A l.length c]] w fun r w' => ∃ g, r = .returned (.agg #[.slice (some ⟨g, 0, none⟩) l.length l.length]) ∧ g < w'.heap.size ∧ w.heap.size ≤ g ∧ FnL w' w.heap.size w'.heap.size (some ⟨g, 0, none⟩) l ∧ Below w.heap.size w w' := by
  have hbw0 : Below w.heap.size w (((w.alloc (.cells #[.slice A l.length c] 24)).alloc (.cells #[.slice none 0 0] 29)).alloc (.cells #[.slice none 0 0] 29)) := (((Below.refl _ _).alloc (Nat.le_refl _) _).alloc (by simp) _).alloc (by simp; omega) _
  have h0 := h.below (hbw0.mono hB)
  go_enter Try.func16, Try.ntmps16
  go_wp2_with fail
  refine (toFuncS_c l A c L B _ (by simp; omega) hl h0).mono ?_
  rintro e' w1 ⟨g1, rfl, hg1, hg1', hx, hb1⟩
  have K2 : Blk w1 (w.heap.size + 1 + 1) 29 #[.slice none 0 0] := Blk.below (by have := Blk.new ((w.alloc (.cells #[.slice A l.length c] 24)).alloc (.cells #[.slice none 0 0] 29)) 29 #[.slice none 0 0]; simpa using this) hb1 (by simp)
  have K1 : Blk w1 (w.heap.size + 1) 29 #[.slice none 0 0] := Blk.below ((by have := Blk.new (w.alloc (.cells #[.slice A l.length c] 24)) 29 #[.slice none 0 0]; simpa using this : Blk ((w.alloc (.cells #[.slice A l.length c] 24)).alloc (.cells #[.slice none 0 0] 29)) (w.heap.size + 1) 29 _).alloc _) hb1 (by simp)
  have hbw1 : Below w.heap.size w w1 := hbw0.trans (hb1.mono (by simp; omega))
  have hz : w.heap.size + 1 + 1 + 1 ≤ w1.heap.size := by have := hb1.size; simpa using this
  have hx' : FnL w1 (w.heap.size + 1 + 1 + 1) w1.heap.size (some ⟨g1, 0, none⟩) l := hx.more (by simp) (Nat.le_refl _)
  have hgg : w.heap.size + 1 + 1 + 1 ≤ g1 := by simpa using hg1'
  have n0 := K2.cell_of 0 rfl
  have m0 := K1.cell_of 0 rfl
  have z0 : w1.frozen? ⟨w.heap.size + 1 + 1, 0, none⟩ = false := K2.frozen 0
  have y0 : w1.frozen? ⟨w.heap.size + 1, 0, none⟩ = false := K1.frozen 0
  clear hb1 hg1' hx h0
  go_wp2_with fail
  refine bodyPost_ret (v := .agg #[.slice (some ⟨g1, 0, none⟩) l.length l.length]) (by simp [results, Try.results16, go_sem, m0]) rfl ?_
  have k1 : ∀ p : Addr, w.heap.size + 1 + 1 + 1 ≤ p.block → p.block < w1.heap.size → ((w1.setCell ⟨w.heap.size + 1 + 1, 0, none⟩ (.slice (some ⟨g1, 0, none⟩) l.length l.length)).setCell ⟨w.heap.size + 1, 0, none⟩ (.slice (some ⟨g1, 0, none⟩) l.length l.length)).cell? p = w1.cell? p := by
    intro p h1 h2
    rw [World.cell?_setCell_other _ _ _ _ (fun e => by rw [← e] at h1; simp at h1; omega), World.cell?_setCell_other _ _ _ _ (fun e => by rw [← e] at h1; simp at h1; omega)]
  refine ⟨g1, rfl, by simpa using hg1, by omega, ?_, (hbw1.setCell (by simp; omega) _).setCell (by simp) _⟩
  rw [World.size_setCell, World.size_setCell]
  exact (hx'.keep k1).more (by omega) (Nat.le_refl _)
end Go.Proofs.Ytofnkhejpkfokaa
