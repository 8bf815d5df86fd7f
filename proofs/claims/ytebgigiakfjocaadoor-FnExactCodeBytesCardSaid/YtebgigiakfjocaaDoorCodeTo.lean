/-
  Codes: the laws' own copy.
-/
import Derived.Test.YtebgigiakfjocaaDoorUnitTo
import Derived.Test.YtebgigiakfjocaaDoorCodeSz
namespace Go.Proofs.YtebgigiakfjocaaDoor
open Go.RowKit
set_option linter.unusedVariables false
namespace Cod

theorem infoUnit : (Tryd.prog.info? 102).map (fun i => (i.zero, i.size, i.bytes)) = some (some (.agg #[.int .i64 0, .int .i64 0, .slice none 0 0]), 3, 40) := by kernel_rfl
set_option maxHeartbeats 2000000 in
theorem toUnitS_c (l : List Un) (A : Option Addr) (c L B : Nat) (w : World) (hB : B ≤ w.heap.size) (hl : unsSz l ≤ 1048576) (h : UnL w L B A l) :
    Calls Tryd.prog 57 #[.slice A l.length c] w fun r w' => ∃ g, r = .returned (.slice (some ⟨g, 0, none⟩) l.length l.length) ∧ g < w'.heap.size ∧ w.heap.size ≤ g ∧ UnL w' w.heap.size w'.heap.size (some ⟨g, 0, none⟩) l ∧ Below w.heap.size w w' := by
  obtain ⟨i0, hi, hz0, hz1, hz2⟩ := info_parts infoUnit
  have hlen : l.length ≤ 1048576 := by unfold unsSz at hl; omega
  have hmk : ∀ u : World, (Instr.makeSlice 54 (.int .i64 (l.length : Int)) (.int .i64 (l.length : Int))).run Tryd.prog u =
      .ok (.slice (some ⟨u.heap.size, 0, none⟩) l.length l.length) (u.alloc (.cells (madeCells #[.int .i64 0, .int .i64 0, .slice none 0 0] (l.length * 3)) 102)) := fun u => by
    have h := run_make (P := Tryd.prog) u 54 102 i0 (.agg #[.int .i64 0, .int .i64 0, .slice none 0 0]) Tryd.underlying54 hi hz0 .i64 .i64 (l.length : Int) (l.length : Int) (by omega) (Int.le_refl _) (by rw [hz2]; omega) (by omega)
    rw [Int.toNat_natCast] at h
    simpa [hz1, Value.cells] using h
  clear hi hz0 hz1 hz2
  go_enter Tryd.func57, Tryd.ntmps57
  go_wp2
  go_loopw [4] (fun i wr => ∃ (k : Nat) (cs : Array Value), k ≤ l.length ∧ i = .int .i64 k ∧ cs.size = l.length * 3 ∧ Blk wr w.heap.size 102 cs ∧ RowP3 (UnV wr (w.heap.size + 1) wr.heap.size) cs l k ∧ Below w.heap.size w wr) (fun i _ => l.length - (intOf i).toNat)
  case atStart => exact ⟨0, _, Nat.zero_le _, rfl, by simp [madeCells], Blk.new _ _ _, fun i _ hk => by omega, (Below.refl _ _).alloc (Nat.le_refl _) _⟩
  case round =>
    obtain ⟨k, cs, hk, rfl, hcs, hblk, hown, hbl⟩ := hrel
    have Hcs := Lib.hid hcs
    have Hown := Lib.hid hown
    clear hcs hown
    by_cases hlt : k < l.length
    · obtain ⟨ad, rfl, _, hb, hat⟩ := (h.below (hbl.mono hB)).2 (by omega)
      obtain ⟨v0, v1, v2, ⟨c0, c1, c2⟩, hv⟩ := hat k hlt
      have hsz1 : unSz l[k] ≤ 1048576 := by have := sum_get unSz hlt; unfold unsSz at hl; omega
      have hc := toUnit_c l[k] v0 v1 v2 L B wr (Nat.le_trans hB hbl.size) hsz1 hv
      have Hc := Lib.hid hc
      clear hc hat
      go_wp2_with fail
      refine Hc.out.mono ?_
      rintro e w1 ⟨g1, rfl, hF1, hb1⟩
      have hu : UnV w1 (w.heap.size + 1) w1.heap.size (.int .i64 l[k].params) (.int .i64 l[k].regs) (.slice (some ⟨g1, 0, none⟩) l[k].l.length l[k].l.length) l[k] :=
        ⟨rfl, rfl, _, _, rfl, hF1.more (by have := hblk.lt; omega) (Nat.le_refl _)⟩
      have hblk1 := hblk.below hb1 hblk.lt
      have hsz := Hcs.out
      obtain ⟨x0, e0⟩ : ∃ v, cs[k * 3]? = some v := ⟨_, Array.getElem?_eq_getElem (by omega)⟩
      obtain ⟨x1, e1⟩ : ∃ v, cs[k * 3 + 1]? = some v := ⟨_, Array.getElem?_eq_getElem (by omega)⟩
      obtain ⟨x2, e2⟩ : ∃ v, cs[k * 3 + 2]? = some v := ⟨_, Array.getElem?_eq_getElem (by omega)⟩
      have q0 : w1.cell? ⟨w.heap.size, k * 3, none⟩ = some x0 := by rw [hblk1.cell]; exact e0
      have q1 : w1.cell? ⟨w.heap.size, k * 3 + 1, none⟩ = some x1 := by rw [hblk1.cell]; exact e1
      have q2 : w1.cell? ⟨w.heap.size, k * 3 + 2, none⟩ = some x2 := by rw [hblk1.cell]; exact e2
      have z0 : w1.frozen? ⟨w.heap.size, k * 3, none⟩ = false := hblk1.frozen _
      have z1 : w1.frozen? ⟨w.heap.size, k * 3 + 1, none⟩ = false := hblk1.frozen _
      have z2 : w1.frozen? ⟨w.heap.size, k * 3 + 2, none⟩ = false := hblk1.frozen _
      have hlt1 := hblk.lt
      have hbl1 := hbl.trans (hb1.mono hbl.size)
      have hfin := (Hown.out.mono (V' := UnV w1 (w.heap.size + 1) w1.heap.size) (fun _ _ _ _ hv => (UnV.keep hv (fun _ _ hp => hb1.cell hp)).more (Nat.le_refl _) hb1.size)).step hlt (by omega) hu
      have hfin2 := hfin.mono (V' := UnV (((w1.setCell ⟨w.heap.size, k * 3, none⟩ (.int .i64 l[k].params)).setCell ⟨w.heap.size, k * 3 + 1, none⟩ (.int .i64 l[k].regs)).setCell ⟨w.heap.size, k * 3 + 2, none⟩ (.slice (some ⟨g1, 0, none⟩) l[k].l.length l[k].l.length)) (w.heap.size + 1) w1.heap.size)
        (fun _ _ _ _ hv => UnV.keep hv (fun p hp _ => by
          rw [World.cell?_setCell_other _ _ _ _ (fun e => by subst e; simp at hp; omega), World.cell?_setCell_other _ _ _ _ (fun e => by subst e; simp at hp; omega), World.cell?_setCell_other _ _ _ _ (fun e => by subst e; simp at hp; omega)]))
      have Hfin := Lib.hid hfin2
      clear hsz e0 e1 e2 hfin hfin2 hu
      go_wp2
      go_roundw
      case rel =>
        exact ⟨k + 1, _, by omega, by go_num, by rw [pt3_size]; exact Hcs.out, hblk1.pt3 (k * 3) _ _ _ , by simpa only [World.size_setCell] using Hfin.out, ((hbl1.setCell (by simp) _).setCell (by simp) _).setCell (by simp) _⟩
      case measure => simp [intOf]; omega
    · go_wp2
      go_ret
      have : k = l.length := by omega
      subst this
      exact ⟨_, rfl, hblk.lt, Nat.le_refl _, Hown.out.row (by unfold maxLen; omega) hblk (Nat.le_refl _) |>.more (Nat.le_refl _) (Nat.le_refl _) (fun _ _ _ _ hv => UnV.more hv (by omega) (Nat.le_refl _)), hbl⟩

set_option maxHeartbeats 2000000 in
theorem toCode_c (l : List Un) (A : Option Addr) (c : Nat) (L B : Nat) (w : World) (hB : B ≤ w.heap.size) (hl : unsSz l ≤ 1048576) (hx : UnL w L B A l) :
    Calls Tryd.prog 28 #[.agg #[.slice A l.length c]] w fun e w' => ∃ g, e = .returned (.agg #[.slice (some ⟨g, 0, none⟩) l.length l.length]) ∧
      UnL w' w.heap.size w'.heap.size (some ⟨g, 0, none⟩) l ∧ Below w.heap.size w w' := by
  skip
  have hb0 : Below w.heap.size w (((w.alloc (.cells #[.slice A l.length c] 51)).alloc (.cells #[.slice none 0 0] 56)).alloc (.cells #[.slice none 0 0] 56)) := (((Below.refl _ _).alloc (Nat.le_refl _) _).alloc (by simp) _).alloc (by simp; omega) _
  go_enter Tryd.func28, Tryd.ntmps28
  go_wp2_with fail
  refine (toUnitS_c l A c L B _ (by simp; omega) hl (hx.below (hb0.mono hB))).mono ?_
  rintro e w1 ⟨g1, rfl, hs1, hg1, hx1, hb1⟩
  have K3 : Blk w1 (w.heap.size + 1 + 1) 56 #[.slice none 0 0] :=
    Blk.below (by have := Blk.new ((w.alloc (.cells #[.slice A l.length c] 51)).alloc (.cells #[.slice none 0 0] 56)) 56 #[.slice none 0 0]; simpa using this) hb1 (by simp)
  have K2 : Blk w1 (w.heap.size + 1) 56 #[.slice none 0 0] :=
    Blk.below ((by have := Blk.new (w.alloc (.cells #[.slice A l.length c] 51)) 56 #[.slice none 0 0]; simpa using this : Blk ((w.alloc (.cells #[.slice A l.length c] 51)).alloc (.cells #[.slice none 0 0] 56)) (w.heap.size + 1) 56 _).alloc _) hb1 (by simp)
  have hg1' : w.heap.size + 1 + 1 + 1 ≤ g1 := by simpa using hg1
  have hbw : Below w.heap.size w w1 := hb0.trans (hb1.mono (by simp; omega))
  have n0 := K3.cel 0 rfl
  have m0 := K2.cel 0 rfl
  have x0 : w1.frozen? ⟨w.heap.size + 1 + 1, 0, none⟩ = false := K3.frozen 0
  have y0 : w1.frozen? ⟨w.heap.size + 1, 0, none⟩ = false := K2.frozen 0
  have hs2 : w.heap.size + 1 + 1 < w1.heap.size := K3.lt
  have hx2 : UnL w1 (w.heap.size + 1 + 1 + 1) w1.heap.size (some ⟨g1, 0, none⟩) l := by simpa using hx1
  clear hb1 hg1 hx1 hx hb0 K3 K2
  go_wp2_with fail
  refine bodyPost_ret (v := .agg #[.slice (some ⟨g1, 0, none⟩) l.length l.length]) (by simp [results, Tryd.results28, go_sem, m0]) rfl
    ⟨g1, rfl, ?_, ?_⟩
  · refine (hx2.keep (fun p hp _ => ?_)).more (by omega) (by simp)
    rw [World.cell?_setCell_other _ _ _ _ (fun e => by subst e; simp at hp; omega), World.cell?_setCell_other _ _ _ _ (fun e => by subst e; simp at hp; omega)]
  · exact (hbw.setCell (by simp; omega) _).setCell (by simp) _
end Cod
end Go.Proofs.YtebgigiakfjocaaDoor
