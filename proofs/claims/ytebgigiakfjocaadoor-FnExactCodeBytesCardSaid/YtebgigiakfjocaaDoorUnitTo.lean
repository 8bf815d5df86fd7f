/-
  Units: the laws' own copy.
-/
import Derived.Test.YtebgigiakfjocaaDoorUnitSz
namespace Go.Proofs.YtebgigiakfjocaaDoor
open Go.RowKit
set_option linter.unusedVariables false
namespace Cod

set_option maxHeartbeats 2000000 in
theorem toIns_c (f : In) (v0 v1 v2 v3 v4 : Value) (L B : Nat) (w : World) (hB : B ≤ w.heap.size) (hl : inSz f ≤ 1048576) (hv : InV w L B v0 v1 v2 v3 v4 f) :
    Calls Tryd.prog 130 #[.agg #[v0, v1, v2, v3, v4]] w fun e w' => ∃ g, e = .returned (.agg #[.int .i64 f.op, .int .i64 f.a, .int .i64 f.b, .int .i64 f.c, .slice (some ⟨g, 0, none⟩) f.name.length f.name.length]) ∧
      Blk w' g 5 (vb f.name).toArray ∧ w.heap.size ≤ g ∧ g < w'.heap.size ∧ Below w.heap.size w w' := by
  obtain ⟨rfl, rfl, rfl, rfl, A, c, rfl, hR, hm⟩ := hv
  obtain ⟨op, a, b, c2, l⟩ := f
  unfold inSz at hl
  dsimp only at *
  have hb0 : Below w.heap.size w (((w.alloc (.cells #[.int .i64 op, .int .i64 a, .int .i64 b, .int .i64 c2, .slice A l.length c] 181)).alloc (.cells #[.int .i64 0, .int .i64 0, .int .i64 0, .int .i64 0, .slice none 0 0] 104)).alloc (.cells #[.int .i64 op, .int .i64 a, .int .i64 b, .int .i64 c2, .slice none 0 0] 104)) := (((Below.refl _ _).alloc (Nat.le_refl _) _).alloc (by simp) _).alloc (by simp; omega) _
  go_enter Tryd.func130, Tryd.ntmps130
  go_wp2_with fail
  refine (toByteS_c l A c B _ (by omega) (by simp; omega) (((hR.1.alloc hB _).alloc (by simp; omega) _).alloc (by simp; omega) _)).mono ?_
  rintro e w1 ⟨g1, rfl, hB1, hg1, hs1, hb1⟩
  have K3 : Blk w1 (w.heap.size + 1 + 1) 104 #[.int .i64 op, .int .i64 a, .int .i64 b, .int .i64 c2, .slice none 0 0] :=
    Blk.below (by have := Blk.new ((w.alloc (.cells #[.int .i64 op, .int .i64 a, .int .i64 b, .int .i64 c2, .slice A l.length c] 181)).alloc (.cells #[.int .i64 0, .int .i64 0, .int .i64 0, .int .i64 0, .slice none 0 0] 104)) 104 #[.int .i64 op, .int .i64 a, .int .i64 b, .int .i64 c2, .slice none 0 0]; simpa using this) hb1 (by simp)
  have K2 : Blk w1 (w.heap.size + 1) 104 #[.int .i64 0, .int .i64 0, .int .i64 0, .int .i64 0, .slice none 0 0] :=
    Blk.below ((by have := Blk.new (w.alloc (.cells #[.int .i64 op, .int .i64 a, .int .i64 b, .int .i64 c2, .slice A l.length c] 181)) 104 #[.int .i64 0, .int .i64 0, .int .i64 0, .int .i64 0, .slice none 0 0]; simpa using this : Blk ((w.alloc (.cells #[.int .i64 op, .int .i64 a, .int .i64 b, .int .i64 c2, .slice A l.length c] 181)).alloc (.cells #[.int .i64 0, .int .i64 0, .int .i64 0, .int .i64 0, .slice none 0 0] 104)) (w.heap.size + 1) 104 _).alloc _) hb1 (by simp)
  have hg1' : w.heap.size + 1 + 1 + 1 ≤ g1 := by simpa using hg1
  have hbw : Below w.heap.size w w1 := hb0.trans (hb1.mono (by simp; omega))
  have n0 := K3.cel 0 rfl
  have n1 := K3.cel 1 rfl
  have n2 := K3.cel 2 rfl
  have n3 := K3.cel 3 rfl
  have n4 := K3.cel 4 rfl
  have m0 := K2.cel 0 rfl
  have m1 := K2.cel 1 rfl
  have m2 := K2.cel 2 rfl
  have m3 := K2.cel 3 rfl
  have m4 := K2.cel 4 rfl
  have x4 : w1.frozen? ⟨w.heap.size + 1 + 1, 4, none⟩ = false := K3.frozen 4
  have y0 : w1.frozen? ⟨w.heap.size + 1, 0, none⟩ = false := K2.frozen 0
  have y1 : w1.frozen? ⟨w.heap.size + 1, 1, none⟩ = false := K2.frozen 1
  have y2 : w1.frozen? ⟨w.heap.size + 1, 2, none⟩ = false := K2.frozen 2
  have y3 : w1.frozen? ⟨w.heap.size + 1, 3, none⟩ = false := K2.frozen 3
  have y4 : w1.frozen? ⟨w.heap.size + 1, 4, none⟩ = false := K2.frozen 4
  have hs2 : w.heap.size + 1 + 1 < w1.heap.size := K3.lt
  clear hb1 hg1 hb0 K3 K2
  go_wp2_with fail
  refine bodyPost_ret (v := .agg #[.int .i64 op, .int .i64 a, .int .i64 b, .int .i64 c2, .slice (some ⟨g1, 0, none⟩) l.length l.length]) (by simp [results, Tryd.results130, go_sem, m0, m1, m2, m3, m4]) rfl
    ⟨g1, rfl, ?_, by omega, by simp; omega, ?_⟩
  · exact (((((hB1.far (by simp; omega) _).far (by simp; omega) _).far (by simp; omega) _).far (by simp; omega) _).far (by simp; omega) _).far (by simp; omega) _
  · exact (((((hbw.setCell (by simp; omega) _).setCell (by simp) _).setCell (by simp) _).setCell (by simp) _).setCell (by simp) _).setCell (by simp) _

theorem infoIns : (Tryd.prog.info? 104).map (fun i => (i.zero, i.size, i.bytes)) = some (some (.agg #[.int .i64 0, .int .i64 0, .int .i64 0, .int .i64 0, .slice none 0 0]), 5, 56) := by kernel_rfl
set_option maxHeartbeats 2000000 in
theorem toInsS_c (l : List In) (A : Option Addr) (c L B : Nat) (w : World) (hB : B ≤ w.heap.size) (hl : insSz l ≤ 1048576) (h : InL w L B A l) :
    Calls Tryd.prog 109 #[.slice A l.length c] w fun r w' => ∃ g, r = .returned (.slice (some ⟨g, 0, none⟩) l.length l.length) ∧ g < w'.heap.size ∧ w.heap.size ≤ g ∧ InL w' w.heap.size w'.heap.size (some ⟨g, 0, none⟩) l ∧ Below w.heap.size w w' := by
  obtain ⟨i0, hi, hz0, hz1, hz2⟩ := info_parts infoIns
  have hlen : l.length ≤ 1048576 := by unfold insSz at hl; omega
  have hmk : ∀ u : World, (Instr.makeSlice 100 (.int .i64 (l.length : Int)) (.int .i64 (l.length : Int))).run Tryd.prog u =
      .ok (.slice (some ⟨u.heap.size, 0, none⟩) l.length l.length) (u.alloc (.cells (madeCells #[.int .i64 0, .int .i64 0, .int .i64 0, .int .i64 0, .slice none 0 0] (l.length * 5)) 104)) := fun u => by
    have h := run_make (P := Tryd.prog) u 100 104 i0 (.agg #[.int .i64 0, .int .i64 0, .int .i64 0, .int .i64 0, .slice none 0 0]) Tryd.underlying100 hi hz0 .i64 .i64 (l.length : Int) (l.length : Int) (by omega) (Int.le_refl _) (by rw [hz2]; omega) (by omega)
    rw [Int.toNat_natCast] at h
    simpa [hz1, Value.cells] using h
  clear hi hz0 hz1 hz2
  go_enter Tryd.func109, Tryd.ntmps109
  go_wp2
  go_loopw [4] (fun i wr => ∃ (k : Nat) (cs : Array Value), k ≤ l.length ∧ i = .int .i64 k ∧ cs.size = l.length * 5 ∧ Blk wr w.heap.size 104 cs ∧ RowP5 (InV wr (w.heap.size + 1) wr.heap.size) cs l k ∧ Below w.heap.size w wr) (fun i _ => l.length - (intOf i).toNat)
  case atStart => exact ⟨0, _, Nat.zero_le _, rfl, by simp [madeCells], Blk.new _ _ _, fun i _ hk => by omega, (Below.refl _ _).alloc (Nat.le_refl _) _⟩
  case round =>
    obtain ⟨k, cs, hk, rfl, hcs, hblk, hown, hbl⟩ := hrel
    have Hcs := Lib.hid hcs
    have Hown := Lib.hid hown
    clear hcs hown
    by_cases hlt : k < l.length
    · obtain ⟨ad, rfl, _, hb, hat⟩ := (h.below (hbl.mono hB)).2 (by omega)
      obtain ⟨v0, v1, v2, v3, v4, ⟨c0, c1, c2, c3, c4⟩, hv⟩ := hat k hlt
      have hsz1 : inSz l[k] ≤ 1048576 := by have := sum_get inSz hlt; unfold insSz at hl; omega
      have hc := toIns_c l[k] v0 v1 v2 v3 v4 L B wr (Nat.le_trans hB hbl.size) hsz1 hv
      have Hc := Lib.hid hc
      clear hc hat
      go_wp2_with fail
      refine Hc.out.mono ?_
      rintro e w1 ⟨g1, rfl, hB1, hg1, hs1, hb1⟩
      have hmn : l[k].name.length ≤ maxLen := by unfold maxLen; unfold inSz at hsz1; omega
      have hu : InV w1 (w.heap.size + 1) w1.heap.size (.int .i64 l[k].op) (.int .i64 l[k].a) (.int .i64 l[k].b) (.int .i64 l[k].c) (.slice (some ⟨g1, 0, none⟩) l[k].name.length l[k].name.length) l[k] :=
        ⟨rfl, rfl, rfl, rfl, _, _, rfl, ⟨RB.of_blk hB1 hs1, fun _ => ⟨_, rfl, by show w.heap.size + 1 ≤ g1; have := hblk.lt; omega⟩⟩, hmn⟩
      have hblk1 := hblk.below hb1 hblk.lt
      have hsz := Hcs.out
      obtain ⟨x0, e0⟩ : ∃ v, cs[k * 5]? = some v := ⟨_, Array.getElem?_eq_getElem (by omega)⟩
      obtain ⟨x1, e1⟩ : ∃ v, cs[k * 5 + 1]? = some v := ⟨_, Array.getElem?_eq_getElem (by omega)⟩
      obtain ⟨x2, e2⟩ : ∃ v, cs[k * 5 + 2]? = some v := ⟨_, Array.getElem?_eq_getElem (by omega)⟩
      obtain ⟨x3, e3⟩ : ∃ v, cs[k * 5 + 3]? = some v := ⟨_, Array.getElem?_eq_getElem (by omega)⟩
      obtain ⟨x4, e4⟩ : ∃ v, cs[k * 5 + 4]? = some v := ⟨_, Array.getElem?_eq_getElem (by omega)⟩
      have q0 : w1.cell? ⟨w.heap.size, k * 5, none⟩ = some x0 := by rw [hblk1.cell]; exact e0
      have q1 : w1.cell? ⟨w.heap.size, k * 5 + 1, none⟩ = some x1 := by rw [hblk1.cell]; exact e1
      have q2 : w1.cell? ⟨w.heap.size, k * 5 + 2, none⟩ = some x2 := by rw [hblk1.cell]; exact e2
      have q3 : w1.cell? ⟨w.heap.size, k * 5 + 3, none⟩ = some x3 := by rw [hblk1.cell]; exact e3
      have q4 : w1.cell? ⟨w.heap.size, k * 5 + 4, none⟩ = some x4 := by rw [hblk1.cell]; exact e4
      have z0 : w1.frozen? ⟨w.heap.size, k * 5, none⟩ = false := hblk1.frozen _
      have z1 : w1.frozen? ⟨w.heap.size, k * 5 + 1, none⟩ = false := hblk1.frozen _
      have z2 : w1.frozen? ⟨w.heap.size, k * 5 + 2, none⟩ = false := hblk1.frozen _
      have z3 : w1.frozen? ⟨w.heap.size, k * 5 + 3, none⟩ = false := hblk1.frozen _
      have z4 : w1.frozen? ⟨w.heap.size, k * 5 + 4, none⟩ = false := hblk1.frozen _
      have hlt1 := hblk.lt
      have hbl1 := hbl.trans (hb1.mono hbl.size)
      have hfin := (Hown.out.mono (V' := InV w1 (w.heap.size + 1) w1.heap.size) (fun _ _ _ _ _ _ hv => (InV.keep hv (fun _ _ hp => hb1.cell hp)).more (Nat.le_refl _) hb1.size)).step hlt (by omega) hu
      have hfin2 := hfin.mono (V' := InV (((((w1.setCell ⟨w.heap.size, k * 5, none⟩ (.int .i64 l[k].op)).setCell ⟨w.heap.size, k * 5 + 1, none⟩ (.int .i64 l[k].a)).setCell ⟨w.heap.size, k * 5 + 2, none⟩ (.int .i64 l[k].b)).setCell ⟨w.heap.size, k * 5 + 3, none⟩ (.int .i64 l[k].c)).setCell ⟨w.heap.size, k * 5 + 4, none⟩ (.slice (some ⟨g1, 0, none⟩) l[k].name.length l[k].name.length)) (w.heap.size + 1) w1.heap.size)
        (fun _ _ _ _ _ _ hv => InV.keep hv (fun p hp _ => by
          rw [World.cell?_setCell_other _ _ _ _ (fun e => by subst e; simp at hp; omega), World.cell?_setCell_other _ _ _ _ (fun e => by subst e; simp at hp; omega), World.cell?_setCell_other _ _ _ _ (fun e => by subst e; simp at hp; omega), World.cell?_setCell_other _ _ _ _ (fun e => by subst e; simp at hp; omega), World.cell?_setCell_other _ _ _ _ (fun e => by subst e; simp at hp; omega)]))
      have Hfin := Lib.hid hfin2
      clear hsz e0 e1 e2 e3 e4 hfin hfin2 hu
      go_wp2
      go_roundw
      case rel =>
        exact ⟨k + 1, _, by omega, by go_num, by rw [pt5_size]; exact Hcs.out, hblk1.pt5 (k * 5) _ _ _ _ _ , by simpa only [World.size_setCell] using Hfin.out, ((((hbl1.setCell (by simp) _).setCell (by simp) _).setCell (by simp) _).setCell (by simp) _).setCell (by simp) _⟩
      case measure => simp [intOf]; omega
    · go_wp2
      go_ret
      have : k = l.length := by omega
      subst this
      exact ⟨_, rfl, hblk.lt, Nat.le_refl _, Hown.out.row (by unfold maxLen; omega) hblk (Nat.le_refl _) |>.more (Nat.le_refl _) (Nat.le_refl _) (fun _ _ _ _ _ _ hv => InV.more hv (by omega) (Nat.le_refl _)), hbl⟩

set_option maxHeartbeats 2000000 in
theorem toUnit_c (f : Un) (v0 v1 v2 : Value) (L B : Nat) (w : World) (hB : B ≤ w.heap.size) (hl : unSz f ≤ 1048576) (hv : UnV w L B v0 v1 v2 f) :
    Calls Tryd.prog 87 #[.agg #[v0, v1, v2]] w fun e w' => ∃ g, e = .returned (.agg #[.int .i64 f.params, .int .i64 f.regs, .slice (some ⟨g, 0, none⟩) f.l.length f.l.length]) ∧
      InL w' w.heap.size w'.heap.size (some ⟨g, 0, none⟩) f.l ∧ Below w.heap.size w w' := by
  obtain ⟨rfl, rfl, A, c, rfl, hx⟩ := hv
  obtain ⟨pm, rg, l⟩ := f
  unfold unSz at hl
  dsimp only at *
  have hb0 : Below w.heap.size w (((w.alloc (.cells #[.int .i64 pm, .int .i64 rg, .slice A l.length c] 139)).alloc (.cells #[.int .i64 0, .int .i64 0, .slice none 0 0] 102)).alloc (.cells #[.int .i64 pm, .int .i64 rg, .slice none 0 0] 102)) := (((Below.refl _ _).alloc (Nat.le_refl _) _).alloc (by simp) _).alloc (by simp; omega) _
  go_enter Tryd.func87, Tryd.ntmps87
  go_wp2_with fail
  refine (toInsS_c l A c L B _ (by simp; omega) hl (hx.below (hb0.mono hB))).mono ?_
  rintro e w1 ⟨g1, rfl, hs1, hg1, hx1, hb1⟩
  have K3 : Blk w1 (w.heap.size + 1 + 1) 102 #[.int .i64 pm, .int .i64 rg, .slice none 0 0] :=
    Blk.below (by have := Blk.new ((w.alloc (.cells #[.int .i64 pm, .int .i64 rg, .slice A l.length c] 139)).alloc (.cells #[.int .i64 0, .int .i64 0, .slice none 0 0] 102)) 102 #[.int .i64 pm, .int .i64 rg, .slice none 0 0]; simpa using this) hb1 (by simp)
  have K2 : Blk w1 (w.heap.size + 1) 102 #[.int .i64 0, .int .i64 0, .slice none 0 0] :=
    Blk.below ((by have := Blk.new (w.alloc (.cells #[.int .i64 pm, .int .i64 rg, .slice A l.length c] 139)) 102 #[.int .i64 0, .int .i64 0, .slice none 0 0]; simpa using this : Blk ((w.alloc (.cells #[.int .i64 pm, .int .i64 rg, .slice A l.length c] 139)).alloc (.cells #[.int .i64 0, .int .i64 0, .slice none 0 0] 102)) (w.heap.size + 1) 102 _).alloc _) hb1 (by simp)
  have hg1' : w.heap.size + 1 + 1 + 1 ≤ g1 := by simpa using hg1
  have hbw : Below w.heap.size w w1 := hb0.trans (hb1.mono (by simp; omega))
  have n0 := K3.cel 0 rfl
  have n1 := K3.cel 1 rfl
  have n2 := K3.cel 2 rfl
  have m0 := K2.cel 0 rfl
  have m1 := K2.cel 1 rfl
  have m2 := K2.cel 2 rfl
  have x2 : w1.frozen? ⟨w.heap.size + 1 + 1, 2, none⟩ = false := K3.frozen 2
  have y0 : w1.frozen? ⟨w.heap.size + 1, 0, none⟩ = false := K2.frozen 0
  have y1 : w1.frozen? ⟨w.heap.size + 1, 1, none⟩ = false := K2.frozen 1
  have y2 : w1.frozen? ⟨w.heap.size + 1, 2, none⟩ = false := K2.frozen 2
  have hs2 : w.heap.size + 1 + 1 < w1.heap.size := K3.lt
  have hx2 : InL w1 (w.heap.size + 1 + 1 + 1) w1.heap.size (some ⟨g1, 0, none⟩) l := by simpa using hx1
  clear hb1 hg1 hx1 hx hb0 K3 K2
  go_wp2_with fail
  refine bodyPost_ret (v := .agg #[.int .i64 pm, .int .i64 rg, .slice (some ⟨g1, 0, none⟩) l.length l.length]) (by simp [results, Tryd.results87, go_sem, m0, m1, m2]) rfl
    ⟨g1, rfl, ?_, ?_⟩
  · refine (hx2.keep (fun p hp _ => ?_)).more (by omega) (by simp)
    rw [World.cell?_setCell_other _ _ _ _ (fun e => by subst e; simp at hp; omega), World.cell?_setCell_other _ _ _ _ (fun e => by subst e; simp at hp; omega), World.cell?_setCell_other _ _ _ _ (fun e => by subst e; simp at hp; omega), World.cell?_setCell_other _ _ _ _ (fun e => by subst e; simp at hp; omega)]
  · exact (((hbw.setCell (by simp; omega) _).setCell (by simp) _).setCell (by simp) _).setCell (by simp) _
end Cod
end Go.Proofs.YtebgigiakfjocaaDoor
