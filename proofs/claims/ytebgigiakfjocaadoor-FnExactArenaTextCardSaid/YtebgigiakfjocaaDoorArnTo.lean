/-
  Arenas: the laws' own copy.
-/
import Derived.Test.YtebgigiakfjocaaDoorArnSz
namespace Go.Proofs.YtebgigiakfjocaaDoor
open Go.RowKit
set_option linter.unusedVariables false

set_option maxHeartbeats 1000000 in
theorem toVal_c (k n g : Int) (w : World) :
    Calls Tryd.prog 134 #[.agg #[.int .i64 k, .int .i64 n, .int .i64 g]] w fun e w' => e = .returned (.agg #[.int .i64 k, .int .i64 n, .int .i64 g]) ∧ Below w.heap.size w w' := by
  go_enter Tryd.func134, Tryd.ntmps134
  go_wp2
  refine bodyPost_ret (v := .agg #[.int .i64 k, .int .i64 n, .int .i64 g]) (by simp [results, Tryd.results134, go_sem]) rfl ⟨rfl, ?_⟩
  have hb0 : Below w.heap.size w (((w.alloc (.cells #[.int .i64 k, .int .i64 n, .int .i64 g] 167)).alloc (.cells #[.int .i64 k, .int .i64 n, .int .i64 g] 74)).alloc (.cells #[.int .i64 k, .int .i64 n, .int .i64 g] 74)) := (((Below.refl _ _).alloc (Nat.le_refl _) _).alloc (by simp) _).alloc (by simp; omega) _
  exact hb0

theorem infoFd : (Tryd.prog.info? 76).map (fun i => (i.zero, i.size, i.bytes)) = some (some (.agg #[.slice none 0 0, .int .i64 0, .int .i64 0, .int .i64 0]), 4, 48) := by kernel_rfl
theorem infoSl : (Tryd.prog.info? 72).map (fun i => (i.zero, i.size, i.bytes)) = some (some (.agg #[.bool false, .int .i64 0, .int .i64 0, .slice none 0 0]), 4, 48) := by kernel_rfl
theorem infoI : (Tryd.prog.info? 3).map (fun i => (i.zero, i.size, i.bytes)) = some (some (.int .i64 0), 1, 8) := by kernel_rfl

set_option maxHeartbeats 1000000 in
theorem toField_c (f : Fd) (v0 v1 v2 v3 : Value) (L B : Nat) (w : World) (hB : B ≤ w.heap.size) (hl : fdSz f ≤ 1048576) (hv : FdV w L B v0 v1 v2 v3 f) :
    Calls Tryd.prog 115 #[.agg #[v0, v1, v2, v3]] w fun e w' => ∃ g, e = .returned (.agg #[.slice (some ⟨g, 0, none⟩) f.name.length f.name.length, .int .i64 f.k, .int .i64 f.n, .int .i64 f.g]) ∧
      Blk w' g 5 (vb f.name).toArray ∧ w.heap.size ≤ g ∧ g < w'.heap.size ∧ Below w.heap.size w w' := by
  obtain ⟨A, c, rfl, hR, hm, rfl, rfl, rfl⟩ := hv
  obtain ⟨l, k, n, gn⟩ := f
  unfold fdSz at hl
  dsimp only at *
  go_enter Tryd.func115, Tryd.ntmps115
  go_wp2_with fail
  refine (toByteS_c l A c B _ (by omega) (by simp; omega) (((hR.1.alloc hB _).alloc (by simp; omega) _).alloc (by simp; omega) _)).mono ?_
  rintro e w1 ⟨g1, rfl, hB1, hg1, hs1, hb1⟩
  have K3 : Blk w1 (w.heap.size + 1 + 1) 76 #[.slice none 0 0, .int .i64 0, .int .i64 0, .int .i64 0] :=
    Blk.below (by have := Blk.new ((w.alloc (.cells #[.slice A l.length c, .int .i64 k, .int .i64 n, .int .i64 gn] 169)).alloc (.cells #[.slice none 0 0, .int .i64 0, .int .i64 0, .int .i64 0] 76)) 76 #[.slice none 0 0, .int .i64 0, .int .i64 0, .int .i64 0]; simpa using this) hb1 (by simp)
  have K2 : Blk w1 (w.heap.size + 1) 76 #[.slice none 0 0, .int .i64 0, .int .i64 0, .int .i64 0] :=
    Blk.below ((by have := Blk.new (w.alloc (.cells #[.slice A l.length c, .int .i64 k, .int .i64 n, .int .i64 gn] 169)) 76 #[.slice none 0 0, .int .i64 0, .int .i64 0, .int .i64 0]; simpa using this : Blk ((w.alloc (.cells #[.slice A l.length c, .int .i64 k, .int .i64 n, .int .i64 gn] 169)).alloc (.cells #[.slice none 0 0, .int .i64 0, .int .i64 0, .int .i64 0] 76)) (w.heap.size + 1) 76 _).alloc _) hb1 (by simp)
  have K0 : Blk w1 w.heap.size 169 #[.slice A l.length c, .int .i64 k, .int .i64 n, .int .i64 gn] :=
    Blk.below (((Blk.new w 169 _).alloc _).alloc _) hb1 (by simp; omega)
  have hg1' : w.heap.size + 1 + 1 + 1 ≤ g1 := by simpa using hg1
  have hbw : Below w.heap.size w w1 := ((((Below.refl _ _).alloc (Nat.le_refl _) _).alloc (by simp) _).alloc (by simp; omega) _).trans (hb1.mono (by simp; omega))
  have a1 := K0.cel 1 rfl
  have a2 := K0.cel 2 rfl
  have a3 := K0.cel 3 rfl
  have n0 := K3.cel 0 rfl
  have fz0 : w1.frozen? ⟨w.heap.size + 1 + 1, 0, none⟩ = false := K3.frozen 0
  clear hb1 hg1
  go_wp2_with fail
  obtain ⟨W1, hW1⟩ : ∃ W1, W1 = w1.setCell ⟨w.heap.size + 1 + 1, 0, none⟩ (.slice (some ⟨g1, 0, none⟩) l.length l.length) := ⟨_, rfl⟩
  have KA := (K3.set_ 0 (.slice (some ⟨g1, 0, none⟩) l.length l.length))
  have KB := (K2.far (p := ⟨w.heap.size + 1 + 1, 0, none⟩) (by simp) (.slice (some ⟨g1, 0, none⟩) l.length l.length))
  have hB1' := (hB1.far (p := ⟨w.heap.size + 1 + 1, 0, none⟩) (by simp; omega) (.slice (some ⟨g1, 0, none⟩) l.length l.length))
  have hbW := hbw.setCell (p := ⟨w.heap.size + 1 + 1, 0, none⟩) (by simp; omega) (.slice (some ⟨g1, 0, none⟩) l.length l.length)
  have hsz : W1.heap.size = w1.heap.size := by rw [hW1]; simp
  rw [← hW1] at KA KB hB1' hbW
  rw [← hW1]
  clear hW1
  refine (toVal_c k n gn W1).mono ?_
  rintro e w2 ⟨rfl, hb2⟩
  have KA2 := KA.below hb2 KA.lt
  have KB2 := KB.below hb2 KB.lt
  have hB2 := hB1'.below hb2 hB1'.lt
  have hbw2 := hbW.trans (hb2.mono hbW.size)
  have n0 := KA2.cel 0 rfl
  have n1 := KA2.cel 1 rfl
  have n2 := KA2.cel 2 rfl
  have n3 := KA2.cel 3 rfl
  have m0 := KB2.cel 0 rfl
  have m1 := KB2.cel 1 rfl
  have m2 := KB2.cel 2 rfl
  have m3 := KB2.cel 3 rfl
  have x0 : w2.frozen? ⟨w.heap.size + 1 + 1, 0, none⟩ = false := KA2.frozen 0
  have x1 : w2.frozen? ⟨w.heap.size + 1 + 1, 1, none⟩ = false := KA2.frozen 1
  have x2 : w2.frozen? ⟨w.heap.size + 1 + 1, 2, none⟩ = false := KA2.frozen 2
  have x3 : w2.frozen? ⟨w.heap.size + 1 + 1, 3, none⟩ = false := KA2.frozen 3
  have y0 : w2.frozen? ⟨w.heap.size + 1, 0, none⟩ = false := KB2.frozen 0
  have y1 : w2.frozen? ⟨w.heap.size + 1, 1, none⟩ = false := KB2.frozen 1
  have y2 : w2.frozen? ⟨w.heap.size + 1, 2, none⟩ = false := KB2.frozen 2
  have y3 : w2.frozen? ⟨w.heap.size + 1, 3, none⟩ = false := KB2.frozen 3
  have hs2 : w1.heap.size ≤ w2.heap.size := by have := hb2.size; omega
  clear hb2 a1 a2 a3 K0 K2 K3 hbW
  go_wp2_with fail
  refine bodyPost_ret (v := .agg #[.slice (some ⟨g1, 0, none⟩) l.length l.length, .int .i64 k, .int .i64 n, .int .i64 gn]) (by simp [results, Tryd.results115, go_sem, m0, m1, m2, m3]) rfl
    ⟨g1, rfl, ?_, by omega, by simp; omega, ?_⟩
  · exact ((((((hB2.far (by simp; omega) _).far (by simp; omega) _).far (by simp; omega) _).far (by simp; omega) _).far (by simp; omega) _).far (by simp; omega) _).far (by simp; omega) _
  · exact ((((((hbw2.setCell (by simp; omega) _).setCell (by simp; omega) _).setCell (by simp; omega) _).setCell (by simp) _).setCell (by simp) _).setCell (by simp) _).setCell (by simp) _

set_option maxHeartbeats 2000000 in
theorem toFieldS_c (l : List Fd) (A : Option Addr) (c L B : Nat) (w : World) (hB : B ≤ w.heap.size) (hl : fsSz l ≤ 1048576) (h : FdL w L B A l) :
    Calls Tryd.prog 97 #[.slice A l.length c] w fun r w' => ∃ g, r = .returned (.slice (some ⟨g, 0, none⟩) l.length l.length) ∧ g < w'.heap.size ∧ w.heap.size ≤ g ∧ FdL w' w.heap.size w'.heap.size (some ⟨g, 0, none⟩) l ∧ Below w.heap.size w w' := by
  obtain ⟨i0, hi, hz0, hz1, hz2⟩ := info_parts infoFd
  have hlen : l.length ≤ 1048576 := by unfold fsSz at hl; omega
  have hmk : ∀ u : World, (Instr.makeSlice 70 (.int .i64 (l.length : Int)) (.int .i64 (l.length : Int))).run Tryd.prog u =
      .ok (.slice (some ⟨u.heap.size, 0, none⟩) l.length l.length) (u.alloc (.cells (madeCells #[.slice none 0 0, .int .i64 0, .int .i64 0, .int .i64 0] (l.length * 4)) 76)) := fun u => by
    have h := run_make (P := Tryd.prog) u 70 76 i0 (.agg #[.slice none 0 0, .int .i64 0, .int .i64 0, .int .i64 0]) Tryd.underlying70 hi hz0 .i64 .i64 (l.length : Int) (l.length : Int) (by omega) (Int.le_refl _) (by rw [hz2]; omega) (by omega)
    rw [Int.toNat_natCast] at h
    simpa [hz1, Value.cells] using h
  clear hi hz0 hz1 hz2
  go_enter Tryd.func97, Tryd.ntmps97
  go_wp2
  go_loopw [4] (fun i wr => ∃ (k : Nat) (cs : Array Value), k ≤ l.length ∧ i = .int .i64 k ∧ cs.size = l.length * 4 ∧ Blk wr w.heap.size 76 cs ∧ RowP (FdV wr (w.heap.size + 1) wr.heap.size) cs l k ∧ Below w.heap.size w wr) (fun i _ => l.length - (intOf i).toNat)
  case atStart => exact ⟨0, _, Nat.zero_le _, rfl, by simp [madeCells], Blk.new _ _ _, fun i _ hk => by omega, (Below.refl _ _).alloc (Nat.le_refl _) _⟩
  case round =>
    obtain ⟨k, cs, hk, rfl, hcs, hblk, hown, hbl⟩ := hrel
    have Hcs := Lib.hid hcs
    have Hown := Lib.hid hown
    clear hcs hown
    by_cases hlt : k < l.length
    · obtain ⟨ad, rfl, _, hb, hat⟩ := (h.below (hbl.mono hB)).2 (by omega)
      obtain ⟨v0, v1, v2, v3, ⟨c0, c1, c2, c3⟩, hv⟩ := hat k hlt
      have hsz1 : fdSz l[k] ≤ 1048576 := by have := sum_get fdSz hlt; unfold fsSz at hl; omega
      have hc := toField_c l[k] v0 v1 v2 v3 L B wr (Nat.le_trans hB hbl.size) hsz1 hv
      have Hc := Lib.hid hc
      clear hc hat
      go_wp2_with fail
      refine Hc.out.mono ?_
      rintro e w1 ⟨g1, rfl, hB1, hg1, hs1, hb1⟩
      have hmn : l[k].name.length ≤ maxLen := by unfold maxLen; unfold fdSz at hsz1; omega
      have hu : FdV w1 (w.heap.size + 1) w1.heap.size (.slice (some ⟨g1, 0, none⟩) l[k].name.length l[k].name.length) (.int .i64 l[k].k) (.int .i64 l[k].n) (.int .i64 l[k].g) l[k] :=
        ⟨_, _, rfl, ⟨RB.of_blk hB1 hs1, fun _ => ⟨_, rfl, by show w.heap.size + 1 ≤ g1; have := hblk.lt; omega⟩⟩, hmn, rfl, rfl, rfl⟩
      have hblk1 := hblk.below hb1 hblk.lt
      have hsz := Hcs.out
      obtain ⟨x0, e0⟩ : ∃ v, cs[k * 4]? = some v := ⟨_, Array.getElem?_eq_getElem (by omega)⟩
      obtain ⟨x1, e1⟩ : ∃ v, cs[k * 4 + 1]? = some v := ⟨_, Array.getElem?_eq_getElem (by omega)⟩
      obtain ⟨x2, e2⟩ : ∃ v, cs[k * 4 + 2]? = some v := ⟨_, Array.getElem?_eq_getElem (by omega)⟩
      obtain ⟨x3, e3⟩ : ∃ v, cs[k * 4 + 3]? = some v := ⟨_, Array.getElem?_eq_getElem (by omega)⟩
      have q0 : w1.cell? ⟨w.heap.size, k * 4, none⟩ = some x0 := by rw [hblk1.cell]; exact e0
      have q1 : w1.cell? ⟨w.heap.size, k * 4 + 1, none⟩ = some x1 := by rw [hblk1.cell]; exact e1
      have q2 : w1.cell? ⟨w.heap.size, k * 4 + 2, none⟩ = some x2 := by rw [hblk1.cell]; exact e2
      have q3 : w1.cell? ⟨w.heap.size, k * 4 + 3, none⟩ = some x3 := by rw [hblk1.cell]; exact e3
      have z0 : w1.frozen? ⟨w.heap.size, k * 4, none⟩ = false := hblk1.frozen _
      have z1 : w1.frozen? ⟨w.heap.size, k * 4 + 1, none⟩ = false := hblk1.frozen _
      have z2 : w1.frozen? ⟨w.heap.size, k * 4 + 2, none⟩ = false := hblk1.frozen _
      have z3 : w1.frozen? ⟨w.heap.size, k * 4 + 3, none⟩ = false := hblk1.frozen _
      have hlt1 := hblk.lt
      have hbl1 := hbl.trans (hb1.mono hbl.size)
      have hfin := (Hown.out.mono (V' := FdV w1 (w.heap.size + 1) w1.heap.size) (fun _ _ _ _ _ hv => (FdV.keep hv (fun _ _ hp => hb1.cell hp)).more (Nat.le_refl _) hb1.size)).step hlt (by omega) hu
      have hfin2 := hfin.mono (V' := FdV ((((w1.setCell ⟨w.heap.size, k * 4, none⟩ (.slice (some ⟨g1, 0, none⟩) l[k].name.length l[k].name.length)).setCell ⟨w.heap.size, k * 4 + 1, none⟩ (.int .i64 l[k].k)).setCell ⟨w.heap.size, k * 4 + 2, none⟩ (.int .i64 l[k].n)).setCell ⟨w.heap.size, k * 4 + 3, none⟩ (.int .i64 l[k].g)) (w.heap.size + 1) w1.heap.size)
        (fun _ _ _ _ _ hv => FdV.keep hv (fun p hp _ => by
          rw [World.cell?_setCell_other _ _ _ _ (fun e => by subst e; simp at hp; omega), World.cell?_setCell_other _ _ _ _ (fun e => by subst e; simp at hp; omega), World.cell?_setCell_other _ _ _ _ (fun e => by subst e; simp at hp; omega), World.cell?_setCell_other _ _ _ _ (fun e => by subst e; simp at hp; omega)]))
      have Hfin := Lib.hid hfin2
      clear hsz e0 e1 e2 e3 hfin hfin2 hu
      go_wp2
      go_roundw
      case rel =>
        exact ⟨k + 1, _, by omega, by go_num, by rw [pt4_size]; exact Hcs.out, hblk1.pt4 (k * 4) _ _ _ _, by simpa only [World.size_setCell] using Hfin.out, (((hbl1.setCell (by simp) _).setCell (by simp) _).setCell (by simp) _).setCell (by simp) _⟩
      case measure => simp [intOf]; omega
    · go_wp2
      go_ret
      have : k = l.length := by omega
      subst this
      exact ⟨_, rfl, hblk.lt, Nat.le_refl _, Hown.out.row (by unfold maxLen; omega) hblk (Nat.le_refl _) |>.more (Nat.le_refl _) (Nat.le_refl _) (fun _ _ _ _ _ hv => FdV.more hv (by omega) (Nat.le_refl _)), hbl⟩

set_option maxHeartbeats 2000000 in
theorem toSlot_c (f : Sl) (v0 v1 v2 v3 : Value) (L B : Nat) (w : World) (hB : B ≤ w.heap.size) (hl : slSz f ≤ 1048576) (hv : SlV w L B v0 v1 v2 v3 f) :
    Calls Tryd.prog 74 #[.agg #[v0, v1, v2, v3]] w fun e w' => ∃ g, e = .returned (.agg #[.bool f.live, .int .i64 f.gen, .int .i64 f.count, .slice (some ⟨g, 0, none⟩) f.fs.length f.fs.length]) ∧
      FdL w' w.heap.size w'.heap.size (some ⟨g, 0, none⟩) f.fs ∧ Below w.heap.size w w' := by
  obtain ⟨rfl, rfl, rfl, A, c, rfl, hx⟩ := hv
  obtain ⟨lv, gn, ct, l⟩ := f
  unfold slSz at hl
  dsimp only at *
  have hb0 : Below w.heap.size w (((w.alloc (.cells #[.bool lv, .int .i64 gn, .int .i64 ct, .slice A l.length c] 128)).alloc (.cells #[.bool false, .int .i64 0, .int .i64 0, .slice none 0 0] 72)).alloc (.cells #[.bool lv, .int .i64 gn, .int .i64 ct, .slice none 0 0] 72)) := (((Below.refl _ _).alloc (Nat.le_refl _) _).alloc (by simp) _).alloc (by simp; omega) _
  have hx0 := hx.below (hb0.mono hB)
  go_enter Tryd.func74, Tryd.ntmps74
  go_wp2_with fail
  refine (toFieldS_c l A c L B _ (by simp; omega) hl hx0).mono ?_
  rintro e w1 ⟨g1, rfl, hs1, hg1, hx1, hb1⟩
  have K3 : Blk w1 (w.heap.size + 1 + 1) 72 #[.bool lv, .int .i64 gn, .int .i64 ct, .slice none 0 0] :=
    Blk.below (by have := Blk.new ((w.alloc (.cells #[.bool lv, .int .i64 gn, .int .i64 ct, .slice A l.length c] 128)).alloc (.cells #[.bool false, .int .i64 0, .int .i64 0, .slice none 0 0] 72)) 72 #[.bool lv, .int .i64 gn, .int .i64 ct, .slice none 0 0]; simpa using this) hb1 (by simp)
  have K2 : Blk w1 (w.heap.size + 1) 72 #[.bool false, .int .i64 0, .int .i64 0, .slice none 0 0] :=
    Blk.below ((by have := Blk.new (w.alloc (.cells #[.bool lv, .int .i64 gn, .int .i64 ct, .slice A l.length c] 128)) 72 #[.bool false, .int .i64 0, .int .i64 0, .slice none 0 0]; simpa using this : Blk ((w.alloc (.cells #[.bool lv, .int .i64 gn, .int .i64 ct, .slice A l.length c] 128)).alloc (.cells #[.bool false, .int .i64 0, .int .i64 0, .slice none 0 0] 72)) (w.heap.size + 1) 72 _).alloc _) hb1 (by simp)
  have hg1' : w.heap.size + 1 + 1 + 1 ≤ g1 := by simpa using hg1
  have hbw : Below w.heap.size w w1 := hb0.trans (hb1.mono (by simp; omega))
  have n0 := K3.cel 0 rfl
  have n1 := K3.cel 1 rfl
  have n2 := K3.cel 2 rfl
  have n3 := K3.cel 3 rfl
  have m0 := K2.cel 0 rfl
  have m1 := K2.cel 1 rfl
  have m2 := K2.cel 2 rfl
  have m3 := K2.cel 3 rfl
  have x3 : w1.frozen? ⟨w.heap.size + 1 + 1, 3, none⟩ = false := K3.frozen 3
  have y0 : w1.frozen? ⟨w.heap.size + 1, 0, none⟩ = false := K2.frozen 0
  have y1 : w1.frozen? ⟨w.heap.size + 1, 1, none⟩ = false := K2.frozen 1
  have y2 : w1.frozen? ⟨w.heap.size + 1, 2, none⟩ = false := K2.frozen 2
  have y3 : w1.frozen? ⟨w.heap.size + 1, 3, none⟩ = false := K2.frozen 3
  have hs2 : w.heap.size + 1 + 1 < w1.heap.size := K3.lt
  have hx2 : FdL w1 (w.heap.size + 1 + 1 + 1) w1.heap.size (some ⟨g1, 0, none⟩) l := by simpa using hx1
  clear hb1 hg1 hx1 hx hx0 hb0 K3 K2
  go_wp2_with fail
  refine bodyPost_ret (v := .agg #[.bool lv, .int .i64 gn, .int .i64 ct, .slice (some ⟨g1, 0, none⟩) l.length l.length]) (by simp [results, Tryd.results74, go_sem, m0, m1, m2, m3]) rfl
    ⟨g1, rfl, ?_, ?_⟩
  · refine (hx2.keep (fun p hp _ => ?_)).more (by omega) (by simp)
    rw [World.cell?_setCell_other _ _ _ _ (fun e => by subst e; simp at hp; omega), World.cell?_setCell_other _ _ _ _ (fun e => by subst e; simp at hp; omega), World.cell?_setCell_other _ _ _ _ (fun e => by subst e; simp at hp; omega), World.cell?_setCell_other _ _ _ _ (fun e => by subst e; simp at hp; omega), World.cell?_setCell_other _ _ _ _ (fun e => by subst e; simp at hp; omega)]
  · exact ((((hbw.setCell (by simp; omega) _).setCell (by simp) _).setCell (by simp) _).setCell (by simp) _).setCell (by simp) _

set_option maxHeartbeats 2000000 in
theorem toSlotS_c (l : List Sl) (A : Option Addr) (c L B : Nat) (w : World) (hB : B ≤ w.heap.size) (hl : slsSz l ≤ 1048576) (h : SlL w L B A l) :
    Calls Tryd.prog 42 #[.slice A l.length c] w fun r w' => ∃ g, r = .returned (.slice (some ⟨g, 0, none⟩) l.length l.length) ∧ g < w'.heap.size ∧ w.heap.size ≤ g ∧ SlL w' w.heap.size w'.heap.size (some ⟨g, 0, none⟩) l ∧ Below w.heap.size w w' := by
  obtain ⟨i0, hi, hz0, hz1, hz2⟩ := info_parts infoSl
  have hlen : l.length ≤ 1048576 := by unfold slsSz at hl; omega
  have hmk : ∀ u : World, (Instr.makeSlice 29 (.int .i64 (l.length : Int)) (.int .i64 (l.length : Int))).run Tryd.prog u =
      .ok (.slice (some ⟨u.heap.size, 0, none⟩) l.length l.length) (u.alloc (.cells (madeCells #[.bool false, .int .i64 0, .int .i64 0, .slice none 0 0] (l.length * 4)) 72)) := fun u => by
    have h := run_make (P := Tryd.prog) u 29 72 i0 (.agg #[.bool false, .int .i64 0, .int .i64 0, .slice none 0 0]) Tryd.underlying29 hi hz0 .i64 .i64 (l.length : Int) (l.length : Int) (by omega) (Int.le_refl _) (by rw [hz2]; omega) (by omega)
    rw [Int.toNat_natCast] at h
    simpa [hz1, Value.cells] using h
  clear hi hz0 hz1 hz2
  go_enter Tryd.func42, Tryd.ntmps42
  go_wp2
  go_loopw [4] (fun i wr => ∃ (k : Nat) (cs : Array Value), k ≤ l.length ∧ i = .int .i64 k ∧ cs.size = l.length * 4 ∧ Blk wr w.heap.size 72 cs ∧ RowP (SlV wr (w.heap.size + 1) wr.heap.size) cs l k ∧ Below w.heap.size w wr) (fun i _ => l.length - (intOf i).toNat)
  case atStart => exact ⟨0, _, Nat.zero_le _, rfl, by simp [madeCells], Blk.new _ _ _, fun i _ hk => by omega, (Below.refl _ _).alloc (Nat.le_refl _) _⟩
  case round =>
    obtain ⟨k, cs, hk, rfl, hcs, hblk, hown, hbl⟩ := hrel
    have Hcs := Lib.hid hcs
    have Hown := Lib.hid hown
    clear hcs hown
    by_cases hlt : k < l.length
    · obtain ⟨ad, rfl, _, hb, hat⟩ := (h.below (hbl.mono hB)).2 (by omega)
      obtain ⟨v0, v1, v2, v3, ⟨c0, c1, c2, c3⟩, hv⟩ := hat k hlt
      have hsz1 : slSz l[k] ≤ 1048576 := by have := sum_get slSz hlt; unfold slsSz at hl; omega
      have hc := toSlot_c l[k] v0 v1 v2 v3 L B wr (Nat.le_trans hB hbl.size) hsz1 hv
      have Hc := Lib.hid hc
      clear hc hat
      go_wp2_with fail
      refine Hc.out.mono ?_
      rintro e w1 ⟨g1, rfl, hF1, hb1⟩
      have hu : SlV w1 (w.heap.size + 1) w1.heap.size (.bool l[k].live) (.int .i64 l[k].gen) (.int .i64 l[k].count) (.slice (some ⟨g1, 0, none⟩) l[k].fs.length l[k].fs.length) l[k] :=
        ⟨rfl, rfl, rfl, _, _, rfl, hF1.more (by have := hblk.lt; omega) (Nat.le_refl _)⟩
      have hblk1 := hblk.below hb1 hblk.lt
      have hsz := Hcs.out
      obtain ⟨x0, e0⟩ : ∃ v, cs[k * 4]? = some v := ⟨_, Array.getElem?_eq_getElem (by omega)⟩
      obtain ⟨x1, e1⟩ : ∃ v, cs[k * 4 + 1]? = some v := ⟨_, Array.getElem?_eq_getElem (by omega)⟩
      obtain ⟨x2, e2⟩ : ∃ v, cs[k * 4 + 2]? = some v := ⟨_, Array.getElem?_eq_getElem (by omega)⟩
      obtain ⟨x3, e3⟩ : ∃ v, cs[k * 4 + 3]? = some v := ⟨_, Array.getElem?_eq_getElem (by omega)⟩
      have q0 : w1.cell? ⟨w.heap.size, k * 4, none⟩ = some x0 := by rw [hblk1.cell]; exact e0
      have q1 : w1.cell? ⟨w.heap.size, k * 4 + 1, none⟩ = some x1 := by rw [hblk1.cell]; exact e1
      have q2 : w1.cell? ⟨w.heap.size, k * 4 + 2, none⟩ = some x2 := by rw [hblk1.cell]; exact e2
      have q3 : w1.cell? ⟨w.heap.size, k * 4 + 3, none⟩ = some x3 := by rw [hblk1.cell]; exact e3
      have z0 : w1.frozen? ⟨w.heap.size, k * 4, none⟩ = false := hblk1.frozen _
      have z1 : w1.frozen? ⟨w.heap.size, k * 4 + 1, none⟩ = false := hblk1.frozen _
      have z2 : w1.frozen? ⟨w.heap.size, k * 4 + 2, none⟩ = false := hblk1.frozen _
      have z3 : w1.frozen? ⟨w.heap.size, k * 4 + 3, none⟩ = false := hblk1.frozen _
      have hlt1 := hblk.lt
      have hbl1 := hbl.trans (hb1.mono hbl.size)
      have hfin := (Hown.out.mono (V' := SlV w1 (w.heap.size + 1) w1.heap.size) (fun _ _ _ _ _ hv => (SlV.keep hv (fun _ _ hp => hb1.cell hp)).more (Nat.le_refl _) hb1.size)).step hlt (by omega) hu
      have hfin2 := hfin.mono (V' := SlV ((((w1.setCell ⟨w.heap.size, k * 4, none⟩ (.bool l[k].live)).setCell ⟨w.heap.size, k * 4 + 1, none⟩ (.int .i64 l[k].gen)).setCell ⟨w.heap.size, k * 4 + 2, none⟩ (.int .i64 l[k].count)).setCell ⟨w.heap.size, k * 4 + 3, none⟩ (.slice (some ⟨g1, 0, none⟩) l[k].fs.length l[k].fs.length)) (w.heap.size + 1) w1.heap.size)
        (fun _ _ _ _ _ hv => SlV.keep hv (fun p hp _ => by
          rw [World.cell?_setCell_other _ _ _ _ (fun e => by subst e; simp at hp; omega), World.cell?_setCell_other _ _ _ _ (fun e => by subst e; simp at hp; omega), World.cell?_setCell_other _ _ _ _ (fun e => by subst e; simp at hp; omega), World.cell?_setCell_other _ _ _ _ (fun e => by subst e; simp at hp; omega)]))
      have Hfin := Lib.hid hfin2
      clear hsz e0 e1 e2 e3 hfin hfin2 hu
      go_wp2
      go_roundw
      case rel =>
        exact ⟨k + 1, _, by omega, by go_num, by rw [pt4_size]; exact Hcs.out, hblk1.pt4 (k * 4) _ _ _ _, by simpa only [World.size_setCell] using Hfin.out, (((hbl1.setCell (by simp) _).setCell (by simp) _).setCell (by simp) _).setCell (by simp) _⟩
      case measure => simp [intOf]; omega
    · go_wp2
      go_ret
      have : k = l.length := by omega
      subst this
      exact ⟨_, rfl, hblk.lt, Nat.le_refl _, Hown.out.row (by unfold maxLen; omega) hblk (Nat.le_refl _) |>.more (Nat.le_refl _) (Nat.le_refl _) (fun _ _ _ _ _ hv => SlV.more hv (by omega) (Nat.le_refl _)), hbl⟩
end Go.Proofs.YtebgigiakfjocaaDoor

namespace Go.Proofs.YtebgigiakfjocaaDoor
open Go.RowKit
set_option linter.unusedVariables false

/-- the values of a list of numbers -/
def vi (l : List Int) : List Value := l.map fun b => .int .i64 b
theorem vi_len (l : List Int) : (vi l).length = l.length := by simp [vi]
theorem vi_get (l : List Int) (k : Nat) : (vi l)[k]? = (l[k]?).map fun b => .int .i64 b := by simp [vi]
theorem IL.of_blk {w : World} {L B g : Nat} {l : List Int} {t : TypeId} (h : Blk w g t (vi l).toArray) (hL : L ≤ g) (hg : g < B) (hm : l.length ≤ maxLen) : IL w L B (some ⟨g, 0, none⟩) l := by
  refine ⟨hm, fun _ => ⟨_, rfl, hL, hg, fun k hk => ?_⟩⟩
  rw [add_zero_, h.cell]
  simp [vi, List.getElem?_eq_getElem hk]

set_option maxHeartbeats 400000 in
theorem toIntS_c (l : List Int) (A : Option Addr) (c L B : Nat) (w : World) (hl : l.length ≤ 1048576) (hB : B ≤ w.heap.size) (h : IL w L B A l) :
    Calls Tryd.prog 43 #[.slice A l.length c] w fun e w' => ∃ g, e = .returned (.slice (some ⟨g, 0, none⟩) l.length l.length) ∧ Blk w' g 3 (vi l).toArray ∧ w.heap.size ≤ g ∧ g < w'.heap.size ∧ Below w.heap.size w w' := by
  have hmk := run_make_row' (P := Tryd.prog) 23 3 (.int .i64 0) 8 Tryd.underlying23 infoI rfl .i64 .i64 l.length (by omega) (by omega)
  go_enter Tryd.func43, Tryd.ntmps43
  go_wp2
  go_loopw [4] (fun i wr => ∃ (k : Nat) (cs : Array Value), k ≤ l.length ∧ i = .int .i64 k ∧ cs.size = l.length ∧ (∀ j, j < k → cs[j]? = (vi l)[j]?) ∧ wr = w.alloc (.cells cs 3)) (fun i _ => l.length - (intOf i).toNat)
  case atStart => exact ⟨0, madeCells #[.int .i64 0] l.length, Nat.zero_le _, rfl, by simp [madeCells], fun j hj => by omega, rfl⟩
  case round =>
    obtain ⟨k, cs, hk, rfl, hcs, hsame, rfl⟩ := hrel
    have hc := Lib.hid hcs
    have hs := Lib.hid hsame
    clear hcs hsame
    by_cases hlt : k < l.length
    · obtain ⟨ad, rfl, _, hb, hcell⟩ := (h.below ((Below.refl B w).alloc hB (.cells cs 3))).2 (by omega)
      have hck := hcell k hlt
      clear hcell
      obtain ⟨v, hv⟩ : ∃ v, cs[k]? = some v := ⟨_, Array.getElem?_eq_getElem (by have := hc.out; omega)⟩
      go_wp2
      go_roundw
      case rel =>
        refine ⟨k + 1, cs.setIfInBounds k (.int .i64 l[k]), by omega, by go_num, by simpa using hc.out, fun j hj => ?_, ?_⟩
        · have h1 := hs.out j
          have h2 := hc.out
          by_cases hjk : j = k
          · subst hjk
            rw [Array.getElem?_setIfInBounds_self_of_lt (by omega), vi_get, List.getElem?_eq_getElem hlt]; rfl
          · rw [Array.getElem?_setIfInBounds_ne (by omega)]
            exact h1 (by omega)
        · simp
      case measure => simp [intOf]; omega
    · go_wp2
      go_ret
      have : k = l.length := by omega
      subst this
      have e : cs = (vi l).toArray := by
        apply Array.ext'
        apply List.ext_getElem?
        intro j
        have h1 := hs.out j
        have h2 := hc.out
        by_cases hj : j < l.length
        · simpa using h1 hj
        · rw [List.getElem?_eq_none, List.getElem?_eq_none] <;> simp [vi] <;> omega
      subst e
      exact ⟨_, rfl, Blk.new _ _ _, Nat.le_refl _, by simp, (Below.refl _ _).alloc (Nat.le_refl _) _⟩

set_option maxHeartbeats 2000000 in
theorem toArena_c (a : Ar) (A0 A1 A2 : Option Addr) (c0 c1 c2 L B : Nat) (w : World) (hB : B ≤ w.heap.size) (hl : arSz a ≤ 1048576) (h : ArL w L B A0 A1 A2 a) :
    Calls Tryd.prog 11 #[.agg #[.slice A0 a.slots.length c0, .slice A1 a.queue.length c1, .slice A2 a.purple.length c2]] w fun e w' => ∃ g0 g1 g2,
      e = .returned (.agg #[.slice (some ⟨g0, 0, none⟩) a.slots.length a.slots.length, .slice (some ⟨g1, 0, none⟩) a.queue.length a.queue.length, .slice (some ⟨g2, 0, none⟩) a.purple.length a.purple.length]) ∧
      ArL w' w.heap.size w'.heap.size (some ⟨g0, 0, none⟩) (some ⟨g1, 0, none⟩) (some ⟨g2, 0, none⟩) a ∧ Below w.heap.size w w' := by
  obtain ⟨S, Q, P⟩ := a
  obtain ⟨hS, hQ, hP⟩ := h
  unfold arSz at hl
  dsimp only at *
  have hb0 : Below w.heap.size w (((w.alloc (.cells #[.slice A0 S.length c0, .slice A1 Q.length c1, .slice A2 P.length c2] 25)).alloc (.cells #[.slice none 0 0, .slice none 0 0, .slice none 0 0] 31)).alloc (.cells #[.slice none 0 0, .slice none 0 0, .slice none 0 0] 31)) := (((Below.refl _ _).alloc (Nat.le_refl _) _).alloc (by simp) _).alloc (by simp; omega) _
  have hS0 := hS.below (hb0.mono hB)
  go_enter Tryd.func11, Tryd.ntmps11
  go_wp2_with fail
  refine (toSlotS_c S A0 c0 L B _ (by simp; omega) (by omega) hS0).mono ?_
  rintro e w1 ⟨g1, rfl, hs1, hg1, hx1, hb1⟩
  have K3 : Blk w1 (w.heap.size + 1 + 1) 31 #[.slice none 0 0, .slice none 0 0, .slice none 0 0] :=
    Blk.below (by have := Blk.new ((w.alloc (.cells #[.slice A0 S.length c0, .slice A1 Q.length c1, .slice A2 P.length c2] 25)).alloc (.cells #[.slice none 0 0, .slice none 0 0, .slice none 0 0] 31)) 31 #[.slice none 0 0, .slice none 0 0, .slice none 0 0]; simpa using this) hb1 (by simp)
  have K2 : Blk w1 (w.heap.size + 1) 31 #[.slice none 0 0, .slice none 0 0, .slice none 0 0] :=
    Blk.below ((by have := Blk.new (w.alloc (.cells #[.slice A0 S.length c0, .slice A1 Q.length c1, .slice A2 P.length c2] 25)) 31 #[.slice none 0 0, .slice none 0 0, .slice none 0 0]; simpa using this : Blk ((w.alloc (.cells #[.slice A0 S.length c0, .slice A1 Q.length c1, .slice A2 P.length c2] 25)).alloc (.cells #[.slice none 0 0, .slice none 0 0, .slice none 0 0] 31)) (w.heap.size + 1) 31 _).alloc _) hb1 (by simp)
  have K0 : Blk w1 w.heap.size 25 #[.slice A0 S.length c0, .slice A1 Q.length c1, .slice A2 P.length c2] :=
    Blk.below (((Blk.new w 25 _).alloc _).alloc _) hb1 (by simp; omega)
  have hbw : Below w.heap.size w w1 := hb0.trans (hb1.mono (by simp; omega))
  have hx1' : SlL w1 (w.heap.size + 1 + 1 + 1) w1.heap.size (some ⟨g1, 0, none⟩) S := by simpa using hx1
  have a1 := K0.cel 1 rfl
  have a2 := K0.cel 2 rfl
  have n0 := K3.cel 0 rfl
  have x0 : w1.frozen? ⟨w.heap.size + 1 + 1, 0, none⟩ = false := K3.frozen 0
  have hs1' := K3.lt
  clear hb1 hx1 hb0 hg1 hS hS0
  go_wp2_with fail
  obtain ⟨W1, hW1⟩ : ∃ W1, W1 = w1.setCell ⟨w.heap.size + 1 + 1, 0, none⟩ (.slice (some ⟨g1, 0, none⟩) S.length S.length) := ⟨_, rfl⟩
  have KA := (K3.set_ 0 (.slice (some ⟨g1, 0, none⟩) S.length S.length))
  have KB := (K2.far (p := ⟨w.heap.size + 1 + 1, 0, none⟩) (by simp) (.slice (some ⟨g1, 0, none⟩) S.length S.length))
  have KC := (K0.far (p := ⟨w.heap.size + 1 + 1, 0, none⟩) (by simp; omega) (.slice (some ⟨g1, 0, none⟩) S.length S.length))
  have hxW : SlL (w1.setCell ⟨w.heap.size + 1 + 1, 0, none⟩ (.slice (some ⟨g1, 0, none⟩) S.length S.length)) (w.heap.size + 1 + 1 + 1) w1.heap.size (some ⟨g1, 0, none⟩) S :=
    hx1'.keep fun p hp _ => World.cell?_setCell_other _ _ _ _ (fun e => by subst e; simp at hp; omega)
  have hbW := hbw.setCell (p := ⟨w.heap.size + 1 + 1, 0, none⟩) (by simp; omega) (.slice (some ⟨g1, 0, none⟩) S.length S.length)
  have hsz : (w1.setCell ⟨w.heap.size + 1 + 1, 0, none⟩ (.slice (some ⟨g1, 0, none⟩) S.length S.length)).heap.size = w1.heap.size := by simp
  rw [← hW1] at KA KB KC hxW hbW hsz
  rw [← hW1]
  clear hW1 K0 K2 K3 a1 a2 n0 x0 hx1'
  refine (toIntS_c Q A1 c1 L B W1 (by omega) (by omega) (hQ.below (hbW.mono hB))).mono ?_
  rintro e w2 ⟨g2, rfl, hB2, hg2, hs2, hb2⟩
  have KA2 := KA.below hb2 KA.lt
  have KB2 := KB.below hb2 KB.lt
  have KC2 := KC.below hb2 KC.lt
  have hbw2 := hbW.trans (hb2.mono hbW.size)
  have hx2 := (hxW.below (hb2.mono (by omega)))
  have a2 := KC2.cel 2 rfl
  have n1 := KA2.cel 1 rfl
  have x1 : w2.frozen? ⟨w.heap.size + 1 + 1, 1, none⟩ = false := KA2.frozen 1
  have hsz2 := hb2.size
  clear hb2 KA KB KC hbW hxW
  go_wp2_with fail
  obtain ⟨W2, hW2⟩ : ∃ W2, W2 = w2.setCell ⟨w.heap.size + 1 + 1, 1, none⟩ (.slice (some ⟨g2, 0, none⟩) Q.length Q.length) := ⟨_, rfl⟩
  have KA := (KA2.set_ 1 (.slice (some ⟨g2, 0, none⟩) Q.length Q.length))
  have KB := (KB2.far (p := ⟨w.heap.size + 1 + 1, 1, none⟩) (by simp) (.slice (some ⟨g2, 0, none⟩) Q.length Q.length))
  have hBW := (hB2.far (p := ⟨w.heap.size + 1 + 1, 1, none⟩) (by simp; omega) (.slice (some ⟨g2, 0, none⟩) Q.length Q.length))
  have hxW : SlL (w2.setCell ⟨w.heap.size + 1 + 1, 1, none⟩ (.slice (some ⟨g2, 0, none⟩) Q.length Q.length)) (w.heap.size + 1 + 1 + 1) w1.heap.size (some ⟨g1, 0, none⟩) S :=
    hx2.keep fun p hp _ => World.cell?_setCell_other _ _ _ _ (fun e => by subst e; simp at hp; omega)
  have hbW := hbw2.setCell (p := ⟨w.heap.size + 1 + 1, 1, none⟩) (by simp; omega) (.slice (some ⟨g2, 0, none⟩) Q.length Q.length)
  have hszz : (w2.setCell ⟨w.heap.size + 1 + 1, 1, none⟩ (.slice (some ⟨g2, 0, none⟩) Q.length Q.length)).heap.size = w2.heap.size := by simp
  rw [← hW2] at KA KB hBW hxW hbW hszz
  rw [← hW2]
  clear hW2 KA2 KB2 KC2 a2 n1 x1 hx2
  refine (toIntS_c P A2 c2 L B W2 (by omega) (by have := hbW.size; omega) (hP.below (hbW.mono hB))).mono ?_
  rintro e w3 ⟨g3, rfl, hB3, hg3, hs3, hb3⟩
  have KA3 := KA.below hb3 KA.lt
  have KB3 := KB.below hb3 KB.lt
  have hBQ := hBW.below hb3 hBW.lt
  have hbw3 := hbW.trans (hb3.mono hbW.size)
  have hx3 := (hxW.below (hb3.mono (by omega)))
  have n0 := KA3.cel 0 rfl
  have n1 := KA3.cel 1 rfl
  have n2 := KA3.cel 2 rfl
  have m0 := KB3.cel 0 rfl
  have m1 := KB3.cel 1 rfl
  have m2 := KB3.cel 2 rfl
  have x2 : w3.frozen? ⟨w.heap.size + 1 + 1, 2, none⟩ = false := KA3.frozen 2
  have y0 : w3.frozen? ⟨w.heap.size + 1, 0, none⟩ = false := KB3.frozen 0
  have y1 : w3.frozen? ⟨w.heap.size + 1, 1, none⟩ = false := KB3.frozen 1
  have y2 : w3.frozen? ⟨w.heap.size + 1, 2, none⟩ = false := KB3.frozen 2
  have hsz3 := hb3.size
  clear hb3 KA KB hbW hxW hBW KA3 KB3
  go_wp2_with fail
  refine bodyPost_ret (v := .agg #[.slice (some ⟨g1, 0, none⟩) S.length S.length, .slice (some ⟨g2, 0, none⟩) Q.length Q.length, .slice (some ⟨g3, 0, none⟩) P.length P.length]) (by simp [results, Tryd.results11, go_sem, m0, m1, m2]) rfl
    ⟨g1, g2, g3, rfl, ⟨?_, ?_, ?_⟩, ?_⟩
  · refine (hx3.keep (fun p hp _ => ?_)).more (by omega) (by simp; omega)
    rw [World.cell?_setCell_other _ _ _ _ (fun e => by subst e; simp at hp; omega), World.cell?_setCell_other _ _ _ _ (fun e => by subst e; simp at hp; omega), World.cell?_setCell_other _ _ _ _ (fun e => by subst e; simp at hp; omega), World.cell?_setCell_other _ _ _ _ (fun e => by subst e; simp at hp; omega)]
  · refine IL.of_blk ((((hBQ.far (by simp; omega) _).far (by simp; omega) _).far (by simp; omega) _).far (by simp; omega) _) (by omega) (by simp; omega) (by show Q.length ≤ _; unfold maxLen; omega)
  · refine IL.of_blk ((((hB3.far (by simp; omega) _).far (by simp; omega) _).far (by simp; omega) _).far (by simp; omega) _) (by omega) (by simp; omega) (by show P.length ≤ _; unfold maxLen; omega)
  · exact (((hbw3.setCell (by simp; omega) _).setCell (by simp) _).setCell (by simp) _).setCell (by simp) _
end Go.Proofs.YtebgigiakfjocaaDoor
