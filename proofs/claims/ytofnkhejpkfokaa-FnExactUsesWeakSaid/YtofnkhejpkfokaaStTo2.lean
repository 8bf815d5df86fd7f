/-
  The laws' own copy of one statement.
-/
import Derived.Test.YtofnkhejpkfokaaStTo
namespace Go.Proofs.Ytofnkhejpkfokaa
open Go.RowKit
set_option linter.unusedVariables false

theorem setL_cell {g : Nat} {q : Addr} (h : q.block ≠ g) : ∀ (vs : List Value) (w : World) (k : Nat), (setL w g k vs).cell? q = w.cell? q
  | [], _, _ => rfl
  | v :: r, w, k => by
    rw [setL, setL_cell h r]
    exact World.cell?_setCell_other w ⟨g, k, none⟩ q v (fun e => h (by rw [← e]))
theorem Blk.farL {g' g : Nat} {t : TypeId} {cs : Array Value} (hne : g ≠ g') : ∀ (vs : List Value) {w : World} (k : Nat), Blk w g t cs → Blk (setL w g' k vs) g t cs
  | [], _, _, h => h
  | v :: r, _, k, h => Blk.farL hne r (k + 1) (h.far (p := ⟨g', k, none⟩) hne v)
theorem far_cell {g L B : Nat} (hg : g < L ∨ B ≤ g) (vs : List Value) (w : World) (k : Nat) : ∀ p : Addr, L ≤ p.block → p.block < B → (setL w g k vs).cell? p = w.cell? p :=
  fun p h1 h2 => setL_cell (by omega) vs w k

set_option maxRecDepth 100000 in
set_option maxHeartbeats 8000000 in
theorem toSt_c (s : St) : ToSt s := by
  refine St.ind (P := ToSt) ?_ s
  intro k name e f body els ih1 ih2 vs w L B hv hB hsz
  obtain ⟨A, c, e0, e1, e2, e3, f0, f1, f2, f3, A1, c1, A2, c2, rfl, hR, hm, he, hf, hb1', hb2'⟩ := hv.open_
  rw [stSz_mk] at hsz
  obtain ⟨xk, xn, xA, xa, xc, xA', xa', xc', rfl, rfl, rfl, rfl⟩ := he.shape
  obtain ⟨yk, yn, yA, ya, yc, yA', ya', yc', rfl, rfl, rfl, rfl⟩ := hf.shape
  have hbw0 : Below w.heap.size w (((w.alloc (.cells #[.int .i64 k, .slice A name.length c, .int .i64 xk, .int .i64 xn, .slice xA xa xc, .slice xA' xa' xc', .int .i64 yk, .int .i64 yn, .slice yA ya yc, .slice yA' ya' yc', .slice A1 body.length c1, .slice A2 els.length c2] 127)).alloc (.cells #[.int .i64 0, .slice none 0 0, .int .i64 0, .int .i64 0, .slice none 0 0, .slice none 0 0, .int .i64 0, .int .i64 0, .slice none 0 0, .slice none 0 0, .slice none 0 0, .slice none 0 0] 90)).alloc (.cells #[.int .i64 k, .slice none 0 0, .int .i64 0, .int .i64 0, .slice none 0 0, .slice none 0 0, .int .i64 0, .int .i64 0, .slice none 0 0, .slice none 0 0, .slice none 0 0, .slice none 0 0] 90)) := (((Below.refl _ _).alloc (Nat.le_refl _) _).alloc (by simp) _).alloc (by simp; omega) _
  have hR0 := (hR.below (hbw0.mono hB)).1
  have he0 := he.below (hbw0.mono hB)
  have hf0 := hf.below (hbw0.mono hB)
  have hs10 := hb1'.below (hbw0.mono hB)
  have hs20 := hb2'.below (hbw0.mono hB)
  have I1 := Lib.hid ih1
  have I2 := Lib.hid ih2
  clear ih1 ih2 hv hR he hf hb1' hb2'
  go_enter Try.func110, Try.ntmps110
  go_wp2_with fail
  refine (toByteS_c name A c B _ (by omega) (by simp; omega) hR0).mono ?_
  rintro e' w1 ⟨g1, rfl, hG1, hg1, hlt1, hb1⟩
  have K2 : Blk w1 (w.heap.size + 1 + 1) 90 #[.int .i64 k, .slice none 0 0, .int .i64 0, .int .i64 0, .slice none 0 0, .slice none 0 0, .int .i64 0, .int .i64 0, .slice none 0 0, .slice none 0 0, .slice none 0 0, .slice none 0 0] := Blk.below (by have := Blk.new ((w.alloc (.cells #[.int .i64 k, .slice A name.length c, .int .i64 xk, .int .i64 xn, .slice xA xa xc, .slice xA' xa' xc', .int .i64 yk, .int .i64 yn, .slice yA ya yc, .slice yA' ya' yc', .slice A1 body.length c1, .slice A2 els.length c2] 127)).alloc (.cells #[.int .i64 0, .slice none 0 0, .int .i64 0, .int .i64 0, .slice none 0 0, .slice none 0 0, .int .i64 0, .int .i64 0, .slice none 0 0, .slice none 0 0, .slice none 0 0, .slice none 0 0] 90)) 90 #[.int .i64 k, .slice none 0 0, .int .i64 0, .int .i64 0, .slice none 0 0, .slice none 0 0, .int .i64 0, .int .i64 0, .slice none 0 0, .slice none 0 0, .slice none 0 0, .slice none 0 0]; simpa using this) hb1 (by simp)
  have K1 : Blk w1 (w.heap.size + 1) 90 #[.int .i64 0, .slice none 0 0, .int .i64 0, .int .i64 0, .slice none 0 0, .slice none 0 0, .int .i64 0, .int .i64 0, .slice none 0 0, .slice none 0 0, .slice none 0 0, .slice none 0 0] := Blk.below ((by have := Blk.new (w.alloc (.cells #[.int .i64 k, .slice A name.length c, .int .i64 xk, .int .i64 xn, .slice xA xa xc, .slice xA' xa' xc', .int .i64 yk, .int .i64 yn, .slice yA ya yc, .slice yA' ya' yc', .slice A1 body.length c1, .slice A2 els.length c2] 127)) 90 #[.int .i64 0, .slice none 0 0, .int .i64 0, .int .i64 0, .slice none 0 0, .slice none 0 0, .int .i64 0, .int .i64 0, .slice none 0 0, .slice none 0 0, .slice none 0 0, .slice none 0 0]; simpa using this : Blk ((w.alloc (.cells #[.int .i64 k, .slice A name.length c, .int .i64 xk, .int .i64 xn, .slice xA xa xc, .slice xA' xa' xc', .int .i64 yk, .int .i64 yn, .slice yA ya yc, .slice yA' ya' yc', .slice A1 body.length c1, .slice A2 els.length c2] 127)).alloc (.cells #[.int .i64 0, .slice none 0 0, .int .i64 0, .int .i64 0, .slice none 0 0, .slice none 0 0, .int .i64 0, .int .i64 0, .slice none 0 0, .slice none 0 0, .slice none 0 0, .slice none 0 0] 90)) (w.heap.size + 1) 90 _).alloc _) hb1 (by simp)
  have K0 : Blk w1 w.heap.size 127 #[.int .i64 k, .slice A name.length c, .int .i64 xk, .int .i64 xn, .slice xA xa xc, .slice xA' xa' xc', .int .i64 yk, .int .i64 yn, .slice yA ya yc, .slice yA' ya' yc', .slice A1 body.length c1, .slice A2 els.length c2] := Blk.below (((Blk.new w 127 _).alloc _).alloc _) hb1 (by simp; omega)
  have hg1' : w.heap.size + 1 + 1 + 1 ≤ g1 := by simpa using hg1
  have hbw1 : Below w.heap.size w w1 := hbw0.trans (hb1.mono (by simp; omega))
  have he1 := he0.below (hb1.mono (by simp; omega))
  have hf1 := hf0.below (hb1.mono (by simp; omega))
  have hs11 := hs10.below (hb1.mono (by simp; omega))
  have hs21 := hs20.below (hb1.mono (by simp; omega))
  have hz1 : w.heap.size + 1 + 1 + 1 ≤ w1.heap.size := by omega
  have n1 := K2.cell_of 1 rfl
  have z1 : w1.frozen? ⟨w.heap.size + 1 + 1, 1, none⟩ = false := K2.frozen 1
  have a2 := K0.cell_of 2 rfl
  have a3 := K0.cell_of 3 rfl
  have a4 := K0.cell_of 4 rfl
  have a5 := K0.cell_of 5 rfl
  have hRn : RBL w1 w.heap.size w1.heap.size (some ⟨g1, 0, none⟩) name := ⟨RB.of_blk hG1 hlt1, fun _ => ⟨_, rfl, by show w.heap.size ≤ g1; omega⟩⟩
  have hRn1 : RBL w1 (w.heap.size + 1 + 1 + 1) w1.heap.size (some ⟨g1, 0, none⟩) name := ⟨RB.of_blk hG1 hlt1, fun _ => ⟨_, rfl, by show _ ≤ g1; omega⟩⟩
  clear hb1 hg1 hR0 he0 hf0 hs10 hs20 hbw0 hRn hG1
  go_wp2_with fail
  refine (toEx_c e _ _ _ _ (setL w1 (w.heap.size + 1 + 1) 1 [.slice (some ⟨g1, 0, none⟩) name.length name.length]) L B (ExV.keep (far_cell (g := w.heap.size + 1 + 1) (Or.inr (by omega)) [.slice (some ⟨g1, 0, none⟩) name.length name.length] w1 1) _ _ _ _ _ he1) (by rw [setL_size]; omega) (by omega)).mono ?_
  rintro e' w2 ⟨u0, u1, u2, u3, rfl, hu, hb2⟩
  obtain ⟨uk, un, uA, ua, uc, uB, ub, ud, rfl, rfl, rfl, rfl⟩ := hu.shape
  rw [setL_size] at hu
  have hE2 := ExV.more hz1 (Nat.le_refl _) _ _ _ _ _ hu
  clear n1 z1 a2 a3 a4 a5 he1 hu
  have K02 := (Blk.farL (g' := w.heap.size + 1 + 1) (by omega) [.slice (some ⟨g1, 0, none⟩) name.length name.length] 1 K0).below hb2 (by rw [setL_size]; exact K0.lt)
  have K12 := (Blk.farL (g' := w.heap.size + 1 + 1) (by omega) [.slice (some ⟨g1, 0, none⟩) name.length name.length] 1 K1).below hb2 (by rw [setL_size]; exact K1.lt)
  have K22 := (Blk.putL [.slice (some ⟨g1, 0, none⟩) name.length name.length] 1 K2).below hb2 (by rw [setL_size]; exact K2.lt)
  have E2 : putL #[.int .i64 k, .slice none 0 0, .int .i64 0, .int .i64 0, .slice none 0 0, .slice none 0 0, .int .i64 0, .int .i64 0, .slice none 0 0, .slice none 0 0, .slice none 0 0, .slice none 0 0] 1 [.slice (some ⟨g1, 0, none⟩) name.length name.length] = #[.int .i64 k, .slice (some ⟨g1, 0, none⟩) name.length name.length, .int .i64 0, .int .i64 0, .slice none 0 0, .slice none 0 0, .int .i64 0, .int .i64 0, .slice none 0 0, .slice none 0 0, .slice none 0 0, .slice none 0 0] := rfl
  rw [E2] at K22
  clear E2
  have hbw2 : Below w.heap.size w w2 := (setL_below (g := w.heap.size + 1 + 1) [.slice (some ⟨g1, 0, none⟩) name.length name.length] 1 hbw1 (by omega)).trans (hb2.mono (by rw [setL_size]; exact hbw1.size))
  have hz2 : w1.heap.size ≤ w2.heap.size := by have := hb2.size; rw [setL_size] at this; exact this
  have hRn2 := ((hRn1.keep (far_cell (g := w.heap.size + 1 + 1) (Or.inl (by omega)) [.slice (some ⟨g1, 0, none⟩) name.length name.length] w1 1)).below (by rw [setL_size] at hb2; exact hb2)).more (Nat.le_refl _) hz2
  have hf2 := (ExV.keep (far_cell (g := w.heap.size + 1 + 1) (Or.inr (by omega)) [.slice (some ⟨g1, 0, none⟩) name.length name.length] w1 1) _ _ _ _ _ hf1).below (hb2.mono (by rw [setL_size]; omega))
  have hs12 := (hs11.keep (far_cell (g := w.heap.size + 1 + 1) (Or.inr (by omega)) [.slice (some ⟨g1, 0, none⟩) name.length name.length] w1 1)).below (hb2.mono (by rw [setL_size]; omega))
  have hs22 := (hs21.keep (far_cell (g := w.heap.size + 1 + 1) (Or.inr (by omega)) [.slice (some ⟨g1, 0, none⟩) name.length name.length] w1 1)).below (hb2.mono (by rw [setL_size]; omega))
  clear hb2 K0 K1 K2 hRn1 hf1 hs11 hs21
  have n2 := K22.cell_of 2 rfl
  have n3 := K22.cell_of 3 rfl
  have n4 := K22.cell_of 4 rfl
  have n5 := K22.cell_of 5 rfl
  have z2 : w2.frozen? ⟨w.heap.size + 1 + 1, 2, none⟩ = false := K22.frozen 2
  have z3 : w2.frozen? ⟨w.heap.size + 1 + 1, 3, none⟩ = false := K22.frozen 3
  have z4 : w2.frozen? ⟨w.heap.size + 1 + 1, 4, none⟩ = false := K22.frozen 4
  have z5 : w2.frozen? ⟨w.heap.size + 1 + 1, 5, none⟩ = false := K22.frozen 5
  have a6 := K02.cell_of 6 rfl
  have a7 := K02.cell_of 7 rfl
  have a8 := K02.cell_of 8 rfl
  have a9 := K02.cell_of 9 rfl
  go_wp2_with fail
  refine (toEx_c f _ _ _ _ (setL w2 (w.heap.size + 1 + 1) 2 [.int .i64 uk, .int .i64 un, .slice uA ua uc, .slice uB ub ud]) L B (ExV.keep (far_cell (g := w.heap.size + 1 + 1) (Or.inr (by omega)) [.int .i64 uk, .int .i64 un, .slice uA ua uc, .slice uB ub ud] w2 2) _ _ _ _ _ hf2) (by rw [setL_size]; omega) (by omega)).mono ?_
  rintro e' w3 ⟨t0, t1, t2, t3, rfl, ht, hb3⟩
  obtain ⟨tk, tn, tA, ta, tc, tB, tb, td, rfl, rfl, rfl, rfl⟩ := ht.shape
  rw [setL_size] at ht
  have hF3 := ExV.more (Nat.le_trans hz1 hz2) (Nat.le_refl _) _ _ _ _ _ ht
  clear n2 n3 n4 n5 z2 z3 z4 z5 a6 a7 a8 a9 hf2 ht
  have K03 := (Blk.farL (g' := w.heap.size + 1 + 1) (by omega) [.int .i64 uk, .int .i64 un, .slice uA ua uc, .slice uB ub ud] 2 K02).below hb3 (by rw [setL_size]; exact K02.lt)
  have K13 := (Blk.farL (g' := w.heap.size + 1 + 1) (by omega) [.int .i64 uk, .int .i64 un, .slice uA ua uc, .slice uB ub ud] 2 K12).below hb3 (by rw [setL_size]; exact K12.lt)
  have K23 := (Blk.putL [.int .i64 uk, .int .i64 un, .slice uA ua uc, .slice uB ub ud] 2 K22).below hb3 (by rw [setL_size]; exact K22.lt)
  have E3 : putL #[.int .i64 k, .slice (some ⟨g1, 0, none⟩) name.length name.length, .int .i64 0, .int .i64 0, .slice none 0 0, .slice none 0 0, .int .i64 0, .int .i64 0, .slice none 0 0, .slice none 0 0, .slice none 0 0, .slice none 0 0] 2 [.int .i64 uk, .int .i64 un, .slice uA ua uc, .slice uB ub ud] = #[.int .i64 k, .slice (some ⟨g1, 0, none⟩) name.length name.length, .int .i64 uk, .int .i64 un, .slice uA ua uc, .slice uB ub ud, .int .i64 0, .int .i64 0, .slice none 0 0, .slice none 0 0, .slice none 0 0, .slice none 0 0] := rfl
  rw [E3] at K23
  clear E3
  have hbw3 : Below w.heap.size w w3 := (setL_below (g := w.heap.size + 1 + 1) [.int .i64 uk, .int .i64 un, .slice uA ua uc, .slice uB ub ud] 2 hbw2 (by omega)).trans (hb3.mono (by rw [setL_size]; exact hbw2.size))
  have hz3 : w2.heap.size ≤ w3.heap.size := by have := hb3.size; rw [setL_size] at this; exact this
  have hRn3 := ((hRn2.keep (far_cell (g := w.heap.size + 1 + 1) (Or.inl (by omega)) [.int .i64 uk, .int .i64 un, .slice uA ua uc, .slice uB ub ud] w2 2)).below (by rw [setL_size] at hb3; exact hb3)).more (Nat.le_refl _) hz3
  have hE3 := ExV.more (Nat.le_refl _) hz3 _ _ _ _ _ (ExV.below (ExV.keep (far_cell (g := w.heap.size + 1 + 1) (Or.inl (by omega)) [.int .i64 uk, .int .i64 un, .slice uA ua uc, .slice uB ub ud] w2 2) _ _ _ _ _ hE2) (by rw [setL_size] at hb3; exact hb3))
  have hs13 := (hs12.keep (far_cell (g := w.heap.size + 1 + 1) (Or.inr (by omega)) [.int .i64 uk, .int .i64 un, .slice uA ua uc, .slice uB ub ud] w2 2)).below (hb3.mono (by rw [setL_size]; omega))
  have hs23 := (hs22.keep (far_cell (g := w.heap.size + 1 + 1) (Or.inr (by omega)) [.int .i64 uk, .int .i64 un, .slice uA ua uc, .slice uB ub ud] w2 2)).below (hb3.mono (by rw [setL_size]; omega))
  clear hb3 K02 K12 K22 hRn2 hE2 hs12 hs22
  have n6 := K23.cell_of 6 rfl
  have n7 := K23.cell_of 7 rfl
  have n8 := K23.cell_of 8 rfl
  have n9 := K23.cell_of 9 rfl
  have z6 : w3.frozen? ⟨w.heap.size + 1 + 1, 6, none⟩ = false := K23.frozen 6
  have z7 : w3.frozen? ⟨w.heap.size + 1 + 1, 7, none⟩ = false := K23.frozen 7
  have z8 : w3.frozen? ⟨w.heap.size + 1 + 1, 8, none⟩ = false := K23.frozen 8
  have z9 : w3.frozen? ⟨w.heap.size + 1 + 1, 9, none⟩ = false := K23.frozen 9
  have a10 := K03.cell_of 10 rfl
  go_wp2_with fail
  refine (toStS_of body I1.out A1 c1 L B (setL w3 (w.heap.size + 1 + 1) 6 [.int .i64 tk, .int .i64 tn, .slice tA ta tc, .slice tB tb td]) (by rw [setL_size]; omega) (by omega) (hs13.keep (far_cell (g := w.heap.size + 1 + 1) (Or.inr (by omega)) [.int .i64 tk, .int .i64 tn, .slice tA ta tc, .slice tB tb td] w3 6))).mono ?_
  rintro e' w4 ⟨g4, rfl, hg4, hg4', hx, hb4⟩
  rw [setL_size] at hx hg4'
  have hG4 := hx.more (Nat.le_trans hz1 (Nat.le_trans hz2 hz3)) (Nat.le_refl _)
  clear n6 n7 n8 n9 z6 z7 z8 z9 a10 hs13 hx
  have K04 := (Blk.farL (g' := w.heap.size + 1 + 1) (by omega) [.int .i64 tk, .int .i64 tn, .slice tA ta tc, .slice tB tb td] 6 K03).below hb4 (by rw [setL_size]; exact K03.lt)
  have K14 := (Blk.farL (g' := w.heap.size + 1 + 1) (by omega) [.int .i64 tk, .int .i64 tn, .slice tA ta tc, .slice tB tb td] 6 K13).below hb4 (by rw [setL_size]; exact K13.lt)
  have K24 := (Blk.putL [.int .i64 tk, .int .i64 tn, .slice tA ta tc, .slice tB tb td] 6 K23).below hb4 (by rw [setL_size]; exact K23.lt)
  have E4 : putL #[.int .i64 k, .slice (some ⟨g1, 0, none⟩) name.length name.length, .int .i64 uk, .int .i64 un, .slice uA ua uc, .slice uB ub ud, .int .i64 0, .int .i64 0, .slice none 0 0, .slice none 0 0, .slice none 0 0, .slice none 0 0] 6 [.int .i64 tk, .int .i64 tn, .slice tA ta tc, .slice tB tb td] = #[.int .i64 k, .slice (some ⟨g1, 0, none⟩) name.length name.length, .int .i64 uk, .int .i64 un, .slice uA ua uc, .slice uB ub ud, .int .i64 tk, .int .i64 tn, .slice tA ta tc, .slice tB tb td, .slice none 0 0, .slice none 0 0] := rfl
  rw [E4] at K24
  clear E4
  have hbw4 : Below w.heap.size w w4 := (setL_below (g := w.heap.size + 1 + 1) [.int .i64 tk, .int .i64 tn, .slice tA ta tc, .slice tB tb td] 6 hbw3 (by omega)).trans (hb4.mono (by rw [setL_size]; exact hbw3.size))
  have hz4 : w3.heap.size ≤ w4.heap.size := by have := hb4.size; rw [setL_size] at this; exact this
  have hRn4 := ((hRn3.keep (far_cell (g := w.heap.size + 1 + 1) (Or.inl (by omega)) [.int .i64 tk, .int .i64 tn, .slice tA ta tc, .slice tB tb td] w3 6)).below (by rw [setL_size] at hb4; exact hb4)).more (Nat.le_refl _) hz4
  have hE4 := ExV.more (Nat.le_refl _) hz4 _ _ _ _ _ (ExV.below (ExV.keep (far_cell (g := w.heap.size + 1 + 1) (Or.inl (by omega)) [.int .i64 tk, .int .i64 tn, .slice tA ta tc, .slice tB tb td] w3 6) _ _ _ _ _ hE3) (by rw [setL_size] at hb4; exact hb4))
  have hF4 := ExV.more (Nat.le_refl _) hz4 _ _ _ _ _ (ExV.below (ExV.keep (far_cell (g := w.heap.size + 1 + 1) (Or.inl (by omega)) [.int .i64 tk, .int .i64 tn, .slice tA ta tc, .slice tB tb td] w3 6) _ _ _ _ _ hF3) (by rw [setL_size] at hb4; exact hb4))
  have hs24 := (hs23.keep (far_cell (g := w.heap.size + 1 + 1) (Or.inr (by omega)) [.int .i64 tk, .int .i64 tn, .slice tA ta tc, .slice tB tb td] w3 6)).below (hb4.mono (by rw [setL_size]; omega))
  clear hb4 K03 K13 K23 hRn3 hE3 hF3 hs23
  have n10 := K24.cell_of 10 rfl
  have z10 : w4.frozen? ⟨w.heap.size + 1 + 1, 10, none⟩ = false := K24.frozen 10
  have a11 := K04.cell_of 11 rfl
  go_wp2_with fail
  refine (toStS_of els I2.out A2 c2 L B (setL w4 (w.heap.size + 1 + 1) 10 [.slice (some ⟨g4, 0, none⟩) body.length body.length]) (by rw [setL_size]; omega) (by omega) (hs24.keep (far_cell (g := w.heap.size + 1 + 1) (Or.inr (by omega)) [.slice (some ⟨g4, 0, none⟩) body.length body.length] w4 10))).mono ?_
  rintro e' w5 ⟨g5, rfl, hg5, hg5', hx, hb5⟩
  rw [setL_size] at hx hg5'
  have hH5 := hx.more (Nat.le_trans hz1 (Nat.le_trans hz2 (Nat.le_trans hz3 hz4))) (Nat.le_refl _)
  clear n10 z10 a11 hs24 hx
  have K05 := (Blk.farL (g' := w.heap.size + 1 + 1) (by omega) [.slice (some ⟨g4, 0, none⟩) body.length body.length] 10 K04).below hb5 (by rw [setL_size]; exact K04.lt)
  have K15 := (Blk.farL (g' := w.heap.size + 1 + 1) (by omega) [.slice (some ⟨g4, 0, none⟩) body.length body.length] 10 K14).below hb5 (by rw [setL_size]; exact K14.lt)
  have K25 := (Blk.putL [.slice (some ⟨g4, 0, none⟩) body.length body.length] 10 K24).below hb5 (by rw [setL_size]; exact K24.lt)
  have E5 : putL #[.int .i64 k, .slice (some ⟨g1, 0, none⟩) name.length name.length, .int .i64 uk, .int .i64 un, .slice uA ua uc, .slice uB ub ud, .int .i64 tk, .int .i64 tn, .slice tA ta tc, .slice tB tb td, .slice none 0 0, .slice none 0 0] 10 [.slice (some ⟨g4, 0, none⟩) body.length body.length] = #[.int .i64 k, .slice (some ⟨g1, 0, none⟩) name.length name.length, .int .i64 uk, .int .i64 un, .slice uA ua uc, .slice uB ub ud, .int .i64 tk, .int .i64 tn, .slice tA ta tc, .slice tB tb td, .slice (some ⟨g4, 0, none⟩) body.length body.length, .slice none 0 0] := rfl
  rw [E5] at K25
  clear E5
  have hbw5 : Below w.heap.size w w5 := (setL_below (g := w.heap.size + 1 + 1) [.slice (some ⟨g4, 0, none⟩) body.length body.length] 10 hbw4 (by omega)).trans (hb5.mono (by rw [setL_size]; exact hbw4.size))
  have hz5 : w4.heap.size ≤ w5.heap.size := by have := hb5.size; rw [setL_size] at this; exact this
  have hRn5 := ((hRn4.keep (far_cell (g := w.heap.size + 1 + 1) (Or.inl (by omega)) [.slice (some ⟨g4, 0, none⟩) body.length body.length] w4 10)).below (by rw [setL_size] at hb5; exact hb5)).more (Nat.le_refl _) hz5
  have hE5 := ExV.more (Nat.le_refl _) hz5 _ _ _ _ _ (ExV.below (ExV.keep (far_cell (g := w.heap.size + 1 + 1) (Or.inl (by omega)) [.slice (some ⟨g4, 0, none⟩) body.length body.length] w4 10) _ _ _ _ _ hE4) (by rw [setL_size] at hb5; exact hb5))
  have hF5 := ExV.more (Nat.le_refl _) hz5 _ _ _ _ _ (ExV.below (ExV.keep (far_cell (g := w.heap.size + 1 + 1) (Or.inl (by omega)) [.slice (some ⟨g4, 0, none⟩) body.length body.length] w4 10) _ _ _ _ _ hF4) (by rw [setL_size] at hb5; exact hb5))
  have hG5 := ((hG4.keep (far_cell (g := w.heap.size + 1 + 1) (Or.inl (by omega)) [.slice (some ⟨g4, 0, none⟩) body.length body.length] w4 10)).below (by rw [setL_size] at hb5; exact hb5)).more (Nat.le_refl _) hz5
  clear hb5 K04 K14 K24 hRn4 hE4 hF4 hG4
  have n0 := K25.cell_of 0 rfl
  have n1 := K25.cell_of 1 rfl
  have n2 := K25.cell_of 2 rfl
  have n3 := K25.cell_of 3 rfl
  have n4 := K25.cell_of 4 rfl
  have n5 := K25.cell_of 5 rfl
  have n6 := K25.cell_of 6 rfl
  have n7 := K25.cell_of 7 rfl
  have n8 := K25.cell_of 8 rfl
  have n9 := K25.cell_of 9 rfl
  have n10 := K25.cell_of 10 rfl
  have n11 := K25.cell_of 11 rfl
  have z11 : w5.frozen? ⟨w.heap.size + 1 + 1, 11, none⟩ = false := K25.frozen 11
  have m0 := K15.cell_of 0 rfl
  have m1 := K15.cell_of 1 rfl
  have m2 := K15.cell_of 2 rfl
  have m3 := K15.cell_of 3 rfl
  have m4 := K15.cell_of 4 rfl
  have m5 := K15.cell_of 5 rfl
  have m6 := K15.cell_of 6 rfl
  have m7 := K15.cell_of 7 rfl
  have m8 := K15.cell_of 8 rfl
  have m9 := K15.cell_of 9 rfl
  have m10 := K15.cell_of 10 rfl
  have m11 := K15.cell_of 11 rfl
  have y0 : w5.frozen? ⟨w.heap.size + 1, 0, none⟩ = false := K15.frozen 0
  have y1 : w5.frozen? ⟨w.heap.size + 1, 1, none⟩ = false := K15.frozen 1
  have y2 : w5.frozen? ⟨w.heap.size + 1, 2, none⟩ = false := K15.frozen 2
  have y3 : w5.frozen? ⟨w.heap.size + 1, 3, none⟩ = false := K15.frozen 3
  have y4 : w5.frozen? ⟨w.heap.size + 1, 4, none⟩ = false := K15.frozen 4
  have y5 : w5.frozen? ⟨w.heap.size + 1, 5, none⟩ = false := K15.frozen 5
  have y6 : w5.frozen? ⟨w.heap.size + 1, 6, none⟩ = false := K15.frozen 6
  have y7 : w5.frozen? ⟨w.heap.size + 1, 7, none⟩ = false := K15.frozen 7
  have y8 : w5.frozen? ⟨w.heap.size + 1, 8, none⟩ = false := K15.frozen 8
  have y9 : w5.frozen? ⟨w.heap.size + 1, 9, none⟩ = false := K15.frozen 9
  have y10 : w5.frozen? ⟨w.heap.size + 1, 10, none⟩ = false := K15.frozen 10
  have y11 : w5.frozen? ⟨w.heap.size + 1, 11, none⟩ = false := K15.frozen 11
  go_wp2_with fail
  refine bodyPost_ret (v := .agg #[.int .i64 k, .slice (some ⟨g1, 0, none⟩) name.length name.length, .int .i64 uk, .int .i64 un, .slice uA ua uc, .slice uB ub ud, .int .i64 tk, .int .i64 tn, .slice tA ta tc, .slice tB tb td, .slice (some ⟨g4, 0, none⟩) body.length body.length, .slice (some ⟨g5, 0, none⟩) els.length els.length]) (by simp [results, Try.results110, go_sem, m0, m1, m2, m3, m4, m5, m6, m7, m8, m9, m10, m11]) rfl ?_
  have hL0 := hbw5.size
  have k1 : ∀ p : Addr, w.heap.size + 1 + 1 + 1 ≤ p.block → p.block < w5.heap.size → (setL (setL w5 (w.heap.size + 1 + 1) 11 [.slice (some ⟨g5, 0, none⟩) els.length els.length]) (w.heap.size + 1) 0 [.int .i64 k, .slice (some ⟨g1, 0, none⟩) name.length name.length, .int .i64 uk, .int .i64 un, .slice uA ua uc, .slice uB ub ud, .int .i64 tk, .int .i64 tn, .slice tA ta tc, .slice tB tb td, .slice (some ⟨g4, 0, none⟩) body.length body.length, .slice (some ⟨g5, 0, none⟩) els.length els.length]).cell? p = w5.cell? p := by
    intro p h1 h2
    have n1 : p.block ≠ w.heap.size + 1 := by omega
    have n2 : p.block ≠ w.heap.size + 1 + 1 := by omega
    rw [setL_cell n1, setL_cell n2]
  have hfs : (setL (setL w5 (w.heap.size + 1 + 1) 11 [.slice (some ⟨g5, 0, none⟩) els.length els.length]) (w.heap.size + 1) 0 [.int .i64 k, .slice (some ⟨g1, 0, none⟩) name.length name.length, .int .i64 uk, .int .i64 un, .slice uA ua uc, .slice uB ub ud, .int .i64 tk, .int .i64 tn, .slice tA ta tc, .slice tB tb td, .slice (some ⟨g4, 0, none⟩) body.length body.length, .slice (some ⟨g5, 0, none⟩) els.length els.length]).heap.size = w5.heap.size := by rw [setL_size, setL_size]
  have hbf0 : Below w.heap.size w (setL w5 (w.heap.size + 1 + 1) 11 [.slice (some ⟨g5, 0, none⟩) els.length els.length]) := setL_below [.slice (some ⟨g5, 0, none⟩) els.length els.length] 11 hbw5 (by omega)
  have hbf : Below w.heap.size w (setL (setL w5 (w.heap.size + 1 + 1) 11 [.slice (some ⟨g5, 0, none⟩) els.length els.length]) (w.heap.size + 1) 0 [.int .i64 k, .slice (some ⟨g1, 0, none⟩) name.length name.length, .int .i64 uk, .int .i64 un, .slice uA ua uc, .slice uB ub ud, .int .i64 tk, .int .i64 tn, .slice tA ta tc, .slice tB tb td, .slice (some ⟨g4, 0, none⟩) body.length body.length, .slice (some ⟨g5, 0, none⟩) els.length els.length]) := setL_below _ 0 hbf0 (by omega)
  have hgo : ∃ us : List Value, Ending.returned (.agg #[.int .i64 k, .slice (some ⟨g1, 0, none⟩) name.length name.length, .int .i64 uk, .int .i64 un, .slice uA ua uc, .slice uB ub ud, .int .i64 tk, .int .i64 tn, .slice tA ta tc, .slice tB tb td, .slice (some ⟨g4, 0, none⟩) body.length body.length, .slice (some ⟨g5, 0, none⟩) els.length els.length]) = Ending.returned (.agg us.toArray) ∧ StV (setL (setL w5 (w.heap.size + 1 + 1) 11 [.slice (some ⟨g5, 0, none⟩) els.length els.length]) (w.heap.size + 1) 0 [.int .i64 k, .slice (some ⟨g1, 0, none⟩) name.length name.length, .int .i64 uk, .int .i64 un, .slice uA ua uc, .slice uB ub ud, .int .i64 tk, .int .i64 tn, .slice tA ta tc, .slice tB tb td, .slice (some ⟨g4, 0, none⟩) body.length body.length, .slice (some ⟨g5, 0, none⟩) els.length els.length]) w.heap.size (setL (setL w5 (w.heap.size + 1 + 1) 11 [.slice (some ⟨g5, 0, none⟩) els.length els.length]) (w.heap.size + 1) 0 [.int .i64 k, .slice (some ⟨g1, 0, none⟩) name.length name.length, .int .i64 uk, .int .i64 un, .slice uA ua uc, .slice uB ub ud, .int .i64 tk, .int .i64 tn, .slice tA ta tc, .slice tB tb td, .slice (some ⟨g4, 0, none⟩) body.length body.length, .slice (some ⟨g5, 0, none⟩) els.length els.length]).heap.size us (St.mk k name e f body els) ∧ Below w.heap.size w (setL (setL w5 (w.heap.size + 1 + 1) 11 [.slice (some ⟨g5, 0, none⟩) els.length els.length]) (w.heap.size + 1) 0 [.int .i64 k, .slice (some ⟨g1, 0, none⟩) name.length name.length, .int .i64 uk, .int .i64 un, .slice uA ua uc, .slice uB ub ud, .int .i64 tk, .int .i64 tn, .slice tA ta tc, .slice tB tb td, .slice (some ⟨g4, 0, none⟩) body.length body.length, .slice (some ⟨g5, 0, none⟩) els.length els.length]) := by
    rw [hfs]
    clear hfs
    refine ⟨[.int .i64 k, .slice (some ⟨g1, 0, none⟩) name.length name.length, .int .i64 uk, .int .i64 un, .slice uA ua uc, .slice uB ub ud, .int .i64 tk, .int .i64 tn, .slice tA ta tc, .slice tB tb td, .slice (some ⟨g4, 0, none⟩) body.length body.length, .slice (some ⟨g5, 0, none⟩) els.length els.length], rfl, StV.mk_ ((hRn5.keep k1).more (by omega) (Nat.le_refl _)) hm (ExV.more (by omega) (Nat.le_refl _) _ _ _ _ _ (ExV.keep k1 _ _ _ _ _ hE5)) (ExV.more (by omega) (Nat.le_refl _) _ _ _ _ _ (ExV.keep k1 _ _ _ _ _ hF5)) ((hG5.keep k1).more (by omega) (Nat.le_refl _)) ((hH5.keep k1).more (by omega) (Nat.le_refl _)), ?_⟩
    exact hbf
  have eW : (((((((((((((w5.setCell ⟨w.heap.size + 1 + 1, 11, none⟩ (.slice (some ⟨g5, 0, none⟩) els.length els.length)).setCell ⟨w.heap.size + 1, 0, none⟩ (.int .i64 k)).setCell ⟨w.heap.size + 1, 1, none⟩ (.slice (some ⟨g1, 0, none⟩) name.length name.length)).setCell ⟨w.heap.size + 1, 2, none⟩ (.int .i64 uk)).setCell ⟨w.heap.size + 1, 3, none⟩ (.int .i64 un)).setCell ⟨w.heap.size + 1, 4, none⟩ (.slice uA ua uc)).setCell ⟨w.heap.size + 1, 5, none⟩ (.slice uB ub ud)).setCell ⟨w.heap.size + 1, 6, none⟩ (.int .i64 tk)).setCell ⟨w.heap.size + 1, 7, none⟩ (.int .i64 tn)).setCell ⟨w.heap.size + 1, 8, none⟩ (.slice tA ta tc)).setCell ⟨w.heap.size + 1, 9, none⟩ (.slice tB tb td)).setCell ⟨w.heap.size + 1, 10, none⟩ (.slice (some ⟨g4, 0, none⟩) body.length body.length)).setCell ⟨w.heap.size + 1, 11, none⟩ (.slice (some ⟨g5, 0, none⟩) els.length els.length)) = setL (setL w5 (w.heap.size + 1 + 1) 11 [.slice (some ⟨g5, 0, none⟩) els.length els.length]) (w.heap.size + 1) 0 [.int .i64 k, .slice (some ⟨g1, 0, none⟩) name.length name.length, .int .i64 uk, .int .i64 un, .slice uA ua uc, .slice uB ub ud, .int .i64 tk, .int .i64 tn, .slice tA ta tc, .slice tB tb td, .slice (some ⟨g4, 0, none⟩) body.length body.length, .slice (some ⟨g5, 0, none⟩) els.length els.length] := rfl
  rw [eW]
  exact hgo
end Go.Proofs.Ytofnkhejpkfokaa
