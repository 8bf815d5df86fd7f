/-
  The program's check of an order, by its table.
-/
import Derived.Test.YtebgigiakfjocaaDoorIsMet
namespace Go.Proofs.YtebgigiakfjocaaDoor
open Go.RowKit
set_option linter.unusedVariables false
set_option linter.unusedSimpArgs false
namespace Cod

/-- the table of orders -/
def Forms (w : World) (B : Nat) : Prop := 1 < B ∧ ∀ k : Nat, k < 15 → ∃ s : ByteArray, w.cell? ⟨1, k * 5, none⟩ = some (.string s) ∧
  w.cell? ⟨1, k * 5 + 1, none⟩ = some (.int .i64 (wA.getD k 0)) ∧ w.cell? ⟨1, k * 5 + 2, none⟩ = some (.int .i64 (wB.getD k 0)) ∧
  w.cell? ⟨1, k * 5 + 3, none⟩ = some (.int .i64 (wC.getD k 0)) ∧ w.cell? ⟨1, k * 5 + 4, none⟩ = some (.bool (nmd k))
theorem Forms.below {w w' : World} {B : Nat} (h : Forms w B) (hb : Below B w w') : Forms w' B :=
  ⟨h.1, fun k hk => by
    obtain ⟨s, h0, h1, h2, h3, h4⟩ := h.2 k hk
    exact ⟨s, (hb.cell (p := ⟨_, _, none⟩) h.1).trans h0, (hb.cell (p := ⟨_, _, none⟩) h.1).trans h1, (hb.cell (p := ⟨_, _, none⟩) h.1).trans h2, (hb.cell (p := ⟨_, _, none⟩) h.1).trans h3, (hb.cell (p := ⟨_, _, none⟩) h.1).trans h4⟩⟩
theorem Forms.more {w : World} {B B' : Nat} (h : Forms w B) (hB : B ≤ B') : Forms w B' := ⟨Nat.lt_of_lt_of_le h.1 hB, h.2⟩
theorem wA_le (k : Nat) : 0 ≤ wA.getD k 0 ∧ wA.getD k 0 ≤ 7 := by
  by_cases h : k < 15
  · have : ∀ k : Fin 15, 0 ≤ wA.getD k.1 0 ∧ wA.getD k.1 0 ≤ 7 := by decide
    exact this ⟨k, h⟩
  · have : wA.length ≤ k := by show 15 ≤ k; omega
    rw [List.getD_eq_getElem?_getD, List.getElem?_eq_none this]; simp
theorem wB_le (k : Nat) : 0 ≤ wB.getD k 0 ∧ wB.getD k 0 ≤ 7 := by
  by_cases h : k < 15
  · have : ∀ k : Fin 15, 0 ≤ wB.getD k.1 0 ∧ wB.getD k.1 0 ≤ 7 := by decide
    exact this ⟨k, h⟩
  · have : wB.length ≤ k := by show 15 ≤ k; omega
    rw [List.getD_eq_getElem?_getD, List.getElem?_eq_none this]; simp
theorem wC_le (k : Nat) : 0 ≤ wC.getD k 0 ∧ wC.getD k 0 ≤ 7 := by
  by_cases h : k < 15
  · have : ∀ k : Fin 15, 0 ≤ wC.getD k.1 0 ∧ wC.getD k.1 0 ≤ 7 := by decide
    exact this ⟨k, h⟩
  · have : wC.length ≤ k := by show 15 ≤ k; omega
    rw [List.getD_eq_getElem?_getD, List.getElem?_eq_none this]; simp
theorem wAB_no7 (k : Nat) : wA.getD k 0 ≠ 7 ∧ wB.getD k 0 ≠ 7 ∧ (wC.getD k 0 = 7 → wB.getD k 0 = 6) := by
  by_cases h : k < 15
  · have : ∀ k : Fin 15, wA.getD k.1 0 ≠ 7 ∧ wB.getD k.1 0 ≠ 7 ∧ (wC.getD k.1 0 = 7 → wB.getD k.1 0 = 6) := by decide
    exact this ⟨k, h⟩
  · have h1 : wA.length ≤ k := by show 15 ≤ k; omega
    have h2 : wB.length ≤ k := by show 15 ≤ k; omega
    have h3 : wC.length ≤ k := by show 15 ≤ k; omega
    rw [List.getD_eq_getElem?_getD, List.getElem?_eq_none h1, List.getD_eq_getElem?_getD, List.getElem?_eq_none h2, List.getD_eq_getElem?_getD, List.getElem?_eq_none h3]; simp

/-- the four boxes that orderOk makes -/
structure Box (w : World) (g : Nat) (C0 U0 U1 U2 O0 O1 O2 O3 O4 T0 T1 T2 T3 T4 : Value) : Prop where
  c : Blk w g 56 #[C0]
  u : Blk w (g + 1) 102 #[U0, U1, U2]
  o : Blk w (g + 1 + 1) 104 #[O0, O1, O2, O3, O4]
  t : Blk w (g + 1 + 1 + 1) 108 #[T0, T1, T2, T3, T4]
theorem Box.below {w w' : World} {g : Nat} {C0 U0 U1 U2 O0 O1 O2 O3 O4 T0 T1 T2 T3 T4 : Value} (h : Box w g C0 U0 U1 U2 O0 O1 O2 O3 O4 T0 T1 T2 T3 T4) (hb : Below w.heap.size w w') : Box w' g C0 U0 U1 U2 O0 O1 O2 O3 O4 T0 T1 T2 T3 T4 :=
  ⟨h.c.below hb h.c.lt, h.u.below hb h.u.lt, h.o.below hb h.o.lt, h.t.below hb h.t.lt⟩
theorem Box.new (w : World) (C0 U0 U1 U2 O0 O1 O2 O3 O4 T0 T1 T2 T3 T4 : Value) :
    Box ((((w.alloc (.cells #[C0] 56)).alloc (.cells #[U0, U1, U2] 102)).alloc (.cells #[O0, O1, O2, O3, O4] 104)).alloc (.cells #[T0, T1, T2, T3, T4] 108)) w.heap.size C0 U0 U1 U2 O0 O1 O2 O3 O4 T0 T1 T2 T3 T4 := by
  refine ⟨(((Blk.new w _ _).alloc _).alloc _).alloc _, ?_, ?_, ?_⟩
  · have := Blk.new (w.alloc (.cells #[C0] 56)) 102 #[U0, U1, U2]
    rw [World.size_alloc] at this
    exact (this.alloc _).alloc _
  · have := Blk.new ((w.alloc (.cells #[C0] 56)).alloc (.cells #[U0, U1, U2] 102)) 104 #[O0, O1, O2, O3, O4]
    rw [World.size_alloc, World.size_alloc] at this
    exact this.alloc _
  · have := Blk.new (((w.alloc (.cells #[C0] 56)).alloc (.cells #[U0, U1, U2] 102)).alloc (.cells #[O0, O1, O2, O3, O4] 104)) 108 #[T0, T1, T2, T3, T4]
    rw [World.size_alloc, World.size_alloc, World.size_alloc] at this
    exact this
theorem Box.cells {w : World} {g : Nat} {C0 U0 U1 U2 O0 O1 O2 O3 O4 T0 T1 T2 T3 T4 : Value} (h : Box w g C0 U0 U1 U2 O0 O1 O2 O3 O4 T0 T1 T2 T3 T4) :
    w.cell? ⟨g, 0, none⟩ = some C0 ∧ (w.cell? ⟨g + 1, 0, none⟩ = some U0 ∧ w.cell? ⟨g + 1, 1, none⟩ = some U1 ∧ w.cell? ⟨g + 1, 2, none⟩ = some U2) ∧
    (w.cell? ⟨g + 1 + 1, 0, none⟩ = some O0 ∧ w.cell? ⟨g + 1 + 1, 1, none⟩ = some O1 ∧ w.cell? ⟨g + 1 + 1, 2, none⟩ = some O2 ∧ w.cell? ⟨g + 1 + 1, 3, none⟩ = some O3 ∧ w.cell? ⟨g + 1 + 1, 4, none⟩ = some O4) ∧
    w.cell? ⟨g + 1 + 1 + 1, 2, none⟩ = some T2 ∧ w.cell? ⟨g + 1 + 1 + 1, 3, none⟩ = some T3 :=
  ⟨h.c.cel 0 rfl, ⟨h.u.cel 0 rfl, h.u.cel 1 rfl, h.u.cel 2 rfl⟩, ⟨h.o.cel 0 rfl, h.o.cel 1 rfl, h.o.cel 2 rfl, h.o.cel 3 rfl, h.o.cel 4 rfl⟩, h.t.cel 2 rfl, h.t.cel 3 rfl⟩
theorem ordOk_in (C : List Un) (u : Un) (k : Nat) (hk : (k : Int) < 15) (a b c : Int) (nm : List UInt8) : ordOk C u ⟨k, a, b, c, nm⟩ = ((nmd k == decide (0 < nm.length)) && (!nmd k || wordOk nm) &&
    (met (wA.getD k 0) C u b a && met (wB.getD k 0) C u b b && met (wC.getD k 0) C u b c)) := by
  unfold ordOk
  have h1 : decide ((0 : Int) ≤ (k : Int)) = true := decide_eq_true (by omega)
  have h2 : decide ((k : Int) < 15) = true := decide_eq_true hk
  simp only [h1, h2, Bool.true_and, Int.toNat_natCast]
theorem ordOk_out (C : List Un) (u : Un) (o : In) (h : ¬ (0 ≤ o.op ∧ o.op < 15)) : ordOk C u o = false := by
  unfold ordOk
  by_cases h1 : 0 ≤ o.op
  · rw [decide_eq_false (fun h2 => h ⟨h1, h2⟩)]; simp
  · rw [decide_eq_false h1]; simp
theorem met6_in {C : List Un} {u : Un} {b : Int} (h : met 6 C u b b = true) : 0 ≤ b ∧ b < C.length := by
  rw [met6] at h
  simp only [Bool.and_eq_true, decide_eq_true_eq] at h
  exact h

set_option maxRecDepth 100000 in
set_option maxHeartbeats 8000000 in
theorem orderOk_c (C : List Un) (u : Un) (o : In) (CA UA NA : Option Addr) (cc uc nc L B : Nat) (w : World) (hB : B ≤ w.heap.size) (hC : UnL w L B CA C) (hl : u.l.length ≤ 1048576) (hCl : C.length ≤ 1048576)
    (hr : 1 ≤ u.regs ∧ u.regs ≤ 24) (hN : RB w B NA o.name) (hn : o.name.length ≤ 1048576) (hF : Forms w w.heap.size) :
    Calls Tryd.prog 110 #[.agg #[.slice CA C.length cc], .agg #[.int .i64 u.params, .int .i64 u.regs, .slice UA u.l.length uc], .agg #[.int .i64 o.op, .int .i64 o.a, .int .i64 o.b, .int .i64 o.c, .slice NA o.name.length nc]] w
      fun e w' => e = .returned (.bool (ordOk C u o)) ∧ Below w.heap.size w w' := by
  have hb3 : Below w.heap.size w (((w.alloc (.cells #[.slice CA C.length cc] 56)).alloc (.cells #[.int .i64 u.params, .int .i64 u.regs, .slice UA u.l.length uc] 102)).alloc (.cells #[.int .i64 o.op, .int .i64 o.a, .int .i64 o.b, .int .i64 o.c, .slice NA o.name.length nc] 104)) :=
    (((Below.refl _ _).alloc (Nat.le_refl _) _).alloc (by simp) _).alloc (by simp; omega) _
  have Hm := Lib.hid (fun k n X (hX : Below w.heap.size w X) hk h7 => isMet_c k C u o n CA UA NA cc uc nc L B X (Nat.le_trans hB hX.size) (hC.below (hX.mono hB)) hl hCl hr hk h7)
  have HF := Lib.hid (hF.below hb3)
  have Hb3 := Lib.hid hb3
  have HN := Lib.hid hN
  by_cases hop : 0 ≤ o.op ∧ o.op < 15
  · obtain ⟨op, oa, ob, oc, nm⟩ := o
    dsimp only at *
    obtain ⟨k, rfl⟩ : ∃ k : Nat, op = k := ⟨op.toNat, by omega⟩
    obtain ⟨s, t0, t1, t2, t3, t4⟩ := HF.out.2 k (by omega)
    clear hC hb3 hF hN
    have hk0 : 0 ≤ (k : Int) := hop.1
    have hk1 : (k : Int) < 15 := hop.2
    obtain ⟨xA, hxA⟩ : ∃ x, x = wA.getD k 0 := ⟨_, rfl⟩
    obtain ⟨xB, hxB⟩ : ∃ x, x = wB.getD k 0 := ⟨_, rfl⟩
    obtain ⟨xC, hxC⟩ : ∃ x, x = wC.getD k 0 := ⟨_, rfl⟩
    obtain ⟨xN, hxN⟩ : ∃ x, x = nmd k := ⟨_, rfl⟩
    rw [← hxA] at t1
    rw [← hxB] at t2
    rw [← hxC] at t3
    rw [← hxN] at t4
    have HxA := Lib.hid hxA
    have HxB := Lib.hid hxB
    have HxC := Lib.hid hxC
    have HxN := Lib.hid hxN
    clear hxA hxB hxC hxN hop HF
    obtain ⟨nl, hnl⟩ : ∃ n, n = nm.length := ⟨_, rfl⟩
    rw [← hnl] at Hm Hb3 t0 t1 t2 t3 t4 hn
    rw [← hnl]
    have Hnl := Lib.hid hnl
    clear hnl
    cases xN
    · by_cases hz : nl = 0
      · subst hz
        go_enter Tryd.func110, Tryd.ntmps110
        have Hbx := Lib.hid (Box.new w (.slice CA C.length cc) (.int .i64 u.params) (.int .i64 u.regs) (.slice UA u.l.length uc) (.int .i64 (k : Int)) (.int .i64 oa) (.int .i64 ob) (.int .i64 oc) (.slice NA 0 nc) (.string s) (.int .i64 xA) (.int .i64 xB) (.int .i64 xC) (.bool false))
        have hb4 := Hb3.out.alloc Hb3.out.size (.cells #[.string s, .int .i64 xA, .int .i64 xB, .int .i64 xC, .bool false] 108)
        have Hb4 := Lib.hid hb4
        have Hc := Lib.hid (Hm.out xA oa ((((w.alloc (.cells #[.slice CA C.length cc] 56)).alloc (.cells #[.int .i64 u.params, .int .i64 u.regs, .slice UA u.l.length uc] 102)).alloc (.cells #[.int .i64 (k : Int), .int .i64 oa, .int .i64 ob, .int .i64 oc, .slice NA 0 nc] 104)).alloc (.cells #[.string s, .int .i64 xA, .int .i64 xB, .int .i64 xC, .bool false] 108)) hb4 (by rw [HxA.out]; exact wA_le k) (fun h => absurd (HxA.out.symm.trans h) (wAB_no7 k).1))
        clear hb4
        go_wp2_with fail
        refine Hc.out.mono ?_
        rintro e w5 ⟨rfl, hb5⟩
        have Hb05 := Lib.hid (Hb4.out.trans (hb5.mono Hb4.out.size))
        have Hbx5 := Lib.hid (Hbx.out.below hb5)
        clear hb5 Hc Hbx Hb4
        cases hA : met xA C u ob oa
        · have Hres := Lib.hid (show ordOk C u ⟨k, oa, ob, oc, nm⟩ = false by rw [ordOk_in C u k hk1, ← HxA.out, hA]; simp)
          clear hA
          go_wp2
          go_ret
          exact ⟨by rw [Hres.out]; first | rfl | simp, Hb05.out⟩
        obtain ⟨q0, ⟨q1, q2, q3⟩, ⟨q4, q5, q6, q7, q8⟩, q9, q10⟩ := Hbx5.out.cells
        have HA := Lib.hid hA
        have Hc := Lib.hid (Hm.out xB ob w5 Hb05.out (by rw [HxB.out]; exact wB_le k) (fun h => absurd (HxB.out.symm.trans h) (wAB_no7 k).2.1))
        clear hA
        go_wp2_with fail
        refine Hc.out.mono ?_
        rintro e w6 ⟨rfl, hb6⟩
        have Hb06 := Lib.hid (Hb05.out.trans (hb6.mono Hb05.out.size))
        have Hbx6 := Lib.hid (Hbx5.out.below hb6)
        clear hb6 Hc Hbx5 Hb05 q0 q1 q2 q3 q4 q5 q6 q7 q8 q9 q10
        cases hB : met xB C u ob ob
        · have Hres := Lib.hid (show ordOk C u ⟨k, oa, ob, oc, nm⟩ = false by rw [ordOk_in C u k hk1, ← HxB.out, hB]; simp)
          clear hB
          go_wp2
          go_ret
          exact ⟨by rw [Hres.out]; first | rfl | simp, Hb06.out⟩
        obtain ⟨q0, ⟨q1, q2, q3⟩, ⟨q4, q5, q6, q7, q8⟩, q9, q10⟩ := Hbx6.out.cells
        have HBB := Lib.hid hB
        have Hc := Lib.hid (Hm.out xC oc w6 Hb06.out (by rw [HxC.out]; exact wC_le k) (fun h => by
          have h6 := (wAB_no7 k).2.2 (HxC.out.symm.trans h)
          have h7 := HBB.out
          rw [HxB.out, h6] at h7
          exact met6_in h7))
        clear hB
        go_wp2_with fail
        refine Hc.out.mono ?_
        rintro e w7 ⟨rfl, hb7⟩
        have Hb07 := Lib.hid (Hb06.out.trans (hb7.mono Hb06.out.size))
        have Hres := Lib.hid (show ordOk C u ⟨k, oa, ob, oc, nm⟩ = met xC C u ob oc by rw [ordOk_in C u k hk1, ← HxA.out, ← HxB.out, ← HxC.out, HA.out, HBB.out]; rw [← HxN.out, ← Hnl.out]; simp)
        clear hb7 Hc Hbx6 Hb06 q0 q1 q2 q3 q4 q5 q6 q7 q8 q9 q10
        go_wp2
        go_ret
        exact ⟨by rw [Hres.out]; first | rfl | simp, Hb07.out⟩
      · have hz0 : 0 < (nl : Int) := by omega
        go_enter Tryd.func110, Tryd.ntmps110
        have Hres := Lib.hid (show ordOk C u ⟨k, oa, ob, oc, nm⟩ = false by rw [ordOk_in C u k hk1]; rw [← HxN.out, ← Hnl.out, decide_eq_true (by omega : 0 < nl)]; simp)
        have Hb4 := Lib.hid (fun b => Hb3.out.alloc Hb3.out.size (.cells #[.string s, .int .i64 xA, .int .i64 xB, .int .i64 xC, .bool b] 108))
        clear HxN
        go_wp2
        go_ret
        exact ⟨by rw [Hres.out]; first | rfl | simp, Hb4.out _⟩
    · by_cases hz : nl = 0
      · subst hz
        go_enter Tryd.func110, Tryd.ntmps110
        have Hres := Lib.hid (show ordOk C u ⟨k, oa, ob, oc, nm⟩ = false by rw [ordOk_in C u k hk1]; rw [← HxN.out, ← Hnl.out]; simp)
        have Hb4 := Lib.hid (fun b => Hb3.out.alloc Hb3.out.size (.cells #[.string s, .int .i64 xA, .int .i64 xB, .int .i64 xC, .bool b] 108))
        clear HxN
        go_wp2
        go_ret
        exact ⟨by rw [Hres.out]; first | rfl | simp, Hb4.out _⟩
      · have hz0 : 0 < (nl : Int) := by omega
        have Hw0 := (implWordOk_c nm NA nc B ((((w.alloc (.cells #[.slice CA C.length cc] 56)).alloc (.cells #[.int .i64 u.params, .int .i64 u.regs, .slice UA u.l.length uc] 102)).alloc (.cells #[.int .i64 (k : Int), .int .i64 oa, .int .i64 ob, .int .i64 oc, .slice NA nl nc] 104)).alloc (.cells #[.string s, .int .i64 xA, .int .i64 xB, .int .i64 xC, .bool true] 108)) (by rw [← Hnl.out]; omega) ((((HN.out.alloc hB _).alloc (by simp; omega) _).alloc (by simp; omega) _).alloc (by simp; omega) _))
        rw [← Hnl.out] at Hw0
        have Hw := Lib.hid Hw0
        clear Hw0
        have Hz := Lib.hid hz
        cases hw : wordOk nm
        · rw [hw] at Hw
          go_enter Tryd.func110, Tryd.ntmps110
          go_wp2_with fail
          refine Hw.out.mono ?_
          rintro e w' ⟨rfl, rfl⟩
          have Hres := Lib.hid (show ordOk C u ⟨k, oa, ob, oc, nm⟩ = false by rw [ordOk_in C u k hk1]; rw [hw]; simp [← HxN.out])
          have Hb4 := Lib.hid (fun b => Hb3.out.alloc Hb3.out.size (.cells #[.string s, .int .i64 xA, .int .i64 xB, .int .i64 xC, .bool b] 108))
          clear HxN
          go_wp2
          go_ret
          exact ⟨by rw [Hres.out]; first | rfl | simp, Hb4.out _⟩
        · rw [hw] at Hw
          go_enter Tryd.func110, Tryd.ntmps110
          go_wp2_with fail
          refine Hw.out.mono ?_
          rintro e w' ⟨rfl, rfl⟩
          have hw0 : 0 < nl := by have := Hz.out; omega
          have Hbx := Lib.hid (Box.new w (.slice CA C.length cc) (.int .i64 u.params) (.int .i64 u.regs) (.slice UA u.l.length uc) (.int .i64 (k : Int)) (.int .i64 oa) (.int .i64 ob) (.int .i64 oc) (.slice NA nl nc) (.string s) (.int .i64 xA) (.int .i64 xB) (.int .i64 xC) (.bool true))
          have hb4 := Hb3.out.alloc Hb3.out.size (.cells #[.string s, .int .i64 xA, .int .i64 xB, .int .i64 xC, .bool true] 108)
          have Hb4 := Lib.hid hb4
          have Hc := Lib.hid (Hm.out xA oa ((((w.alloc (.cells #[.slice CA C.length cc] 56)).alloc (.cells #[.int .i64 u.params, .int .i64 u.regs, .slice UA u.l.length uc] 102)).alloc (.cells #[.int .i64 (k : Int), .int .i64 oa, .int .i64 ob, .int .i64 oc, .slice NA nl nc] 104)).alloc (.cells #[.string s, .int .i64 xA, .int .i64 xB, .int .i64 xC, .bool true] 108)) hb4 (by rw [HxA.out]; exact wA_le k) (fun h => absurd (HxA.out.symm.trans h) (wAB_no7 k).1))
          clear hb4
          go_wp2_with fail
          refine Hc.out.mono ?_
          rintro e w5 ⟨rfl, hb5⟩
          have Hb05 := Lib.hid (Hb4.out.trans (hb5.mono Hb4.out.size))
          have Hbx5 := Lib.hid (Hbx.out.below hb5)
          clear hb5 Hc Hbx Hb4
          cases hA : met xA C u ob oa
          · have Hres := Lib.hid (show ordOk C u ⟨k, oa, ob, oc, nm⟩ = false by rw [ordOk_in C u k hk1, ← HxA.out, hA]; simp)
            clear hA
            go_wp2
            go_ret
            exact ⟨by rw [Hres.out]; first | rfl | simp, Hb05.out⟩
          obtain ⟨q0, ⟨q1, q2, q3⟩, ⟨q4, q5, q6, q7, q8⟩, q9, q10⟩ := Hbx5.out.cells
          have HA := Lib.hid hA
          have Hc := Lib.hid (Hm.out xB ob w5 Hb05.out (by rw [HxB.out]; exact wB_le k) (fun h => absurd (HxB.out.symm.trans h) (wAB_no7 k).2.1))
          clear hA
          go_wp2_with fail
          refine Hc.out.mono ?_
          rintro e w6 ⟨rfl, hb6⟩
          have Hb06 := Lib.hid (Hb05.out.trans (hb6.mono Hb05.out.size))
          have Hbx6 := Lib.hid (Hbx5.out.below hb6)
          clear hb6 Hc Hbx5 Hb05 q0 q1 q2 q3 q4 q5 q6 q7 q8 q9 q10
          cases hB : met xB C u ob ob
          · have Hres := Lib.hid (show ordOk C u ⟨k, oa, ob, oc, nm⟩ = false by rw [ordOk_in C u k hk1, ← HxB.out, hB]; simp)
            clear hB
            go_wp2
            go_ret
            exact ⟨by rw [Hres.out]; first | rfl | simp, Hb06.out⟩
          obtain ⟨q0, ⟨q1, q2, q3⟩, ⟨q4, q5, q6, q7, q8⟩, q9, q10⟩ := Hbx6.out.cells
          have HBB := Lib.hid hB
          have Hc := Lib.hid (Hm.out xC oc w6 Hb06.out (by rw [HxC.out]; exact wC_le k) (fun h => by
            have h6 := (wAB_no7 k).2.2 (HxC.out.symm.trans h)
            have h7 := HBB.out
            rw [HxB.out, h6] at h7
            exact met6_in h7))
          clear hB
          go_wp2_with fail
          refine Hc.out.mono ?_
          rintro e w7 ⟨rfl, hb7⟩
          have Hb07 := Lib.hid (Hb06.out.trans (hb7.mono Hb06.out.size))
          have Hres := Lib.hid (show ordOk C u ⟨k, oa, ob, oc, nm⟩ = met xC C u ob oc by rw [ordOk_in C u k hk1, ← HxA.out, ← HxB.out, ← HxC.out, HA.out, HBB.out]; rw [← HxN.out, ← Hnl.out, hw]; simp [hw0])
          clear hb7 Hc Hbx6 Hb06 q0 q1 q2 q3 q4 q5 q6 q7 q8 q9 q10
          go_wp2
          go_ret
          exact ⟨by rw [Hres.out]; first | rfl | simp, Hb07.out⟩
  · have Hres := Lib.hid (ordOk_out C u o hop)
    clear HF hC hb3 hF hN Hm HN
    by_cases h0 : 0 ≤ o.op
    · have h1 : 15 ≤ o.op := by omega
      go_enter Tryd.func110, Tryd.ntmps110
      go_wp2
      go_ret
      exact ⟨by rw [Hres.out]; first | rfl | simp, Hb3.out⟩
    · have h1 : o.op < 0 := by omega
      go_enter Tryd.func110, Tryd.ntmps110
      go_wp2
      go_ret
      exact ⟨by rw [Hres.out]; first | rfl | simp, Hb3.out⟩
end Cod
end Go.Proofs.YtebgigiakfjocaaDoor
