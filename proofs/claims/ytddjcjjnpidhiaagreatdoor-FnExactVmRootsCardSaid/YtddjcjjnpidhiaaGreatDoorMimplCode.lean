/-
  The program's CodeOk.
-/
import Derived.Test.YtddjcjjnpidhiaaGreatDoorCodeD
import Derived.BigQuiet
namespace Go.Proofs.YtddjcjjnpidhiaaGreatDoor
open Go.RowKit
set_option linter.unusedVariables false
set_option linter.unusedSimpArgs false
namespace Cod

set_option maxHeartbeats 1000000 in
theorem isPlace_c (u : Un) (A : Option Addr) (c : Nat) (n : Int) (w : World) (hl : u.l.length ≤ 1048576) :
    Calls Tryz.prog 68 #[.agg #[.int .i64 u.params, .int .i64 u.regs, .slice A u.l.length c], .int .i64 n] w fun e w' => e = .returned (.bool (decide (0 ≤ n) && decide (n < u.l.length))) ∧ Below w.heap.size w w' := by
  obtain ⟨pm, rg, l⟩ := u
  dsimp only at *
  by_cases h : 0 ≤ n
  · rw [decide_eq_true h, Bool.true_and]
    go_enter Tryz.func68, Tryz.ntmps68
    go_wp2
    go_ret
    exact ⟨rfl, blwC _ _⟩
  · rw [decide_eq_false h, Bool.false_and]
    go_enter Tryz.func68, Tryz.ntmps68
    go_wp2
    go_ret
    exact ⟨rfl, blwC _ _⟩

set_option maxRecDepth 100000 in
set_option maxHeartbeats 8000000 in
theorem isMet_c (k : Int) (C : List Un) (u : Un) (o : In) (n : Int) (CA UA NA : Option Addr) (cc uc nc L B : Nat) (w : World) (hB : B ≤ w.heap.size) (hC : UnL w L B CA C) (hl : u.l.length ≤ 1048576) (hCl : C.length ≤ 1048576)
    (hr : 1 ≤ u.regs ∧ u.regs ≤ 24) (hk : 0 ≤ k ∧ k ≤ 7) (h7 : k = 7 → 0 ≤ o.b ∧ o.b < C.length) :
    Calls Tryz.prog 110 #[.int .i64 k, .agg #[.slice CA C.length cc], .agg #[.int .i64 u.params, .int .i64 u.regs, .slice UA u.l.length uc], .agg #[.int .i64 o.op, .int .i64 o.a, .int .i64 o.b, .int .i64 o.c, .slice NA o.name.length nc], .int .i64 n] w
      fun e w' => e = .returned (.bool (met k C u o.b n)) ∧ Below w.heap.size w w' := by
  have hb3 : Below w.heap.size w (((w.alloc (.cells #[.slice CA C.length cc] 37)).alloc (.cells #[.int .i64 u.params, .int .i64 u.regs, .slice UA u.l.length uc] 63)).alloc (.cells #[.int .i64 o.op, .int .i64 o.a, .int .i64 o.b, .int .i64 o.c, .slice NA o.name.length nc] 90)) :=
    (((Below.refl _ _).alloc (Nat.le_refl _) _).alloc (by simp) _).alloc (by simp; omega) _
  have Hpl := Lib.hid (fun X => isPlace_c u UA uc n X hl)
  have Hbs := Lib.hid (fun X => binSign_c n X)
  have HC := Lib.hid (hC.below (hb3.mono hB))
  have Hb3 := Lib.hid hb3
  have hks : k = 0 ∨ k = 1 ∨ k = 2 ∨ k = 3 ∨ k = 4 ∨ k = 5 ∨ k = 6 ∨ k = 7 := by omega
  clear hk hC hb3
  rcases hks with rfl | rfl | rfl | rfl | rfl | rfl | rfl | rfl
  · rw [met0]
    clear h7 HC Hpl Hbs
    go_enter Tryz.func110, Tryz.ntmps110
    go_wp2
    go_ret
    exact ⟨by first | rfl | simp, Hb3.out⟩
  · rw [met1]
    clear h7 HC Hpl Hbs
    by_cases h : 0 ≤ n
    · rw [decide_eq_true h, Bool.true_and]
      go_enter Tryz.func110, Tryz.ntmps110
      go_wp2
      go_ret
      exact ⟨by first | rfl | simp, Hb3.out⟩
    · rw [decide_eq_false h, Bool.false_and]
      go_enter Tryz.func110, Tryz.ntmps110
      go_wp2
      go_ret
      exact ⟨by first | rfl | simp, Hb3.out⟩
  · rw [met2]
    clear h7 HC Hpl Hbs
    by_cases h : 0 ≤ n
    · rw [decide_eq_true h, Bool.true_and]
      go_enter Tryz.func110, Tryz.ntmps110
      go_wp2
      go_ret
      exact ⟨by first | rfl | simp, Hb3.out⟩
    · rw [decide_eq_false h, Bool.false_and]
      go_enter Tryz.func110, Tryz.ntmps110
      go_wp2
      go_ret
      exact ⟨by first | rfl | simp, Hb3.out⟩
  · rw [met3]
    clear h7 HC Hbs
    go_enter Tryz.func110, Tryz.ntmps110
    go_wp2_with fail
    refine (Hpl.out _).mono ?_
    rintro e w2 ⟨rfl, hb2⟩
    have hbn := Hb3.out.trans (hb2.mono Hb3.out.size)
    go_wp2
    go_ret
    exact ⟨rfl, hbn⟩
  · rw [met4]
    clear h7 HC Hpl Hbs
    by_cases h : 0 ≤ n
    · rw [decide_eq_true h, Bool.true_and]
      go_enter Tryz.func110, Tryz.ntmps110
      go_wp2
      go_ret
      exact ⟨by first | rfl | simp, Hb3.out⟩
    · rw [decide_eq_false h, Bool.false_and]
      go_enter Tryz.func110, Tryz.ntmps110
      go_wp2
      go_ret
      exact ⟨by first | rfl | simp, Hb3.out⟩
  · rw [met5]
    clear h7 HC Hpl
    go_enter Tryz.func110, Tryz.ntmps110
    go_wp2_with fail
    refine (Hbs.out _).mono ?_
    rintro e w2 ⟨rfl, rfl⟩
    go_wp2
    go_ret
    exact ⟨rfl, Hb3.out⟩
  · rw [met6]
    clear h7 HC Hpl Hbs
    by_cases h : 0 ≤ n
    · rw [decide_eq_true h, Bool.true_and]
      go_enter Tryz.func110, Tryz.ntmps110
      go_wp2
      go_ret
      exact ⟨by first | rfl | simp, Hb3.out⟩
    · rw [decide_eq_false h, Bool.false_and]
      go_enter Tryz.func110, Tryz.ntmps110
      go_wp2
      go_ret
      exact ⟨by first | rfl | simp, Hb3.out⟩
  · rw [met7]
    clear Hpl Hbs
    obtain ⟨h1, h2⟩ := h7 rfl
    clear h7
    obtain ⟨ob, hob⟩ : ∃ b, b = o.b := ⟨_, rfl⟩
    rw [← hob] at h1 h2 HC Hb3
    rw [← hob]
    clear hob
    obtain ⟨j, rfl⟩ : ∃ j : Nat, ob = j := ⟨ob.toNat, by omega⟩
    have hj : j < C.length := by omega
    have hp : pOf C (j : Int) = C[j].params := by unfold pOf; simp [hj]
    rw [hp]
    obtain ⟨ad, rfl, _, hbk, hat⟩ := HC.out.2 (by omega)
    obtain ⟨x0, x1, x2, ⟨d0, d1, d2⟩, rfl, rfl, XA, xc, rfl, -⟩ := hat j hj
    obtain ⟨p, hp2⟩ : ∃ p, p = C[j].params := ⟨_, rfl⟩
    rw [← hp2] at d0
    rw [← hp2]
    clear hat hp hp2 d1 d2 HC
    by_cases h : 0 ≤ n
    · rw [decide_eq_true h, Bool.true_and]
      go_enter Tryz.func110, Tryz.ntmps110
      go_wp2
      go_quiet (fail)
      go_wp2
      go_ret
      exact ⟨by first | rfl | simp, blw_drewN Hb3.out _⟩
    · rw [decide_eq_false h, Bool.false_and]
      have hd0 : decide (0 ≤ n) = false := decide_eq_false h
      have hd1 : n < 0 := by omega
      go_enter Tryz.func110, Tryz.ntmps110
      go_wp2
      go_quiet (fail)
      go_wp2
      go_ret
      exact ⟨by first | rfl | simp, blw_drewN Hb3.out _⟩
end Cod
end Go.Proofs.YtddjcjjnpidhiaaGreatDoor

namespace Go.Proofs.YtddjcjjnpidhiaaGreatDoor
open Go.RowKit
set_option linter.unusedVariables false
set_option linter.unusedSimpArgs false
namespace Cod

/-- the table of orders -/
def Forms (w : World) (B : Nat) : Prop := 0 < B ∧ ∀ k : Nat, k < 15 → ∃ s : ByteArray, w.cell? ⟨0, k * 5, none⟩ = some (.string s) ∧
  w.cell? ⟨0, k * 5 + 1, none⟩ = some (.int .i64 (wA.getD k 0)) ∧ w.cell? ⟨0, k * 5 + 2, none⟩ = some (.int .i64 (wB.getD k 0)) ∧
  w.cell? ⟨0, k * 5 + 3, none⟩ = some (.int .i64 (wC.getD k 0)) ∧ w.cell? ⟨0, k * 5 + 4, none⟩ = some (.bool (nmd k))
theorem Forms.below {w w' : World} {B : Nat} (h : Forms w B) (hb : Below B w w') : Forms w' B :=
  ⟨h.1, fun k hk => by
    obtain ⟨s, h0, h1, h2, h3, h4⟩ := h.2 k hk
    exact ⟨s, (hb.cell (p := ⟨_, _, none⟩) h.1).trans h0, (hb.cell (p := ⟨_, _, none⟩) h.1).trans h1, (hb.cell (p := ⟨_, _, none⟩) h.1).trans h2, (hb.cell (p := ⟨_, _, none⟩) h.1).trans h3, (hb.cell (p := ⟨_, _, none⟩) h.1).trans h4⟩⟩
theorem Forms.more {w : World} {B B' : Nat} (h : Forms w B) (hB : B ≤ B') : Forms w B' := ⟨Nat.lt_of_lt_of_le h.1 hB, h.2⟩
theorem wA_le (k : Nat) : 0 ≤ wA.getD k 0 ∧ wA.getD k 0 ≤ 7 := by
  by_cases h : k < 15
  · have : ∀ k : Fin 15, 0 ≤ wA.getD k.1 0 ∧ wA.getD k.1 0 ≤ 7 := by decide
    exact this ⟨k, h⟩
  · have : wA.length ≤ k := by show 15 ≤ k; omega
    rw [List.getD_eq_getElem?_getD, List.getElem?_eq_none this]; simp
theorem wB_le (k : Nat) : 0 ≤ wB.getD k 0 ∧ wB.getD k 0 ≤ 7 := by
  by_cases h : k < 15
  · have : ∀ k : Fin 15, 0 ≤ wB.getD k.1 0 ∧ wB.getD k.1 0 ≤ 7 := by decide
    exact this ⟨k, h⟩
  · have : wB.length ≤ k := by show 15 ≤ k; omega
    rw [List.getD_eq_getElem?_getD, List.getElem?_eq_none this]; simp
theorem wC_le (k : Nat) : 0 ≤ wC.getD k 0 ∧ wC.getD k 0 ≤ 7 := by
  by_cases h : k < 15
  · have : ∀ k : Fin 15, 0 ≤ wC.getD k.1 0 ∧ wC.getD k.1 0 ≤ 7 := by decide
    exact this ⟨k, h⟩
  · have : wC.length ≤ k := by show 15 ≤ k; omega
    rw [List.getD_eq_getElem?_getD, List.getElem?_eq_none this]; simp
theorem wAB_no7 (k : Nat) : wA.getD k 0 ≠ 7 ∧ wB.getD k 0 ≠ 7 ∧ (wC.getD k 0 = 7 → wB.getD k 0 = 6) := by
  by_cases h : k < 15
  · have : ∀ k : Fin 15, wA.getD k.1 0 ≠ 7 ∧ wB.getD k.1 0 ≠ 7 ∧ (wC.getD k.1 0 = 7 → wB.getD k.1 0 = 6) := by decide
    exact this ⟨k, h⟩
  · have h1 : wA.length ≤ k := by show 15 ≤ k; omega
    have h2 : wB.length ≤ k := by show 15 ≤ k; omega
    have h3 : wC.length ≤ k := by show 15 ≤ k; omega
    rw [List.getD_eq_getElem?_getD, List.getElem?_eq_none h1, List.getD_eq_getElem?_getD, List.getElem?_eq_none h2, List.getD_eq_getElem?_getD, List.getElem?_eq_none h3]; simp

/-- the four boxes that orderOk makes -/
structure Box (w : World) (g : Nat) (C0 U0 U1 U2 O0 O1 O2 O3 O4 T0 T1 T2 T3 T4 : Value) : Prop where
  c : Blk w g 37 #[C0]
  u : Blk w (g + 1) 63 #[U0, U1, U2]
  o : Blk w (g + 1 + 1) 90 #[O0, O1, O2, O3, O4]
  t : Blk w (g + 1 + 1 + 1) 155 #[T0, T1, T2, T3, T4]
theorem Box.below {w w' : World} {g : Nat} {C0 U0 U1 U2 O0 O1 O2 O3 O4 T0 T1 T2 T3 T4 : Value} (h : Box w g C0 U0 U1 U2 O0 O1 O2 O3 O4 T0 T1 T2 T3 T4) (hb : Below w.heap.size w w') : Box w' g C0 U0 U1 U2 O0 O1 O2 O3 O4 T0 T1 T2 T3 T4 :=
  ⟨h.c.below hb h.c.lt, h.u.below hb h.u.lt, h.o.below hb h.o.lt, h.t.below hb h.t.lt⟩
theorem Box.new (w : World) (C0 U0 U1 U2 O0 O1 O2 O3 O4 T0 T1 T2 T3 T4 : Value) :
    Box ((((w.alloc (.cells #[C0] 37)).alloc (.cells #[U0, U1, U2] 63)).alloc (.cells #[O0, O1, O2, O3, O4] 90)).alloc (.cells #[T0, T1, T2, T3, T4] 155)) w.heap.size C0 U0 U1 U2 O0 O1 O2 O3 O4 T0 T1 T2 T3 T4 := by
  refine ⟨(((Blk.new w _ _).alloc _).alloc _).alloc _, ?_, ?_, ?_⟩
  · have := Blk.new (w.alloc (.cells #[C0] 37)) 63 #[U0, U1, U2]
    rw [World.size_alloc] at this
    exact (this.alloc _).alloc _
  · have := Blk.new ((w.alloc (.cells #[C0] 37)).alloc (.cells #[U0, U1, U2] 63)) 90 #[O0, O1, O2, O3, O4]
    rw [World.size_alloc, World.size_alloc] at this
    exact this.alloc _
  · have := Blk.new (((w.alloc (.cells #[C0] 37)).alloc (.cells #[U0, U1, U2] 63)).alloc (.cells #[O0, O1, O2, O3, O4] 90)) 155 #[T0, T1, T2, T3, T4]
    rw [World.size_alloc, World.size_alloc, World.size_alloc] at this
    exact this
theorem Box.cells {w : World} {g : Nat} {C0 U0 U1 U2 O0 O1 O2 O3 O4 T0 T1 T2 T3 T4 : Value} (h : Box w g C0 U0 U1 U2 O0 O1 O2 O3 O4 T0 T1 T2 T3 T4) :
    w.cell? ⟨g, 0, none⟩ = some C0 ∧ (w.cell? ⟨g + 1, 0, none⟩ = some U0 ∧ w.cell? ⟨g + 1, 1, none⟩ = some U1 ∧ w.cell? ⟨g + 1, 2, none⟩ = some U2) ∧
    (w.cell? ⟨g + 1 + 1, 0, none⟩ = some O0 ∧ w.cell? ⟨g + 1 + 1, 1, none⟩ = some O1 ∧ w.cell? ⟨g + 1 + 1, 2, none⟩ = some O2 ∧ w.cell? ⟨g + 1 + 1, 3, none⟩ = some O3 ∧ w.cell? ⟨g + 1 + 1, 4, none⟩ = some O4) ∧
    w.cell? ⟨g + 1 + 1 + 1, 2, none⟩ = some T2 ∧ w.cell? ⟨g + 1 + 1 + 1, 3, none⟩ = some T3 :=
  ⟨h.c.cel 0 rfl, ⟨h.u.cel 0 rfl, h.u.cel 1 rfl, h.u.cel 2 rfl⟩, ⟨h.o.cel 0 rfl, h.o.cel 1 rfl, h.o.cel 2 rfl, h.o.cel 3 rfl, h.o.cel 4 rfl⟩, h.t.cel 2 rfl, h.t.cel 3 rfl⟩
theorem ordOk_in (C : List Un) (u : Un) (k : Nat) (hk : (k : Int) < 15) (a b c : Int) (nm : List UInt8) : ordOk C u ⟨k, a, b, c, nm⟩ = ((nmd k == decide (0 < nm.length)) && (!nmd k || wordOk nm) &&
    (met (wA.getD k 0) C u b a && met (wB.getD k 0) C u b b && met (wC.getD k 0) C u b c)) := by
  unfold ordOk
  have h1 : decide ((0 : Int) ≤ (k : Int)) = true := decide_eq_true (by omega)
  have h2 : decide ((k : Int) < 15) = true := decide_eq_true hk
  simp only [h1, h2, Bool.true_and, Int.toNat_natCast]
theorem ordOk_out (C : List Un) (u : Un) (o : In) (h : ¬ (0 ≤ o.op ∧ o.op < 15)) : ordOk C u o = false := by
  unfold ordOk
  by_cases h1 : 0 ≤ o.op
  · rw [decide_eq_false (fun h2 => h ⟨h1, h2⟩)]; simp
  · rw [decide_eq_false h1]; simp
theorem met6_in {C : List Un} {u : Un} {b : Int} (h : met 6 C u b b = true) : 0 ≤ b ∧ b < C.length := by
  rw [met6] at h
  simp only [Bool.and_eq_true, decide_eq_true_eq] at h
  exact h

set_option maxRecDepth 100000 in
set_option maxHeartbeats 8000000 in
theorem orderOk_c (C : List Un) (u : Un) (o : In) (CA UA NA : Option Addr) (cc uc nc L B : Nat) (w : World) (hB : B ≤ w.heap.size) (hC : UnL w L B CA C) (hl : u.l.length ≤ 1048576) (hCl : C.length ≤ 1048576)
    (hr : 1 ≤ u.regs ∧ u.regs ≤ 24) (hN : RB w B NA o.name) (hn : o.name.length ≤ 1048576) (hF : Forms w w.heap.size) :
    Calls Tryz.prog 90 #[.agg #[.slice CA C.length cc], .agg #[.int .i64 u.params, .int .i64 u.regs, .slice UA u.l.length uc], .agg #[.int .i64 o.op, .int .i64 o.a, .int .i64 o.b, .int .i64 o.c, .slice NA o.name.length nc]] w
      fun e w' => e = .returned (.bool (ordOk C u o)) ∧ Below w.heap.size w w' := by
  have hb3 : Below w.heap.size w (((w.alloc (.cells #[.slice CA C.length cc] 37)).alloc (.cells #[.int .i64 u.params, .int .i64 u.regs, .slice UA u.l.length uc] 63)).alloc (.cells #[.int .i64 o.op, .int .i64 o.a, .int .i64 o.b, .int .i64 o.c, .slice NA o.name.length nc] 90)) :=
    (((Below.refl _ _).alloc (Nat.le_refl _) _).alloc (by simp) _).alloc (by simp; omega) _
  have Hm := Lib.hid (fun k n X (hX : Below w.heap.size w X) hk h7 => isMet_c k C u o n CA UA NA cc uc nc L B X (Nat.le_trans hB hX.size) (hC.below (hX.mono hB)) hl hCl hr hk h7)
  have HF := Lib.hid (hF.below hb3)
  have Hb3 := Lib.hid hb3
  have HN := Lib.hid hN
  by_cases hop : 0 ≤ o.op ∧ o.op < 15
  · obtain ⟨op, oa, ob, oc, nm⟩ := o
    dsimp only at *
    obtain ⟨k, rfl⟩ : ∃ k : Nat, op = k := ⟨op.toNat, by omega⟩
    obtain ⟨s, t0, t1, t2, t3, t4⟩ := HF.out.2 k (by omega)
    clear hC hb3 hF hN
    have hk0 : 0 ≤ (k : Int) := hop.1
    have hk1 : (k : Int) < 15 := hop.2
    obtain ⟨xA, hxA⟩ : ∃ x, x = wA.getD k 0 := ⟨_, rfl⟩
    obtain ⟨xB, hxB⟩ : ∃ x, x = wB.getD k 0 := ⟨_, rfl⟩
    obtain ⟨xC, hxC⟩ : ∃ x, x = wC.getD k 0 := ⟨_, rfl⟩
    obtain ⟨xN, hxN⟩ : ∃ x, x = nmd k := ⟨_, rfl⟩
    rw [← hxA] at t1
    rw [← hxB] at t2
    rw [← hxC] at t3
    rw [← hxN] at t4
    have HxA := Lib.hid hxA
    have HxB := Lib.hid hxB
    have HxC := Lib.hid hxC
    have HxN := Lib.hid hxN
    clear hxA hxB hxC hxN hop HF
    obtain ⟨nl, hnl⟩ : ∃ n, n = nm.length := ⟨_, rfl⟩
    rw [← hnl] at Hm Hb3 t0 t1 t2 t3 t4 hn
    rw [← hnl]
    have Hnl := Lib.hid hnl
    clear hnl
    cases xN
    · by_cases hz : nl = 0
      · subst hz
        go_enter Tryz.func90, Tryz.ntmps90
        have Hbx := Lib.hid (Box.new w (.slice CA C.length cc) (.int .i64 u.params) (.int .i64 u.regs) (.slice UA u.l.length uc) (.int .i64 (k : Int)) (.int .i64 oa) (.int .i64 ob) (.int .i64 oc) (.slice NA 0 nc) (.string s) (.int .i64 xA) (.int .i64 xB) (.int .i64 xC) (.bool false))
        have hb4 := Hb3.out.alloc Hb3.out.size (.cells #[.string s, .int .i64 xA, .int .i64 xB, .int .i64 xC, .bool false] 155)
        have Hb4 := Lib.hid hb4
        have Hc := Lib.hid (Hm.out xA oa ((((w.alloc (.cells #[.slice CA C.length cc] 37)).alloc (.cells #[.int .i64 u.params, .int .i64 u.regs, .slice UA u.l.length uc] 63)).alloc (.cells #[.int .i64 (k : Int), .int .i64 oa, .int .i64 ob, .int .i64 oc, .slice NA 0 nc] 90)).alloc (.cells #[.string s, .int .i64 xA, .int .i64 xB, .int .i64 xC, .bool false] 155)) hb4 (by rw [HxA.out]; exact wA_le k) (fun h => absurd (HxA.out.symm.trans h) (wAB_no7 k).1))
        clear hb4
        go_wp2_with fail
        refine Hc.out.mono ?_
        rintro e w5 ⟨rfl, hb5⟩
        have Hb05 := Lib.hid (Hb4.out.trans (hb5.mono Hb4.out.size))
        have Hbx5 := Lib.hid (Hbx.out.below hb5)
        clear hb5 Hc Hbx Hb4
        cases hA : met xA C u ob oa
        · have Hres := Lib.hid (show ordOk C u ⟨k, oa, ob, oc, nm⟩ = false by rw [ordOk_in C u k hk1, ← HxA.out, hA]; simp)
          clear hA
          go_wp2
          go_ret
          exact ⟨by rw [Hres.out]; first | rfl | simp, Hb05.out⟩
        obtain ⟨q0, ⟨q1, q2, q3⟩, ⟨q4, q5, q6, q7, q8⟩, q9, q10⟩ := Hbx5.out.cells
        have HA := Lib.hid hA
        have Hc := Lib.hid (Hm.out xB ob w5 Hb05.out (by rw [HxB.out]; exact wB_le k) (fun h => absurd (HxB.out.symm.trans h) (wAB_no7 k).2.1))
        clear hA
        go_wp2_with fail
        refine Hc.out.mono ?_
        rintro e w6 ⟨rfl, hb6⟩
        have Hb06 := Lib.hid (Hb05.out.trans (hb6.mono Hb05.out.size))
        have Hbx6 := Lib.hid (Hbx5.out.below hb6)
        clear hb6 Hc Hbx5 Hb05 q0 q1 q2 q3 q4 q5 q6 q7 q8 q9 q10
        cases hB : met xB C u ob ob
        · have Hres := Lib.hid (show ordOk C u ⟨k, oa, ob, oc, nm⟩ = false by rw [ordOk_in C u k hk1, ← HxB.out, hB]; simp)
          clear hB
          go_wp2
          go_ret
          exact ⟨by rw [Hres.out]; first | rfl | simp, Hb06.out⟩
        obtain ⟨q0, ⟨q1, q2, q3⟩, ⟨q4, q5, q6, q7, q8⟩, q9, q10⟩ := Hbx6.out.cells
        have HBB := Lib.hid hB
        have Hc := Lib.hid (Hm.out xC oc w6 Hb06.out (by rw [HxC.out]; exact wC_le k) (fun h => by
          have h6 := (wAB_no7 k).2.2 (HxC.out.symm.trans h)
          have h7 := HBB.out
          rw [HxB.out, h6] at h7
          exact met6_in h7))
        clear hB
        go_wp2_with fail
        refine Hc.out.mono ?_
        rintro e w7 ⟨rfl, hb7⟩
        have Hb07 := Lib.hid (Hb06.out.trans (hb7.mono Hb06.out.size))
        have Hres := Lib.hid (show ordOk C u ⟨k, oa, ob, oc, nm⟩ = met xC C u ob oc by rw [ordOk_in C u k hk1, ← HxA.out, ← HxB.out, ← HxC.out, HA.out, HBB.out]; rw [← HxN.out, ← Hnl.out]; simp)
        clear hb7 Hc Hbx6 Hb06 q0 q1 q2 q3 q4 q5 q6 q7 q8 q9 q10
        go_wp2
        go_ret
        exact ⟨by rw [Hres.out]; first | rfl | simp, Hb07.out⟩
      · have hz0 : 0 < (nl : Int) := by omega
        go_enter Tryz.func90, Tryz.ntmps90
        have Hres := Lib.hid (show ordOk C u ⟨k, oa, ob, oc, nm⟩ = false by rw [ordOk_in C u k hk1]; rw [← HxN.out, ← Hnl.out, decide_eq_true (by omega : 0 < nl)]; simp)
        have Hb4 := Lib.hid (fun b => Hb3.out.alloc Hb3.out.size (.cells #[.string s, .int .i64 xA, .int .i64 xB, .int .i64 xC, .bool b] 155))
        clear HxN
        go_wp2
        go_ret
        exact ⟨by rw [Hres.out]; first | rfl | simp, Hb4.out _⟩
    · by_cases hz : nl = 0
      · subst hz
        go_enter Tryz.func90, Tryz.ntmps90
        have Hres := Lib.hid (show ordOk C u ⟨k, oa, ob, oc, nm⟩ = false by rw [ordOk_in C u k hk1]; rw [← HxN.out, ← Hnl.out]; simp)
        have Hb4 := Lib.hid (fun b => Hb3.out.alloc Hb3.out.size (.cells #[.string s, .int .i64 xA, .int .i64 xB, .int .i64 xC, .bool b] 155))
        clear HxN
        go_wp2
        go_ret
        exact ⟨by rw [Hres.out]; first | rfl | simp, Hb4.out _⟩
      · have hz0 : 0 < (nl : Int) := by omega
        have Hw0 := (implWordOk_c nm NA nc B ((((w.alloc (.cells #[.slice CA C.length cc] 37)).alloc (.cells #[.int .i64 u.params, .int .i64 u.regs, .slice UA u.l.length uc] 63)).alloc (.cells #[.int .i64 (k : Int), .int .i64 oa, .int .i64 ob, .int .i64 oc, .slice NA nl nc] 90)).alloc (.cells #[.string s, .int .i64 xA, .int .i64 xB, .int .i64 xC, .bool true] 155)) (by rw [← Hnl.out]; omega) ((((HN.out.alloc hB _).alloc (by simp; omega) _).alloc (by simp; omega) _).alloc (by simp; omega) _))
        rw [← Hnl.out] at Hw0
        have Hw := Lib.hid Hw0
        clear Hw0
        have Hz := Lib.hid hz
        cases hw : wordOk nm
        · rw [hw] at Hw
          go_enter Tryz.func90, Tryz.ntmps90
          go_wp2_with fail
          refine Hw.out.mono ?_
          rintro e w' ⟨rfl, rfl⟩
          have Hres := Lib.hid (show ordOk C u ⟨k, oa, ob, oc, nm⟩ = false by rw [ordOk_in C u k hk1]; rw [hw]; simp [← HxN.out])
          have Hb4 := Lib.hid (fun b => Hb3.out.alloc Hb3.out.size (.cells #[.string s, .int .i64 xA, .int .i64 xB, .int .i64 xC, .bool b] 155))
          clear HxN
          go_wp2
          go_ret
          exact ⟨by rw [Hres.out]; first | rfl | simp, Hb4.out _⟩
        · rw [hw] at Hw
          go_enter Tryz.func90, Tryz.ntmps90
          go_wp2_with fail
          refine Hw.out.mono ?_
          rintro e w' ⟨rfl, rfl⟩
          have hw0 : 0 < nl := by have := Hz.out; omega
          have Hbx := Lib.hid (Box.new w (.slice CA C.length cc) (.int .i64 u.params) (.int .i64 u.regs) (.slice UA u.l.length uc) (.int .i64 (k : Int)) (.int .i64 oa) (.int .i64 ob) (.int .i64 oc) (.slice NA nl nc) (.string s) (.int .i64 xA) (.int .i64 xB) (.int .i64 xC) (.bool true))
          have hb4 := Hb3.out.alloc Hb3.out.size (.cells #[.string s, .int .i64 xA, .int .i64 xB, .int .i64 xC, .bool true] 155)
          have Hb4 := Lib.hid hb4
          have Hc := Lib.hid (Hm.out xA oa ((((w.alloc (.cells #[.slice CA C.length cc] 37)).alloc (.cells #[.int .i64 u.params, .int .i64 u.regs, .slice UA u.l.length uc] 63)).alloc (.cells #[.int .i64 (k : Int), .int .i64 oa, .int .i64 ob, .int .i64 oc, .slice NA nl nc] 90)).alloc (.cells #[.string s, .int .i64 xA, .int .i64 xB, .int .i64 xC, .bool true] 155)) hb4 (by rw [HxA.out]; exact wA_le k) (fun h => absurd (HxA.out.symm.trans h) (wAB_no7 k).1))
          clear hb4
          go_wp2_with fail
          refine Hc.out.mono ?_
          rintro e w5 ⟨rfl, hb5⟩
          have Hb05 := Lib.hid (Hb4.out.trans (hb5.mono Hb4.out.size))
          have Hbx5 := Lib.hid (Hbx.out.below hb5)
          clear hb5 Hc Hbx Hb4
          cases hA : met xA C u ob oa
          · have Hres := Lib.hid (show ordOk C u ⟨k, oa, ob, oc, nm⟩ = false by rw [ordOk_in C u k hk1, ← HxA.out, hA]; simp)
            clear hA
            go_wp2
            go_ret
            exact ⟨by rw [Hres.out]; first | rfl | simp, Hb05.out⟩
          obtain ⟨q0, ⟨q1, q2, q3⟩, ⟨q4, q5, q6, q7, q8⟩, q9, q10⟩ := Hbx5.out.cells
          have HA := Lib.hid hA
          have Hc := Lib.hid (Hm.out xB ob w5 Hb05.out (by rw [HxB.out]; exact wB_le k) (fun h => absurd (HxB.out.symm.trans h) (wAB_no7 k).2.1))
          clear hA
          go_wp2_with fail
          refine Hc.out.mono ?_
          rintro e w6 ⟨rfl, hb6⟩
          have Hb06 := Lib.hid (Hb05.out.trans (hb6.mono Hb05.out.size))
          have Hbx6 := Lib.hid (Hbx5.out.below hb6)
          clear hb6 Hc Hbx5 Hb05 q0 q1 q2 q3 q4 q5 q6 q7 q8 q9 q10
          cases hB : met xB C u ob ob
          · have Hres := Lib.hid (show ordOk C u ⟨k, oa, ob, oc, nm⟩ = false by rw [ordOk_in C u k hk1, ← HxB.out, hB]; simp)
            clear hB
            go_wp2
            go_ret
            exact ⟨by rw [Hres.out]; first | rfl | simp, Hb06.out⟩
          obtain ⟨q0, ⟨q1, q2, q3⟩, ⟨q4, q5, q6, q7, q8⟩, q9, q10⟩ := Hbx6.out.cells
          have HBB := Lib.hid hB
          have Hc := Lib.hid (Hm.out xC oc w6 Hb06.out (by rw [HxC.out]; exact wC_le k) (fun h => by
            have h6 := (wAB_no7 k).2.2 (HxC.out.symm.trans h)
            have h7 := HBB.out
            rw [HxB.out, h6] at h7
            exact met6_in h7))
          clear hB
          go_wp2_with fail
          refine Hc.out.mono ?_
          rintro e w7 ⟨rfl, hb7⟩
          have Hb07 := Lib.hid (Hb06.out.trans (hb7.mono Hb06.out.size))
          have Hres := Lib.hid (show ordOk C u ⟨k, oa, ob, oc, nm⟩ = met xC C u ob oc by rw [ordOk_in C u k hk1, ← HxA.out, ← HxB.out, ← HxC.out, HA.out, HBB.out]; rw [← HxN.out, ← Hnl.out, hw]; simp [hw0])
          clear hb7 Hc Hbx6 Hb06 q0 q1 q2 q3 q4 q5 q6 q7 q8 q9 q10
          go_wp2
          go_ret
          exact ⟨by rw [Hres.out]; first | rfl | simp, Hb07.out⟩
  · have Hres := Lib.hid (ordOk_out C u o hop)
    clear HF hC hb3 hF hN Hm HN
    by_cases h0 : 0 ≤ o.op
    · have h1 : 15 ≤ o.op := by omega
      go_enter Tryz.func90, Tryz.ntmps90
      go_wp2
      go_ret
      exact ⟨by rw [Hres.out]; first | rfl | simp, Hb3.out⟩
    · have h1 : o.op < 0 := by omega
      go_enter Tryz.func90, Tryz.ntmps90
      go_wp2
      go_ret
      exact ⟨by rw [Hres.out]; first | rfl | simp, Hb3.out⟩
end Cod
end Go.Proofs.YtddjcjjnpidhiaaGreatDoor

namespace Go.Proofs.YtddjcjjnpidhiaaGreatDoor
open Go.RowKit
set_option linter.unusedVariables false
set_option linter.unusedSimpArgs false
namespace Cod

theorem lastOp_get {l : List In} (h : 0 < l.length) : lastOp l = (l[l.length - 1]'(by omega)).op := by
  unfold lastOp
  rw [List.getD_eq_getElem?_getD, List.getElem?_eq_getElem (by omega)]; rfl

set_option maxRecDepth 100000 in
set_option maxHeartbeats 8000000 in
theorem unitOk_c (C : List Un) (u : Un) (CA UA : Option Addr) (cc uc L B : Nat) (w : World) (hB : B ≤ w.heap.size) (hC : UnL w L B CA C) (hI : InL w L B UA u.l) (hl : u.l.length ≤ 1048576) (hCl : C.length ≤ 1048576)
    (hsz : insSz u.l ≤ 1048576) (hF : Forms w B) :
    Calls Tryz.prog 67 #[.agg #[.slice CA C.length cc], .agg #[.int .i64 u.params, .int .i64 u.regs, .slice UA u.l.length uc]] w
      fun e w' => e = .returned (.bool (unitOk C u)) ∧ Below w.heap.size w w' := by
  have hb2 : Below w.heap.size w ((w.alloc (.cells #[.slice CA C.length cc] 37)).alloc (.cells #[.int .i64 u.params, .int .i64 u.regs, .slice UA u.l.length uc] 63)) :=
    ((Below.refl _ _).alloc (Nat.le_refl _) _).alloc (by simp) _
  have Hb2 := Lib.hid hb2
  obtain ⟨m, hm⟩ : ∃ m, (if u.regs < 3 then u.regs else 3) = m := ⟨_, rfl⟩
  have Hm := Lib.hid (show (u.regs < 3 ∧ m = u.regs) ∨ (3 ≤ u.regs ∧ m = 3) by rw [← hm]; split <;> omega)
  by_cases h1 : u.params < 0
  · have Hres := Lib.hid (show unitOk C u = false by unfold unitOk headOk; rw [decide_eq_false (by have := Hm.out; omega)]; rfl)
    clear hC hI hF hb2
    go_enter Tryz.func67, Tryz.ntmps67
    go_wp2
    go_ret
    exact ⟨by rw [Hres.out]; first | rfl | simp, Hb2.out⟩
  by_cases h2 : m < u.params
  · have Hres := Lib.hid (show unitOk C u = false by unfold unitOk headOk; rw [decide_eq_false (by have := Hm.out; omega)]; rfl)
    clear hC hI hF hb2
    go_enter Tryz.func67, Tryz.ntmps67
    go_wp2
    go_ret
    exact ⟨by rw [Hres.out]; first | rfl | simp, Hb2.out⟩
  by_cases h3 : u.regs < 1
  · have Hres := Lib.hid (show unitOk C u = false by unfold unitOk headOk; rw [decide_eq_false (by have := Hm.out; omega)]; rfl)
    clear hC hI hF hb2
    go_enter Tryz.func67, Tryz.ntmps67
    go_wp2
    go_ret
    exact ⟨by rw [Hres.out]; first | rfl | simp, Hb2.out⟩
  by_cases h4 : 24 < u.regs
  · have Hres := Lib.hid (show unitOk C u = false by unfold unitOk headOk; rw [decide_eq_false (by have := Hm.out; omega)]; rfl)
    clear hC hI hF hb2
    go_enter Tryz.func67, Tryz.ntmps67
    go_wp2
    go_ret
    exact ⟨by rw [Hres.out]; first | rfl | simp, Hb2.out⟩
  by_cases h5 : u.l.length < 1
  · have Hres := Lib.hid (show unitOk C u = false by unfold unitOk bodyOk; rw [decide_eq_false (by omega)]; simp)
    obtain ⟨nl, hnl⟩ : ∃ n, n = u.l.length := ⟨_, rfl⟩
    rw [← hnl] at Hb2 h5
    rw [← hnl]
    clear hnl
    obtain rfl : nl = 0 := by omega
    clear hC hI hF hb2
    go_enter Tryz.func67, Tryz.ntmps67
    go_wp2
    go_ret
    exact ⟨by rw [Hres.out]; first | rfl | simp, Hb2.out⟩
  by_cases h6 : 300 < u.l.length
  · have Hres := Lib.hid (show unitOk C u = false by unfold unitOk bodyOk; rw [decide_eq_false (by omega)]; simp)
    clear hC hI hF hb2
    go_enter Tryz.func67, Tryz.ntmps67
    go_wp2
    go_ret
    exact ⟨by rw [Hres.out]; first | rfl | simp, Hb2.out⟩
  have hhd : headOk u = true := by unfold headOk; exact decide_eq_true (by have := Hm.out; omega)
  have hla := lastOp_get (l := u.l) (by omega)
  have hI2 := hI.below (hb2.mono hB)
  obtain ⟨ad, rfl, _, hbk, hat⟩ := hI2.2 (by omega)
  obtain ⟨y0, y1, y2, y3, y4, ⟨d0, -, -, -, -⟩, rfl, -, -, -, -⟩ := hat (u.l.length - 1) (by omega)
  rw [← hla] at d0
  have HI := Lib.hid hI2
  have Hh := Lib.hid hhd
  clear hat hla hhd hI2
  obtain ⟨lo, hlo⟩ : ∃ z, z = lastOp u.l := ⟨_, rfl⟩
  rw [← hlo] at d0
  by_cases h7 : ¬ lo = 11
  · have Hres := Lib.hid (show unitOk C u = false by unfold unitOk bodyOk; rw [← hlo, decide_eq_false h7]; simp)
    have hb7 : (lo != 11) = true := by simpa using h7
    clear hC hI hF hb2 HI Hh hlo
    go_enter Tryz.func67, Tryz.ntmps67
    go_wp2
    go_ret
    exact ⟨by rw [Hres.out]; first | rfl | simp, Hb2.out⟩
  obtain rfl : lo = 11 := Decidable.not_not.1 h7
  have h7 : lastOp u.l = 11 := hlo.symm
  have Hbd := Lib.hid (show bodyOk u = true by unfold bodyOk; rw [decide_eq_true h7, decide_eq_true (by omega : 1 ≤ u.l.length ∧ u.l.length ≤ 300)]; rfl)
  clear h7 hlo
  have hr : 1 ≤ u.regs ∧ u.regs ≤ 24 := by omega
  have Hall : Hid (∀ k (hk : k < u.l.length), ordOk C u u.l[k] = false → unitOk C u = false) := Lib.hid (fun k hk h => by unfold unitOk; rw [all_not hk h]; simp)
  have Hyes : Hid ((∀ k (hk : k < u.l.length), ordOk C u u.l[k] = true) → unitOk C u = true) := Lib.hid (fun h => by unfold unitOk; rw [Hh.out, Hbd.out, all_at h]; rfl)
  have Hbx : Hid (Blk ((w.alloc (.cells #[.slice CA C.length cc] 37)).alloc (.cells #[.int .i64 u.params, .int .i64 u.regs, .slice (some ad) u.l.length uc] 63)) w.heap.size 37 #[.slice CA C.length cc] ∧
      Blk ((w.alloc (.cells #[.slice CA C.length cc] 37)).alloc (.cells #[.int .i64 u.params, .int .i64 u.regs, .slice (some ad) u.l.length uc] 63)) (w.heap.size + 1) 63 #[.int .i64 u.params, .int .i64 u.regs, .slice (some ad) u.l.length uc]) := Lib.hid (by
    refine ⟨(Blk.new w _ _).alloc _, ?_⟩
    have := Blk.new (w.alloc (.cells #[.slice CA C.length cc] 37)) 63 #[.int .i64 u.params, .int .i64 u.regs, .slice (some ad) u.l.length uc]
    rw [World.size_alloc] at this
    exact this)
  have Hord := Lib.hid (fun (o : In) (NA : Option Addr) (nc : Nat) (X : World) (hX : Below w.heap.size w X) (hN : RB X B NA o.name) (hn : o.name.length ≤ 1048576) =>
    orderOk_c C u o CA (some ad) NA cc uc nc L B X (Nat.le_trans hB hX.size) (hC.below (hX.mono hB)) hl hCl hr hN hn ((hF.below (hX.mono hB)).more (Nat.le_trans hB hX.size)))
  have Hsz := Lib.hid hsz
  clear hC hI hF hsz hr
  go_enter Tryz.func67, Tryz.ntmps67
  go_wp2_with fail
  generalize hW : (w.alloc (.cells #[.slice CA C.length cc] 37)).alloc (.cells #[.int .i64 u.params, .int .i64 u.regs, .slice (some ad) u.l.length uc] 63) = W
  rw [hW] at HI Hb2 Hbx
  have hWs : w.heap.size ≤ W.heap.size := by rw [← hW]; simp; omega
  have HWs := Lib.hid hWs
  clear hW hWs d0 hb2
  go_loopw [53] (fun i wr => ∃ k : Nat, k ≤ u.l.length ∧ i = .int .i64 k ∧ Hid (∀ j (hj : j < u.l.length), j < k → ordOk C u u.l[j] = true) ∧ Below W.heap.size W wr) (fun i _ => u.l.length - (intOf i).toNat)
  case atStart => exact ⟨0, Nat.zero_le _, rfl, Lib.hid (fun j hj h => by omega), Below.refl _ _⟩
  case round =>
    obtain ⟨k, hk, rfl, hall, hbl⟩ := hrel
    have hws := hbl.size
    by_cases hlt : k < u.l.length
    · obtain ⟨ad', e', _, hbk', hat⟩ := (HI.out.below (hbl.mono (Nat.le_trans hB HWs.out))).2 (by omega)
      injection e' with e'
      subst e'
      obtain ⟨x0, x1, x2, x3, x4, ⟨d0, d1, d2, d3, d4⟩, rfl, rfl, rfl, rfl, NA, nc, rfl, hN, hnm⟩ := hat k hlt
      obtain ⟨KC, KU⟩ := Hbx.out
      have hbo := blwC wr (.cells #[.int .i64 u.l[k].op, .int .i64 u.l[k].a, .int .i64 u.l[k].b, .int .i64 u.l[k].c, .slice NA u.l[k].name.length nc] 90)
      have hbw := hbl.trans (hbo.mono hws)
      have KC2 := KC.below hbw KC.lt
      have KU2 := KU.below hbw KU.lt
      have q0 := KC2.cel 0 (v := .slice CA C.length cc) rfl
      have q1 := KU2.cel 0 (v := .int .i64 u.params) rfl
      have q2 := KU2.cel 1 (v := .int .i64 u.regs) rfl
      have q3 := KU2.cel 2 (v := .slice (some ad) u.l.length uc) rfl
      have hn1 : u.l[k].name.length ≤ 1048576 := by
        have h1 := sum_get inSz hlt
        have h2 := Hsz.out
        unfold insSz at h2
        have h3 : u.l[k].name.length = inSz u.l[k] := rfl
        rw [h3]
        omega
      have Hc := Lib.hid (Hord.out u.l[k] NA nc (wr.alloc (.cells #[.int .i64 u.l[k].op, .int .i64 u.l[k].a, .int .i64 u.l[k].b, .int .i64 u.l[k].c, .slice NA u.l[k].name.length nc] 90)) (Hb2.out.trans (hbw.mono HWs.out)) ((hN.keep (fun p _ hp => (hbo.mono (Nat.le_trans (Nat.le_trans hB HWs.out) hws)).cell hp)).1) hn1)
      have Hbw := Lib.hid hbw
      have Hk := Lib.hid (Hall.out k hlt)
      have Hbb := Lib.hid hbl
      obtain ⟨oo, hoo⟩ : ∃ o, o = u.l[k] := ⟨_, rfl⟩
      have Hoo := Lib.hid hoo
      rw [← hoo] at d0 d1 d2 d3 d4 Hc Hbw Hk q0 q1 q2 q3
      clear hat hN hbo hbw KC KU KC2 KU2 hoo hn1 hnm hbl
      obtain ⟨op, oa, ob, oc, nm⟩ := oo
      dsimp only at *
      obtain ⟨nl, hnl⟩ : ∃ n, n = nm.length := ⟨_, rfl⟩
      rw [← hnl] at d4 Hc Hbw q0 q1 q2 q3
      clear hnl
      go_wp2_with fail
      refine Hc.out.mono ?_
      rintro e w2 ⟨rfl, hb2⟩
      have Hbn := Lib.hid (Hbw.out.trans (hb2.mono Hbw.out.size))
      clear hb2 Hc q0 q1 q2 q3 d0 d1 d2 d3 d4
      cases ho : ordOk C u ⟨op, oa, ob, oc, nm⟩
      · have Hres := Lib.hid (Hk.out ho)
        have Hbe := Lib.hid (Hb2.out.trans (Hbn.out.mono HWs.out))
        clear ho
        go_wp2
        go_ret
        exact ⟨by rw [Hres.out]; first | rfl | simp, Hbe.out⟩
      · have Hnew : Hid (∀ j (hj : j < u.l.length), j < k + 1 → ordOk C u u.l[j] = true) := Lib.hid (fun j hj h => by
          by_cases e : j = k
          · subst e; rw [← Hoo.out]; exact ho
          · exact hall.out j hj (by omega))
        clear ho
        go_wp2
        go_roundw
        case rel => exact ⟨k + 1, by omega, by go_num, Hnew, Hbn.out⟩
        case measure => simp [intOf]; omega
    · obtain rfl : k = u.l.length := by omega
      have Hres := Lib.hid (Hyes.out (fun j hj => hall.out j hj hj))
      have Hbe := Lib.hid (Hb2.out.trans (hbl.mono HWs.out))
      clear hbl
      go_wp2
      go_ret
      exact ⟨by rw [Hres.out]; first | rfl | simp, Hbe.out⟩
end Cod
end Go.Proofs.YtddjcjjnpidhiaaGreatDoor

namespace Go.Proofs.YtddjcjjnpidhiaaGreatDoor
open Go.RowKit
set_option linter.unusedVariables false
set_option linter.unusedSimpArgs false
namespace Cod

theorem unit_sz {C : List Un} (h : unsSz C ≤ 1048576) {k : Nat} (hk : k < C.length) : insSz C[k].l ≤ 1048576 ∧ C[k].l.length ≤ 1048576 := by
  have h1 := sum_get unSz hk
  have h2 : unSz C[k] = insSz C[k].l := rfl
  have h3 : C[k].l.length ≤ insSz C[k].l := by unfold insSz; omega
  unfold unsSz at h
  omega
theorem add0 (a : Addr) : a.add 0 = a := by unfold Addr.add; simp

set_option maxRecDepth 100000 in
set_option maxHeartbeats 8000000 in
theorem implCodeOk_c (C : List Un) (CA : Option Addr) (cc L B : Nat) (w : World) (hB : B ≤ w.heap.size) (hsz : unsSz C ≤ 1048576) (hC : UnL w L B CA C) (hF : Forms w B) :
    Calls Tryz.prog 38 #[.agg #[.slice CA C.length cc]] w
      fun e w' => e = .returned (.bool (codeOk C)) ∧ Below w.heap.size w w' := by
  have hCl : C.length ≤ 1048576 := by unfold unsSz at hsz; omega
  have hb1 := blwC w (.cells #[.slice CA C.length cc] 37)
  have Hb1 := Lib.hid hb1
  by_cases h1 : C.length < 1
  · have Hres := Lib.hid (show codeOk C = false by unfold codeOk; rw [decide_eq_false (by omega)]; rfl)
    obtain ⟨nl, hnl⟩ : ∃ n, n = C.length := ⟨_, rfl⟩
    rw [← hnl] at Hb1 h1
    rw [← hnl]
    clear hnl hC hF hb1
    obtain rfl : nl = 0 := by omega
    go_enter Tryz.func38, Tryz.ntmps38
    go_wp2
    go_ret
    exact ⟨by rw [Hres.out]; first | rfl | simp, Hb1.out⟩
  by_cases h2 : 4 < C.length
  · have Hres := Lib.hid (show codeOk C = false by unfold codeOk; rw [decide_eq_false (by omega)]; rfl)
    clear hC hF hb1
    go_enter Tryz.func38, Tryz.ntmps38
    go_wp2
    go_ret
    exact ⟨by rw [Hres.out]; first | rfl | simp, Hb1.out⟩
  have hC2 := hC.below (hb1.mono hB)
  obtain ⟨ad, rfl, _, hbk, hat⟩ := hC2.2 (by omega)
  obtain ⟨y0, y1, y2, ⟨d0, -, -⟩, rfl, -, -, -, -, -⟩ := hat 0 (by omega)
  have hp0 : pOf C 0 = C[0].params := by unfold pOf; rw [List.getD_eq_getElem?_getD]; simp [(by omega : 0 < C.length)]
  rw [← hp0] at d0
  rw [Nat.zero_mul, add0] at d0
  have d0' := d0
  rw [← add0 ad] at d0'
  have HC := Lib.hid hC2
  clear hat hp0 hC2
  obtain ⟨z, hz⟩ : ∃ z, z = pOf C 0 := ⟨_, rfl⟩
  rw [← hz] at d0 d0'
  by_cases h3 : ¬ z = 0
  · have Hres := Lib.hid (show codeOk C = false by unfold codeOk; rw [← hz, decide_eq_false h3]; simp)
    have hb3 : (z != 0) = true := by simpa using h3
    clear hC hF hb1 hz HC
    go_enter Tryz.func38, Tryz.ntmps38
    go_wp2
    go_ret
    exact ⟨by rw [Hres.out]; first | rfl | simp, Hb1.out⟩
  obtain rfl : z = 0 := Decidable.not_not.1 h3
  have Hall : Hid (∀ k (hk : k < C.length), unitOk C C[k] = false → codeOk C = false) := Lib.hid (fun k hk h => by unfold codeOk; rw [all_not hk h]; simp)
  have Hyes : Hid ((∀ k (hk : k < C.length), unitOk C C[k] = true) → codeOk C = true) := Lib.hid (fun h => by unfold codeOk; rw [← hz, all_at h, decide_eq_true (by omega : 1 ≤ C.length ∧ C.length ≤ 4)]; rfl)
  have HK := Lib.hid (Blk.new w 37 #[.slice (some ad) C.length cc])
  have Hun := Lib.hid (fun (u : Un) (UA : Option Addr) (uc : Nat) (X : World) (hX : Below w.heap.size w X) (hI : InL X L B UA u.l) (hs : insSz u.l ≤ 1048576) (hl : u.l.length ≤ 1048576) =>
    unitOk_c C u (some ad) UA cc uc L B X (Nat.le_trans hB hX.size) (hC.below (hX.mono hB)) hI hl hCl hs (hF.below (hX.mono hB)))
  have Hsz := Lib.hid hsz
  clear hC hF hsz hb1 hz h3
  go_enter Tryz.func38, Tryz.ntmps38
  go_wp2_with fail
  generalize hW : w.alloc (.cells #[.slice (some ad) C.length cc] 37) = W
  rw [hW] at HC Hb1 HK
  have hWs : w.heap.size ≤ W.heap.size := by rw [← hW]; simp
  have HWs := Lib.hid hWs
  clear hW hWs d0 d0'
  go_loopw [26] (fun i wr => ∃ k : Nat, k ≤ C.length ∧ i = .int .i64 k ∧ Hid (∀ j (hj : j < C.length), j < k → unitOk C C[j] = true) ∧ Below W.heap.size W wr) (fun i _ => C.length - (intOf i).toNat)
  case atStart => exact ⟨0, Nat.zero_le _, rfl, Lib.hid (fun j hj h => by omega), Below.refl _ _⟩
  case round =>
    obtain ⟨k, hk, rfl, hall, hbl⟩ := hrel
    have hws := hbl.size
    by_cases hlt : k < C.length
    · obtain ⟨ad', e', _, hbk', hat⟩ := (HC.out.below (hbl.mono (Nat.le_trans hB HWs.out))).2 (by omega)
      injection e' with e'
      subst e'
      obtain ⟨x0, x1, x2, ⟨d0, d1, d2⟩, rfl, rfl, UA, uc, rfl, hI⟩ := hat k hlt
      have hbo := blwC wr (.cells #[.int .i64 C[k].params, .int .i64 C[k].regs, .slice UA C[k].l.length uc] 63)
      have hbw := hbl.trans (hbo.mono hws)
      have KC2 := HK.out.below hbw HK.out.lt
      have q0 := KC2.cel 0 (v := .slice (some ad) C.length cc) rfl
      have hus := unit_sz Hsz.out hlt
      have Hc := Lib.hid (Hun.out C[k] UA uc (wr.alloc (.cells #[.int .i64 C[k].params, .int .i64 C[k].regs, .slice UA C[k].l.length uc] 63)) (Hb1.out.trans (hbw.mono HWs.out)) (hI.below (hbo.mono (Nat.le_trans (Nat.le_trans hB HWs.out) hws))) hus.1 hus.2)
      have Hbw := Lib.hid hbw
      have Hk := Lib.hid (Hall.out k hlt)
      obtain ⟨oo, hoo⟩ : ∃ o, o = C[k] := ⟨_, rfl⟩
      have Hoo := Lib.hid hoo
      rw [← hoo] at d0 d1 d2 Hc Hbw Hk q0
      clear hat hI hbo hbw KC2 hoo hus hbl
      obtain ⟨pm, rg, ul⟩ := oo
      dsimp only at *
      obtain ⟨nl, hnl⟩ : ∃ n, n = ul.length := ⟨_, rfl⟩
      rw [← hnl] at d2 Hc Hbw q0
      clear hnl
      go_wp2_with fail
      refine Hc.out.mono ?_
      rintro e w2 ⟨rfl, hb2⟩
      have Hbn := Lib.hid (Hbw.out.trans (hb2.mono Hbw.out.size))
      clear hb2 Hc q0 d0 d1 d2
      cases ho : unitOk C ⟨pm, rg, ul⟩
      · have Hres := Lib.hid (Hk.out ho)
        have Hbe := Lib.hid (Hb1.out.trans (Hbn.out.mono HWs.out))
        clear ho
        go_wp2
        go_ret
        exact ⟨by rw [Hres.out]; first | rfl | simp, Hbe.out⟩
      · have Hnew : Hid (∀ j (hj : j < C.length), j < k + 1 → unitOk C C[j] = true) := Lib.hid (fun j hj h => by
          by_cases e : j = k
          · subst e; rw [← Hoo.out]; exact ho
          · exact hall.out j hj (by omega))
        clear ho
        go_wp2
        go_roundw
        case rel => exact ⟨k + 1, by omega, by go_num, Hnew, Hbn.out⟩
        case measure => simp [intOf]; omega
    · obtain rfl : k = C.length := by omega
      have Hres := Lib.hid (Hyes.out (fun j hj => hall.out j hj hj))
      have Hbe := Lib.hid (Hb1.out.trans (hbl.mono HWs.out))
      clear hbl
      go_wp2
      go_ret
      exact ⟨by rw [Hres.out]; first | rfl | simp, Hbe.out⟩
end Cod
end Go.Proofs.YtddjcjjnpidhiaaGreatDoor
