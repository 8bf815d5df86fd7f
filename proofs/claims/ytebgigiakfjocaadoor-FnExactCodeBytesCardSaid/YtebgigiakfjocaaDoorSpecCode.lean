/-
  The model's CodeOk.
-/
import Derived.Test.YtebgigiakfjocaaDoorSpecInsB
import Derived.Test.YtebgigiakfjocaaDoorSpecInsC
import Derived.Test.YtebgigiakfjocaaDoorSpecInsD
namespace Go.Proofs.YtebgigiakfjocaaDoor
open Go.RowKit
set_option linter.unusedVariables false
set_option linter.unusedSimpArgs false
namespace Cod

theorem ordOk_no (C : List Un) (u : Un) (o : In) (h : ¬ (0 ≤ o.op ∧ o.op < 15)) : ordOk C u o = false := by
  unfold ordOk
  by_cases h1 : 0 ≤ o.op
  · rw [decide_eq_false (fun h2 => h ⟨h1, h2⟩)]; simp
  · rw [decide_eq_false h1]; simp

set_option maxRecDepth 100000 in
set_option maxHeartbeats 8000000 in
theorem l6ins_c (C : List Un) (u : Un) (o : In) (CA UA NA : Option Addr) (cc uc nc L B : Nat) (w : World) (hB : B ≤ w.heap.size) (hC : UnL w L B CA C) (hl : u.l.length ≤ 1048576) (hCl : C.length ≤ 1048576)
    (hr : 1 ≤ u.regs ∧ u.regs ≤ 24) (hN : RB w B NA o.name) (hn : o.name.length ≤ 1048576) :
    Calls Tryd.prog 86 #[.agg #[.slice CA C.length cc], .agg #[.int .i64 u.params, .int .i64 u.regs, .slice UA u.l.length uc], .agg #[.int .i64 o.op, .int .i64 o.a, .int .i64 o.b, .int .i64 o.c, .slice NA o.name.length nc]] w
      fun e w' => e = .returned (.bool (ordOk C u o)) ∧ Below w.heap.size w w' := by
  obtain ⟨op, a, b, c, nm⟩ := o
  dsimp only at *
  by_cases hop : 0 ≤ op ∧ op < 15
  · have hks : op = 0 ∨ op = 1 ∨ op = 2 ∨ op = 3 ∨ op = 4 ∨ op = 5 ∨ op = 6 ∨ op = 7 ∨ op = 8 ∨ op = 9 ∨ op = 10 ∨ op = 11 ∨ op = 12 ∨ op = 13 ∨ op = 14 := by omega
    rcases hks with rfl | rfl | rfl | rfl | rfl | rfl | rfl | rfl | rfl | rfl | rfl | rfl | rfl | rfl | rfl
    · exact ins0_c C u a b c nm CA UA NA cc uc nc L B w hB hC hl hCl hr hN hn
    · exact ins1_c C u a b c nm CA UA NA cc uc nc L B w hB hC hl hCl hr hN hn
    · exact ins2_c C u a b c nm CA UA NA cc uc nc L B w hB hC hl hCl hr hN hn
    · exact ins3_c C u a b c nm CA UA NA cc uc nc L B w hB hC hl hCl hr hN hn
    · exact ins4_c C u a b c nm CA UA NA cc uc nc L B w hB hC hl hCl hr hN hn
    · exact ins5_c C u a b c nm CA UA NA cc uc nc L B w hB hC hl hCl hr hN hn
    · exact ins6_c C u a b c nm CA UA NA cc uc nc L B w hB hC hl hCl hr hN hn
    · exact ins7_c C u a b c nm CA UA NA cc uc nc L B w hB hC hl hCl hr hN hn
    · exact ins8_c C u a b c nm CA UA NA cc uc nc L B w hB hC hl hCl hr hN hn
    · exact ins9_c C u a b c nm CA UA NA cc uc nc L B w hB hC hl hCl hr hN hn
    · exact ins10_c C u a b c nm CA UA NA cc uc nc L B w hB hC hl hCl hr hN hn
    · exact ins11_c C u a b c nm CA UA NA cc uc nc L B w hB hC hl hCl hr hN hn
    · exact ins12_c C u a b c nm CA UA NA cc uc nc L B w hB hC hl hCl hr hN hn
    · exact ins13_c C u a b c nm CA UA NA cc uc nc L B w hB hC hl hCl hr hN hn
    · exact ins14_c C u a b c nm CA UA NA cc uc nc L B w hB hC hl hCl hr hN hn
  · have Hres := Lib.hid (ordOk_no C u ⟨op, a, b, c, nm⟩ hop)
    have hb3 : Below w.heap.size w (((w.alloc (.cells #[.slice CA C.length cc] 56)).alloc (.cells #[.int .i64 u.params, .int .i64 u.regs, .slice UA u.l.length uc] 102)).alloc (.cells #[.int .i64 op, .int .i64 a, .int .i64 b, .int .i64 c, .slice NA nm.length nc] 104)) :=
      (((Below.refl _ _).alloc (Nat.le_refl _) _).alloc (by simp) _).alloc (by simp; omega) _
    have Hb3 := Lib.hid hb3
    clear hC hN hb3
    by_cases h0 : 0 ≤ op
    · have h1 : 14 < op := by omega
      have e5 : ¬ op = 5 := by omega
      have e6 : ¬ op = 6 := by omega
      clear hop
      go_enter Tryd.func86, Tryd.ntmps86
      go_wp2
      go_ret
      exact ⟨by rw [Hres.out]; first | rfl | simp, Hb3.out⟩
    · have h1 : op < 0 := by omega
      have e5 : ¬ op = 5 := by omega
      have e6 : ¬ op = 6 := by omega
      clear hop h0
      go_enter Tryd.func86, Tryd.ntmps86
      go_wp2
      go_ret
      exact ⟨by rw [Hres.out]; first | rfl | simp, Hb3.out⟩
end Cod
end Go.Proofs.YtebgigiakfjocaaDoor
