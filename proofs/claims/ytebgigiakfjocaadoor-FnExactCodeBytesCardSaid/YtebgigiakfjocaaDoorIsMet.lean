/-
  The program's want: what a number of an order has to be.
-/
import Derived.Test.YtebgigiakfjocaaDoorCodeD
import Derived.BigQuiet
namespace Go.Proofs.YtebgigiakfjocaaDoor
open Go.RowKit
set_option linter.unusedVariables false
set_option linter.unusedSimpArgs false
namespace Cod

set_option maxHeartbeats 1000000 in
theorem isPlace_c (u : Un) (A : Option Addr) (c : Nat) (n : Int) (w : World) (hl : u.l.length ≤ 1048576) :
    Calls Tryd.prog 150 #[.agg #[.int .i64 u.params, .int .i64 u.regs, .slice A u.l.length c], .int .i64 n] w fun e w' => e = .returned (.bool (decide (0 ≤ n) && decide (n < u.l.length))) ∧ Below w.heap.size w w' := by
  obtain ⟨pm, rg, l⟩ := u
  dsimp only at *
  by_cases h : 0 ≤ n
  · rw [decide_eq_true h, Bool.true_and]
    go_enter Tryd.func150, Tryd.ntmps150
    go_wp2
    go_ret
    exact ⟨rfl, blwC _ _⟩
  · rw [decide_eq_false h, Bool.false_and]
    go_enter Tryd.func150, Tryd.ntmps150
    go_wp2
    go_ret
    exact ⟨rfl, blwC _ _⟩

set_option maxRecDepth 100000 in
set_option maxHeartbeats 8000000 in
theorem isMet_c (k : Int) (C : List Un) (u : Un) (o : In) (n : Int) (CA UA NA : Option Addr) (cc uc nc L B : Nat) (w : World) (hB : B ≤ w.heap.size) (hC : UnL w L B CA C) (hl : u.l.length ≤ 1048576) (hCl : C.length ≤ 1048576)
    (hr : 1 ≤ u.regs ∧ u.regs ≤ 24) (hk : 0 ≤ k ∧ k ≤ 7) (h7 : k = 7 → 0 ≤ o.b ∧ o.b < C.length) :
    Calls Tryd.prog 131 #[.int .i64 k, .agg #[.slice CA C.length cc], .agg #[.int .i64 u.params, .int .i64 u.regs, .slice UA u.l.length uc], .agg #[.int .i64 o.op, .int .i64 o.a, .int .i64 o.b, .int .i64 o.c, .slice NA o.name.length nc], .int .i64 n] w
      fun e w' => e = .returned (.bool (met k C u o.b n)) ∧ Below w.heap.size w w' := by
  have hb3 : Below w.heap.size w (((w.alloc (.cells #[.slice CA C.length cc] 56)).alloc (.cells #[.int .i64 u.params, .int .i64 u.regs, .slice UA u.l.length uc] 102)).alloc (.cells #[.int .i64 o.op, .int .i64 o.a, .int .i64 o.b, .int .i64 o.c, .slice NA o.name.length nc] 104)) :=
    (((Below.refl _ _).alloc (Nat.le_refl _) _).alloc (by simp) _).alloc (by simp; omega) _
  have Hpl := Lib.hid (fun X => isPlace_c u UA uc n X hl)
  have Hbs := Lib.hid (fun X => binSign_c n X)
  have HC := Lib.hid (hC.below (hb3.mono hB))
  have Hb3 := Lib.hid hb3
  have hks : k = 0 ∨ k = 1 ∨ k = 2 ∨ k = 3 ∨ k = 4 ∨ k = 5 ∨ k = 6 ∨ k = 7 := by omega
  clear hk hC hb3
  rcases hks with rfl | rfl | rfl | rfl | rfl | rfl | rfl | rfl
  · rw [met0]
    clear h7 HC Hpl Hbs
    go_enter Tryd.func131, Tryd.ntmps131
    go_wp2
    go_ret
    exact ⟨by first | rfl | simp, Hb3.out⟩
  · rw [met1]
    clear h7 HC Hpl Hbs
    by_cases h : 0 ≤ n
    · rw [decide_eq_true h, Bool.true_and]
      go_enter Tryd.func131, Tryd.ntmps131
      go_wp2
      go_ret
      exact ⟨by first | rfl | simp, Hb3.out⟩
    · rw [decide_eq_false h, Bool.false_and]
      go_enter Tryd.func131, Tryd.ntmps131
      go_wp2
      go_ret
      exact ⟨by first | rfl | simp, Hb3.out⟩
  · rw [met2]
    clear h7 HC Hpl Hbs
    by_cases h : 0 ≤ n
    · rw [decide_eq_true h, Bool.true_and]
      go_enter Tryd.func131, Tryd.ntmps131
      go_wp2
      go_ret
      exact ⟨by first | rfl | simp, Hb3.out⟩
    · rw [decide_eq_false h, Bool.false_and]
      go_enter Tryd.func131, Tryd.ntmps131
      go_wp2
      go_ret
      exact ⟨by first | rfl | simp, Hb3.out⟩
  · rw [met3]
    clear h7 HC Hbs
    go_enter Tryd.func131, Tryd.ntmps131
    go_wp2_with fail
    refine (Hpl.out _).mono ?_
    rintro e w2 ⟨rfl, hb2⟩
    have hbn := Hb3.out.trans (hb2.mono Hb3.out.size)
    go_wp2
    go_ret
    exact ⟨rfl, hbn⟩
  · rw [met4]
    clear h7 HC Hpl Hbs
    by_cases h : 0 ≤ n
    · rw [decide_eq_true h, Bool.true_and]
      go_enter Tryd.func131, Tryd.ntmps131
      go_wp2
      go_ret
      exact ⟨by first | rfl | simp, Hb3.out⟩
    · rw [decide_eq_false h, Bool.false_and]
      go_enter Tryd.func131, Tryd.ntmps131
      go_wp2
      go_ret
      exact ⟨by first | rfl | simp, Hb3.out⟩
  · rw [met5]
    clear h7 HC Hpl
    go_enter Tryd.func131, Tryd.ntmps131
    go_wp2_with fail
    refine (Hbs.out _).mono ?_
    rintro e w2 ⟨rfl, rfl⟩
    go_wp2
    go_ret
    exact ⟨rfl, Hb3.out⟩
  · rw [met6]
    clear h7 HC Hpl Hbs
    by_cases h : 0 ≤ n
    · rw [decide_eq_true h, Bool.true_and]
      go_enter Tryd.func131, Tryd.ntmps131
      go_wp2
      go_ret
      exact ⟨by first | rfl | simp, Hb3.out⟩
    · rw [decide_eq_false h, Bool.false_and]
      go_enter Tryd.func131, Tryd.ntmps131
      go_wp2
      go_ret
      exact ⟨by first | rfl | simp, Hb3.out⟩
  · rw [met7]
    clear Hpl Hbs
    obtain ⟨h1, h2⟩ := h7 rfl
    clear h7
    obtain ⟨ob, hob⟩ : ∃ b, b = o.b := ⟨_, rfl⟩
    rw [← hob] at h1 h2 HC Hb3
    rw [← hob]
    clear hob
    obtain ⟨j, rfl⟩ : ∃ j : Nat, ob = j := ⟨ob.toNat, by omega⟩
    have hj : j < C.length := by omega
    have hp : pOf C (j : Int) = C[j].params := by unfold pOf; simp [hj]
    rw [hp]
    obtain ⟨ad, rfl, _, hbk, hat⟩ := HC.out.2 (by omega)
    obtain ⟨x0, x1, x2, ⟨d0, d1, d2⟩, rfl, rfl, XA, xc, rfl, -⟩ := hat j hj
    obtain ⟨p, hp2⟩ : ∃ p, p = C[j].params := ⟨_, rfl⟩
    rw [← hp2] at d0
    rw [← hp2]
    clear hat hp hp2 d1 d2 HC
    by_cases h : 0 ≤ n
    · rw [decide_eq_true h, Bool.true_and]
      go_enter Tryd.func131, Tryd.ntmps131
      go_wp2
      go_quiet (fail)
      go_wp2
      go_ret
      exact ⟨by first | rfl | simp, blw_drewN Hb3.out _⟩
    · rw [decide_eq_false h, Bool.false_and]
      have hd0 : decide (0 ≤ n) = false := decide_eq_false h
      have hd1 : n < 0 := by omega
      go_enter Tryd.func131, Tryd.ntmps131
      go_wp2
      go_quiet (fail)
      go_wp2
      go_ret
      exact ⟨by first | rfl | simp, blw_drewN Hb3.out _⟩
end Cod
end Go.Proofs.YtebgigiakfjocaaDoor
