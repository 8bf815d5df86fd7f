/-
  What a code has to be: orders, units; signs.
-/
import Derived.Test.YtebgigiakfjocaaDoorCode
import Derived.Test.YtebgigiakfjocaaDoorWord
namespace Go.Proofs.YtebgigiakfjocaaDoor
open Go.RowKit
set_option linter.unusedVariables false
set_option linter.unusedSimpArgs false
namespace Cod

def isBin (n : Int) : Bool := n == 43 || n == 45 || n == 42 || n == 60 || n == 61
theorem binSign_c (n : Int) (w : World) :
    Calls Tryd.prog 151 #[.int .i64 n] w fun e w' => e = .returned (.bool (isBin n)) ∧ w = w' := by
  by_cases h : n = 43 ∨ n = 45 ∨ n = 42 ∨ n = 60 ∨ n = 61
  · rcases h with rfl | rfl | rfl | rfl | rfl
    all_goals
      go_enter Tryd.func151, Tryd.ntmps151
      go_wp2
      go_ret
      exact ⟨rfl, rfl⟩
  · have hn : isBin n = false := by unfold isBin; simp; omega
    rw [hn]
    have h1 : ¬ n = 43 := by omega
    have h2 : ¬ n = 45 := by omega
    have h3 : ¬ n = 42 := by omega
    have h4 : ¬ n = 60 := by omega
    have h5 : ¬ n = 61 := by omega
    clear h hn
    go_enter Tryd.func151, Tryd.ntmps151
    go_wp2
    go_ret
    exact ⟨rfl, rfl⟩

theorem l2op_c (n : Int) (w : World) :
    Calls Tryd.prog 108 #[.int .i64 n] w fun e w' => e = .returned (.bool (isBin n)) ∧ w = w' := by
  by_cases h : n = 43 ∨ n = 45 ∨ n = 42 ∨ n = 60 ∨ n = 61
  · rcases h with rfl | rfl | rfl | rfl | rfl
    all_goals
      go_enter Tryd.func108, Tryd.ntmps108
      go_wp2
      go_ret
      exact ⟨rfl, rfl⟩
  · have hn : isBin n = false := by unfold isBin; simp; omega
    rw [hn]
    have h1 : ¬ n = 43 := by omega
    have h2 : ¬ n = 45 := by omega
    have h3 : ¬ n = 42 := by omega
    have h4 : ¬ n = 60 := by omega
    have h5 : ¬ n = 61 := by omega
    clear h hn
    go_enter Tryd.func108, Tryd.ntmps108
    go_wp2
    go_ret
    refine ⟨?_, rfl⟩
    simp_all


/-- how many the unit of that number asks with -/
def pOf (C : List Un) (b : Int) : Int := (C.getD b.toNat ⟨0, 0, []⟩).params
/-- what is wanted of a number -/
def met (w : Int) (C : List Un) (u : Un) (ob n : Int) : Bool :=
  if w = 1 then decide (0 ≤ n) && decide (n < u.regs)
  else if w = 2 then decide (0 ≤ n) && decide (n < u.regs - 1)
  else if w = 3 then decide (0 ≤ n) && decide (n < u.l.length)
  else if w = 4 then decide (0 ≤ n) && decide (n ≤ 999999)
  else if w = 5 then isBin n
  else if w = 6 then decide (0 ≤ n) && decide (n < C.length)
  else if w = 7 then decide (0 ≤ n) && decide (n ≤ wrap64 (u.regs - pOf C ob))
  else decide (n = 0)
def wA : List Int := [0, 1, 1, 1, 1, 1, 1, 2, 3, 1, 1, 1, 1, 1, 1]
def wB : List Int := [0, 4, 0, 1, 0, 1, 1, 1, 0, 3, 6, 0, 0, 1, 1]
def wC : List Int := [0, 0, 0, 0, 0, 0, 0, 5, 0, 0, 7, 0, 0, 0, 0]
def nmd (k : Nat) : Bool := k == 5 || k == 6
def ordOk (C : List Un) (u : Un) (o : In) : Bool :=
  decide (0 ≤ o.op) && decide (o.op < 15) && (nmd o.op.toNat == decide (0 < o.name.length)) && (!nmd o.op.toNat || wordOk o.name) &&
    (met (wA.getD o.op.toNat 0) C u o.b o.a && met (wB.getD o.op.toNat 0) C u o.b o.b && met (wC.getD o.op.toNat 0) C u o.b o.c)
def lastOp (l : List In) : Int := (l.getD (l.length - 1) ⟨0, 0, 0, 0, []⟩).op
def headOk (u : Un) : Bool := decide (0 ≤ u.params ∧ u.params ≤ 3 ∧ u.params ≤ u.regs ∧ 1 ≤ u.regs ∧ u.regs ≤ 24)
def bodyOk (u : Un) : Bool := decide (1 ≤ u.l.length ∧ u.l.length ≤ 300) && decide (lastOp u.l = 11)
def unitOk (C : List Un) (u : Un) : Bool := headOk u && bodyOk u && u.l.all (ordOk C u)
def codeOk (C : List Un) : Bool := decide (1 ≤ C.length ∧ C.length ≤ 4) && decide (pOf C 0 = 0) && C.all (unitOk C)
theorem all_at {α : Type} {p : α → Bool} {l : List α} (h : ∀ k (hk : k < l.length), p l[k] = true) : l.all p = true := by
  rw [List.all_eq_true]
  intro x hx
  obtain ⟨i, hi, rfl⟩ := List.mem_iff_getElem.1 hx
  exact h i hi
theorem all_not {α : Type} {p : α → Bool} {l : List α} {k : Nat} (hk : k < l.length) (h : p l[k] = false) : l.all p = false := by
  cases hq : l.all p
  · rfl
  · rw [List.all_eq_true] at hq
    have := hq _ (List.getElem_mem hk)
    rw [h] at this
    cases this
theorem met1 (C : List Un) (u : Un) (ob n : Int) : met 1 C u ob n = (decide (0 ≤ n) && decide (n < u.regs)) := rfl
theorem met2 (C : List Un) (u : Un) (ob n : Int) : met 2 C u ob n = (decide (0 ≤ n) && decide (n < u.regs - 1)) := rfl
theorem met3 (C : List Un) (u : Un) (ob n : Int) : met 3 C u ob n = (decide (0 ≤ n) && decide (n < u.l.length)) := rfl
theorem met4 (C : List Un) (u : Un) (ob n : Int) : met 4 C u ob n = (decide (0 ≤ n) && decide (n ≤ 999999)) := rfl
theorem met5 (C : List Un) (u : Un) (ob n : Int) : met 5 C u ob n = isBin n := rfl
theorem met6 (C : List Un) (u : Un) (ob n : Int) : met 6 C u ob n = (decide (0 ≤ n) && decide (n < C.length)) := rfl
theorem met7 (C : List Un) (u : Un) (ob n : Int) : met 7 C u ob n = (decide (0 ≤ n) && decide (n ≤ wrap64 (u.regs - pOf C ob))) := rfl
theorem met0 (C : List Un) (u : Un) (ob n : Int) : met 0 C u ob n = decide (n = 0) := rfl
end Cod
end Go.Proofs.YtebgigiakfjocaaDoor
