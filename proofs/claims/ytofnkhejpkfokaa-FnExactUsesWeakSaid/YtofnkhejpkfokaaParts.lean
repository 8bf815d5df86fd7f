/-
  The program's measure of statements.
-/
import Derived.Test.YtofnkhejpkfokaaMeth
namespace Go.Proofs.Ytofnkhejpkfokaa
open Go.RowKit
set_option linter.unusedVariables false

/-- what a statement of a kind asks for; its blocks -/
def asksL (k : Int) (e f : Ex) : List Ex := if k = 2 then [e, f] else [e]
def blocksL (k : Int) (body els : List St) : List (List St) := if k = 5 then [body, els] else if k = 6 then [body] else []
def blksN (l : List (List St)) : Nat := (l.map stsN).sum
def blksGood (l : List (List St)) (d : Nat) : Bool := l.all fun b => stsGood b d
def blksDeep (l : List (List St)) (d : Nat) : Nat := (l.map fun b => stsDeep b d).foldr max 0
theorem blksN_step {l : List (List St)} {k : Nat} (hk : k < l.length) : blksN (l.take (k + 1)) = blksN (l.take k) + stsN l[k] := by
  unfold blksN
  rw [List.take_succ_eq_append_getElem hk, List.map_append, List.sum_append]
  simp
theorem blksN_take (l : List (List St)) (k : Nat) : blksN (l.take k) ≤ blksN l := by
  conv => rhs; rw [← List.take_append_drop k l]
  unfold blksN
  rw [List.map_append, List.sum_append]
  omega
theorem blksGood_step {l : List (List St)} {k d : Nat} (hk : k < l.length) : blksGood (l.take (k + 1)) d = (blksGood (l.take k) d && stsGood l[k] d) := by
  unfold blksGood
  rw [List.take_succ_eq_append_getElem hk, List.all_append]
  simp
theorem blksGood_get {l : List (List St)} {k d : Nat} (hk : k < l.length) (h : blksGood l d = true) : stsGood l[k] d = true := by
  unfold blksGood at h
  rw [List.all_eq_true] at h
  exact h l[k] (List.getElem_mem hk)
theorem blksDeep_step {l : List (List St)} {k d : Nat} (hk : k < l.length) : blksDeep (l.take (k + 1)) d = max (blksDeep (l.take k) d) (stsDeep l[k] d) := by
  unfold blksDeep
  rw [List.take_succ_eq_append_getElem hk, List.map_append, foldr_max_app]
  simp

theorem stOk1_kind {k : Int} {name : List UInt8} {f : Ex} {nb ne : Nat} (h : stOk1 k name f nb ne = true) : 0 ≤ k ∧ k ≤ 7 := by
  unfold stOk1 at h
  by_cases h1 : k = 0 ∨ k = 1
  · omega
  rw [if_neg h1] at h
  by_cases h2 : k = 2
  · omega
  rw [if_neg h2] at h
  by_cases h3 : k = 3 ∨ k = 4 ∨ k = 7
  · omega
  rw [if_neg h3] at h
  by_cases h4 : k = 5
  · omega
  rw [if_neg h4] at h
  by_cases h5 : k = 6
  · omega
  rw [if_neg h5] at h
  cases h
theorem stOk1_blocks {k : Int} {name : List UInt8} {f : Ex} {body els : List St} (h : stOk1 k name f body.length els.length = true) : (k ≠ 5 → k ≠ 6 → body = []) ∧ (k ≠ 5 → els = []) := by
  have hk := stOk1_kind h
  have hks : k = 0 ∨ k = 1 ∨ k = 2 ∨ k = 3 ∨ k = 4 ∨ k = 5 ∨ k = 6 ∨ k = 7 := by omega
  rcases hks with rfl | rfl | rfl | rfl | rfl | rfl | rfl | rfl
  all_goals
    simp [stOk1] at h
    first | (refine ⟨fun _ _ => ?_, fun _ => ?_⟩; exact h.1.2; exact h.2) | (refine ⟨fun _ h6 => absurd rfl h6, fun _ => h.2⟩) | (refine ⟨fun h5 => absurd rfl h5, fun h5 => absurd rfl h5⟩)
theorem exsDeep_one (e : Ex) (d : Nat) : exsDeep [e] d = exDeep e d := by simp [exsDeep]
theorem stGood_parts {k : Int} {name : List UInt8} {e f : Ex} {body els : List St} (h : stOk1 k name f body.length els.length = true) (d : Nat) :
    stGood (.mk k name e f body els) d = (decide (d ≤ 7) && exsGood (asksL k e f) (d + 1) && blksGood (blocksL k body els) (d + 1)) ∧
    stN (.mk k name e f body els) = 1 + exsN (asksL k e f) + blksN (blocksL k body els) ∧
    stDeep (.mk k name e f body els) d = max d (max (exsDeep (asksL k e f) (d + 1)) (blksDeep (blocksL k body els) (d + 1))) := by
  have hk := stOk1_kind h
  obtain ⟨hb1, hb2⟩ := stOk1_blocks h
  rw [stGood_mk, stN_mk, stDeep_mk, h]
  have hks : k = 0 ∨ k = 1 ∨ k = 2 ∨ k = 3 ∨ k = 4 ∨ k = 5 ∨ k = 6 ∨ k = 7 := by omega
  rcases hks with rfl | rfl | rfl | rfl | rfl | rfl | rfl | rfl
  all_goals
    first
      | (have b1 := hb1 (by omega) (by omega); have b2 := hb2 (by omega); subst b1; subst b2)
      | (have b2 := hb2 (by omega); subst b2)
      | skip
    simp [asksL, blocksL, exsGood, exsN, exsDeep, blksGood, blksN, blksDeep, stsGood, stsN, stsDeep]
    try simp [Bool.and_assoc, Nat.add_assoc]
theorem stsDeep_le : ∀ (l : List St) (d : Nat), stsGood l d = true → stsDeep l d ≤ 7 := by
  have h2 : ∀ (s : St) (d : Nat), stGood s d = true → stDeep s d ≤ 7 := fun s => St.ind (P := fun s => ∀ d, stGood s d = true → stDeep s d ≤ 7) (fun k name e f body els ih1 ih2 d hg => by
    rw [stGood_mk] at hg
    simp only [Bool.and_eq_true, decide_eq_true_eq] at hg
    have hl : ∀ (l : List St), (∀ s ∈ l, ∀ d, stGood s d = true → stDeep s d ≤ 7) → ∀ d, stsGood l d = true → stsDeep l d ≤ 7 := by
      intro l
      induction l with
      | nil => intro _ d _; simp [stsDeep]
      | cons x t iht =>
        intro hx d hg
        simp only [stsGood, Bool.and_eq_true] at hg
        have := hx x (by simp) d hg.1
        have := iht (fun e he => hx e (by simp [he])) d hg.2
        simp only [stsDeep]; omega
    have a1 := hl body ih1 (d + 1) hg.1.2
    have a2 := hl els ih2 (d + 1) hg.2
    have a3 := exsDeep_le [e] (d + 1) (by simp [exsGood, hg.1.1.1.2])
    rw [exsDeep_one] at a3
    have a4 : (if k = 2 then exDeep f (d + 1) else 0) ≤ 7 := by
      by_cases hk : k = 2
      · rw [if_pos hk]
        have hf : exGood f (d + 1) = true := by have := hg.1.1.2; simpa [hk] using this
        have a4 := exsDeep_le [f] (d + 1) (by simp [exsGood, hf])
        rwa [exsDeep_one] at a4
      · rw [if_neg hk]; omega
    rw [stDeep_mk]
    have := hg.1.1.1.1.1
    omega) s
  intro l
  induction l with
  | nil => intro d _; simp [stsDeep]
  | cons x t iht =>
    intro d hg
    simp only [stsGood, Bool.and_eq_true] at hg
    have := h2 x d hg.1
    have := iht d hg.2
    simp only [stsDeep]; omega
theorem blksDeep_le : ∀ (l : List (List St)) (d : Nat), blksGood l d = true → blksDeep l d ≤ 7 := by
  intro l
  induction l with
  | nil => intro d _; simp [blksDeep]
  | cons x t iht =>
    intro d hg
    unfold blksGood at hg iht
    simp only [List.all_cons, Bool.and_eq_true] at hg
    have := stsDeep_le x d hg.1
    have := iht d hg.2
    unfold blksDeep at this ⊢
    simp only [List.map_cons, List.foldr_cons]; omega
end Go.Proofs.Ytofnkhejpkfokaa
