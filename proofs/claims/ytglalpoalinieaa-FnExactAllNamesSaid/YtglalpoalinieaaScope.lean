/-
  What a right program is: names that are known, in plain words.
-/
import Derived.Test.YtglalpoalinieaaNamesAll
import Derived.Test.YtglalpoalinieaaSeqEx
import Derived.Test.YtglalpoalinieaaWithName
namespace Go.Proofs.Ytglalpoalinieaa
open Go.RowKit Go.Shelf
set_option linter.unusedVariables false

/-- names through statements, in the order of the text -/
def hold : List (List UInt8) → List St → Bool
  | _, [] => true
  | known, .mk k name e f _ _ :: r => (flatExs (asksL k e f)).all (askOk known) &&
    (if k = 0 then decide (placeOf known name < 0) && hold (known ++ [name]) r else if k = 1 then decide (0 ≤ placeOf known name) && hold known r else hold known r)
/-- names that statements let -/
def letsOf : List St → List (List UInt8)
  | [] => []
  | .mk k name _ _ _ _ :: r => if k = 0 then name :: letsOf r else letsOf r
theorem letsOf_cons (k : Int) (name : List UInt8) (e f : Ex) (x y r : List St) : letsOf (.mk k name e f x y :: r) = if k = 0 then name :: letsOf r else letsOf r := by rw [letsOf]
theorem hold_nil (known : List (List UInt8)) : hold known [] = true := by rw [hold]
theorem hold_cons (known : List (List UInt8)) (k : Int) (name : List UInt8) (e f : Ex) (x y r : List St) : hold known (.mk k name e f x y :: r) = ((flatExs (asksL k e f)).all (askOk known) &&
    (if k = 0 then decide (placeOf known name < 0) && hold (known ++ [name]) r else if k = 1 then decide (0 ≤ placeOf known name) && hold known r else hold known r)) := by rw [hold]
theorem letsOf_app : ∀ (a b : List St), letsOf (a ++ b) = letsOf a ++ letsOf b
  | [], b => rfl
  | .mk k name e f x y :: r, b => by
    rw [List.cons_append, letsOf_cons, letsOf_cons]
    by_cases h : k = 0
    · rw [if_pos h, if_pos h, letsOf_app r b]; rfl
    · rw [if_neg h, if_neg h, letsOf_app r b]
theorem letsOf_len : ∀ (l : List St), (letsOf l).length ≤ l.length
  | [] => Nat.zero_le _
  | .mk k name e f x y :: r => by
    have := letsOf_len r
    rw [letsOf_cons]
    by_cases h : k = 0
    · rw [if_pos h]; simp only [List.length_cons]; omega
    · rw [if_neg h]; simp only [List.length_cons]; omega
theorem hold_app : ∀ (known : List (List UInt8)) (a b : List St), hold known (a ++ b) = (hold known a && hold (known ++ letsOf a) b)
  | known, [], b => by simp [hold_nil, letsOf]
  | known, .mk k name e f x y :: r, b => by
    rw [List.cons_append, hold_cons, hold_cons, letsOf_cons]
    by_cases h : k = 0
    · rw [if_pos h, if_pos h, if_pos h, hold_app (known ++ [name]) r b]
      simp [Bool.and_assoc]
    · rw [if_neg h, if_neg h, if_neg h]
      by_cases h1 : k = 1
      · rw [if_pos h1, if_pos h1, hold_app known r b]
        simp [Bool.and_assoc]
      · rw [if_neg h1, if_neg h1, hold_app known r b]
        simp [Bool.and_assoc]
theorem hold_pre {known : List (List UInt8)} {a b : List St} (h : a <+: b) (hb : hold known b = true) : hold known a = true := by
  obtain ⟨t, rfl⟩ := h
  rw [hold_app, Bool.and_eq_true] at hb
  exact hb.1

/-- a call is right: of a function that there is, with as much as it asks -/
def callOk (l : List Fn) : Ex → Bool
  | .mk k _ name args => k != 5 || (decide (0 ≤ placeOf (namesOf l) name) && match l[(placeOf (namesOf l) name).toNat]? with
    | some f => decide (f.params.length = args.length)
    | none => false)

def localsOf (f : Fn) : List (List UInt8) := (letsOf (flatSts f.body)).foldl withN (f.params.foldl withN [])

def fnOk (l : List Fn) (f : Fn) : Bool := unl f.params && decide ((localsOf f).length ≤ 8) && hold f.params (flatSts f.body) && (fnEx f).all (callOk l)
def progOk (l : List Fn) : Bool := formOk l && decide ((l[0]?.map fun f => f.params.length) = some 0) && unl (namesOf l) && l.all (fnOk l)

-- sizes of what is gone through
mutual
theorem flatSt_sz : ∀ s : St, (flatSt s).length ≤ stSz s + 1 ∧ ∀ t ∈ flatSt s, stSz t ≤ stSz s
  | .mk k name e f body els => by
    have h1 := flatSts_sz body
    have h2 := flatSts_sz els
    rw [flatSt_mk, stSz_mk]
    refine ⟨by simp only [List.length_cons, List.length_append]; omega, fun t ht => ?_⟩
    rcases List.mem_cons.1 ht with rfl | ht
    · rw [stSz_mk]; omega
    · rcases List.mem_append.1 ht with ht | ht
      · have := h1.2 t ht; omega
      · have := h2.2 t ht; omega
theorem flatSts_sz : ∀ l : List St, (flatSts l).length ≤ stsSz l ∧ ∀ t ∈ flatSts l, stSz t ≤ stsSz l
  | [] => by simp [flatSts]
  | s :: r => by
    have h1 := flatSt_sz s
    have h2 := flatSts_sz r
    rw [flatSts, stsSz]
    refine ⟨by rw [List.length_append]; omega, fun t ht => ?_⟩
    rcases List.mem_append.1 ht with ht | ht
    · have := h1.2 t ht; omega
    · have := h2.2 t ht; omega
end
mutual
theorem flatEx_sz : ∀ s : Ex, ∀ t ∈ flatEx s, exSz t ≤ exSz s
  | .mk k n name args => by
    have h1 := flatExs_sz args
    rw [flatEx_mk, exSz_mk]
    intro t ht
    rcases List.mem_cons.1 ht with rfl | ht
    · rw [exSz_mk]; omega
    · have := h1 t ht; omega
theorem flatExs_sz : ∀ l : List Ex, ∀ t ∈ flatExs l, exSz t ≤ exsSz l
  | [] => by simp [flatExs]
  | s :: r => by
    have h1 := flatEx_sz s
    have h2 := flatExs_sz r
    rw [flatExs, exsSz]
    intro t ht
    rcases List.mem_append.1 ht with ht | ht
    · have := h1 t ht; omega
    · have := h2 t ht; omega
end
/-- what a round of statements is handed is no longer, and no more of them, than the body -/
theorem round_sz {xs : List SV} {x : SV} {l : List St} (h : (xs ++ [x]).map SV.s <+: flatSts l) : xs.length + 1 ≤ stsSz l ∧ stSz x.s ≤ stsSz l := by
  have h1 := h.length_le
  rw [List.length_map, List.length_append, List.length_singleton] at h1
  have h2 := flatSts_sz l
  exact ⟨by omega, h2.2 _ (h.subset (by simp))⟩
theorem letsOf_round (xs : List SV) (x : SV) : letsOf ((xs ++ [x]).map SV.s) = letsOf (xs.map SV.s) ++ letsOf [x.s] := by
  rw [List.map_append, letsOf_app]; rfl
end Go.Proofs.Ytglalpoalinieaa
