/-
  What a right program is: names that are known, in plain words.
-/
import Derived.Test.YtmejbmfopdfbjaaNamesAll
import Derived.Test.YtmejbmfopdfbjaaSeqEx
import Derived.Test.YtmejbmfopdfbjaaWithName
namespace Go.Proofs.Ytmejbmfopdfbjaa
open Go.RowKit Go.Shelf
set_option linter.unusedVariables false

/-- names through statements, in the order of the text -/
def hold : List (List UInt8) → List St → Bool
  | _, [] => true
  | known, .mk k name e f _ _ :: r => (flatExs (asksL k e f)).all (askOk known) &&
    (if k = 0 then decide (placeOf known name < 0) && hold (known ++ [name]) r else if k = 1 then decide (0 ≤ placeOf known name) && hold known r else hold known r)
/-- names that statements let -/
def letsOf : List St → List (List UInt8)
  | [] => []
  | .mk k name _ _ _ _ :: r => if k = 0 then name :: letsOf r else letsOf r
theorem letsOf_cons (k : Int) (name : List UInt8) (e f : Ex) (x y r : List St) : letsOf (.mk k name e f x y :: r) = if k = 0 then name :: letsOf r else letsOf r := by rw [letsOf]
theorem hold_nil (known : List (List UInt8)) : hold known [] = true := by rw [hold]
theorem hold_cons (known : List (List UInt8)) (k : Int) (name : List UInt8) (e f : Ex) (x y r : List St) : hold known (.mk k name e f x y :: r) = ((flatExs (asksL k e f)).all (askOk known) &&
    (if k = 0 then decide (placeOf known name < 0) && hold (known ++ [name]) r else if k = 1 then decide (0 ≤ placeOf known name) && hold known r else hold known r)) := by rw [hold]
theorem letsOf_app : ∀ (a b : List St), letsOf (a ++ b) = letsOf a ++ letsOf b
  | [], b => rfl
  | .mk k name e f x y :: r, b => by
    rw [List.cons_append, letsOf_cons, letsOf_cons]
    by_cases h : k = 0
    · rw [if_pos h, if_pos h, letsOf_app r b]; rfl
    · rw [if_neg h, if_neg h, letsOf_app r b]
theorem letsOf_len : ∀ (l : List St), (letsOf l).length ≤ l.length
  | [] => Nat.zero_le _
  | .mk k name e f x y :: r => by
    have := letsOf_len r
    rw [letsOf_cons]
    by_cases h : k = 0
    · rw [if_pos h]; simp only [List.length_cons]; omega
    · rw [if_neg h]; simp only [List.length_cons]; omega
theorem hold_app : ∀ (known : List (List UInt8)) (a b : List St), hold known (a ++ b) = (hold known a && hold (known ++ letsOf a) b)
  | known, [], b => by simp [hold_nil, letsOf]
  | known, .mk k name e f x y :: r, b => by
    rw [List.cons_append, hold_cons, hold_cons, letsOf_cons]
    by_cases h : k = 0
    · rw [if_pos h, if_pos h, if_pos h, hold_app (known ++ [name]) r b]
      simp [Bool.and_assoc]
    · rw [if_neg h, if_neg h, if_neg h]
      by_cases h1 : k = 1
      · rw [if_pos h1, if_pos h1, hold_app known r b]
        simp [Bool.and_assoc]
      · rw [if_neg h1, if_neg h1, hold_app known r b]
        simp [Bool.and_assoc]
theorem hold_pre {known : List (List UInt8)} {a b : List St} (h : a <+: b) (hb : hold known b = true) : hold known a = true := by
  obtain ⟨t, rfl⟩ := h
  rw [hold_app, Bool.and_eq_true] at hb
  exact hb.1

/-- a call is right: of a function that there is, with as much as it asks -/
def callOk (l : List Fn) : Ex → Bool
  | .mk k _ name args => k != 5 || (decide (0 ≤ placeOf (namesOf l) name) && match l[(placeOf (namesOf l) name).toNat]? with
    | some f => decide (f.params.length = args.length)
    | none => false)

def localsOf (f : Fn) : List (List UInt8) := (letsOf (flatSts f.body)).foldl withN (f.params.foldl withN [])

def fnOk (l : List Fn) (f : Fn) : Bool := unl f.params && decide ((localsOf f).length ≤ 8) && hold f.params (flatSts f.body) && (fnEx f).all (callOk l)
def progOk (l : List Fn) : Bool := formOk l && decide ((l[0]?.map fun f => f.params.length) = some 0) && unl (namesOf l) && l.all (fnOk l)

-- sizes of what is gone through
mutual
theorem flatSt_sz : ∀ s : St, (flatSt s).length ≤ stSz s + 1 ∧ ∀ t ∈ flatSt s, stSz t ≤ stSz s
  | .mk k name e f body els => by
    have h1 := flatSts_sz body
    have h2 := flatSts_sz els
    rw [flatSt_mk, stSz_mk]
    refine ⟨by simp only [List.length_cons, List.length_append]; omega, fun t ht => ?_⟩
    rcases List.mem_cons.1 ht with rfl | ht
    · rw [stSz_mk]; omega
    · rcases List.mem_append.1 ht with ht | ht
      · have := h1.2 t ht; omega
      · have := h2.2 t ht; omega
theorem flatSts_sz : ∀ l : List St, (flatSts l).length ≤ stsSz l ∧ ∀ t ∈ flatSts l, stSz t ≤ stsSz l
  | [] => by simp [flatSts]
  | s :: r => by
    have h1 := flatSt_sz s
    have h2 := flatSts_sz r
    rw [flatSts, stsSz]
    refine ⟨by rw [List.length_append]; omega, fun t ht => ?_⟩
    rcases List.mem_append.1 ht with ht | ht
    · have := h1.2 t ht; omega
    · have := h2.2 t ht; omega
end
mutual
theorem flatEx_sz : ∀ s : Ex, ∀ t ∈ flatEx s, exSz t ≤ exSz s
  | .mk k n name args => by
    have h1 := flatExs_sz args
    rw [flatEx_mk, exSz_mk]
    intro t ht
    rcases List.mem_cons.1 ht with rfl | ht
    · rw [exSz_mk]; omega
    · have := h1 t ht; omega
theorem flatExs_sz : ∀ l : List Ex, ∀ t ∈ flatExs l, exSz t ≤ exsSz l
  | [] => by simp [flatExs]
  | s :: r => by
    have h1 := flatEx_sz s
    have h2 := flatExs_sz r
    rw [flatExs, exsSz]
    intro t ht
    rcases List.mem_append.1 ht with ht | ht
    · have := h1 t ht; omega
    · have := h2 t ht; omega
end
/-- what a round of statements is handed is no longer, and no more of them, than the body -/
theorem round_sz {xs : List SV} {x : SV} {l : List St} (h : (xs ++ [x]).map SV.s <+: flatSts l) : xs.length + 1 ≤ stsSz l ∧ stSz x.s ≤ stsSz l := by
  have h1 := h.length_le
  rw [List.length_map, List.length_append, List.length_singleton] at h1
  have h2 := flatSts_sz l
  exact ⟨by omega, h2.2 _ (h.subset (by simp))⟩
theorem letsOf_round (xs : List SV) (x : SV) : letsOf ((xs ++ [x]).map SV.s) = letsOf (xs.map SV.s) ++ letsOf [x.s] := by
  rw [List.map_append, letsOf_app]; rfl
def exK : Ex → Int
  | .mk k _ _ _ => k
mutual
theorem flatEx_len : ∀ s : Ex, (flatEx s).length ≤ exSz s + 1
  | .mk k n name args => by
    have h1 := flatExs_len args
    rw [flatEx_mk, exSz_mk, List.length_cons]
    omega
theorem flatExs_len : ∀ l : List Ex, (flatExs l).length ≤ exsSz l
  | [] => by simp [flatExs]
  | s :: r => by
    have h1 := flatEx_len s
    have h2 := flatExs_len r
    rw [flatExs, exsSz, List.length_append]
    omega
end
theorem stEx_len (k : Int) (name : List UInt8) (e f : Ex) (body els : List St) : (stEx (.mk k name e f body els)).length ≤ exSz e + exSz f + 2 := by
  have e1 : stEx (.mk k name e f body els) = flatExs (asksL k e f) := rfl
  have h1 := flatEx_len e
  have h2 := flatEx_len f
  rw [e1]
  unfold asksL
  by_cases h : k = 2
  · rw [if_pos h]
    simp only [flatExs, List.append_nil, List.length_append]
    omega
  · rw [if_neg h]
    simp only [flatExs, List.append_nil]
    omega
theorem stsEx_app2 (l l' : List St) : stsEx (l ++ l') = stsEx l ++ stsEx l' := by unfold stsEx; rw [List.flatMap_append]
mutual
theorem stsEx_len1 : ∀ s : St, (stsEx (flatSt s)).length ≤ 2 * (stSz s + 1)
  | .mk k name e f body els => by
    have h1 := stsEx_len body
    have h2 := stsEx_len els
    have h3 := stEx_len k name e f body els
    have e1 : stsEx (.mk k name e f body els :: (flatSts body ++ flatSts els)) = stEx (.mk k name e f body els) ++ stsEx (flatSts body ++ flatSts els) := rfl
    rw [flatSt_mk, e1, stsEx_app2, stSz_mk, List.length_append, List.length_append]
    omega
theorem stsEx_len : ∀ l : List St, (stsEx (flatSts l)).length ≤ 2 * stsSz l
  | [] => by simp [flatSts, stsEx]
  | s :: r => by
    have h1 := stsEx_len1 s
    have h2 := stsEx_len r
    rw [flatSts, stsEx_app2, stsSz, List.length_append]
    omega
end
/-- every asked expression is no longer than the statements -/
theorem asks_sz (k : Int) (e f : Ex) : ∀ x ∈ flatExs (asksL k e f), exSz x ≤ exSz e + exSz f := by
  intro x hx
  have h2 : ∀ (t : List Ex), x ∈ flatExs t → ∃ y ∈ t, x ∈ flatEx y := fun t => by
    induction t with
    | nil => intro h; simp [flatExs] at h
    | cons y r ih =>
      intro h
      rw [flatExs, List.mem_append] at h
      rcases h with h | h
      · exact ⟨y, by simp, h⟩
      · obtain ⟨z, hz, hx⟩ := ih h
        exact ⟨z, by simp [hz], hx⟩
  obtain ⟨y, hy, hxy⟩ := h2 _ hx
  have h3 := flatEx_sz y x hxy
  unfold asksL at hy
  by_cases h : k = 2
  · rw [if_pos h] at hy
    simp at hy
    rcases hy with rfl | rfl <;> omega
  · rw [if_neg h] at hy
    simp at hy
    subst hy
    omega
mutual
theorem stsEx_sz1 : ∀ s : St, ∀ x ∈ stsEx (flatSt s), exSz x ≤ stSz s
  | .mk k name e f body els => by
    intro x hx
    have e1 : stsEx (.mk k name e f body els :: (flatSts body ++ flatSts els)) = stEx (.mk k name e f body els) ++ stsEx (flatSts body ++ flatSts els) := rfl
    rw [flatSt_mk, e1, stsEx_app2, List.mem_append, List.mem_append] at hx
    rw [stSz_mk]
    rcases hx with hx | hx | hx
    · have := asks_sz k e f x hx; omega
    · have := stsEx_sz body x hx; omega
    · have := stsEx_sz els x hx; omega
theorem stsEx_sz : ∀ l : List St, ∀ x ∈ stsEx (flatSts l), exSz x ≤ stsSz l
  | [] => by intro x hx; simp [flatSts, stsEx] at hx
  | s :: r => by
    intro x hx
    rw [flatSts, stsEx_app2, List.mem_append] at hx
    rw [stsSz]
    rcases hx with hx | hx
    · have := stsEx_sz1 s x hx; omega
    · have := stsEx_sz r x hx; omega
end
theorem ex_round_sz {xs : List EV} {x : EV} {l : List St} (h : (xs ++ [x]).map EV.e <+: stsEx (flatSts l)) : xs.length + 1 ≤ 2 * stsSz l ∧ exSz x.e ≤ stsSz l := by
  have h1 := h.length_le
  rw [List.length_map, List.length_append, List.length_singleton] at h1
  have h2 := stsEx_len l
  exact ⟨by omega, stsEx_sz l _ (h.subset (by simp))⟩

/-- whom a function calls: each once, in the order of the text -/
def callN (l : List (List UInt8)) : Ex → List (List UInt8)
  | .mk k _ name _ => if k = 5 then withN l name else l
theorem callN_call (l : List (List UInt8)) (n : Int) (name : List UInt8) (args : List Ex) : callN l (.mk 5 n name args) = withN l name := by rw [callN, if_pos rfl]
theorem callN_other (l : List (List UInt8)) (k n : Int) (name : List UInt8) (args : List Ex) (h : k ≠ 5) : callN l (.mk k n name args) = l := by rw [callN, if_neg h]
def callsL (l : List (List UInt8)) (es : List Ex) : List (List UInt8) := es.foldl callN l
theorem callsL_app (l : List (List UInt8)) (a b : List Ex) : callsL l (a ++ b) = callsL (callsL l a) b := List.foldl_append
theorem callsL_len : ∀ (es : List Ex) (l : List (List UInt8)), (callsL l es).length ≤ l.length + es.length
  | [], l => Nat.le_refl _
  | x :: r, l => by
    have h := callsL_len r (callN l x)
    have h1 : (callN l x).length ≤ l.length + 1 := by
      cases x with
      | mk k n name args =>
        by_cases h5 : k = 5
        · subst h5
          rw [callN_call]
          unfold withN
          by_cases h : 0 ≤ placeOf l name <;> simp [h]
        · rw [callN_other _ _ _ _ _ h5]; omega
    unfold callsL at h ⊢
    simp only [List.foldl_cons, List.length_cons]
    omega
end Go.Proofs.Ytmejbmfopdfbjaa
