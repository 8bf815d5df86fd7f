/-
  What the tokens of a text are: one after another, each with whether it may be one.
-/
import Derived.Test.YtmejbmfopdfbjaaTok
import Derived.Test.YtmejbmfopdfbjaaDigit
import Derived.Test.YtmejbmfopdfbjaaSign
import Derived.Lib.ItoaNum
namespace Go.Proofs.Ytmejbmfopdfbjaa
open Go.RowKit
set_option linter.unusedVariables false

def gap (c : UInt8) : Bool := c == 32 || c == 10
def numOf (l : List UInt8) : Nat := l.foldl (fun a d => a * 10 + (d.toNat - 48)) 0
def lead (l : List UInt8) : Bool := decide (1 < l.length) && (l.head? == some 48)
def fits (l : List UInt8) : Bool := decide (l.length ≤ 6) && !lead l
/-- what stands first: the token without its place, how long it is, whether it may be one -/
def tokOne (s : List UInt8) : Tok × Nat × Bool :=
  match s with
  | [] => (⟨0, 0, 0, []⟩, 1, false)
  | c :: r =>
    if small c then (⟨1, 0, 0, (c :: r).take (run small (c :: r))⟩, run small (c :: r), wordOk ((c :: r).take (run small (c :: r))))
    else if digit c then (⟨2, 0, (if fits ((c :: r).take (run digit (c :: r))) then (numOf ((c :: r).take (run digit (c :: r))) : Int) else 0), []⟩, run digit (c :: r), fits ((c :: r).take (run digit (c :: r))))
    else if sgn c then (⟨3, 0, 0, [c]⟩, 1, true)
    else (⟨0, 0, 0, []⟩, 1, false)
def placed (t : Tok) (pos : Nat) : Tok := ⟨t.kind, pos, t.n, t.text⟩
def scanL : List UInt8 → Nat → List (Tok × Bool)
  | [], _ => []
  | c :: r, pos =>
    if gap c then scanL r (pos + 1)
    else (placed (tokOne (c :: r)).1 pos, (tokOne (c :: r)).2.2) :: scanL (r.drop ((tokOne (c :: r)).2.1 - 1)) (pos + (tokOne (c :: r)).2.1)
termination_by s => s.length
decreasing_by
  · simp
  · simp only [List.length_drop, List.length_cons]; omega
def scanAt (b : List UInt8) (i : Nat) : List (Tok × Bool) := scanL (b.drop i) i
def resOf : List (Tok × Bool) → List Tok → List Tok × Int
  | [], acc => (acc, -1)
  | (t, ok) :: r, acc => if ok then resOf r (acc ++ [t]) else ([], t.pos)
def tokRes (b : List UInt8) : List Tok × Int := if 2000 < b.length then ([], 0) else resOf (scanAt b 0) []

theorem run_pos {p : UInt8 → Bool} {c : UInt8} {r : List UInt8} (h : p c = true) : 1 ≤ run p (c :: r) := by
  unfold run
  rw [List.takeWhile_cons, if_pos h]
  simp
theorem tokOne_len {s : List UInt8} (h : 0 < s.length) : 1 ≤ (tokOne s).2.1 ∧ (tokOne s).2.1 ≤ s.length := by
  cases s with
  | nil => simp at h
  | cons c r =>
    unfold tokOne
    dsimp only
    by_cases h1 : small c = true
    · rw [if_pos h1]; exact ⟨run_pos h1, run_le _ _⟩
    · rw [if_neg h1]
      by_cases h2 : digit c = true
      · rw [if_pos h2]; exact ⟨run_pos h2, run_le _ _⟩
      · rw [if_neg h2]
        by_cases h3 : sgn c = true
        · rw [if_pos h3]; simp
        · rw [if_neg h3]; simp
theorem tokOne_text {s : List UInt8} (h : 0 < s.length) : (tokOne s).1.text.length ≤ s.length := by
  cases s with
  | nil => simp at h
  | cons c r =>
    unfold tokOne
    dsimp only
    by_cases h1 : small c = true
    · rw [if_pos h1]; simp only [List.length_take]; omega
    · rw [if_neg h1]
      by_cases h2 : digit c = true
      · rw [if_pos h2]; simp
      · rw [if_neg h2]
        by_cases h3 : sgn c = true
        · rw [if_pos h3]; simp
        · rw [if_neg h3]; simp
theorem scanAt_end {b : List UInt8} {i : Nat} (h : b.length ≤ i) : scanAt b i = [] := by
  unfold scanAt
  rw [List.drop_eq_nil_of_le h, scanL]
theorem scanAt_gap {b : List UInt8} {i : Nat} (hi : i < b.length) (h : gap b[i] = true) : scanAt b i = scanAt b (i + 1) := by
  unfold scanAt
  rw [List.drop_eq_getElem_cons hi, scanL, if_pos h]
theorem scanAt_one {b : List UInt8} {i : Nat} (hi : i < b.length) (h : gap b[i] = false) :
    scanAt b i = (placed (tokOne (b.drop i)).1 i, (tokOne (b.drop i)).2.2) :: scanAt b (i + (tokOne (b.drop i)).2.1) := by
  have hl := (tokOne_len (s := b.drop i) (by rw [List.length_drop]; omega)).1
  unfold scanAt
  have e := List.drop_eq_getElem_cons hi
  have e2 : b.drop (i + (tokOne (b.drop i)).2.1) = (b.drop (i + 1)).drop ((tokOne (b.drop i)).2.1 - 1) := by
    rw [List.drop_drop]; congr 1; omega
  rw [e2]
  rw [e] at hl ⊢
  rw [scanL, if_neg (by rw [h]; decide)]

theorem resOf_ok : ∀ (xs r : List (Tok × Bool)) (acc : List Tok), (∀ x ∈ xs, x.2 = true) → resOf (xs ++ r) acc = resOf r (acc ++ xs.map Prod.fst)
  | [], r, acc, _ => by simp
  | (t, ok) :: xs, r, acc, h => by
    have h0 : ok = true := h (t, ok) (by simp)
    subst h0
    rw [List.cons_append, resOf, if_pos rfl, resOf_ok xs r (acc ++ [t]) (fun x hx => h x (by simp [hx]))]
    simp
theorem resOf_all {xs : List (Tok × Bool)} (h : ∀ x ∈ xs, x.2 = true) : resOf xs [] = (xs.map Prod.fst, -1) := by
  have := resOf_ok xs [] [] h
  rw [List.append_nil] at this
  rw [this]
  simp [resOf]
theorem resOf_bad {xs r : List (Tok × Bool)} {t : Tok} (h : ∀ x ∈ xs, x.2 = true) : resOf (xs ++ (t, false) :: r) [] = ([], t.pos) := by
  rw [resOf_ok xs _ [] h, resOf, if_neg (by decide)]
/-- how many there are, and how long their texts are -/
theorem scanL_len : ∀ (n : Nat) (s : List UInt8) (pos : Nat), s.length ≤ n → (scanL s pos).length ≤ s.length ∧ ((scanL s pos).map fun x => x.1.text.length).sum ≤ s.length
  | 0, s, pos, h => by
    have : s = [] := List.eq_nil_of_length_eq_zero (by omega)
    subst this
    rw [scanL]; simp
  | n + 1, [], pos, h => by rw [scanL]; simp
  | n + 1, c :: r, pos, h => by
    rw [scanL]
    by_cases hg : gap c = true
    · rw [if_pos hg]
      have := scanL_len n r (pos + 1) (by simp at h; omega)
      simp only [List.length_cons]
      omega
    · rw [if_neg hg]
      have h1 := tokOne_len (s := c :: r) (by simp)
      have h2 := scanL_len n (r.drop ((tokOne (c :: r)).2.1 - 1)) (pos + (tokOne (c :: r)).2.1) (by simp at h ⊢; omega)
      have h3 : (tokOne (c :: r)).1.text.length ≤ (tokOne (c :: r)).2.1 := by
        unfold tokOne
        dsimp only
        by_cases h1 : small c = true
        · rw [if_pos h1]; simp only [List.length_take]; omega
        · rw [if_neg h1]
          by_cases h2 : digit c = true
          · rw [if_pos h2]; simp
          · rw [if_neg h2]
            by_cases h3 : sgn c = true
            · rw [if_pos h3]; simp
            · rw [if_neg h3]; simp
      rw [List.length_drop] at h2
      simp only [List.length_cons, List.map_cons, List.sum_cons] at h1 ⊢
      have h4 : (placed (tokOne (c :: r)).1 pos).text = (tokOne (c :: r)).1.text := rfl
      rw [h4]
      omega

/-- numbers and their decimals -/
theorem head_app {l m : List UInt8} (h : l ≠ []) : (l ++ m).head? = l.head? := by
  cases l with
  | nil => exact absurd rfl h
  | cons x r => rfl
theorem numOf_snoc (l : List UInt8) (d : UInt8) : numOf (l ++ [d]) = numOf l * 10 + (d.toNat - 48) := by unfold numOf; rw [List.foldl_append]; rfl
theorem numOf_lt : ∀ (k : Nat) (l : List UInt8), l.length = k → l.all digit = true → numOf l < 10 ^ k
  | 0, l, h, _ => by
    have : l = [] := List.eq_nil_of_length_eq_zero h
    subst this
    simp [numOf]
  | k + 1, l, h, ha => by
    obtain ⟨l', d, rfl⟩ : ∃ l' d, l = l' ++ [d] := ⟨l.dropLast, l.getLast (by intro e; rw [e] at h; simp at h), (List.dropLast_concat_getLast _).symm⟩
    rw [List.all_append] at ha
    simp only [Bool.and_eq_true, List.all_cons, List.all_nil] at ha
    have h1 := numOf_lt k l' (by simp at h; omega) ha.1
    have h2 := digit_yes ha.2.1
    rw [numOf_snoc, Nat.pow_succ]
    omega
theorem dec_num : ∀ (k : Nat) (l : List UInt8), l.length = k → 0 < k → l.all digit = true → lead l = false → Lib.decDigits (numOf l) = l
  | 0, l, _, h, _, _ => by omega
  | 1, l, h, _, ha, _ => by
    match l, h with
    | [d], _ =>
      have h2 := digit_yes (c := d) (by simpa using ha)
      have e : numOf [d] = d.toNat - 48 := by simp [numOf]
      rw [e, Lib.decDigits_one (by omega)]
      congr 1
      apply UInt8.toNat.inj
      rw [show (UInt8.ofNat (48 + (d.toNat - 48))).toNat = (48 + (d.toNat - 48)) % 256 from rfl]
      have := d.toNat_lt
      omega
  | k + 2, l, h, _, ha, hl => by
    obtain ⟨l', d, rfl⟩ : ∃ l' d, l = l' ++ [d] := ⟨l.dropLast, l.getLast (by intro e; rw [e] at h; simp at h), (List.dropLast_concat_getLast _).symm⟩
    rw [List.all_append] at ha
    simp only [Bool.and_eq_true, List.all_cons, List.all_nil] at ha
    have h2 := digit_yes ha.2.1
    have hl' : l'.length = k + 1 := by simp at h; omega
    have hh : l'.head? ≠ some 48 := by
      intro e
      unfold lead at hl
      rw [head_app (by intro e2; rw [e2] at hl'; simp at hl')] at hl
      rw [e] at hl
      simp at hl
      rw [hl] at hl'
      simp at hl'
    have hlead : lead l' = false := by
      unfold lead
      have : (l'.head? == some 48) = false := by simpa using hh
      rw [this]; simp
    have ih := dec_num (k + 1) l' hl' (by omega) ha.1 hlead
    have hpos : 1 ≤ numOf l' := by
      rcases Nat.eq_zero_or_pos (numOf l') with h0 | h0
      · exfalso
        rw [h0] at ih
        have : Lib.decDigits 0 = [48] := Lib.decDigits_one (by omega)
        rw [this] at ih
        rw [← ih] at hh
        simp at hh
      · exact h0
    rw [numOf_snoc, Lib.decDigits, dif_neg (by omega)]
    have e1 : (numOf l' * 10 + (d.toNat - 48)) / 10 = numOf l' := by omega
    have e2 : (numOf l' * 10 + (d.toNat - 48)) % 10 = d.toNat - 48 := by omega
    rw [e1, e2, ih]
    congr 2
    apply UInt8.toNat.inj
    rw [show (UInt8.ofNat (48 + (d.toNat - 48))).toNat = (48 + (d.toNat - 48)) % 256 from rfl]
    have := d.toNat_lt
    omega
theorem dec_lead : ∀ (n : Nat), lead (Lib.decDigits n) = false := by
  intro n
  induction n using Nat.strongRecOn with
  | _ n ih =>
    by_cases h : n < 10
    · rw [Lib.decDigits_one h]; rfl
    · rw [Lib.decDigits, dif_neg h]
      have h1 := ih (n / 10) (by omega)
      unfold lead at h1 ⊢
      by_cases h2 : n / 10 < 10
      · rw [Lib.decDigits_one h2]
        simp
        intro e
        have e3 := congrArg UInt8.toNat e
        rw [show (UInt8.ofNat (n / 10)).toNat = (n / 10) % 256 from rfl, show (0 : UInt8).toNat = 0 from rfl] at e3
        omega
      · have hne : Lib.decDigits (n / 10) ≠ [] := by
          intro e
          rw [Lib.decDigits, dif_neg h2] at e
          simp at e
        rw [head_app hne]
        have h3 : 1 < (Lib.decDigits (n / 10)).length := by
          rw [Lib.decDigits, dif_neg h2, List.length_append]
          have : 0 < (Lib.decDigits (n / 10 / 10)).length := by
            rw [Lib.decDigits]
            split <;> simp
          simp
          omega
        simp [h3] at h1
        simp [h1]
theorem dec_iff {l : List UInt8} (h0 : 0 < l.length) (ha : l.all digit = true) : (Lib.decDigits (numOf l) = l) ↔ lead l = false :=
  ⟨fun e => by rw [← e]; exact dec_lead _, fun h => dec_num l.length l rfl h0 ha h⟩
end Go.Proofs.Ytmejbmfopdfbjaa
