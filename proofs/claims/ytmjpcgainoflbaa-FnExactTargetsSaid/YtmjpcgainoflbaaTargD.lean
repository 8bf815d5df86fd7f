/-
  Targets: what it tells, said in two ways.
-/
import Derived.Test.YtmjpcgainoflbaaCode
import Derived.Test.YtmjpcgainoflbaaSetAdd
import Derived.Test.YtmjpcgainoflbaaIntRow
namespace Go.Proofs.Ytmjpcgainoflbaa
open Go.RowKit
set_option linter.unusedVariables false
set_option linter.unusedSimpArgs false

/-- two rising rows with the same numbers are one -/
theorem asc_ext : ∀ {l r : List Int}, l.Pairwise (· < ·) → r.Pairwise (· < ·) → (∀ x, x ∈ l ↔ x ∈ r) → l = r
  | [], [], _, _, _ => rfl
  | [], b :: s, _, _, h => absurd ((h b).2 (by simp)) (by simp)
  | a :: r, [], _, _, h => absurd ((h a).1 (by simp)) (by simp)
  | a :: r, b :: s, h1, h2, h => by
    rw [List.pairwise_cons] at h1 h2
    have hab : a = b := by
      have ha := (h a).1 (by simp)
      have hb := (h b).2 (by simp)
      rcases List.mem_cons.1 ha with e | ha
      · exact e
      · rcases List.mem_cons.1 hb with e | hb
        · exact e.symm
        · have := h1.1 b hb
          have := h2.1 a ha
          omega
    subst hab
    rw [asc_ext h1.2 h2.2 fun x => ?_]
    have := h x
    constructor
    · intro hx
      rcases List.mem_cons.1 (this.1 (by simp [hx])) with e | hx'
      · subst e; have := h1.1 x hx; omega
      · exact hx'
    · intro hx
      rcases List.mem_cons.1 (this.2 (by simp [hx])) with e | hx'
      · subst e; have := h2.1 x hx; omega
      · exact hx'

def hitI (x : In) (k : Int) : Bool := (x.op == 8 && x.a == k) || (x.op == 9 && x.b == k)
def anyI (l : List In) (k : Int) : Bool := l.any fun x => hitI x k
def targTo (l : List In) (n : Nat) : List Int := ((List.range n).filter fun k => anyI l (k : Nat)).map fun k => ((k : Nat) : Int)
theorem targTo_zero (l : List In) : targTo l 0 = [] := rfl
theorem targTo_yes {l : List In} {k : Nat} (h : anyI l k = true) : targTo l (k + 1) = targTo l k ++ [(k : Int)] := by
  unfold targTo
  rw [List.range_succ, List.filter_append, List.map_append]
  simp [h]
theorem targTo_no {l : List In} {k : Nat} (h : anyI l k = false) : targTo l (k + 1) = targTo l k := by
  unfold targTo
  rw [List.range_succ, List.filter_append, List.map_append]
  simp [h]
theorem targTo_len (l : List In) (n : Nat) : (targTo l n).length ≤ n := by
  unfold targTo
  rw [List.length_map]
  exact Nat.le_trans (List.length_filter_le _ _) (by simp)
theorem mem_targTo {l : List In} {n : Nat} {x : Int} : x ∈ targTo l n ↔ 0 ≤ x ∧ x < n ∧ anyI l x = true := by
  unfold targTo
  rw [List.mem_map]
  constructor
  · rintro ⟨k, hk, rfl⟩
    rw [List.mem_filter, List.mem_range] at hk
    exact ⟨by omega, by omega, hk.2⟩
  · rintro ⟨h0, h1, h2⟩
    refine ⟨x.toNat, ?_, by omega⟩
    rw [List.mem_filter, List.mem_range]
    have e : ((x.toNat : Nat) : Int) = x := by omega
    exact ⟨by omega, by rw [e]; exact h2⟩
theorem targTo_sorted (l : List In) (n : Nat) : (targTo l n).Pairwise (· < ·) := by
  unfold targTo
  rw [List.pairwise_map]
  exact (List.Pairwise.filter _ List.pairwise_lt_range).imp fun h => by omega
theorem any_yes {l : List In} {k : Int} {i : Nat} (h : i < l.length) (hh : hitI l[i] k = true) : anyI l k = true := by
  unfold anyI
  rw [List.any_eq_true]
  exact ⟨_, List.getElem_mem h, hh⟩
theorem any_no {l : List In} {k : Int} (h : ∀ i (hi : i < l.length), hitI l[i] k = false) : anyI l k = false := by
  unfold anyI
  rw [List.any_eq_false]
  intro x hx
  obtain ⟨i, hi, rfl⟩ := List.getElem_of_mem hx
  simp [h i hi]

/-- one order's place, added -/
def tagOf (n : Nat) (x : In) (r : List Int) : List Int :=
  if x.op = 8 then (if 0 ≤ x.a ∧ x.a < n then insI r x.a else r) else if x.op = 9 then (if 0 ≤ x.b ∧ x.b < n then insI r x.b else r) else r
def tagTo (l : List In) (k : Nat) : List Int := (l.take k).foldl (fun r x => tagOf l.length x r) []
theorem tagTo_zero (l : List In) : tagTo l 0 = [] := rfl
theorem tagTo_succ {l : List In} {k : Nat} (h : k < l.length) : tagTo l (k + 1) = tagOf l.length l[k] (tagTo l k) := by
  unfold tagTo
  rw [List.take_succ_eq_append_getElem h, List.foldl_append]
  rfl
theorem tagOf_sorted {n : Nat} {x : In} {r : List Int} (h : r.Pairwise (· < ·)) : (tagOf n x r).Pairwise (· < ·) := by
  unfold tagOf
  split
  · split
    · exact sorted_insI _ _ h
    · exact h
  · split
    · split
      · exact sorted_insI _ _ h
      · exact h
    · exact h
theorem tagOf_len (n : Nat) (x : In) (r : List Int) : (tagOf n x r).length ≤ r.length + 1 := by
  unfold tagOf
  have h1 := insI_len r x.a
  have h2 := insI_len r x.b
  split
  · split <;> omega
  · split
    · split <;> omega
    · omega
theorem mem_tagOf {n : Nat} {x : In} {r : List Int} {y : Int} : y ∈ tagOf n x r ↔ y ∈ r ∨ (0 ≤ y ∧ y < n ∧ hitI x y = true) := by
  unfold tagOf hitI
  by_cases h8 : x.op = 8
  · have h9 : ¬ x.op = 9 := by omega
    rw [if_pos h8]
    by_cases hp : 0 ≤ x.a ∧ x.a < n
    · rw [if_pos hp, mem_insI]
      simp only [h8, Bool.or_eq_true, Bool.and_eq_true, beq_iff_eq]
      constructor
      · rintro (rfl | h)
        · exact .inr ⟨hp.1, hp.2, .inl ⟨trivial, rfl⟩⟩
        · exact .inl h
      · rintro (h | ⟨_, _, h | h⟩)
        · exact .inr h
        · exact .inl h.2.symm
        · exact absurd h.1 (by omega)
    · rw [if_neg hp]
      simp only [h8, Bool.or_eq_true, Bool.and_eq_true, beq_iff_eq]
      constructor
      · exact .inl
      · rintro (h | ⟨h1, h2, h | h⟩)
        · exact h
        · exact absurd (show 0 ≤ x.a ∧ x.a < n by rw [h.2]; exact ⟨h1, h2⟩) hp
        · exact absurd h.1 (by omega)
  · rw [if_neg h8]
    by_cases h9 : x.op = 9
    · rw [if_pos h9]
      by_cases hp : 0 ≤ x.b ∧ x.b < n
      · rw [if_pos hp, mem_insI]
        simp only [h9, Bool.or_eq_true, Bool.and_eq_true, beq_iff_eq]
        constructor
        · rintro (rfl | h)
          · exact .inr ⟨hp.1, hp.2, .inr ⟨trivial, rfl⟩⟩
          · exact .inl h
        · rintro (h | ⟨_, _, h | h⟩)
          · exact .inr h
          · exact absurd h.1 (by omega)
          · exact .inl h.2.symm
      · rw [if_neg hp]
        simp only [h9, Bool.or_eq_true, Bool.and_eq_true, beq_iff_eq]
        constructor
        · exact .inl
        · rintro (h | ⟨h1, h2, h | h⟩)
          · exact h
          · exact absurd h.1 (by omega)
          · exact absurd (show 0 ≤ x.b ∧ x.b < n by rw [h.2]; exact ⟨h1, h2⟩) hp
    · rw [if_neg h9]
      constructor
      · exact .inl
      · rintro (h | ⟨_, _, h⟩)
        · exact h
        · simp [h8, h9] at h
theorem tagTo_sorted (l : List In) : ∀ k, k ≤ l.length → (tagTo l k).Pairwise (· < ·)
  | 0, _ => by rw [tagTo_zero]; exact List.Pairwise.nil
  | k + 1, h => by rw [tagTo_succ (by omega)]; exact tagOf_sorted (tagTo_sorted l k (by omega))
theorem tagTo_len (l : List In) : ∀ k, k ≤ l.length → (tagTo l k).length ≤ k
  | 0, _ => by rw [tagTo_zero]; simp
  | k + 1, h => by
    rw [tagTo_succ (by omega)]
    have := tagOf_len l.length (l[k]'(by omega)) (tagTo l k)
    have := tagTo_len l k (by omega)
    omega
theorem mem_tagTo (l : List In) : ∀ k, k ≤ l.length → ∀ y, (y ∈ tagTo l k ↔ 0 ≤ y ∧ y < l.length ∧ anyI (l.take k) y = true)
  | 0, _, y => by rw [tagTo_zero]; simp [anyI]
  | k + 1, h, y => by
    rw [tagTo_succ (by omega), mem_tagOf, mem_tagTo l k (by omega) y, List.take_succ_eq_append_getElem (by omega)]
    unfold anyI
    rw [List.any_append, Bool.or_eq_true]
    simp only [List.any_cons, List.any_nil, Bool.or_false]
    constructor
    · rintro (⟨h1, h2, h3⟩ | ⟨h1, h2, h3⟩)
      · exact ⟨h1, h2, .inl h3⟩
      · exact ⟨h1, h2, .inr h3⟩
    · rintro ⟨h1, h2, h3 | h3⟩
      · exact .inl ⟨h1, h2, h3⟩
      · exact .inr ⟨h1, h2, h3⟩
theorem tagTo_fin (l : List In) : tagTo l l.length = targTo l l.length :=
  asc_ext (tagTo_sorted l _ (Nat.le_refl _)) (targTo_sorted l _) fun y => by
    rw [mem_tagTo l _ (Nat.le_refl _), mem_targTo, List.take_length]
def targU (u : Un) : List Int := if u.l.length ≤ 300 then targTo u.l u.l.length else []
theorem targU_bd (u : Un) (h : unSz u ≤ 1048576) : (targU u).length ≤ 1048576 := by
  unfold targU
  split
  · have := targTo_len u.l u.l.length; omega
  · simp
end Go.Proofs.Ytmjpcgainoflbaa
