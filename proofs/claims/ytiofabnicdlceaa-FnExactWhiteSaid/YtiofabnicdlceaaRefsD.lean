/-
  Refs: what it tells.
-/
import Derived.Test.YtiofabnicdlceaaBumpD
namespace Go.Proofs.Ytiofabnicdlceaa
open Go.RowKit
set_option linter.unusedVariables false
set_option linter.unusedSimpArgs false

/-- whom the first k slots' fields refer to -/
def flTo (S : List Sl) (k : Nat) : List Int := (S.take k).flatMap fun s => refsTo s.fs s.fs.length
theorem flTo_zero (S : List Sl) : flTo S 0 = [] := rfl
theorem flTo_succ {S : List Sl} {k : Nat} (h : k < S.length) : flTo S (k + 1) = flTo S k ++ refsTo S[k].fs S[k].fs.length := by
  unfold flTo
  rw [List.take_succ_eq_append_getElem h, List.flatMap_append]
  simp
theorem flTo_len {S : List Sl} (h : slsSz S ≤ 1048576) : ∀ k, k ≤ S.length → (flTo S k).length ≤ sumIn slSz S k
  | 0, _ => Nat.zero_le _
  | k + 1, hk => by
    have h1 := flTo_len h k (by omega)
    rw [flTo_succ (show k < S.length by omega), List.length_append, sumIn_step slSz (show k < S.length by omega)]
    have h2 := refsTo_le S[k].fs S[k].fs.length
    have h3 : S[k].fs.length ≤ slSz S[k] := by unfold slSz fsSz; omega
    omega
theorem flTo_bd {S : List Sl} (h : slsSz S ≤ 1048576) {k : Nat} (hk : k ≤ S.length) : (flTo S k).length ≤ 1048576 := by
  have h1 := flTo_len h k hk
  have h2 : sumIn slSz S k ≤ (S.map slSz).sum := by
    unfold sumIn
    conv => rhs; rw [← List.take_append_drop k S, List.map_append, List.sum_append]
    omega
  unfold slsSz at h
  omega
def cntR (S : List Sl) (Q : List Int) (l : List Vl) : List Int := bumps (bumps (bumps (List.replicate S.length 0) (refsV l l.length)) (flTo S S.length)) Q
def refsA (a : Ar) (l : List Vl) : List Int := if (arOk a && rootsA a.slots l) = true then cntR a.slots a.queue l else []
theorem cntR_len (S : List Sl) (Q : List Int) (l : List Vl) : (cntR S Q l).length = S.length := by unfold cntR; simp [bumps_len]
theorem refsA_bd (a : Ar) (l : List Vl) (h : arSz a ≤ 1048576) : (refsA a l).length ≤ 1048576 := by
  have h1 := cntR_len a.slots a.queue l
  unfold arSz slsSz at h
  unfold refsA
  split
  · omega
  · simp
-- ranges
theorem val2_in {S : List Sl} {n g : Int} (h : valOk S 2 n g = true) : 0 ≤ n ∧ n < S.length := by
  unfold valOk at h
  simp only [show ¬ (2 : Int) = 0 by decide, show ¬ (2 : Int) = 1 by decide, if_false, if_true] at h
  rcases slotAt_cases S n with ⟨e, _⟩ | ⟨m, hm, rfl, _⟩
  · rw [e] at h; cases h
  · omega
theorem refsV_in {S : List Sl} {l : List Vl} (h : ∀ k (hk : k < l.length), vlOk S l[k] = true) : InR S.length (refsV l l.length) := InR.mem fun x hx => by
  unfold refsV at hx
  rw [List.take_length, List.mem_map] at hx
  obtain ⟨v, hv, rfl⟩ := hx
  rw [List.mem_filter] at hv
  obtain ⟨hv1, hv2⟩ := hv
  obtain ⟨i, hi, rfl⟩ := List.mem_iff_getElem.1 hv1
  have := h i hi
  have hk : l[i].k = 2 := by simpa using hv2
  unfold vlOk at this
  rw [hk] at this
  exact val2_in this
theorem rootsA_at {S : List Sl} {l : List Vl} (h : rootsA S l = true) : l.length ≤ 500 ∧ ∀ k (hk : k < l.length), vlOk S l[k] = true := by
  unfold rootsA at h
  rw [Bool.and_eq_true, decide_eq_true_eq, List.all_eq_true] at h
  exact ⟨by omega, fun k hk => h.2 _ (List.getElem_mem hk)⟩
theorem refsTo_in {S : List Sl} {fs : List Fd} (h : fdsOk S fs = true) : InR S.length (refsTo fs fs.length) := InR.mem fun x hx => by
  unfold refsTo at hx
  rw [List.take_length, List.mem_map] at hx
  obtain ⟨v, hv, rfl⟩ := hx
  rw [List.mem_filter] at hv
  obtain ⟨hv1, hv2⟩ := hv
  obtain ⟨i, hi, rfl⟩ := List.mem_iff_getElem.1 hv1
  have hk : fs[i].k = 2 := by simpa using hv2
  unfold fdsOk at h
  rw [List.all_eq_true] at h
  have h1 := h i (List.mem_range.2 hi)
  cases hv : valOk S fs[i].k fs[i].n fs[i].g
  · rw [fdAt_val hi hv] at h1; cases h1
  · rw [hk] at hv
    exact val2_in hv
theorem arOk_at {a : Ar} (h : arOk a = true) : 1 ≤ a.slots.length ∧ a.slots.length ≤ 16 ∧ InR a.slots.length a.queue ∧ a.queue.length ≤ 500 ∧ ∀ k (hk : k < a.slots.length), InR a.slots.length (refsTo a.slots[k].fs a.slots[k].fs.length) := by
  unfold arOk at h
  simp only [Bool.and_eq_true, decide_eq_true_eq] at h
  obtain ⟨⟨⟨⟨⟨⟨⟨⟨h1, h2⟩, h3⟩, h4⟩, h5⟩, h6⟩, h7⟩, h8⟩, h9⟩ := h
  refine ⟨h1, h2, fun k hk => inAll_get h5 hk, h3, fun k hk => ?_⟩
  rw [List.all_eq_true] at h7
  have := h7 _ (List.getElem_mem hk)
  unfold slOk at this
  rw [Bool.and_eq_true] at this
  exact refsTo_in this.2
theorem made_zero (n : Nat) : madeCells #[.int .i64 0] n = (vi (List.replicate n 0)).toArray := by
  apply Array.ext'
  apply List.ext_getElem?
  intro j
  by_cases hj : j < n
  · simp [madeCells, vi, hj, Nat.mod_one]
  · simp [madeCells, vi, hj]
end Go.Proofs.Ytiofabnicdlceaa
