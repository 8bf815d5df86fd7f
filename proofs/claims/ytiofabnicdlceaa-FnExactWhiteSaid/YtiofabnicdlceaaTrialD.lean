/-
  What is left of counts by trial; who is gray, black, white.
-/
import Derived.Test.YtiofabnicdlceaaReach
import Derived.Test.YtiofabnicdlceaaArnAns
namespace Go.Proofs.Ytiofabnicdlceaa
open Go.RowKit
set_option linter.unusedVariables false
set_option linter.unusedSimpArgs false

def unb1 (c : List Int) (n : Int) : List Int := c.set n.toNat (c.getD n.toNat 0 - 1)
def unbs (c : List Int) (l : List Int) : List Int := l.foldl unb1 c
theorem unb1_len (c : List Int) (n : Int) : (unb1 c n).length = c.length := by simp [unb1]
theorem unbs_len (l : List Int) : ∀ c : List Int, (unbs c l).length = c.length := by
  induction l with
  | nil => intro c; rfl
  | cons x r ih => intro c; show (unbs (unb1 c x) r).length = _; rw [ih, unb1_len]
theorem unbs_app (c l r : List Int) : unbs c (l ++ r) = unbs (unbs c l) r := List.foldl_append
theorem unbs_one (c l : List Int) (n : Int) : unbs c (l ++ [n]) = unb1 (unbs c l) n := by rw [unbs_app]; rfl
theorem unbs_snoc (c : List Int) {l : List Int} {k : Nat} (h : k < l.length) : unbs c (l.take (k + 1)) = unb1 (unbs c (l.take k)) l[k] := by
  rw [List.take_succ_eq_append_getElem h, unbs_app]; rfl
/-- no number is above a million, none below -m -/
def Lb (c : List Int) (m : Nat) : Prop := ∀ i (h : i < c.length), -(m : Int) ≤ c[i] ∧ c[i] ≤ 1000000
theorem Lb.unb {c : List Int} {m : Nat} (h : Lb c m) (n : Int) : Lb (unb1 c n) (m + 1) := fun i hi => by
  have hi' := hi
  rw [unb1_len] at hi'
  have e : (unb1 c n)[i] = (c.set n.toNat (c.getD n.toNat 0 - 1))[i]'(by rw [List.length_set]; exact hi') := rfl
  rw [e, List.getElem_set]
  split
  · rename_i e
    have hn : n.toNat < c.length := by omega
    have := h n.toNat hn
    rw [List.getD_eq_getElem?_getD, List.getElem?_eq_getElem hn]
    simp only [Option.getD_some]
    omega
  · have := h i hi'
    omega
theorem Lb.unbs (l : List Int) : ∀ {c : List Int} {m : Nat}, Lb c m → Lb (unbs c l) (m + l.length) := by
  induction l with
  | nil => intro c m h; exact h
  | cons x r ih =>
    intro c m h
    have := ih (h.unb x)
    rw [show m + (x :: r).length = m + 1 + r.length by simp; omega]
    exact this
theorem Lb.more {c : List Int} {m m' : Nat} (h : Lb c m) (hm : m ≤ m') : Lb c m' := fun i hi => by have := h i hi; omega
/-- one number is one less -/
theorem unb_at {wr : World} {g : Nat} {C : List Int} {N m : Nat} (hB : Blk wr g 3 (vi C).toArray) (hN : C.length = N) (hs : Lb C m) {n : Int} (hn : 0 ≤ n ∧ n < N) :
    ∃ (j : Nat) (z : Int), n = (j : Int) ∧ j < N ∧ -(m : Int) ≤ z ∧ z ≤ 1000000 ∧ wr.cell? ⟨g, j, none⟩ = some (.int .i64 z) ∧ wr.frozen? ⟨g, j, none⟩ = false ∧ Blk (wr.setCell ⟨g, j, none⟩ (.int .i64 (z - 1))) g 3 (vi (unb1 C (j : Int))).toArray := by
  obtain ⟨j, rfl⟩ : ∃ j : Nat, n = j := ⟨n.toNat, by omega⟩
  have hj : j < C.length := by omega
  have h1 := hs j hj
  refine ⟨j, C[j], rfl, by omega, h1.1, h1.2, ?_, hB.frozen j, ?_⟩
  · rw [hB.cell]; simp [vi, hj]
  · have h2 := hB.set_ j (.int .i64 (C[j] - 1))
    rw [vi_set] at h2
    unfold unb1
    rw [Int.toNat_natCast, List.getD_eq_getElem?_getD, List.getElem?_eq_getElem hj]
    exact h2

/-- whom gray ones among the first k refer to -/
def grayTo (S : List Sl) (O : List Bool) (k : Nat) : List Int := (List.range k).flatMap fun j => if gO O j then kidsOf S j else []
theorem grayTo_yes {S : List Sl} {O : List Bool} {k : Nat} (h : gO O k = true) : grayTo S O (k + 1) = grayTo S O k ++ kidsOf S k := by
  unfold grayTo
  rw [List.range_succ, List.flatMap_append]
  simp [h]
theorem grayTo_no {S : List Sl} {O : List Bool} {k : Nat} (h : gO O k = false) : grayTo S O (k + 1) = grayTo S O k := by
  unfold grayTo
  rw [List.range_succ, List.flatMap_append]
  simp [h]
theorem grayTo_len {S : List Sl} {O : List Bool} (h : slsSz S ≤ 1048576) : ∀ k, k ≤ S.length → (grayTo S O k).length ≤ sumIn slSz S k
  | 0, _ => by simp [grayTo]
  | k + 1, hk => by
    have ih := grayTo_len (O := O) h k (by omega)
    have h1 := sumIn_step slSz (show k < S.length by omega)
    have h2 : S[k].fs.length ≤ slSz S[k] := by unfold slSz fsSz; omega
    have h3 := refsTo_le S[k].fs S[k].fs.length
    cases e : gO O k
    · rw [grayTo_no e]; omega
    · rw [grayTo_yes e, List.length_append, kidsOf_get (by omega)]; omega
theorem grayTo_bd {S : List Sl} {O : List Bool} (h : slsSz S ≤ 1048576) {k : Nat} (hk : k ≤ S.length) : (grayTo S O k).length ≤ 1048576 := by
  have h1 := grayTo_len (O := O) h k hk
  have h2 : sumIn slSz S k ≤ sumIn slSz S S.length := by
    unfold sumIn
    rw [List.take_length]
    conv => rhs; rw [← List.take_append_drop k S, List.map_append, List.sum_append]
    omega
  rw [sumIn_all] at h2
  unfold slsSz at h
  omega
def leftL (S : List Sl) (O : List Bool) : List Int := unbs (cntTo S S.length) (grayTo S O S.length)
theorem leftL_len (S : List Sl) (O : List Bool) : (leftL S O).length = S.length := by
  unfold leftL
  rw [unbs_len, cntTo_len (Nat.le_refl _)]
theorem cnt_lb {a : Ar} (h : arOk a = true) : Lb (cntTo a.slots a.slots.length) 0 := fun i hi => by
  unfold arOk at h
  simp only [Bool.and_eq_true, decide_eq_true_eq] at h
  have h7 := h.1.1.2
  rw [List.all_eq_true] at h7
  rw [cntTo_len (Nat.le_refl _)] at hi
  have := h7 _ (List.getElem_mem hi)
  unfold slOk slBd at this
  simp only [Bool.and_eq_true, decide_eq_true_eq] at this
  have e : (cntTo a.slots a.slots.length)[i]'(by rw [cntTo_len (Nat.le_refl _)]; exact hi) = a.slots[i].count := by simp [cntTo]
  rw [e]
  have h1 := this.1.1.1.2
  have h2 := this.1.1.2
  omega
theorem left_lb {a : Ar} (h : arOk a = true) (hsz : arSz a ≤ 1048576) (O : List Bool) : Lb (leftL a.slots O) 1048576 := by
  have h1 := (cnt_lb h).unbs (grayTo a.slots O a.slots.length)
  have h2 := grayTo_bd (S := a.slots) (O := O) (by unfold arSz at hsz; omega) (Nat.le_refl _)
  exact h1.more (by omega)

/-- gray ones who are kept -/
def keptI (S : List Sl) (O : List Bool) (C : List Int) (k : Nat) : List Int := ((List.range k).filter fun j => gO O j && decide (0 < gI C j)).map fun n : Nat => (n : Int)
theorem keptI_yes {S : List Sl} {O : List Bool} {C : List Int} {k : Nat} (h : (gO O k && decide (0 < gI C k)) = true) : keptI S O C (k + 1) = keptI S O C k ++ [(k : Int)] := by
  unfold keptI
  rw [List.range_succ, List.filter_append, List.map_append]
  simp only [Bool.and_eq_true, decide_eq_true_eq] at h
  simp [h]
theorem keptI_no {S : List Sl} {O : List Bool} {C : List Int} {k : Nat} (h : (gO O k && decide (0 < gI C k)) = false) : keptI S O C (k + 1) = keptI S O C k := by
  unfold keptI
  rw [List.range_succ, List.filter_append, List.map_append]
  simp [h]
theorem keptI_mem {S : List Sl} {O : List Bool} {C : List Int} {k : Nat} {x : Int} (h : x ∈ keptI S O C k) : 0 ≤ x ∧ x < k := by
  unfold keptI at h
  obtain ⟨n, hn, rfl⟩ := List.mem_map.1 h
  have := List.mem_range.1 (List.mem_filter.1 hn).1
  omega
theorem keptI_le (S : List Sl) (O : List Bool) (C : List Int) (k : Nat) : (keptI S O C k).length ≤ k := by
  unfold keptI
  rw [List.length_map]
  exact Nat.le_trans (List.length_filter_le _ _) (by simp)
noncomputable def grayS (S : List Sl) (P : List Int) : List Bool := reachO S P
noncomputable def blackS (S : List Sl) (P : List Int) : List Bool := reachO S (keptI S (grayS S P) (leftL S (grayS S P)) S.length)
/-- who is white -/
noncomputable def whiteS (S : List Sl) (P : List Int) : List Bool := (List.range S.length).map fun j => gO (grayS S P) j && !gO (blackS S P) j
theorem grayS_len (S : List Sl) (P : List Int) : (grayS S P).length = S.length := reachO_len _ _
theorem blackS_len (S : List Sl) (P : List Int) : (blackS S P).length = S.length := reachO_len _ _
theorem whiteS_len (S : List Sl) (P : List Int) : (whiteS S P).length = S.length := by simp [whiteS]
theorem whiteS_at {S : List Sl} {P : List Int} {j : Nat} (h : j < S.length) : gO (whiteS S P) j = (gO (grayS S P) j && !gO (blackS S P) j) := by
  rw [gO_get (by rw [whiteS_len]; exact h)]
  simp [whiteS]
noncomputable def grayA (a : Ar) : List Bool := if arOk a = true then grayS a.slots a.purple else []
noncomputable def trialA (a : Ar) : List Int := if arOk a = true then leftL a.slots (grayS a.slots a.purple) else []
theorem grayA_bd (a : Ar) (h : arSz a ≤ 1048576) : (grayA a).length ≤ 1048576 := by
  unfold grayA
  split
  · rw [grayS_len]; unfold arSz slsSz at h; omega
  · simp
theorem trialA_bd (a : Ar) (h : arSz a ≤ 1048576) : (trialA a).length ≤ 1048576 := by
  unfold trialA
  split
  · rw [leftL_len]; unfold arSz slsSz at h; omega
  · simp
/-- purple ones are there -/
theorem purple_in {a : Ar} (h : arOk a = true) : InR a.slots.length a.purple ∧ a.purple.length ≤ 16 := by
  unfold arOk at h
  simp only [Bool.and_eq_true, decide_eq_true_eq] at h
  obtain ⟨⟨⟨⟨⟨⟨⟨⟨h1, h2⟩, h3⟩, h4⟩, h5⟩, h6⟩, h7⟩, h8⟩, h9⟩ := h
  exact ⟨fun k hk => inAll_get h6 hk, h4⟩
end Go.Proofs.Ytiofabnicdlceaa
