/-
  Counted: what it tells; slices.Equal of rows of numbers.
-/
import Derived.Test.YtiofabnicdlceaaRefsD
import Derived.Test.YtiofabnicdlceaaArnAns
namespace Go.Proofs.Ytiofabnicdlceaa
open Go.RowKit
set_option linter.unusedVariables false
set_option linter.unusedSimpArgs false

theorem bump1_ne (c : List Int) (n : Int) (i : Nat) (h : n.toNat ≠ i) : (bump1 c n).getD i 0 = c.getD i 0 := by
  unfold bump1
  simp only [List.getD_eq_getElem?_getD, List.getElem?_set_ne h]
theorem bumps_ne (l : List Int) : ∀ (c : List Int) (i : Nat), (∀ n ∈ l, n.toNat ≠ i) → (bumps c l).getD i 0 = c.getD i 0 := by
  induction l with
  | nil => intro c i _; rfl
  | cons x r ih =>
    intro c i h
    show (bumps (bump1 c x) r).getD i 0 = _
    rw [ih _ _ (fun n hn => h n (List.mem_cons_of_mem _ hn)), bump1_ne _ _ _ (h x (List.mem_cons_self ..))]
theorem liveAt_dead {S : List Sl} {n : Int} {i : Nat} (hi : i < S.length) (hd : S[i].live = false) (h : liveAt S n = true) : n.toNat ≠ i := by
  intro e
  rcases slotAt_cases S n with ⟨e0, _⟩ | ⟨m, hm, rfl, e1⟩
  · unfold liveAt at h; rw [e0] at h; cases h
  · unfold liveAt at h
    rw [e1] at h
    have : m = i := by omega
    subst this
    simp only at h
    rw [hd] at h
    cases h
theorem val2_live {S : List Sl} {n g : Int} (h : valOk S 2 n g = true) : liveAt S n = true := by
  unfold valOk at h
  simp only [show ¬ (2 : Int) = 0 by decide, show ¬ (2 : Int) = 1 by decide, if_false, if_true] at h
  unfold liveAt
  rcases slotAt_cases S n with ⟨e, _⟩ | ⟨m, hm, rfl, e⟩
  · rw [e] at h; cases h
  · rw [e] at h ⊢
    simp only [Bool.and_eq_true] at h
    exact h.1
theorem refsV_live {S : List Sl} {l : List Vl} (h : ∀ k (hk : k < l.length), vlOk S l[k] = true) : ∀ n ∈ refsV l l.length, liveAt S n = true := fun x hx => by
  unfold refsV at hx
  rw [List.take_length, List.mem_map] at hx
  obtain ⟨v, hv, rfl⟩ := hx
  rw [List.mem_filter] at hv
  obtain ⟨hv1, hv2⟩ := hv
  obtain ⟨i, hi, rfl⟩ := List.mem_iff_getElem.1 hv1
  have := h i hi
  have hk : l[i].k = 2 := by simpa using hv2
  unfold vlOk at this
  rw [hk] at this
  exact val2_live this
theorem refsTo_live {S : List Sl} {fs : List Fd} (h : fdsOk S fs = true) : ∀ n ∈ refsTo fs fs.length, liveAt S n = true := fun x hx => by
  unfold refsTo at hx
  rw [List.take_length, List.mem_map] at hx
  obtain ⟨v, hv, rfl⟩ := hx
  rw [List.mem_filter] at hv
  obtain ⟨hv1, hv2⟩ := hv
  obtain ⟨i, hi, rfl⟩ := List.mem_iff_getElem.1 hv1
  have hk : fs[i].k = 2 := by simpa using hv2
  unfold fdsOk at h
  rw [List.all_eq_true] at h
  have h1 := h i (List.mem_range.2 hi)
  cases hv : valOk S fs[i].k fs[i].n fs[i].g
  · rw [fdAt_val hi hv] at h1; cases h1
  · rw [hk] at hv
    exact val2_live hv
theorem arOk_live {a : Ar} (h : arOk a = true) : (∀ s ∈ a.slots, fdsOk a.slots s.fs = true ∧ (s.live = false → s.count = 0)) ∧ ∀ n ∈ a.queue, liveAt a.slots n = true := by
  unfold arOk at h
  simp only [Bool.and_eq_true, decide_eq_true_eq] at h
  obtain ⟨⟨⟨⟨⟨⟨⟨⟨h1, h2⟩, h3⟩, h4⟩, h5⟩, h6⟩, h7⟩, h8⟩, h9⟩ := h
  rw [List.all_eq_true] at h7 h8
  refine ⟨fun s hs => ?_, h8⟩
  have := h7 s hs
  unfold slOk at this
  rw [Bool.and_eq_true] at this
  refine ⟨this.2, fun hl => ?_⟩
  have h0 := this.1
  unfold slBd at h0
  simp only [hl, Bool.and_eq_true, if_false, Bool.false_eq_true] at h0
  simpa using h0.2.1
theorem flTo_live {S : List Sl} (h : ∀ s ∈ S, fdsOk S s.fs = true) : ∀ n ∈ flTo S S.length, liveAt S n = true := fun x hx => by
  unfold flTo at hx
  rw [List.take_length, List.mem_flatMap] at hx
  obtain ⟨s, hs, hx⟩ := hx
  exact refsTo_live (h s hs) x hx
/-- nobody refers to a slot that is not live, and its count is 0 -/
theorem cntR_dead {a : Ar} {l : List Vl} (hok : arOk a = true) (hro : rootsA a.slots l = true) {i : Nat} (hi : i < a.slots.length) (hd : a.slots[i].live = false) :
    (cntR a.slots a.queue l).getD i 0 = 0 ∧ a.slots[i].count = 0 := by
  obtain ⟨h1, h2⟩ := arOk_live hok
  obtain ⟨_, h3⟩ := rootsA_at hro
  refine ⟨?_, (h1 _ (List.getElem_mem hi)).2 hd⟩
  unfold cntR
  rw [bumps_ne _ _ _ (fun n hn => liveAt_dead hi hd (h2 n hn)), bumps_ne _ _ _ (fun n hn => liveAt_dead hi hd (flTo_live (fun s hs => (h1 s hs).1) n hn)),
    bumps_ne _ _ _ (fun n hn => liveAt_dead hi hd (refsV_live h3 n hn))]
  rw [List.getD_eq_getElem?_getD]
  simp [hi]
def cntEq (S : List Sl) (Q : List Int) (l : List Vl) : Bool := decide (cntTo S S.length = cntR S Q l)
def cntedA (a : Ar) (l : List Vl) : Bool := arOk a && rootsA a.slots l && cntEq a.slots a.queue l
theorem cntTo_get {S : List Sl} {i : Nat} (h : i < S.length) : (cntTo S S.length).getD i 0 = S[i].count := by
  unfold cntTo
  rw [List.take_length, List.getD_eq_getElem?_getD, List.getElem?_map, List.getElem?_eq_getElem h]
  rfl
theorem cntEq_no {S : List Sl} {Q : List Int} {l : List Vl} {i : Nat} (h : i < S.length) (hn : ¬ S[i].count = (cntR S Q l).getD i 0) : cntEq S Q l = false := decide_eq_false fun e => hn (by
  rw [← e, cntTo_get h])
theorem cntEq_yes {a : Ar} {l : List Vl} (hok : arOk a = true) (hro : rootsA a.slots l = true) (h : ∀ i (hi : i < a.slots.length), a.slots[i].live = true → a.slots[i].count = (cntR a.slots a.queue l).getD i 0) : cntEq a.slots a.queue l = true :=
  decide_eq_true (by
    have hl1 := cntTo_len (Nat.le_refl a.slots.length)
    have hl2 := cntR_len a.slots a.queue l
    refine List.ext_getElem (by omega) fun i h1 h2 => ?_
    have hi : i < a.slots.length := by omega
    have e1 := cntTo_get hi
    rw [List.getD_eq_getElem?_getD, List.getElem?_eq_getElem h1] at e1
    have e1' : (cntTo a.slots a.slots.length)[i] = a.slots[i].count := e1
    rw [e1']
    have e2 : (cntR a.slots a.queue l)[i] = (cntR a.slots a.queue l).getD i 0 := by rw [List.getD_eq_getElem?_getD, List.getElem?_eq_getElem h2]; rfl
    rw [e2]
    cases hlv : a.slots[i].live
    · obtain ⟨q1, q2⟩ := cntR_dead hok hro hi hlv
      rw [q1, q2]
    · exact h i hi hlv)
end Go.Proofs.Ytiofabnicdlceaa
