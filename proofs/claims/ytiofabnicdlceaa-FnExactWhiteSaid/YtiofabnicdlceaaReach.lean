/-
  Who is reached: by fields, from some that are given; what a walk in depth and one in breadth leave.
-/
import Derived.Test.YtiofabnicdlceaaRefsD
import Derived.Test.YtiofabnicdlceaaBool
import Derived.Test.YtiofabnicdlceaaSetAdd
import Derived.Test.YtiofabnicdlceaaRoomOf2
namespace Go.Proofs.Ytiofabnicdlceaa
open Go.RowKit
set_option linter.unusedVariables false

/-- whom the slot j refers to -/
def kidsOf (S : List Sl) (j : Nat) : List Int := match S[j]? with
  | some s => refsTo s.fs s.fs.length
  | none => []
theorem kidsOf_get {S : List Sl} {j : Nat} (h : j < S.length) : kidsOf S j = refsTo S[j].fs S[j].fs.length := by
  unfold kidsOf
  rw [List.getElem?_eq_getElem h]
/-- all that is referred to is there -/
def InS (S : List Sl) : Prop := ∀ k, k < S.length → ∀ c ∈ kidsOf S k, 0 ≤ c ∧ c < (S.length : Int)
theorem InR.at_mem {N : Nat} {l : List Int} (h : InR N l) {x : Int} (hx : x ∈ l) : 0 ≤ x ∧ x < (N : Int) := by
  obtain ⟨k, hk, rfl⟩ := List.getElem_of_mem hx
  exact h k hk
theorem InS.of_ok {a : Ar} (h : arOk a = true) : InS a.slots := fun k hk c hc => by
  rw [kidsOf_get hk] at hc
  exact ((arOk_at h).2.2.2.2 k hk).at_mem hc

inductive Rch (S : List Sl) (F : Int → Prop) : Nat → Prop
  | root {j : Nat} : F (j : Int) → Rch S F j
  | kid {i j : Nat} : Rch S F i → (j : Int) ∈ kidsOf S i → Rch S F j
theorem Rch.lt {S : List Sl} {F : Int → Prop} (hS : InS S) (hF : ∀ x, F x → 0 ≤ x ∧ x < (S.length : Int)) {j : Nat} (h : Rch S F j) : j < S.length := by
  induction h with
  | root hr => have := hF _ hr; omega
  | kid hi hk ih => have := hS _ ih _ hk; omega
theorem Rch.mono {S : List Sl} {F G : Int → Prop} (hFG : ∀ x, F x → G x) {j : Nat} (h : Rch S F j) : Rch S G j := by
  induction h with
  | root hr => exact .root (hFG _ hr)
  | kid hi hk ih => exact .kid ih hk
theorem Rch.trans {S : List Sl} {F G : Int → Prop} (hFG : ∀ x : Nat, G (x : Int) → Rch S F x) {j : Nat} (h : Rch S G j) : Rch S F j := by
  induction h with
  | root hr => exact hFG _ hr
  | kid hi hk ih => exact .kid ih hk

open Classical in
/-- for each slot whether it is reached from those of F -/
noncomputable def reachO (S : List Sl) (F : List Int) : List Bool := (List.range S.length).map fun j => decide (Rch S (· ∈ F) j)
theorem reachO_len (S : List Sl) (F : List Int) : (reachO S F).length = S.length := by simp [reachO]
theorem reachO_at {S : List Sl} {F : List Int} {j : Nat} (hj : j < S.length) : (reachO S F)[j]'(by rw [reachO_len]; exact hj) = true ↔ Rch S (· ∈ F) j := by simp [reachO]
theorem gO_reachO {S : List Sl} {F : List Int} {j : Nat} (hj : j < S.length) : gO (reachO S F) j = true ↔ Rch S (· ∈ F) j := by
  rw [gO_get (by rw [reachO_len]; exact hj)]
  exact reachO_at hj

theorem gO_lt {m : List Bool} {j : Nat} (h : gO m j = true) : j < m.length := by
  rcases Nat.lt_or_ge j m.length with h1 | h1
  · exact h1
  · unfold gO at h
    rw [List.getD_eq_getElem?_getD, List.getElem?_eq_none h1] at h
    cases h
theorem gO_set_self {m : List Bool} {i : Nat} (h : i < m.length) : gO (m.set i true) i = true := by
  rw [gO_get (by simpa using h)]; simp
theorem gO_set_ne {m : List Bool} {i j : Nat} (h : j ≠ i) : gO (m.set i true) j = gO m j := by
  unfold gO
  rw [List.getD_eq_getElem?_getD, List.getD_eq_getElem?_getD, List.getElem?_set_ne (by omega)]
theorem gO_ext {m m' : List Bool} (hl : m.length = m'.length) (h : ∀ j, j < m.length → (gO m j = true ↔ gO m' j = true)) : m = m' := by
  refine List.ext_getElem hl fun j h1 h2 => ?_
  have := h j h1
  rw [gO_get h1, gO_get h2] at this
  cases e1 : m[j] <;> cases e2 : m'[j] <;> simp_all

/-- how many are not yet marked -/
def unO (m : List Bool) : Nat := m.countP (! ·)
theorem unO_le : ∀ {m m' : List Bool}, m.length = m'.length → (∀ j, gO m j = true → gO m' j = true) → unO m' ≤ unO m
  | [], [], _, _ => Nat.le_refl _
  | [], _ :: _, h, _ => by simp at h
  | _ :: _, [], h, _ => by simp at h
  | a :: r, b :: s, h, hj => by
    have ih := unO_le (m := r) (m' := s) (by simpa using h) (fun j h1 => by have := hj (j + 1); simpa [gO] using this (by simpa [gO] using h1))
    have h0 := hj 0
    unfold unO at ih ⊢
    rw [List.countP_cons, List.countP_cons]
    cases a <;> cases b <;> simp_all [gO]
    omega
theorem unO_set : ∀ {m : List Bool} {i : Nat}, i < m.length → gO m i = false → unO (m.set i true) < unO m
  | [], _, h, _ => by simp at h
  | a :: r, 0, _, h => by
    unfold unO
    simp [gO] at h
    subst h
    simp
  | a :: r, i + 1, h, hg => by
    have ih := unO_set (m := r) (i := i) (by simpa using h) (by simpa [gO] using hg)
    unfold unO at ih ⊢
    rw [List.set_cons_succ, List.countP_cons, List.countP_cons]
    omega

/-- what a walk in depth from i does with marks -/
structure Dps (S : List Sl) (m m' : List Bool) (i : Nat) : Prop where
  len : m'.length = m.length
  up : ∀ j, gO m j = true → gO m' j = true
  self : gO m' i = true
  new : ∀ j, gO m' j = true → gO m j = false → Rch S (· = (i : Int)) j ∧ ∀ c ∈ kidsOf S j, gO m' c.toNat = true
theorem Dps.stay {S : List Sl} {m : List Bool} {i : Nat} (h : gO m i = true) : Dps S m m i := ⟨rfl, fun _ h => h, h, fun j h1 h2 => by rw [h1] at h2; cases h2⟩

/-- within: the first k fields' are done -/
structure Dpk (S : List Sl) (fs : List Fd) (m mk : List Bool) (i k : Nat) : Prop where
  len : mk.length = m.length
  up : ∀ j, gO m j = true → gO mk j = true
  self : gO mk i = true
  new : ∀ j, gO mk j = true → gO m j = false → j ≠ i → Rch S (· = (i : Int)) j ∧ ∀ c ∈ kidsOf S j, gO mk c.toNat = true
  done : ∀ c ∈ refsTo fs k, gO mk c.toNat = true
theorem Dpk.start {S : List Sl} {fs : List Fd} {m : List Bool} {i : Nat} (hi : i < m.length) : Dpk S fs m (m.set i true) i 0 := by
  refine ⟨by simp, fun j hj => ?_, gO_set_self hi, fun j h1 h2 hne => ?_, fun c hc => ?_⟩
  · by_cases e : j = i
    · subst e; exact gO_set_self hi
    · rw [gO_set_ne e]; exact hj
  · rw [gO_set_ne hne, h2] at h1; cases h1
  · rw [refsTo_zero] at hc; simp at hc
theorem Dpk.skip {S : List Sl} {fs : List Fd} {m mk : List Bool} {i k : Nat} (h : Dpk S fs m mk i k) (hk : k < fs.length) (h2 : ¬ fs[k].k = 2) : Dpk S fs m mk i (k + 1) :=
  ⟨h.len, h.up, h.self, h.new, by rw [refsTo_no hk h2]; exact h.done⟩
theorem Dpk.step {S : List Sl} {m mk m' : List Bool} {i k n : Nat} (hi : i < S.length) (h : Dpk S S[i].fs m mk i k) (hk : k < S[i].fs.length) (h2 : S[i].fs[k].k = 2) (hn : S[i].fs[k].n = (n : Int)) (hd : Dps S mk m' n)
    (hmem : (n : Int) ∈ kidsOf S i) : Dpk S S[i].fs m m' i (k + 1) := by
  refine ⟨hd.len.trans h.len, fun j hj => hd.up j (h.up j hj), hd.up _ h.self, fun j h1 h3 hne => ?_, fun c hc => ?_⟩
  · cases e : gO mk j
    · obtain ⟨hr, hc⟩ := hd.new j h1 e
      refine ⟨hr.trans fun x hx => ?_, hc⟩
      have hx' : (x : Int) = (n : Int) := hx
      exact .kid (i := i) (.root rfl) (by rw [hx']; exact hmem)
    · obtain ⟨hr, hc⟩ := h.new j e h3 hne
      exact ⟨hr, fun c hc' => hd.up _ (hc c hc')⟩
  · rw [refsTo_yes hk h2, List.mem_append] at hc
    rcases hc with hc | hc
    · exact hd.up _ (h.done c hc)
    · rw [List.mem_singleton] at hc
      rw [hc, hn, Int.toNat_natCast]
      exact hd.self
theorem Dpk.fin {S : List Sl} {m mk : List Bool} {i : Nat} (hi : i < S.length) (h : Dpk S S[i].fs m mk i S[i].fs.length) : Dps S m mk i := by
  refine ⟨h.len, h.up, h.self, fun j h1 h2 => ?_⟩
  by_cases e : j = i
  · subst e
    exact ⟨.root rfl, by rw [kidsOf_get hi]; exact h.done⟩
  · exact h.new j h1 h2 e
theorem Dpk.un {S : List Sl} {fs : List Fd} {m mk : List Bool} {i k : Nat} (h : Dpk S fs m mk i k) (hi : i < m.length) (hg : gO m i = false) : unO mk < unO m := by
  refine Nat.lt_of_le_of_lt (unO_le (m := m.set i true) (m' := mk) (by rw [h.len]; simp) fun j hj => ?_) (unO_set hi hg)
  by_cases e : j = i
  · subst e; exact h.self
  · rw [gO_set_ne e] at hj; exact h.up j hj

/-- marks from a list of starts -/
structure Dpa (S : List Sl) (F : List Int) (m : List Bool) : Prop where
  len : m.length = S.length
  new : ∀ j, gO m j = true → Rch S (· ∈ F) j ∧ ∀ c ∈ kidsOf S j, gO m c.toNat = true
  done : ∀ c ∈ F, gO m c.toNat = true
theorem gO_none (n j : Nat) : gO (List.replicate n false) j = false := by
  unfold gO
  rw [List.getD_eq_getElem?_getD]
  rcases Nat.lt_or_ge j n with h | h
  · rw [List.getElem?_eq_getElem (by simpa using h)]; simp
  · rw [List.getElem?_eq_none (by simpa using h)]; rfl
theorem Dpa.start (S : List Sl) : Dpa S [] (List.replicate S.length false) := ⟨by simp, fun j h => (by rw [gO_none] at h; cases h), by simp⟩
theorem Dpa.step {S : List Sl} {F : List Int} {m m' : List Bool} {n : Nat} (h : Dpa S F m) (hd : Dps S m m' n) : Dpa S (F ++ [(n : Int)]) m' := by
  refine ⟨hd.len.trans h.len, fun j h1 => ?_, fun c hc => ?_⟩
  · cases e : gO m j
    · obtain ⟨hr, hc⟩ := hd.new j h1 e
      exact ⟨hr.mono fun x hx => by have : x = (n : Int) := hx; subst this; simp, hc⟩
    · obtain ⟨hr, hc⟩ := h.new j e
      exact ⟨hr.mono fun x hx => by simp [show x ∈ F from hx], fun c hc' => hd.up _ (hc c hc')⟩
  · rw [List.mem_append, List.mem_singleton] at hc
    rcases hc with hc | rfl
    · exact hd.up _ (h.done c hc)
    · rw [Int.toNat_natCast]; exact hd.self
theorem Dpa.eq {S : List Sl} {F : List Int} {m : List Bool} (h : Dpa S F m) : m = reachO S F := by
  refine gO_ext (by rw [h.len, reachO_len]) fun j hj => ?_
  rw [gO_reachO (by rw [← h.len]; exact hj)]
  refine ⟨fun h1 => (h.new j h1).1, fun h1 => ?_⟩
  clear hj
  induction h1 with
  | root hr =>
    have := h.done _ hr
    rwa [Int.toNat_natCast] at this
  | kid hi hk ih =>
    have := (h.new _ ih).2 _ hk
    rwa [Int.toNat_natCast] at this

/-- a walk in breadth: R is reached, X is to be looked at -/
structure Bre (S : List Sl) (F R X : List Int) : Prop where
  sorted : R.Pairwise (· < ·)
  inR : ∀ x ∈ R, 0 ≤ x ∧ x < (S.length : Int)
  inX : ∀ x ∈ X, 0 ≤ x ∧ x < (S.length : Int)
  isR : ∀ x ∈ R, Rch S (· ∈ F) x.toNat
  isX : ∀ x ∈ X, Rch S (· ∈ F) x.toNat
  kids : ∀ x ∈ R, ∀ c ∈ kidsOf S x.toNat, c ∈ R ∨ c ∈ X
  roots : ∀ x ∈ F, x ∈ R ∨ x ∈ X
theorem Bre.start {S : List Sl} {F : List Int} (hF : ∀ x ∈ F, 0 ≤ x ∧ x < (S.length : Int)) : Bre S F [] F :=
  ⟨List.Pairwise.nil, by simp, hF, by simp, fun x hx => .root (by have := hF x hx; rw [show ((x.toNat : Nat) : Int) = x by omega]; exact hx), by simp, fun x hx => .inr hx⟩
theorem Bre.old {S : List Sl} {F R X : List Int} {n : Int} (h : Bre S F R (n :: X)) (hn : n ∈ R) : Bre S F R X :=
  ⟨h.sorted, h.inR, fun x hx => h.inX x (by simp [hx]), h.isR, fun x hx => h.isX x (by simp [hx]), fun x hx c hc => by
    rcases h.kids x hx c hc with h1 | h1
    · exact .inl h1
    · rcases List.mem_cons.1 h1 with rfl | h1
      · exact .inl hn
      · exact .inr h1, fun x hx => by
    rcases h.roots x hx with h1 | h1
    · exact .inl h1
    · rcases List.mem_cons.1 h1 with rfl | h1
      · exact .inl hn
      · exact .inr h1⟩
theorem Bre.add {S : List Sl} {F R X : List Int} {n : Int} (hS : InS S) (h : Bre S F R (n :: X)) : Bre S F (insI R n) (X ++ kidsOf S n.toNat) := by
  have hn := h.inX n (by simp)
  have hrn := h.isX n (by simp)
  refine ⟨sorted_insI _ _ h.sorted, fun x hx => ?_, fun x hx => ?_, fun x hx => ?_, fun x hx => ?_, fun x hx c hc => ?_, fun x hx => ?_⟩
  · rcases (mem_insI R n x).1 hx with rfl | h1
    · exact hn
    · exact h.inR x h1
  · rcases List.mem_append.1 hx with h1 | h1
    · exact h.inX x (by simp [h1])
    · exact hS _ (by omega) x h1
  · rcases (mem_insI R n x).1 hx with rfl | h1
    · exact hrn
    · exact h.isR x h1
  · rcases List.mem_append.1 hx with h1 | h1
    · exact h.isX x (by simp [h1])
    · have := hS _ (by omega) x h1
      exact .kid hrn (by rw [show ((x.toNat : Nat) : Int) = x by omega]; exact h1)
  · rcases (mem_insI R n x).1 hx with rfl | h1
    · exact .inr (List.mem_append.2 (.inr hc))
    · rcases h.kids x h1 c hc with h2 | h2
      · exact .inl ((mem_insI R n c).2 (.inr h2))
      · rcases List.mem_cons.1 h2 with rfl | h2
        · exact .inl ((mem_insI R c c).2 (.inl rfl))
        · exact .inr (List.mem_append.2 (.inl h2))
  · rcases h.roots x hx with h2 | h2
    · exact .inl ((mem_insI R n x).2 (.inr h2))
    · rcases List.mem_cons.1 h2 with rfl | h2
      · exact .inl ((mem_insI R x x).2 (.inl rfl))
      · exact .inr (List.mem_append.2 (.inl h2))

theorem sorted_ext : ∀ {l r : List Int}, l.Pairwise (· < ·) → r.Pairwise (· < ·) → (∀ x, x ∈ l ↔ x ∈ r) → l = r
  | [], [], _, _, _ => rfl
  | [], b :: s, _, _, h => absurd ((h b).2 (by simp)) (by simp)
  | a :: r, [], _, _, h => absurd ((h a).1 (by simp)) (by simp)
  | a :: r, b :: s, h1, h2, h => by
    rw [List.pairwise_cons] at h1 h2
    have hab : a = b := by
      have ha := (h a).1 (by simp)
      have hb := (h b).2 (by simp)
      rcases List.mem_cons.1 ha with e | ha
      · exact e
      · rcases List.mem_cons.1 hb with e | hb
        · exact e.symm
        · have := h1.1 b hb
          have := h2.1 a ha
          omega
    subst hab
    rw [sorted_ext h1.2 h2.2 fun x => ?_]
    have := h x
    constructor
    · intro hx
      rcases List.mem_cons.1 (this.1 (by simp [hx])) with e | hx'
      · subst e; have := h1.1 x hx; omega
      · exact hx'
    · intro hx
      rcases List.mem_cons.1 (this.2 (by simp [hx])) with e | hx'
      · subst e; have := h2.1 x hx; omega
      · exact hx'
open Classical in
/-- those that are reached, ascending -/
noncomputable def reachL (S : List Sl) (F : List Int) : List Int := ((List.range S.length).filter fun j => decide (Rch S (· ∈ F) j)).map fun j : Nat => (j : Int)
theorem mem_reachL {S : List Sl} {F : List Int} {x : Int} : x ∈ reachL S F ↔ ∃ j : Nat, x = j ∧ j < S.length ∧ Rch S (· ∈ F) j := by
  unfold reachL
  simp only [List.mem_map, List.mem_filter, List.mem_range, decide_eq_true_eq]
  constructor
  · rintro ⟨j, ⟨h1, h2⟩, rfl⟩; exact ⟨j, rfl, h1, h2⟩
  · rintro ⟨j, rfl, h1, h2⟩; exact ⟨j, ⟨h1, h2⟩, rfl⟩
theorem reachL_sorted (S : List Sl) (F : List Int) : (reachL S F).Pairwise (· < ·) := by
  unfold reachL
  rw [List.pairwise_map]
  exact (List.Pairwise.filter _ List.pairwise_lt_range).imp fun h => by omega
theorem reachL_bd (S : List Sl) (F : List Int) : (reachL S F).length ≤ S.length := by
  unfold reachL
  rw [List.length_map]
  exact Nat.le_trans (List.length_filter_le _ _) (by simp)
theorem Bre.fin {S : List Sl} {F R : List Int} (h : Bre S F R []) : R = reachL S F := by
  refine sorted_ext h.sorted (reachL_sorted S F) fun x => ?_
  rw [mem_reachL]
  constructor
  · intro hx
    have := h.inR x hx
    exact ⟨x.toNat, by omega, by omega, h.isR x hx⟩
  · rintro ⟨j, rfl, _, hr⟩
    have hr' : ∀ {j : Nat}, Rch S (· ∈ F) j → (j : Int) ∈ R := fun {j} h1 => by
      induction h1 with
      | root hr => 
        rcases h.roots _ hr with h2 | h2
        · exact h2
        · exact absurd h2 (by simp)
      | kid hi hk ih =>
        rcases h.kids _ ih _ (by rw [Int.toNat_natCast]; exact hk) with h2 | h2
        · exact h2
        · exact absurd h2 (by simp)
    exact hr' hr
theorem Bre.few {S : List Sl} {F R X : List Int} (h : Bre S F R X) : R.length ≤ S.length := by
  have := sorted_len R 0 S.length h.sorted h.inR (by omega)
  omega
theorem reach_has (S : List Sl) (F : List Int) {j : Nat} (hj : j < S.length) : hasI (reachL S F) j = gO (reachO S F) j := by
  cases e : gO (reachO S F) j
  · rw [hasI_not, mem_reachL]
    rintro ⟨i, hi, _, hr⟩
    obtain rfl : j = i := by omega
    rw [(gO_reachO hj).2 hr] at e; cases e
  · rw [hasI_mem, mem_reachL]
    exact ⟨j, rfl, hj, (gO_reachO hj).1 e⟩

-- what Reached tells
theorem infoBo : (Try.prog.info? 4).map (fun i => (i.zero, i.size, i.bytes)) = some (some (.bool false), 1, 1) := by kernel_rfl
theorem made_false (n : Nat) : madeCells #[.bool false] n = (vo (List.replicate n false)).toArray := by
  apply Array.ext
  · simp [madeCells, vo]
  · intro i h1 h2
    simp [madeCells, vo, Nat.mod_one]
noncomputable def reachedA (a : Ar) (l : List Vl) : List Bool := if (arOk a && rootsA a.slots l) = true then reachO a.slots (refsV l l.length) else []
theorem reachedA_bd (a : Ar) (l : List Vl) (h : arSz a ≤ 1048576) : (reachedA a l).length ≤ 1048576 := by
  unfold reachedA
  split
  · rw [reachO_len]; unfold arSz slsSz at h; omega
  · simp

theorem apart_drewN {S : Nat → Prop} {a b : World} (n : Nat) (h : Apart S (a.drewN n) b) : Apart S a b := ⟨h.os, h.tape, h.output, h.size, h.block⟩
end Go.Proofs.Ytiofabnicdlceaa
