/-
  Functions and programs in memory.
-/
import Derived.Test.YtofnkhejpkfokaaSt
namespace Go.Proofs.Ytofnkhejpkfokaa
open Go.RowKit
set_option linter.unusedVariables false

/-- a slice of slices of bytes -/
def BsL (w : World) (L B : Nat) (A : Option Addr) (l : List (List UInt8)) : Prop :=
  l.length ≤ maxLen ∧ (0 < l.length → ∃ ad, A = some ad ∧ L ≤ ad.block ∧ ad.block < B ∧ ∀ k (h : k < l.length), ∃ (A' : Option Addr) (c : Nat), w.cell? (ad.add k) = some (.slice A' l[k].length c) ∧ RBL w L B A' l[k] ∧ l[k].length ≤ maxLen)
theorem BsL.keep {w w' : World} {L B : Nat} {A : Option Addr} {l : List (List UInt8)} (h : BsL w L B A l) (hk : ∀ p : Addr, L ≤ p.block → p.block < B → w'.cell? p = w.cell? p) : BsL w' L B A l := by
  refine ⟨h.1, fun hn => ?_⟩
  obtain ⟨ad, eA, hL, hB, hs⟩ := h.2 hn
  refine ⟨ad, eA, hL, hB, fun j hj => ?_⟩
  obtain ⟨A', c, h4, hR, hm⟩ := hs j hj
  exact ⟨A', c, (hk _ (by rw [block_of_add]; exact hL) (by rw [block_of_add]; exact hB)).trans h4, hR.keep hk, hm⟩
theorem BsL.more {w : World} {L B L' B' : Nat} {A : Option Addr} {l : List (List UInt8)} (h : BsL w L B A l) (hL : L' ≤ L) (hB : B ≤ B') : BsL w L' B' A l := by
  refine ⟨h.1, fun hn => ?_⟩
  obtain ⟨ad, eA, hL1, hB1, hs⟩ := h.2 hn
  refine ⟨ad, eA, by omega, by omega, fun j hj => ?_⟩
  obtain ⟨A', c, h4, hR, hm⟩ := hs j hj
  exact ⟨A', c, h4, hR.more hL hB, hm⟩
theorem BsL.below {w w' : World} {L B : Nat} {A : Option Addr} {l : List (List UInt8)} (h : BsL w L B A l) (hb : Below B w w') : BsL w' L B A l := h.keep fun _ _ hp => hb.cell hp

structure Fn where
  name : List UInt8
  params : List (List UInt8)
  body : List St

def FnV (w : World) (L B : Nat) (v0 v1 v2 : Value) (f : Fn) : Prop :=
  ∃ (A : Option Addr) (c : Nat) (A1 : Option Addr) (c1 : Nat) (A2 : Option Addr) (c2 : Nat), v0 = .slice A f.name.length c ∧ v1 = .slice A1 f.params.length c1 ∧ v2 = .slice A2 f.body.length c2 ∧
    RBL w L B A f.name ∧ f.name.length ≤ maxLen ∧ BsL w L B A1 f.params ∧ StL w L B A2 f.body
theorem FnV.keep {w w' : World} {L B : Nat} {v0 v1 v2 : Value} {f : Fn} (h : FnV w L B v0 v1 v2 f) (hk : ∀ p : Addr, L ≤ p.block → p.block < B → w'.cell? p = w.cell? p) : FnV w' L B v0 v1 v2 f := by
  obtain ⟨A, c, A1, c1, A2, c2, e0, e1, e2, hR, hm, hp, hb⟩ := h
  exact ⟨A, c, A1, c1, A2, c2, e0, e1, e2, hR.keep hk, hm, hp.keep hk, hb.keep hk⟩
theorem FnV.more {w : World} {L B L' B' : Nat} {v0 v1 v2 : Value} {f : Fn} (h : FnV w L B v0 v1 v2 f) (hL : L' ≤ L) (hB : B ≤ B') : FnV w L' B' v0 v1 v2 f := by
  obtain ⟨A, c, A1, c1, A2, c2, e0, e1, e2, hR, hm, hp, hb⟩ := h
  exact ⟨A, c, A1, c1, A2, c2, e0, e1, e2, hR.more hL hB, hm, hp.more hL hB, hb.more hL hB⟩
theorem FnV.below {w w' : World} {L B : Nat} {v0 v1 v2 : Value} {f : Fn} (h : FnV w L B v0 v1 v2 f) (hb : Below B w w') : FnV w' L B v0 v1 v2 f := h.keep fun _ _ hp => hb.cell hp

def At3 (w : World) (p : Addr) (v0 v1 v2 : Value) : Prop :=
  w.cell? p = some v0 ∧ w.cell? ⟨p.block, p.off + 1, none⟩ = some v1 ∧ w.cell? ⟨p.block, p.off + 2, none⟩ = some v2
theorem At3.keep {w w' : World} {p : Addr} {v0 v1 v2 : Value} (h : At3 w p v0 v1 v2) (hk : ∀ q : Addr, q.block = p.block → w'.cell? q = w.cell? q) : At3 w' p v0 v1 v2 :=
  ⟨(hk p rfl).trans h.1, (hk ⟨p.block, p.off + 1, none⟩ rfl).trans h.2.1, (hk ⟨p.block, p.off + 2, none⟩ rfl).trans h.2.2⟩

/-- a slice of functions: a program -/
def FnL (w : World) (L B : Nat) (A : Option Addr) (l : List Fn) : Prop :=
  l.length ≤ maxLen ∧ (0 < l.length → ∃ ad, A = some ad ∧ L ≤ ad.block ∧ ad.block < B ∧ ∀ k (h : k < l.length), ∃ v0 v1 v2, At3 w (ad.add (k * 3)) v0 v1 v2 ∧ FnV w L B v0 v1 v2 l[k])
theorem FnL.keep {w w' : World} {L B : Nat} {A : Option Addr} {l : List Fn} (h : FnL w L B A l) (hk : ∀ p : Addr, L ≤ p.block → p.block < B → w'.cell? p = w.cell? p) : FnL w' L B A l := by
  refine ⟨h.1, fun hn => ?_⟩
  obtain ⟨ad, eA, hL, hB, hs⟩ := h.2 hn
  refine ⟨ad, eA, hL, hB, fun j hj => ?_⟩
  obtain ⟨v0, v1, v2, h3, hv⟩ := hs j hj
  exact ⟨v0, v1, v2, h3.keep (fun q hq => hk q (by rw [hq, block_of_add]; exact hL) (by rw [hq, block_of_add]; exact hB)), hv.keep hk⟩
theorem FnL.more {w : World} {L B L' B' : Nat} {A : Option Addr} {l : List Fn} (h : FnL w L B A l) (hL : L' ≤ L) (hB : B ≤ B') : FnL w L' B' A l := by
  refine ⟨h.1, fun hn => ?_⟩
  obtain ⟨ad, eA, hL1, hB1, hs⟩ := h.2 hn
  refine ⟨ad, eA, by omega, by omega, fun j hj => ?_⟩
  obtain ⟨v0, v1, v2, h3, hv⟩ := hs j hj
  exact ⟨v0, v1, v2, h3, hv.more hL hB⟩
theorem FnL.below {w w' : World} {L B : Nat} {A : Option Addr} {l : List Fn} (h : FnL w L B A l) (hb : Below B w w') : FnL w' L B A l := h.keep fun _ _ hp => hb.cell hp

-- the laws' own sizes
def bsIn (l : List (List UInt8)) (k : Nat) : Nat := ((l.take k).map List.length).sum
theorem bsIn_step {l : List (List UInt8)} {k : Nat} (hk : k < l.length) : bsIn l (k + 1) = bsIn l k + l[k].length := by
  unfold bsIn
  rw [List.take_succ_eq_append_getElem hk, List.map_append, List.sum_append]
  simp
theorem sum_get {α : Type} (f : α → Nat) : ∀ {l : List α} {k : Nat} (hk : k < l.length), f l[k] ≤ (l.map f).sum
  | [], k, hk => by simp at hk
  | e :: r, 0, hk => by simp
  | e :: r, k + 1, hk => by
    have := sum_get f (l := r) (k := k) (by simpa using hk)
    simp only [List.map_cons, List.sum_cons, List.getElem_cons_succ]
    omega
def bsSz (l : List (List UInt8)) : Nat := l.length + bsIn l l.length
theorem bsSz_get {l : List (List UInt8)} {k : Nat} (hk : k < l.length) : l[k].length ≤ bsSz l := by
  have := sum_get List.length hk
  unfold bsSz bsIn
  rw [List.take_length]; omega
def fnSz (f : Fn) : Nat := f.name.length + bsSz f.params + stsSz f.body
def fnsIn (l : List Fn) (k : Nat) : Nat := ((l.take k).map fnSz).sum
theorem fnsIn_step {l : List Fn} {k : Nat} (hk : k < l.length) : fnsIn l (k + 1) = fnsIn l k + fnSz l[k] := by
  unfold fnsIn
  rw [List.take_succ_eq_append_getElem hk, List.map_append, List.sum_append]
  simp
def fnsSz (l : List Fn) : Nat := l.length + fnsIn l l.length
theorem fnsSz_get {l : List Fn} {k : Nat} (hk : k < l.length) : fnSz l[k] ≤ fnsSz l := by
  have := sum_get fnSz hk
  unfold fnsSz fnsIn
  rw [List.take_length]; omega
end Go.Proofs.Ytofnkhejpkfokaa
