/-
  What Garbage tells; a set without another one.
-/
import Derived.Test.YtiofabnicdlceaaReach
namespace Go.Proofs.Ytiofabnicdlceaa
open Go.RowKit
set_option linter.unusedVariables false
set_option linter.unusedSimpArgs false

def leftTo (p : Nat → Bool) (k : Nat) : List Int := ((List.range k).filter p).map fun n : Nat => (n : Int)
theorem leftTo_zero (p : Nat → Bool) : leftTo p 0 = [] := rfl
theorem leftTo_yes {p : Nat → Bool} {k : Nat} (h : p k = true) : leftTo p (k + 1) = leftTo p k ++ [(k : Int)] := by
  unfold leftTo
  rw [List.range_succ, List.filter_append, List.map_append]
  simp [h]
theorem leftTo_no {p : Nat → Bool} {k : Nat} (h : p k = false) : leftTo p (k + 1) = leftTo p k := by
  unfold leftTo
  rw [List.range_succ, List.filter_append, List.map_append]
  simp [h]
theorem leftTo_le (p : Nat → Bool) (k : Nat) : (leftTo p k).length ≤ k := by
  unfold leftTo
  rw [List.length_map]
  exact Nat.le_trans (List.length_filter_le _ _) (by simp)
def garbP (S : List Sl) (O : List Bool) (n : Nat) : Bool := liveN S n && !gO O n
noncomputable def garbA (a : Ar) (l : List Vl) : List Int := if arOk a = true then leftTo (garbP a.slots (reachedA a l)) a.slots.length else []
theorem garbA_bd (a : Ar) (l : List Vl) (h : arSz a ≤ 1048576) : (garbA a l).length ≤ 1048576 := by
  unfold garbA
  split
  · have := leftTo_le (garbP a.slots (reachedA a l)) a.slots.length
    unfold arSz slsSz at h
    omega
  · simp
/-- of a set what is in no other one -/
def restI (l R : List Int) : List Int := l.filter fun x => !hasI R x
theorem rest_live (S : List Sl) (R : List Int) (O : List Bool) (h : ∀ j, j < S.length → hasI R j = gO O j) : restI (liveTo S S.length) R = leftTo (garbP S O) S.length := by
  unfold restI liveTo leftTo
  rw [List.filter_map, List.filter_filter]
  congr 1
  refine List.filter_congr fun n hn => ?_
  rw [List.mem_range] at hn
  simp only [Function.comp, garbP]
  rw [h n hn, Bool.and_comm]
theorem liveN_eq {S : List Sl} {k : Nat} (h : k < S.length) : liveN S k = S[k].live := by
  unfold liveN
  rw [List.getElem?_eq_getElem h]
end Go.Proofs.Ytiofabnicdlceaa
