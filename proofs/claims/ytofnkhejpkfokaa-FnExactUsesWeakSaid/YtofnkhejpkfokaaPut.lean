/-
  Four cells of a row put at once.
-/
import Derived.Test.YtofnkhejpkfokaaBase
namespace Go.Proofs.Ytofnkhejpkfokaa
open Go.RowKit

def put4 (cs : Array Value) (k : Nat) (a b c d : Value) : Array Value := (((cs.setIfInBounds k a).setIfInBounds (k + 1) b).setIfInBounds (k + 2) c).setIfInBounds (k + 3) d
theorem put4_size (cs : Array Value) (k : Nat) (a b c d : Value) : (put4 cs k a b c d).size = cs.size := by simp [put4]
theorem put4_at {cs : Array Value} {k : Nat} {a b c d : Value} (h : k + 3 < cs.size) : (put4 cs k a b c d)[k]? = some a ∧ (put4 cs k a b c d)[k + 1]? = some b ∧ (put4 cs k a b c d)[k + 2]? = some c ∧ (put4 cs k a b c d)[k + 3]? = some d := by
  unfold put4
  refine ⟨?_, ?_, ?_, ?_⟩
  · rw [Array.getElem?_setIfInBounds_ne (by omega), Array.getElem?_setIfInBounds_ne (by omega), Array.getElem?_setIfInBounds_ne (by omega), Array.getElem?_setIfInBounds_self_of_lt (by omega)]
  · rw [Array.getElem?_setIfInBounds_ne (by omega), Array.getElem?_setIfInBounds_ne (by omega), Array.getElem?_setIfInBounds_self_of_lt (by simp; omega)]
  · rw [Array.getElem?_setIfInBounds_ne (by omega), Array.getElem?_setIfInBounds_self_of_lt (by simp; omega)]
  · rw [Array.getElem?_setIfInBounds_self_of_lt (by simp; omega)]
theorem put4_ne {cs : Array Value} {k j : Nat} {a b c d : Value} (h : j < k ∨ k + 3 < j) : (put4 cs k a b c d)[j]? = cs[j]? := by
  unfold put4
  rw [Array.getElem?_setIfInBounds_ne (by omega), Array.getElem?_setIfInBounds_ne (by omega), Array.getElem?_setIfInBounds_ne (by omega), Array.getElem?_setIfInBounds_ne (by omega)]
theorem Blk.put4 {w : World} {g : Nat} {t : TypeId} {cs : Array Value} (h : Blk w g t cs) (k : Nat) (a b c d : Value) :
    Blk ((((w.setCell ⟨g, k, none⟩ a).setCell ⟨g, k + 1, none⟩ b).setCell ⟨g, k + 2, none⟩ c).setCell ⟨g, k + 3, none⟩ d) g t (Ytofnkhejpkfokaa.put4 cs k a b c d) :=
  (((h.set_ k a).set_ (k + 1) b).set_ (k + 2) c).set_ (k + 3) d

end Go.Proofs.Ytofnkhejpkfokaa
