/-
  A row's cells put one behind the other.
-/
import Derived.Test.YtofnkhejpkfokaaBase
namespace Go.Proofs.Ytofnkhejpkfokaa
open Go.RowKit

def putL (cs : Array Value) (k : Nat) : List Value → Array Value
  | [] => cs
  | v :: r => putL (cs.setIfInBounds k v) (k + 1) r
def setL (w : World) (g k : Nat) : List Value → World
  | [] => w
  | v :: r => setL (w.setCell ⟨g, k, none⟩ v) g (k + 1) r
theorem putL_size : ∀ (vs : List Value) (cs : Array Value) (k : Nat), (putL cs k vs).size = cs.size
  | [], _, _ => rfl
  | v :: r, cs, k => by rw [putL, putL_size r]; simp
theorem putL_ne : ∀ (vs : List Value) (cs : Array Value) (k j : Nat), (j < k ∨ k + vs.length ≤ j) → (putL cs k vs)[j]? = cs[j]?
  | [], _, _, _, _ => rfl
  | v :: r, cs, k, j, h => by
    simp only [List.length_cons] at h
    rw [putL, putL_ne r _ _ _ (by omega), Array.getElem?_setIfInBounds_ne (by omega)]
theorem putL_at : ∀ (vs : List Value) (cs : Array Value) (k j : Nat) (v : Value), k + vs.length ≤ cs.size → vs[j]? = some v → (putL cs k vs)[k + j]? = some v
  | [], _, _, _, _, _, h => by simp at h
  | u :: r, cs, k, 0, v, hs, h => by
    simp only [List.length_cons] at hs
    simp at h
    subst h
    rw [putL, putL_ne r _ _ _ (by omega), Nat.add_zero, Array.getElem?_setIfInBounds_self_of_lt (by omega)]
  | u :: r, cs, k, j + 1, v, hs, h => by
    simp only [List.length_cons] at hs
    rw [putL, show k + (j + 1) = k + 1 + j by omega]
    exact putL_at r _ _ _ _ (by simp; omega) (by simpa using h)
theorem Blk.putL {g : Nat} {t : TypeId} : ∀ (vs : List Value) {w : World} {cs : Array Value} (k : Nat), Blk w g t cs → Blk (setL w g k vs) g t (Ytofnkhejpkfokaa.putL cs k vs)
  | [], _, _, _, h => h
  | v :: r, _, _, k, h => Blk.putL r (k + 1) (h.set_ k v)
theorem setL_ind {P : World → Prop} {g : Nat} (step : ∀ (w : World) (k : Nat) (v : Value), P w → P (w.setCell ⟨g, k, none⟩ v)) : ∀ (vs : List Value) {w : World} (k : Nat), P w → P (setL w g k vs)
  | [], _, _, h => h
  | v :: r, _, k, h => setL_ind step r (k + 1) (step _ k v h)
theorem setL_size (g : Nat) : ∀ (vs : List Value) (w : World) (k : Nat), (setL w g k vs).heap.size = w.heap.size
  | [], _, _ => rfl
  | v :: r, w, k => by rw [setL, setL_size g r, World.size_setCell]
theorem setL_below {g B : Nat} {a : World} (vs : List Value) {w : World} (k : Nat) (h : Below B a w) (hg : B ≤ g) : Below B a (setL w g k vs) :=
  setL_ind (P := fun u => Below B a u) (fun _ _ v hw => hw.setCell (by exact hg) v) vs k h
end Go.Proofs.Ytofnkhejpkfokaa
