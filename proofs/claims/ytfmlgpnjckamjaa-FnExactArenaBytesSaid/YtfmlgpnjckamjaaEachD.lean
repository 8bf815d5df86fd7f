/-
  What ranges over slices.Values keep: rows of bytes, boxes.
-/
import Derived.Test.YtfmlgpnjckamjaaRangeB
import Derived.Test.YtfmlgpnjckamjaaFrzD
namespace Go.Proofs.Ytfmlgpnjckamjaa
open Go.RowKit Go.Shelf RgB
set_option linter.unusedVariables false
set_option linter.unusedSimpArgs false
namespace Frz
/-- rows of bytes -/
def T8 (t : TypeId) : Prop := t = 5
theorem kb_of_say {n b : Nat} {A B : World} (h : Say n A B) : KB n b T8 A B :=
  ⟨h.below.os, h.below.tape, h.below.output, h.below.size, fun k hk hc => by
    have ho : A.heap[k]? = some A.heap[k] := Array.getElem?_eq_getElem hk
    rcases hc with hc | ⟨_, hc⟩ | ⟨cs, fz0, hc⟩
    · exact h.below.block k hc
    · rw [ho]
      exact h.kept k _ ho (by simp) (fun c fz e => hc ⟨c, _, fz, by rw [ho, e], rfl⟩)
    · rw [hc]
      exact h.kept k _ hc (by simp) (fun c fz e => by injection e with _ e _; exact absurd e (by decide))⟩
/-- a row of numbers in a block of its own -/
def RowI (w : World) (g : Nat) (xs : List Int) : Prop := ∃ cs, Blk w g 3 cs ∧ ∀ k (h : k < xs.length), cs[k]? = some (.int .i64 xs[k])
theorem RowI.below {w w' : World} {g : Nat} {xs : List Int} (h : RowI w g xs) (hb : Below w.heap.size w w') : RowI w' g xs := by
  obtain ⟨cs, h1, h2⟩ := h
  exact ⟨cs, h1.below hb h1.lt, h2⟩
theorem RowI.kb {n b : Nat} {w w' : World} {g : Nat} {xs : List Int} (h : RowI w g xs) (hk : KB n b T8 w w') : RowI w' g xs := by
  obtain ⟨cs, h1, h2⟩ := h
  exact ⟨cs, RgB.Blk.pro h1 hk, h2⟩
theorem ownT_ext {s B : Nat} {w w' : World} {v : Value} {l : List UInt8} (h : OwnT w B v l) (he : Ext s T8 w w') : OwnT w' B v l :=
  ownsT.keep h fun k hk => he.block k (.inr (by obtain ⟨c, fz, e⟩ := OwnT.kind h k hk; exact ⟨c, _, fz, e, rfl⟩))
theorem say_ext {s B : Nat} {w A A' : World} (h : Say B w A) (he : Ext s T8 A A') (hs : w.heap.size ≤ s) (hB : B ≤ s) : Say B w A' :=
  ⟨h.below.trans (he.below.mono hB), fun k o ho h1 h2 => (he.block k (.inl (Nat.lt_of_lt_of_le (Array.getElem?_eq_some_iff.1 ho).1 hs))).trans (h.kept k o ho h1 h2)⟩
theorem say_set {B : Nat} {w A : World} {p : Addr} (h : Say B w A) (hp : w.heap.size ≤ p.block) (hB : B ≤ p.block) (u : Value) : Say B w (A.setCell p u) :=
  ⟨h.below.setCell hB u, fun k o ho h1 h2 => (Below.heap_setCell A p u k (by have := (Array.getElem?_eq_some_iff.1 ho).1; omega)).trans (h.kept k o ho h1 h2)⟩
theorem say_put {B l : Nat} {w A : World} (h : Say B w A) (hp : w.heap.size ≤ l) (hB : B ≤ l) (o' : Obj) : Say B w (A.putObj l o') :=
  ⟨h.below.trans (below_putObj o' hB), fun k o ho h1 h2 => (World.putObj_heap_other (by have := (Array.getElem?_eq_some_iff.1 ho).1; omega)).trans (h.kept k o ho h1 h2)⟩
/-- what is handed on: a beginning, each with its place -/
def Pre (n : Nat) (ks : List (Nat × Value)) : Prop := ks.length ≤ n ∧ ∀ i (h : i < ks.length), ks[i].1 = i
theorem Pre.nil (n : Nat) : Pre n [] := ⟨Nat.zero_le _, fun i h => absurd h (Nat.not_lt_zero _)⟩
theorem Pre.snoc {n : Nat} {ks : List (Nat × Value)} (h : Pre n ks) (hlt : ks.length < n) (u : Value) : Pre n (ks ++ [(ks.length, u)]) := by
  refine ⟨by simp; omega, fun i hi => ?_⟩
  rcases Nat.lt_or_ge i ks.length with h1 | h1
  · rw [List.getElem_append_left h1]
    exact h.2 i h1
  · have : i = ks.length := by simp at hi; omega
    subst this
    rw [List.getElem_append_right (Nat.le_refl _)]
    simp
theorem Pre.last {n : Nat} {ks : List (Nat × Value)} {x : Nat × Value} (h : Pre n (ks ++ [x])) : x.1 = ks.length ∧ ks.length < n := by
  have h1 := h.1
  have h2 := h.2 ks.length (by simp)
  rw [List.getElem_append_right (Nat.le_refl _)] at h2
  simp at h1 h2
  exact ⟨h2, by omega⟩
end Frz
end Go.Proofs.Ytfmlgpnjckamjaa
