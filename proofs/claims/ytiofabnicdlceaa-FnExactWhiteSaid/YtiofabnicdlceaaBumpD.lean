/-
  Counting who is referred to: a row of counts that is bumped.
-/
import Derived.Test.YtiofabnicdlceaaRoots
import Derived.Test.YtiofabnicdlceaaKidS
namespace Go.Proofs.Ytiofabnicdlceaa
open Go.RowKit
set_option linter.unusedVariables false
set_option linter.unusedSimpArgs false

def bump1 (c : List Int) (n : Int) : List Int := c.set n.toNat (c.getD n.toNat 0 + 1)
def bumps (c : List Int) (l : List Int) : List Int := l.foldl bump1 c
theorem bump1_len (c : List Int) (n : Int) : (bump1 c n).length = c.length := by simp [bump1]
theorem bumps_len (l : List Int) : ∀ c : List Int, (bumps c l).length = c.length := by
  induction l with
  | nil => intro c; rfl
  | cons x r ih => intro c; show (bumps (bump1 c x) r).length = _; rw [ih, bump1_len]
theorem bumps_app (c l r : List Int) : bumps c (l ++ r) = bumps (bumps c l) r := List.foldl_append
theorem bumps_snoc (c : List Int) {l : List Int} {k : Nat} (h : k < l.length) : bumps c (l.take (k + 1)) = bump1 (bumps c (l.take k)) l[k] := by
  rw [List.take_succ_eq_append_getElem h, bumps_app]; rfl
/-- no count is above m -/
def Sm (c : List Int) (m : Nat) : Prop := ∀ i (h : i < c.length), 0 ≤ c[i] ∧ c[i] ≤ m
theorem Sm.bump {c : List Int} {m : Nat} (h : Sm c m) (n : Int) : Sm (bump1 c n) (m + 1) := fun i hi => by
  have hi' := hi
  rw [bump1_len] at hi'
  have e : (bump1 c n)[i] = (c.set n.toNat (c.getD n.toNat 0 + 1))[i]'(by rw [List.length_set]; exact hi') := rfl
  rw [e, List.getElem_set]
  split
  · rename_i e
    have hn : n.toNat < c.length := by omega
    have := h n.toNat hn
    rw [List.getD_eq_getElem?_getD, List.getElem?_eq_getElem hn]
    simp only [Option.getD_some]
    omega
  · have := h i hi'
    omega
theorem Sm.bumps (l : List Int) : ∀ {c : List Int} {m : Nat}, Sm c m → Sm (bumps c l) (m + l.length) := by
  induction l with
  | nil => intro c m h; exact h
  | cons x r ih =>
    intro c m h
    have := ih (h.bump x)
    rw [show m + (x :: r).length = m + 1 + r.length by simp; omega]
    exact this
theorem Sm.zero (n : Nat) : Sm (List.replicate n 0) 0 := fun i hi => by simp
/-- all in range -/
def InR (N : Nat) (l : List Int) : Prop := ∀ k (h : k < l.length), 0 ≤ l[k] ∧ l[k] < N
theorem InR.mem {N : Nat} {l : List Int} (h : ∀ x ∈ l, 0 ≤ x ∧ x < (N : Int)) : InR N l := fun k hk => h _ (List.getElem_mem hk)
theorem vi_set (c : List Int) (j : Nat) (x : Int) : (vi c).toArray.setIfInBounds j (.int .i64 x) = (vi (c.set j x)).toArray := by
  apply Array.ext'
  simp [vi, List.map_set]

/-- nothing but one block has been touched -/
structure Tch (g : Nat) (w w' : World) : Prop where
  os : w'.os = w.os
  tape : w'.tape = w.tape
  output : w'.output = w.output
  size : w'.heap.size = w.heap.size
  block : ∀ b, b ≠ g → w'.heap[b]? = w.heap[b]?
theorem Tch.refl (g : Nat) (w : World) : Tch g w w := ⟨rfl, rfl, rfl, rfl, fun _ _ => rfl⟩
theorem Tch.set_ {g : Nat} {w w' : World} (h : Tch g w w') (i : Nat) (v : Value) : Tch g w (w'.setCell ⟨g, i, none⟩ v) :=
  ⟨h.os, h.tape, h.output, by rw [World.size_setCell]; exact h.size, fun b hb => (Below.heap_setCell w' ⟨g, i, none⟩ v b hb).trans (h.block b hb)⟩
theorem Tch.below {g B : Nat} {w w' : World} (h : Tch g w w') (hB : B ≤ g) : Below B w w' := ⟨h.os, h.tape, h.output, by rw [h.size]; exact Nat.le_refl _, fun b hb => h.block b (by omega)⟩
theorem Tch.cell {g : Nat} {w w' : World} (h : Tch g w w') {p : Addr} (hp : p.block ≠ g) : w'.cell? p = w.cell? p := World.cell?_of_block (h.block _ hp)
end Go.Proofs.Ytiofabnicdlceaa
