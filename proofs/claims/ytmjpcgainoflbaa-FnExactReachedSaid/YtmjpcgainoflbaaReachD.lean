/-
  What Reached tells.
-/
import Derived.Test.YtmjpcgainoflbaaReach
namespace Go.Proofs.Ytmjpcgainoflbaa
open Go.RowKit
set_option linter.unusedVariables false
set_option linter.unusedSimpArgs false

theorem infoBo : (Try.prog.info? 4).map (fun i => (i.zero, i.size, i.bytes)) = some (some (.bool false), 1, 1) := by kernel_rfl
theorem made_false (n : Nat) : madeCells #[.bool false] n = (vo (List.replicate n false)).toArray := by
  apply Array.ext
  · simp [madeCells, vo]
  · intro i h1 h2
    simp [madeCells, vo, Nat.mod_one]
noncomputable def reachedA (a : Ar) (l : List Vl) : List Bool := if (arOk a && rootsA a.slots l) = true then reachO a.slots (refsV l l.length) else []
theorem reachedA_bd (a : Ar) (l : List Vl) (h : arSz a ≤ 1048576) : (reachedA a l).length ≤ 1048576 := by
  unfold reachedA
  split
  · rw [reachO_len]; unfold arSz slsSz at h; omega
  · simp

theorem apart_drewN {S : Nat → Prop} {a b : World} (n : Nat) (h : Apart S (a.drewN n) b) : Apart S a b := ⟨h.os, h.tape, h.output, h.size, h.block⟩
end Go.Proofs.Ytmjpcgainoflbaa
