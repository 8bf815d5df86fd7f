/-
  The model's ArenaOk of an arena, in a later world.
-/
import Derived.Test.YtddjcjjnpidhiaaGreatDoorSpecArnOk
namespace Go.Proofs.YtddjcjjnpidhiaaGreatDoor
open Go.RowKit
set_option linter.unusedVariables false
set_option linter.unusedSimpArgs false

theorem Blk.four3 {w : World} {g : Nat} {t : TypeId} {a b c : Value} (h : Blk w g t #[a, b, c]) : w.cell? ⟨g, 0, none⟩ = some a ∧ w.cell? ⟨g, 1, none⟩ = some b ∧ w.cell? ⟨g, 2, none⟩ = some c :=
  ⟨h.cel 0 rfl, h.cel 1 rfl, h.cel 2 rfl⟩

section
variable (a : Ar) (A0 A1 A2 : Option Addr) (c0 c1 c2 L B : Nat) (w : World)

theorem okAt (X : World) (h : ArL w L B A0 A1 A2 a) (hsz : arSz a ≤ 1048576) (hc : a.purple.length ≤ c2) (hX : Below B w X) (hB : B ≤ X.heap.size) :
    Calls Tryz.prog 30 #[.agg #[.slice A0 a.slots.length c0, .slice A1 a.queue.length c1, .slice A2 a.purple.length c2]] X fun e w' => e = .returned (.bool (arOk a)) ∧ Below X.heap.size X w' :=
  specArenaOk_c a.slots a.queue a.purple A0 A1 A2 c0 c1 c2 L B X hB (by unfold arSz at hsz; omega) hc (h.1.below hX) (h.2.1.below hX) (h.2.2.below hX)

theorem specArnOk_c (hB : B ≤ w.heap.size) (h : ArL w L B A0 A1 A2 a) (hsz : arSz a ≤ 1048576) (hc : a.purple.length ≤ c2) :
    Calls Tryz.prog 30 #[.agg #[.slice A0 a.slots.length c0, .slice A1 a.queue.length c1, .slice A2 a.purple.length c2]] w fun e w' => e = .returned (.bool (arOk a)) ∧ Below w.heap.size w w' :=
  okAt a A0 A1 A2 c0 c1 c2 L B w w h hsz hc (Below.refl _ _) hB
end
end Go.Proofs.YtddjcjjnpidhiaaGreatDoor
