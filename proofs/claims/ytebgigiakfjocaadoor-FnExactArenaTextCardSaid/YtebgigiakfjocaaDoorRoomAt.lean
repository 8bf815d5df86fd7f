/-
  roomOf of an arena, in a later world.
-/
import Derived.Test.YtebgigiakfjocaaDoorRoomOf2
namespace Go.Proofs.YtebgigiakfjocaaDoor
open Go.RowKit
set_option linter.unusedVariables false
set_option linter.unusedSimpArgs false

section
variable (a : Ar) (A0 A1 A2 : Option Addr) (c0 c1 c2 L B : Nat) (w : World)

theorem roomAt (X : World) (h : ArL w L B A0 A1 A2 a) (hsz : arSz a ≤ 1048576) (hX : Below B w X) (hB : B ≤ X.heap.size) :
    Calls Tryd.prog 44 #[.agg #[.slice A0 a.slots.length c0, .slice A1 a.queue.length c1, .slice A2 a.purple.length c2]] X (RoomQ X a.slots (.slice A1 a.queue.length c1) (.slice A2 a.purple.length c2) (arOk a)) :=
  roomOf_c a.slots a.queue a.purple A0 A1 A2 c0 c1 c2 L B X hB hsz (h.1.below hX) (h.2.1.below hX) (h.2.2.below hX)
end
end Go.Proofs.YtebgigiakfjocaaDoor
