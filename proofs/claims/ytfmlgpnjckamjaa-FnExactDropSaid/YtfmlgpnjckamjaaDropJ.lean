/-
  Drop, both sides, at an arena as a whole.
-/
import Derived.Test.YtfmlgpnjckamjaaDropS
namespace Go.Proofs.Ytfmlgpnjckamjaa
open Go.RowKit
set_option linter.unusedVariables false
set_option linter.unusedSimpArgs false
theorem ownJ_c (a : Ar) (A0 A1 A2 : Option Addr) (c0 c1 c2 L B : Nat) (w : World) (h : ArL w L B A0 A1 A2 a) (hsz : arSz a ≤ 1050000) (W : World) (hW : Below B w W) (hBW : B ≤ W.heap.size) :
    Calls Try.prog 45 #[.agg #[.slice A0 a.slots.length c0, .slice A1 a.queue.length c1, .slice A2 a.purple.length c2]] W fun e w' => ∃ v, e = .returned v ∧ ArnG.ArAnsJ w' W.heap.size a v ∧ Below W.heap.size W w' :=
  ArnG.l4own_c a.slots a.queue a.purple A0 A1 A2 c0 c1 c2 L B W hBW hsz (h.below hW)
theorem specDropJ_c (a : Ar) (A0 A1 A2 : Option Addr) (c0 c1 c2 L B : Nat) (w : World) (k n gn : Int) (hB : B ≤ w.heap.size) (h : ArL w L B A0 A1 A2 a) (hsz : arSz a ≤ 0x100000) (hcap : a.purple.length ≤ c2) :
    Calls Try.prog 22 #[.agg #[.slice A0 a.slots.length c0, .slice A1 a.queue.length c1, .slice A2 a.purple.length c2], .agg #[.int .i64 k, .int .i64 n, .int .i64 gn]] w fun e w' => ∃ v,
      e = .returned (.tuple #[v, .bool (dropB a k n gn)]) ∧ ArAns w' w.heap.size (dropA a k n gn) v ∧ Below w.heap.size w w' :=
  specDrop_of a.slots a.queue a.purple A0 A1 A2 c0 c1 c2 L B w k n gn hB h hsz hcap (ownJ_c a A0 A1 A2 c0 c1 c2 L B w h (Nat.le_trans hsz (by decide)))
theorem implDropJ_c (a : Ar) (A0 A1 A2 : Option Addr) (c0 c1 c2 L B : Nat) (w : World) (k n gn : Int) (hB : B ≤ w.heap.size) (h : ArL w L B A0 A1 A2 a) (hsz : arSz a ≤ 0x100000) :
    Calls Try.prog 23 #[.agg #[.slice A0 a.slots.length c0, .slice A1 a.queue.length c1, .slice A2 a.purple.length c2], .agg #[.int .i64 k, .int .i64 n, .int .i64 gn]] w fun e w' => ∃ v,
      e = .returned (.tuple #[v, .bool (dropB a k n gn)]) ∧ ArAns w' w.heap.size (dropA a k n gn) v ∧ Below w.heap.size w w' :=
  implDrop_c a.slots a.queue a.purple A0 A1 A2 c0 c1 c2 L B w k n gn hB h hsz
end Go.Proofs.Ytfmlgpnjckamjaa
