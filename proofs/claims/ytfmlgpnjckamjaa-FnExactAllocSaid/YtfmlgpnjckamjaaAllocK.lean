/-
  Alloc, both sides, at an arena as a whole.
-/
import Derived.Test.YtfmlgpnjckamjaaAllocS
namespace Go.Proofs.Ytfmlgpnjckamjaa
open Go.RowKit
set_option linter.unusedVariables false
set_option linter.unusedSimpArgs false
theorem specAllocJ_c (a : Ar) (A0 A1 A2 : Option Addr) (c0 c1 c2 L B : Nat) (w : World) (hB : B ≤ w.heap.size) (h : ArL w L B A0 A1 A2 a) (hsz : arSz a ≤ 1050000) (hcap : a.purple.length ≤ c2) :
    Calls Try.prog 24 #[.agg #[.slice A0 a.slots.length c0, .slice A1 a.queue.length c1, .slice A2 a.purple.length c2]] w fun e w' => ∃ v,
      e = .returned (.tuple #[v, .agg #[.int .i64 (alK a), .int .i64 (alN a), .int .i64 (alG a)], .bool (alB a)]) ∧ ArAns w' w.heap.size (alA a) v ∧ Below w.heap.size w w' :=
  AllocI.specAlloc_of a.slots a.queue a.purple A0 A1 A2 c0 c1 c2 L B w hB h hsz hcap (ownC_c a A0 A1 A2 c0 c1 c2 L B w h hsz)
theorem implAllocJ_c (a : Ar) (A0 A1 A2 : Option Addr) (c0 c1 c2 L B : Nat) (w : World) (hB : B ≤ w.heap.size) (h : ArL w L B A0 A1 A2 a) (hsz : arSz a ≤ 1050000) :
    Calls Try.prog 25 #[.agg #[.slice A0 a.slots.length c0, .slice A1 a.queue.length c1, .slice A2 a.purple.length c2]] w fun e w' => ∃ v,
      e = .returned (.tuple #[v, .agg #[.int .i64 (alK a), .int .i64 (alN a), .int .i64 (alG a)], .bool (alB a)]) ∧ ArAns w' w.heap.size (alA a) v ∧ Below w.heap.size w w' :=
  AllocI.implAlloc_c a.slots a.queue a.purple A0 A1 A2 c0 c1 c2 L B w hB h hsz
end Go.Proofs.Ytfmlgpnjckamjaa
