/-
  Keep, both sides, at an arena as a whole.
-/
import Derived.Test.YtfmlgpnjckamjaaKeepS
import Derived.Test.YtfmlgpnjckamjaaKeepI
import Derived.Test.YtfmlgpnjckamjaaL4own
namespace Go.Proofs.Ytfmlgpnjckamjaa
open Go.RowKit
set_option linter.unusedVariables false
set_option linter.unusedSimpArgs false
theorem ArnG.ArAnsJ.toC {w : World} {lo : Nat} {a : Ar} {v : Value} (h : ArnG.ArAnsJ w lo a v) : ArAnsC w lo a v := by
  obtain ⟨A0, A1, A2, c0, c1, c2, g, fb, nb, g1, g2, rfl, hO, hl, hR⟩ := h
  refine ⟨A0, A1, A2, c0, c1, c2, g, fb, nb, g1, g2, rfl, hO, hl, ?_⟩
  obtain ⟨A, c, e, hc⟩ := hR.p.form
  cases e
  exact hc
theorem ownC_c (a : Ar) (A0 A1 A2 : Option Addr) (c0 c1 c2 L B : Nat) (w : World) (h : ArL w L B A0 A1 A2 a) (hsz : arSz a ≤ 1050000) (W : World) (hW : Below B w W) (hBW : B ≤ W.heap.size) :
    Calls Try.prog 45 #[.agg #[.slice A0 a.slots.length c0, .slice A1 a.queue.length c1, .slice A2 a.purple.length c2]] W fun e w' => ∃ v, e = .returned v ∧ ArAnsC w' W.heap.size a v ∧ Below W.heap.size W w' :=
  (ArnG.l4own_c a.slots a.queue a.purple A0 A1 A2 c0 c1 c2 L B W hBW hsz (h.below hW)).mono fun e w' ⟨v, e1, h1, h2⟩ => ⟨v, e1, h1.toC, h2⟩
theorem keepA_sz {a : Ar} {k n g : Int} (h : arSz a ≤ 1050000) : arSz (keepA a k n g) ≤ 1050000 := by
  unfold keepA
  split
  · split
    · rw [keptA_sz]; exact h
    · exact h
  · unfold arSz slsSz; simp
theorem specKeepJ_c (a : Ar) (A0 A1 A2 : Option Addr) (c0 c1 c2 L B : Nat) (w : World) (k n gn : Int) (hB : B ≤ w.heap.size) (h : ArL w L B A0 A1 A2 a) (hsz : arSz a ≤ 1050000) (hcap : a.purple.length ≤ c2) :
    Calls Try.prog 18 #[.agg #[.slice A0 a.slots.length c0, .slice A1 a.queue.length c1, .slice A2 a.purple.length c2], .agg #[.int .i64 k, .int .i64 n, .int .i64 gn]] w fun e w' => ∃ v,
      e = .returned (.tuple #[v, .bool (keepB a k n gn)]) ∧ ArAns w' w.heap.size (keepA a k n gn) v ∧ Below w.heap.size w w' :=
  specKeep_of a.slots a.queue a.purple A0 A1 A2 c0 c1 c2 L B w k n gn hB h hsz hcap (ownC_c a A0 A1 A2 c0 c1 c2 L B w h hsz)
theorem implKeepJ_c (a : Ar) (A0 A1 A2 : Option Addr) (c0 c1 c2 L B : Nat) (w : World) (k n gn : Int) (hB : B ≤ w.heap.size) (h : ArL w L B A0 A1 A2 a) (hsz : arSz a ≤ 1050000) :
    Calls Try.prog 20 #[.agg #[.slice A0 a.slots.length c0, .slice A1 a.queue.length c1, .slice A2 a.purple.length c2], .agg #[.int .i64 k, .int .i64 n, .int .i64 gn]] w fun e w' => ∃ v,
      e = .returned (.tuple #[v, .bool (keepB a k n gn)]) ∧ ArAns w' w.heap.size (keepA a k n gn) v ∧ Below w.heap.size w w' :=
  implKeep_c a.slots a.queue a.purple A0 A1 A2 c0 c1 c2 L B w k n gn hB h hsz
end Go.Proofs.Ytfmlgpnjckamjaa
