/-
  The program's ArenaOk.
-/
import Derived.Test.YtfmlgpnjckamjaaMroomOf
namespace Go.Proofs.Ytfmlgpnjckamjaa
open Go.RowKit
set_option linter.unusedVariables false
set_option linter.unusedSimpArgs false

section
variable (a : Ar) (A0 A1 A2 : Option Addr) (c0 c1 c2 L B : Nat) (w : World)

set_option maxRecDepth 100000 in
set_option maxHeartbeats 1000000 in
theorem implArenaOk_c (hB : B ≤ w.heap.size) (h : ArL w L B A0 A1 A2 a) (hsz : arSz a ≤ 1050000) :
    Calls Try.prog 38 #[.agg #[.slice A0 a.slots.length c0, .slice A1 a.queue.length c1, .slice A2 a.purple.length c2]] w fun e w' => e = .returned (.bool (arOk a)) ∧ Below w.heap.size w w' := by
  have hbW := blw1 w (.cells #[.slice A0 a.slots.length c0, .slice A1 a.queue.length c1, .slice A2 a.purple.length c2] 32)
  have HR := Lib.hid (roomAt a A0 A1 A2 c0 c1 c2 L B w _ h hsz (hbW.mono hB) (Nat.le_trans hB hbW.size))
  have HbW := Lib.hid hbW
  clear h hsz hbW
  go_enter Try.func38, Try.ntmps38
  go_wp2_with fail
  refine HR.out.mono ?_
  rintro e w1 ⟨u0, u1, u2, u3, rfl, hb, hu, -⟩
  obtain ⟨_, _, _, rfl⟩ := hu u0 (by simp)
  obtain ⟨_, _, _, rfl⟩ := hu u1 (by simp)
  obtain ⟨_, _, _, rfl⟩ := hu u2 (by simp)
  obtain ⟨_, _, _, rfl⟩ := hu u3 (by simp)
  have Hb := Lib.hid (HbW.out.trans (hb.mono HbW.out.size))
  clear hu hb HbW HR
  go_wp2
  go_ret
  exact ⟨rfl, Hb.out.alloc Hb.out.size _⟩
end
end Go.Proofs.Ytfmlgpnjckamjaa
