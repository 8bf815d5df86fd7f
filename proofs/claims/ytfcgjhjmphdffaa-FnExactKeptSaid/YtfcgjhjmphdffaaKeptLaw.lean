/-
  At every list of bytes Kept answers as its model, and writes into no argument. No condition.
-/
import Derived.Test.YtfcgjhjmphdffaaKept
import Derived.Test.YtfcgjhjmphdffaaOpen
namespace Go.Proofs.Ytfcgjhjmphdffaa
open Go.ChangeShapes Go.WideShapes Go.ChangeAt Go.RowKit
set_option linter.unusedVariables false

namespace KeptLaw

set_option maxHeartbeats 1000000 in
theorem walk (b : List UInt8) (Ab : Option Addr) (cb : Nat) (w : World) (hlb : b.length ≤ maxLen) (hRb : RB w w.heap.size Ab b) :
    Calls Try.prog 4 #[.slice Ab b.length cb] w fun e w' => e = .returned (.bool true) ∧ Below w.heap.size w w' := by
  unfold maxLen at hlb
  by_cases hbig : 1048576 < (b.length : Int)
  · go_enter Try.func4, Try.ntmps4
    go_wp2
    go_ret
    exact ⟨rfl, Below.refl _ _⟩
  have hl' : b.length ≤ 4294967296 := by omega
  have hsm : (b.length : Int) ≤ 1048576 := by omega
  clear hbig hlb
  go_enter Try.func4, Try.ntmps4
  go_wp2_with fail
  refine (toByteS_c b Ab cb _ _ hl' (Nat.le_refl _) hRb).mono ?_
  rintro e w1 ⟨g1, rfl, hB1, hg1, hs1, hb1⟩
  go_wp2_with fail
  refine (specKept_c b _ _ _ _ (RB.of_blk hB1 hs1)).mono ?_
  rintro e w1' ⟨rfl, hb1'⟩
  have hb1x := hb1.trans (hb1'.mono hb1.size)
  go_wp2_with fail
  refine (toByteS_c b Ab cb _ _ hl' hb1x.size (hRb.below hb1x)).mono ?_
  rintro e w2 ⟨g2, rfl, hB2, hg2, hs2, hb2⟩
  have hb12 := hb1x.trans (hb2.mono hb1x.size)
  go_wp2_with fail
  refine (implKept_c b _ _ _ _ (RB.of_blk hB2 hs2)).mono ?_
  rintro e w3 ⟨rfl, rfl⟩
  go_wp2_with fail
  refine (toByteS_c b Ab cb _ _ hl' hb12.size (hRb.below hb12)).mono ?_
  rintro e w4 ⟨g4, rfl, hB4, hg4, hs4, hb4⟩
  have hb124 := hb12.trans (hb4.mono hb12.size)
  go_wp2_with fail
  refine (eqByteS_c b _ _ _ _ _ _ _ hl' (RB.of_blk (hB2.below hb4 hs2) hs2) (RB.of_blk hB4 hs4)).mono ?_
  rintro e w' ⟨rfl, n, rfl⟩
  go_wp2
  go_ret
  exact ⟨rfl, hb124.trans ⟨rfl, rfl, rfl, Nat.le_refl _, fun _ _ => rfl⟩⟩

set_option maxRecDepth 100000 in
theorem lifted (os : Os) (started : os.Started) (H : Type) (enc : TypeId × Value → H) :
    ReturnsInHanded {} Try.checked os 4 .any (Rows.fnExactKeptSpec.pre6 enc Try.prog Try.f4 Rows.fnExactKeptRow.domain false) (Rows.fnExactKeptSpec.post enc Try.prog Try.f4 false true false false) := by
  refine returnsInHanded_of_change (C := Try.checked) (s := Rows.fnExactKeptSpec) own started (by kernel_rfl) Try.func4
    (ChangeSpec.witness6 (enc := enc) (C := Try.checked) (s := Rows.fnExactKeptSpec) false ⟨#[], #[.slice none 0 0], []⟩ 8 (by kernel_rfl) (by kernel_rfl) (by kernel_rfl) (by kernel_rfl)) ?_
  intro W base args ds gs before hval hW _ _
  have hW' := hW
  obtain ⟨p, q, hA0, hV, rfl, hfz, hnd⟩ := hW
  have hA : DataW.TrodAll enc Try.prog W 0 (fun _ => true) true Try.f4.params.toList args.toList ds p := hA0
  replace hval : ∀ (j : Nat) t v, Try.f4.params[j]? = some t → args[j]? = some v → Value.okWide Try.prog W .any base t v := hval
  rw [Try.params4] at hA hval
  obtain ⟨v0, vs0, d0, ds0, p0, q0, hargs0, rfl, rfl, h0, r0⟩ := trodAll_cons hA
  obtain ⟨rfl, rfl, rfl⟩ := trodAll_nil r0
  obtain rfl : args = #[v0] := by cases args; simp_all
  obtain ⟨rfl, rfl⟩ := trodVars_none hV
  obtain ⟨Ab, b, cb, rfl, hlb, hRb⟩ := open_bytes Try.underlying22 Try.underlying5 cellsU8 (hval 0 22 v0 rfl rfl) h0
  refine (walk b Ab cb W hlb hRb).mono fun e W' ⟨he, hb⟩ => ?_
  subst he
  exact ⟨_, rfl, post_read hW' rfl rfl rfl rfl rfl Try.underlying4 laidOut (by kernel_rfl) hb⟩

theorem proved : Rows.FnExactKeptSaid :=
  OpenClaim.holds_of_wide 4 Try.f4 rfl rfl rfl rfl rfl rfl rfl ⟨rfl, rfl, rfl, rfl, rfl⟩ rfl rfl rfl rfl rfl (by kernel_rfl) Try.func4 (by kernel_rfl)
    (of_decide_eq_true (by kernel_rfl)) (by unfold Func.isWrapper; first | (rw [if_pos (by decide +kernel)]; kernel_rfl) | (rw [if_neg (by decide +kernel)]; exact ⟨rfl, rfl⟩))
    (fun os started H enc _ => lifted os started H enc)
end KeptLaw
end Go.Proofs.Ytfcgjhjmphdffaa
