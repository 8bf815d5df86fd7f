/-
  At every list of bytes and every number LineAt answers as its model, and writes into no argument. No condition.
-/
import Derived.Test.YtfcgjhjmphdffaaLines
import Derived.Test.YtfcgjhjmphdffaaOpen
namespace Go.Proofs.Ytfcgjhjmphdffaa
open Go.ChangeShapes Go.WideShapes Go.ChangeAt Go.RowKit
set_option linter.unusedVariables false

namespace LineAtLaw

set_option maxHeartbeats 1000000 in
theorem walk (b : List UInt8) (Ab : Option Addr) (cb : Nat) (n : Int) (w : World) (hlb : b.length ≤ maxLen) (hRb : RB w w.heap.size Ab b) (hwn : -9223372036854775808 ≤ n ∧ n ≤ 9223372036854775807) :
    Calls Try.prog 8 #[.slice Ab b.length cb, .int .i64 n] w fun e w' => e = .returned (.bool true) ∧ Below w.heap.size w w' := by
  unfold maxLen at hlb
  by_cases hbig : 1048576 < (b.length : Int)
  · go_enter Try.func8, Try.ntmps8
    go_wp2
    go_ret
    exact ⟨rfl, Below.refl _ _⟩
  have hl' : b.length ≤ 4294967296 := by omega
  have hsm : (b.length : Int) ≤ 1048576 := by omega
  clear hbig hlb
  go_enter Try.func8, Try.ntmps8
  go_wp2_with fail
  refine (toByteS_c b Ab cb _ _ hl' (Nat.le_refl _) hRb).mono ?_
  rintro e w1 ⟨g1, rfl, hB1, hg1, hs1, hb1⟩
  go_wp2_with fail
  refine (specLineAt_c b _ _ _ _ _ hl' (RB.of_blk hB1 hs1)).mono ?_
  rintro e w' ⟨rfl, rfl⟩
  go_wp2_with fail
  refine (toByteS_c b Ab cb _ _ hl' hb1.size (hRb.below hb1)).mono ?_
  rintro e w2 ⟨g2, rfl, hB2, hg2, hs2, hb2⟩
  have hb12 := hb1.trans (hb2.mono hb1.size)
  go_wp2_with fail
  refine (implLineAt_c b _ _ _ _ _ hs2 hl' (Nat.le_refl _) (RB.of_blk hB2 (Nat.lt_succ_self _))).mono ?_
  rintro e w3 ⟨rfl, hb3⟩
  have hb123 := hb12.trans (hb3.mono hb12.size)
  go_wp2_with fail
  refine (toByteS_c b Ab cb _ _ hl' hb123.size (hRb.below hb123)).mono ?_
  rintro e w4 ⟨g4, rfl, hB4, hg4, hs4, hb4⟩
  have hb1234 := hb123.trans (hb4.mono hb123.size)
  have hs2' : g2 < w3.heap.size := by have := hb3.size; omega
  go_wp2_with fail
  refine (eqByteS_c b _ _ _ _ _ _ _ hl' (RB.of_blk ((hB2.below hb3 hs2).below hb4 hs2') hs2) (RB.of_blk hB4 hs4)).mono ?_
  rintro e w' ⟨rfl, n, rfl⟩
  go_wp2
  go_ret
  exact ⟨rfl, hb1234.trans ⟨rfl, rfl, rfl, Nat.le_refl _, fun _ _ => rfl⟩⟩

set_option maxRecDepth 100000 in
theorem lifted (os : Os) (started : os.Started) (H : Type) (enc : TypeId × Value → H) :
    ReturnsInHanded {} Try.checked os 8 .any (Rows.fnExactLineAtSpec.pre6 enc Try.prog Try.f8 Rows.fnExactLineAtRow.domain false) (Rows.fnExactLineAtSpec.post enc Try.prog Try.f8 false true false false) := by
  refine returnsInHanded_of_change (C := Try.checked) (s := Rows.fnExactLineAtSpec) own started (by kernel_rfl) Try.func8
    (ChangeSpec.witness6 (enc := enc) (C := Try.checked) (s := Rows.fnExactLineAtSpec) false ⟨#[], #[.slice none 0 0, .int .i64 0], []⟩ 8 (by kernel_rfl) (by kernel_rfl) (by kernel_rfl) (by kernel_rfl)) ?_
  intro W base args ds gs before hval hW _ _
  have hW' := hW
  obtain ⟨p, q, hA0, hV, rfl, hfz, hnd⟩ := hW
  have hA : DataW.TrodAll enc Try.prog W 0 (fun _ => true) true Try.f8.params.toList args.toList ds p := hA0
  replace hval : ∀ (j : Nat) t v, Try.f8.params[j]? = some t → args[j]? = some v → Value.okWide Try.prog W .any base t v := hval
  rw [Try.params8] at hA hval
  obtain ⟨v0, vs0, d0, ds0, p0, q0, hargs0, rfl, rfl, h0, r0⟩ := trodAll_cons hA
  obtain ⟨v1, vs1, d1, ds1, p1, q1, hargs1, rfl, rfl, h1, r1⟩ := trodAll_cons r0
  obtain ⟨rfl, rfl, rfl⟩ := trodAll_nil r1
  obtain rfl : args = #[v0, v1] := by cases args; simp_all
  obtain ⟨rfl, rfl⟩ := trodVars_none hV
  obtain ⟨Ab, b, cb, rfl, hlb, hRb⟩ := open_bytes Try.underlying22 Try.underlying5 cellsU8 (hval 0 22 v0 rfl rfl) h0
  obtain ⟨n, rfl, rfl, rfl, wn⟩ := open_int Try.underlying3 (hval 1 3 v1 rfl rfl) h1
  have hwn : -9223372036854775808 ≤ n ∧ n ≤ 9223372036854775807 := by simpa [Lit.wf, IntKind.min, IntKind.max, IntKind.signed, IntKind.bits] using wn
  refine (walk b Ab cb n W hlb hRb hwn).mono fun e W' ⟨he, hb⟩ => ?_
  subst he
  exact ⟨_, rfl, post_read hW' rfl rfl rfl rfl rfl Try.underlying4 laidOut (by kernel_rfl) hb⟩

theorem proved : Rows.FnExactLineAtSaid :=
  OpenClaim.holds_of_wide 8 Try.f8 rfl rfl rfl rfl rfl rfl rfl ⟨rfl, rfl, rfl, rfl, rfl⟩ rfl rfl rfl rfl rfl (by kernel_rfl) Try.func8 (by kernel_rfl)
    (of_decide_eq_true (by kernel_rfl)) (by unfold Func.isWrapper; first | (rw [if_pos (by decide +kernel)]; kernel_rfl) | (rw [if_neg (by decide +kernel)]; exact ⟨rfl, rfl⟩))
    (fun os started H enc _ => lifted os started H enc)
end LineAtLaw
end Go.Proofs.Ytfcgjhjmphdffaa
