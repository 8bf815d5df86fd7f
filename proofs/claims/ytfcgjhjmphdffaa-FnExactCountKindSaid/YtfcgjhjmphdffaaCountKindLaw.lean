/-
  At every list of tokens and every number CountKind answers as its model, and writes into no argument. No condition.
-/
import Derived.Test.YtfcgjhjmphdffaaTokTo
import Derived.Test.YtfcgjhjmphdffaaOpenTok
import Derived.Test.YtfcgjhjmphdffaaOpen
namespace Go.Proofs.Ytfcgjhjmphdffaa
open Go.ChangeShapes Go.WideShapes Go.ChangeAt Go.RowKit
set_option linter.unusedVariables false

namespace CountKindLaw

set_option maxHeartbeats 1000000 in
theorem walk (b : List Tok) (Ab : Option Addr) (cb : Nat) (n : Int) (w : World) (hlb : b.length ≤ maxLen) (hRb : RT w w.heap.size Ab b) (hwn : -9223372036854775808 ≤ n ∧ n ≤ 9223372036854775807) :
    Calls Try.prog 6 #[.slice Ab b.length cb, .int .i64 n] w fun e w' => e = .returned (.bool true) ∧ Below w.heap.size w w' := by
  unfold maxLen at hlb
  go_enter Try.func6, Try.ntmps6
  go_wp2_with fail
  refine (szTokenS_c b Ab cb _ 1048576 _ (Nat.le_refl _) hlb (by omega) (by omega) hRb).mono ?_
  rintro e w0 ⟨r, rfl, hr1, hr2, hr3, hb0⟩
  by_cases hr : r < 0
  · go_wp2
    go_ret
    exact ⟨rfl, hb0⟩
  have hr' : 0 ≤ r := by omega
  have hsz : b.length + txts b ≤ 1048576 := by have := hr3 hr'; omega
  have hsz' : b.length + txts b ≤ 4294967296 := by omega
  have hl' : b.length ≤ 4294967296 := by omega
  have hmx : ∀ t ∈ b, t.text.length ≤ maxLen := by
    intro t ht
    obtain ⟨i, hi, rfl⟩ := List.mem_iff_getElem.1 ht
    have := txts_get hi
    unfold maxLen; omega
  clear hr hr3 hlb
  go_wp2_with fail
  refine (toTokenS_c b Ab cb _ _ hb0.size hsz (hRb.below hb0)).mono ?_
  rintro e w1 ⟨g1, gs1, rfl, hO1, hs1, hb1⟩
  have hb01 := hb0.trans (hb1.mono hb0.size)
  go_wp2_with fail
  refine (specCountKind_c b _ _ _ n _ hl' (hO1.rt hmx)).mono ?_
  rintro e w' ⟨rfl, rfl⟩
  go_wp2_with fail
  refine (toTokenS_c b Ab cb _ _ hb01.size hsz (hRb.below hb01)).mono ?_
  rintro e w2 ⟨g2, gs2, rfl, hO2, hs2, hb2⟩
  have hb02 := hb01.trans (hb2.mono hb01.size)
  go_wp2_with fail
  refine (implCountKind_c b _ _ _ n _ (Nat.le_refl _) hl' (hO2.rt hmx)).mono ?_
  rintro e w3 ⟨rfl, hb3⟩
  have hb03 := hb02.trans (hb3.mono hb02.size)
  have hO3 := hO2.keep hb3 (Nat.le_refl _)
  go_wp2_with fail
  refine (toTokenS_c b Ab cb _ _ hb03.size hsz (hRb.below hb03)).mono ?_
  rintro e w4 ⟨g4, gs4, rfl, hO4, hs4, hb4⟩
  have hb04 := hb03.trans (hb4.mono hb03.size)
  have hO34 := hO3.keep hb4 (Nat.le_refl _)
  go_wp2_with fail
  refine (eqTokenS_c b _ _ _ _ _ _ _ (Nat.le_refl _) (Nat.le_refl _) hsz' (hO34.rt hmx) (hO4.rt hmx)).mono ?_
  rintro e w5 ⟨rfl, hb5⟩
  go_wp2
  go_ret
  exact ⟨rfl, hb04.trans (hb5.mono hb04.size)⟩

set_option maxRecDepth 100000 in
theorem lifted (os : Os) (started : os.Started) (H : Type) (enc : TypeId × Value → H) :
    ReturnsInHanded {} Try.checked os 6 .any (Rows.fnExactCountKindSpec.pre6 enc Try.prog Try.f6 Rows.fnExactCountKindRow.domain false) (Rows.fnExactCountKindSpec.post enc Try.prog Try.f6 false true false false) := by
  refine returnsInHanded_of_change (C := Try.checked) (s := Rows.fnExactCountKindSpec) own started (by kernel_rfl) Try.func6
    (ChangeSpec.witness6 (enc := enc) (C := Try.checked) (s := Rows.fnExactCountKindSpec) false ⟨#[], #[.slice none 0 0, .int .i64 0], []⟩ 8 (by kernel_rfl) (by kernel_rfl) (by kernel_rfl) (by kernel_rfl)) ?_
  intro W base args ds gs before hval hW _ _
  have hW' := hW
  obtain ⟨p, q, hA0, hV, rfl, hfz, hnd⟩ := hW
  have hA : DataW.TrodAll enc Try.prog W 0 (fun _ => true) true Try.f6.params.toList args.toList ds p := hA0
  replace hval : ∀ (j : Nat) t v, Try.f6.params[j]? = some t → args[j]? = some v → Value.okWide Try.prog W .any base t v := hval
  rw [Try.params6] at hA hval
  obtain ⟨v0, vs0, d0, ds0, p0, q0, hargs0, rfl, rfl, h0, r0⟩ := trodAll_cons hA
  obtain ⟨v1, vs1, d1, ds1, p1, q1, hargs1, rfl, rfl, h1, r1⟩ := trodAll_cons r0
  obtain ⟨rfl, rfl, rfl⟩ := trodAll_nil r1
  obtain rfl : args = #[v0, v1] := by cases args; simp_all
  obtain ⟨rfl, rfl⟩ := trodVars_none hV
  obtain ⟨Ab, b, cb, rfl, hlb, hRb⟩ := open_toks (hval 0 32 v0 rfl rfl) h0
  obtain ⟨n, rfl, rfl, rfl, wn⟩ := open_int Try.underlying3 (hval 1 3 v1 rfl rfl) h1
  have hwn : -9223372036854775808 ≤ n ∧ n ≤ 9223372036854775807 := by simpa [Lit.wf, IntKind.min, IntKind.max, IntKind.signed, IntKind.bits] using wn
  refine (walk b Ab cb n W hlb hRb hwn).mono fun e W' ⟨he, hb⟩ => ?_
  subst he
  exact ⟨_, rfl, post_read hW' rfl rfl rfl rfl rfl Try.underlying4 laidOut (by kernel_rfl) hb⟩

theorem proved : Rows.FnExactCountKindSaid :=
  OpenClaim.holds_of_wide 6 Try.f6 rfl rfl rfl rfl rfl rfl rfl ⟨rfl, rfl, rfl, rfl, rfl⟩ rfl rfl rfl rfl rfl (by kernel_rfl) Try.func6 (by kernel_rfl)
    (of_decide_eq_true (by kernel_rfl)) (by unfold Func.isWrapper; first | (rw [if_pos (by decide +kernel)]; kernel_rfl) | (rw [if_neg (by decide +kernel)]; exact ⟨rfl, rfl⟩))
    (fun os started H enc _ => lifted os started H enc)
end CountKindLaw
end Go.Proofs.Ytfcgjhjmphdffaa
