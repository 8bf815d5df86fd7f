/-
  At every program CountExs answers as its model, and writes into no argument. No condition.
-/
import Derived.Test.YtglalpoalinieaaFnAll
import Derived.Test.YtglalpoalinieaaOpenAll
import Derived.Test.YtglalpoalinieaaSpecCountEx
import Derived.Test.YtglalpoalinieaaImplCountEx
import Derived.Test.YtglalpoalinieaaOpen
namespace Go.Proofs.Ytglalpoalinieaa
open Go.ChangeShapes Go.WideShapes Go.ChangeAt Go.RowKit
set_option linter.unusedVariables false

namespace CountExsLaw

set_option maxHeartbeats 1000000 in
theorem walk (p : List Fn) (Ap : Option Addr) (cp : Nat) (k : Int) (w : World) (hRp : FnL w 0 w.heap.size Ap p) (hwk : -9223372036854775808 ≤ k ∧ k ≤ 9223372036854775807) :
    Calls Try.prog 7 #[.agg #[.slice Ap p.length cp], .int .i64 k] w fun e w' => e = .returned (.bool true) ∧ Below w.heap.size w w' := by
  have hbA : Below w.heap.size w (w.alloc (.cells #[.slice Ap p.length cp] 24)) := (Below.refl _ _).alloc (Nat.le_refl _) _
  have KA : Blk (w.alloc (.cells #[.slice Ap p.length cp] 24)) w.heap.size 24 #[.slice Ap p.length cp] := Blk.new w _ _
  go_enter Try.func7, Try.ntmps7
  go_wp2_with fail
  refine (szProg_c p Ap cp 0 w.heap.size 1048576 _ (by simp) (by omega) (by omega) (hRp.below hbA)).mono ?_
  rintro e w0 ⟨r, rfl, hr1, hr2, hr3, hbx⟩
  have hb0 := hbA.trans (hbx.mono hbA.size)
  have KA0 := KA.below hbx KA.lt
  by_cases hr : r < 0
  · clear hr3
    go_wp2
    go_ret
    exact ⟨rfl, hb0⟩
  have hr' : 0 ≤ r := by omega
  have hsz : fnsSz p ≤ 1048576 := by have := hr3 hr'; omega
  have qA := KA0.cell_of 0 rfl
  clear hr hr3 hbx KA
  go_wp2_with fail
  refine (toProg_c p Ap cp 0 w.heap.size _ hb0.size hsz (hRp.below hb0)).mono ?_
  rintro e w1 ⟨g1, rfl, hs1, hg1, hL1, hb1⟩
  have hb01 := hb0.trans (hb1.mono hb0.size)
  have KA1 := KA0.below hb1 KA0.lt
  clear qA
  go_wp2_with fail
  refine (specCountExs_c p _ _ _ _ k _ (Nat.le_refl _) hsz hL1).mono ?_
  rintro e w2 ⟨rfl, hb2⟩
  have hb02 := hb01.trans (hb2.mono hb01.size)
  have KA2 := KA1.below hb2 KA1.lt
  have qA := KA2.cell_of 0 rfl
  go_wp2_with fail
  refine (toProg_c p Ap cp 0 w.heap.size _ hb02.size hsz (hRp.below hb02)).mono ?_
  rintro e w3 ⟨g3, rfl, hs3, hg3, hL3, hb3⟩
  have hb03 := hb02.trans (hb3.mono hb02.size)
  have KA3 := KA2.below hb3 KA2.lt
  have hbX : Below w3.heap.size w3 (w3.alloc (.cells #[.slice (some ⟨g3, 0, none⟩) p.length p.length] 29)) := (Below.refl _ _).alloc (Nat.le_refl _) _
  have KX : Blk (w3.alloc (.cells #[.slice (some ⟨g3, 0, none⟩) p.length p.length] 29)) w3.heap.size 29 #[.slice (some ⟨g3, 0, none⟩) p.length p.length] := Blk.new w3 _ _
  clear qA
  go_wp2_with fail
  refine (implCountExs_c p _ _ _ w3.heap.size k _ (by simp) hsz (hL3.below hbX)).mono ?_
  rintro e w4 ⟨rfl, hb4⟩
  have hb34 := hbX.trans (hb4.mono hbX.size)
  have hb04 := hb03.trans (hb34.mono hb03.size)
  have hL4 := hL3.below hb34
  have KX4 := KX.below hb4 KX.lt
  have KA4 := KA3.below hb34 KA3.lt
  have qA := KA4.cell_of 0 rfl
  have qX := KX4.cell_of 0 rfl
  have hx4 := KX4.lt
  have ha4 := KA4.lt
  have Ht := Lib.hid (fun m => toProg_c p Ap cp 0 w.heap.size (w4.drewN m) hb04.size hsz ((hRp.below hb04).keep (w' := w4.drewN m) fun _ _ _ => rfl))
  clear hb1 hb2 hb3 hbX hb4 KA0 KA1 KA2 KA3 KX
  go_wp2_with fail
  go_region_with (first
    | (go_at_call 13; refine (Ht.out 1).mono ?_; rintro e w5 ⟨g5, rfl, hs5, hg5, hL5, hb5⟩; have hb45 : Below w4.heap.size w4 w5 := ⟨hb5.os, hb5.tape, hb5.output, hb5.size, hb5.block⟩; have qX5 := (KX4.below hb45 hx4).cell_of 0 rfl; have Heq := Lib.hid (eqProg_c p _ _ p.length p.length _ _ _ _ w5 (Nat.le_trans hb34.size hb45.size) (Nat.le_refl _) hsz (hL4.below (hb45.mono hb34.size)) hL5))
    | (go_at_call 15; refine Heq.out.mono ?_; rintro e w6 ⟨rfl, hb6⟩))
  all_goals
    have hb05 := hb04.trans (hb45.mono hb04.size)
    go_wp2
    go_ret
    exact ⟨rfl, hb05.trans (hb6.mono hb05.size)⟩

set_option maxRecDepth 100000 in
theorem lifted (os : Os) (started : os.Started) (H : Type) (enc : TypeId × Value → H) :
    ReturnsInHanded {} Try.checked os 7 .any (Rows.fnExactCountExsSpec.pre6 enc Try.prog Try.f7 Rows.fnExactCountExsRow.domain false) (Rows.fnExactCountExsSpec.post enc Try.prog Try.f7 false true false false) := by
  refine returnsInHanded_of_change (C := Try.checked) (s := Rows.fnExactCountExsSpec) own started (by kernel_rfl) Try.func7
    (ChangeSpec.witness6 (enc := enc) (C := Try.checked) (s := Rows.fnExactCountExsSpec) false ⟨#[], #[.agg #[.slice none 0 0], .int .i64 0], []⟩ 8 (by kernel_rfl) (by kernel_rfl) (by kernel_rfl) (by kernel_rfl)) ?_
  intro W base args ds gs before hval hW _ _
  have hW' := hW
  obtain ⟨p, q, hA0, hV, rfl, hfz, hnd⟩ := hW
  have hA : DataW.TrodAll enc Try.prog W 0 (fun _ => true) true Try.f7.params.toList args.toList ds p := hA0
  replace hval : ∀ (j : Nat) t v, Try.f7.params[j]? = some t → args[j]? = some v → Value.okWide Try.prog W .any base t v := hval
  rw [Try.params7] at hA hval
  obtain ⟨v0, vs0, d0, ds0, p0, q0, hargs0, rfl, rfl, h0, r0⟩ := trodAll_cons hA
  obtain ⟨v1, vs1, d1, ds1, p1, q1, hargs1, rfl, rfl, h1, r1⟩ := trodAll_cons r0
  obtain ⟨rfl, rfl, rfl⟩ := trodAll_nil r1
  obtain rfl : args = #[v0, v1] := by cases args; simp_all
  obtain ⟨rfl, rfl⟩ := trodVars_none hV
  obtain ⟨Ap, p, cp, rfl, hRp⟩ := open_prog (hval 0 24 v0 rfl rfl) h0
  obtain ⟨k, rfl, rfl, rfl, wk⟩ := open_int Try.underlying3 (hval 1 3 v1 rfl rfl) h1
  have hwk : -9223372036854775808 ≤ k ∧ k ≤ 9223372036854775807 := by simpa [Lit.wf, IntKind.min, IntKind.max, IntKind.signed, IntKind.bits] using wk
  refine (walk p Ap cp k W hRp hwk).mono fun e W' ⟨he, hb⟩ => ?_
  subst he
  exact ⟨_, rfl, post_read hW' rfl rfl rfl rfl rfl Try.underlying4 laidOut (by kernel_rfl) hb⟩

theorem proved : Rows.FnExactCountExsSaid :=
  OpenClaim.holds_of_wide 7 Try.f7 rfl rfl rfl rfl rfl rfl rfl ⟨rfl, rfl, rfl, rfl, rfl⟩ rfl rfl rfl rfl rfl (by kernel_rfl) Try.func7 (by kernel_rfl)
    (of_decide_eq_true (by kernel_rfl)) (by unfold Func.isWrapper; first | (rw [if_pos (by decide +kernel)]; kernel_rfl) | (rw [if_neg (by decide +kernel)]; exact ⟨rfl, rfl⟩))
    (fun os started H enc _ => lifted os started H enc)
end CountExsLaw
end Go.Proofs.Ytglalpoalinieaa
