/-
  At every unit Greatest answers as its model, and writes into no argument. No condition.
-/
import Derived.Test.YtpepikjcbgkcfaaGreat
import Derived.Test.YtpepikjcbgkcfaaUnitEq
import Derived.Test.YtpepikjcbgkcfaaUnitOpen
namespace Go.Proofs.Ytpepikjcbgkcfaa
open Go.ChangeShapes Go.WideShapes Go.ChangeAt Go.RowKit
set_option linter.unusedVariables false
namespace GreatestLaw

set_option maxRecDepth 100000 in
set_option maxHeartbeats 4000000 in
theorem walk (a : Un) (A : Option Addr) (c : Nat) (w : World) (hR : InL w 0 w.heap.size A a.l) :
    Calls Try.prog 10 #[.agg #[.int .i64 a.params, .int .i64 a.regs, .slice A a.l.length c]] w fun e w' => e = .returned (.bool true) ∧ Below w.heap.size w w' := by
  have hbA := blwC w (.cells #[.int .i64 a.params, .int .i64 a.regs, .slice A a.l.length c] 65)
  have KA := Blk.new w 65 #[.int .i64 a.params, .int .i64 a.regs, .slice A a.l.length c]
  have Hsz := Lib.hid (Cod.szUnit_c a _ _ _ 1048576 (w.alloc (.cells #[.int .i64 a.params, .int .i64 a.regs, .slice A a.l.length c] 65)) 0 w.heap.size ⟨rfl, rfl, A, c, rfl, hR.below hbA⟩ (by simp) (by omega) (by omega))
  have HR := Lib.hid hR
  have HbA := Lib.hid hbA
  have HKA := Lib.hid KA
  clear hR hbA KA
  go_enter Try.func10, Try.ntmps10
  go_wp2_with fail
  refine Hsz.out.mono ?_
  rintro e w0 ⟨r, rfl, hr1, hr2, hr3, hbx⟩
  have hb0 := HbA.out.trans (hbx.mono HbA.out.size)
  have KA0 := HKA.out.below hbx HKA.out.lt
  have Hb0 := Lib.hid hb0
  by_cases hr : r < 0
  · clear hr3 hb0 KA0 hbx Hsz HbA HKA
    go_wp2
    go_ret
    exact ⟨rfl, Hb0.out⟩
  have hr' : 0 ≤ r := by omega
  have hsz : unSz a ≤ 1048576 := by have := hr3 hr'; omega
  have hr0 : decide (r < 0) = false := decide_eq_false hr
  have Hszz := Lib.hid hsz
  have Ht := Lib.hid (Cod.toUnit_c a _ _ _ 0 w.heap.size (w0) hb0.size Hszz.out ⟨rfl, rfl, A, c, rfl, HR.out.below hb0⟩)
  have qA := KA0.tri
  obtain ⟨qA0, qA1, qA2⟩ := qA
  have HKA0 := Lib.hid KA0
  clear hr3 hbx KA0 hb0 Hsz HbA HKA hr hsz
  go_wp2_with fail
  refine Ht.out.mono ?_
  rintro e w1 ⟨s0, rfl, hL1, hb1⟩
  have hb01 := Hb0.out.trans (hb1.mono Hb0.out.size)
  have KA1 := HKA0.out.below hb1 HKA0.out.lt
  have Hsp := Lib.hid (specGreatest_c a (some ⟨s0, 0, none⟩) a.l.length w0.heap.size w1.heap.size w1 (Nat.le_refl _) Hszz.out hL1)
  have HKA1 := Lib.hid KA1
  have Hb1 := Lib.hid hb01
  clear hL1 hb1 hb01 KA1 qA0 qA1 qA2 HKA0 Hb0 Ht
  go_wp2_with fail
  refine Hsp.out.mono ?_
  rintro e w2 ⟨rfl, hb2⟩
  have hb02 := Hb1.out.trans (hb2.mono Hb1.out.size)
  have KA2 := HKA1.out.below hb2 HKA1.out.lt
  obtain ⟨qA0, qA1, qA2⟩ := KA2.tri
  have Ht := Lib.hid (Cod.toUnit_c a _ _ _ 0 w.heap.size (w2) hb02.size Hszz.out ⟨rfl, rfl, A, c, rfl, HR.out.below hb02⟩)
  have HKA2 := Lib.hid KA2
  have Hb2 := Lib.hid hb02
  clear hb2 hb02 KA2 HKA1 Hb1 Hsp
  go_wp2_with fail
  refine Ht.out.mono ?_
  rintro e w3 ⟨x0, rfl, hL3, hb3⟩
  have hb03 := Hb2.out.trans (hb3.mono Hb2.out.size)
  have KA3 := HKA2.out.below hb3 HKA2.out.lt
  have hbX := blwC w3 (.cells #[.int .i64 a.params, .int .i64 a.regs, .slice (some ⟨x0, 0, none⟩) a.l.length a.l.length] 70)
  have KX := Blk.new w3 70 #[.int .i64 a.params, .int .i64 a.regs, .slice (some ⟨x0, 0, none⟩) a.l.length a.l.length]
  have hb03X := hb03.trans (hbX.mono hb03.size)
  have Him := Lib.hid (implGreatest_c a (some ⟨x0, 0, none⟩) a.l.length w2.heap.size w3.heap.size (w3.alloc (.cells #[.int .i64 a.params, .int .i64 a.regs, .slice (some ⟨x0, 0, none⟩) a.l.length a.l.length] 70)) (by simp) Hszz.out (hL3.below hbX))
  have HKA3 := Lib.hid (KA3.below hbX KA3.lt)
  have HKX := Lib.hid KX
  have HL3 := Lib.hid (hL3.below hbX)
  have Hb3 := Lib.hid hb03X
  have hs3 : w3.heap.size < (w3.alloc (.cells #[.int .i64 a.params, .int .i64 a.regs, .slice (some ⟨x0, 0, none⟩) a.l.length a.l.length] 70)).heap.size := by simp
  clear hL3 hb3 hb03 KA3 hbX KX qA0 qA1 qA2 HKA2 Hb2 Ht hb03X
  go_wp2_with fail
  refine Him.out.mono ?_
  rintro e w4 ⟨rfl, hb4⟩
  have hb04 := Hb3.out.trans (hb4.mono Hb3.out.size)
  have KA4 := HKA3.out.below hb4 HKA3.out.lt
  have KX4 := HKX.out.below hb4 HKX.out.lt
  have hL4 := HL3.out.below (hb4.mono (Nat.le_of_lt hs3))
  have hX4 : w3.heap.size ≤ w4.heap.size := Nat.le_trans (Nat.le_of_lt hs3) hb4.size
  obtain ⟨qA0, qA1, qA2⟩ := KA4.tri
  obtain ⟨qX0, qX1, qX2⟩ := KX4.tri
  have Ht := Lib.hid (fun m => Cod.toUnit_c a _ _ _ 0 w.heap.size (w4.drewN m) hb04.size Hszz.out ⟨rfl, rfl, A, c, rfl, (HR.out.below hb04).keep (w' := w4.drewN m) fun _ _ _ => rfl⟩)
  have HKX4 := Lib.hid KX4
  have HL4 := Lib.hid hL4
  have Hb4 := Lib.hid hb04
  have HX4 := Lib.hid hX4
  clear hb4 hb04 KA4 KX4 hL4 hX4 HKA3 HKX HL3 Hb3 hs3 Him
  go_wp2_with fail
  go_region_with (first
    | (go_at_call 45; refine (Ht.out 1).mono ?_; rintro e w5 ⟨y0, rfl, hL5, hb5⟩; have hb45 : Below w4.heap.size w4 w5 := ⟨hb5.os, hb5.tape, hb5.output, hb5.size, hb5.block⟩; obtain ⟨qY0, qY1, qY2⟩ := (HKX4.out.below hb45 HKX4.out.lt).tri; have Heq := Lib.hid (Cod.eqUnit_c a _ _ _ _ _ _ (w5) _ w3.heap.size _ w5.heap.size ⟨rfl, rfl, _, a.l.length, rfl, HL4.out.below (hb45.mono HX4.out)⟩ ⟨rfl, rfl, _, a.l.length, rfl, hL5⟩ (Nat.le_trans HX4.out hb45.size) (Nat.le_refl _) Hszz.out); have Hb45 := Lib.hid hb45; clear hL5 hb5 hb45 Ht)
    | (go_at_call 47; refine Heq.out.mono ?_; rintro e w6 ⟨rfl, hb6⟩))
  all_goals
    have hb05 := Hb4.out.trans (Hb45.out.mono Hb4.out.size)
    go_wp2
    go_ret
    exact ⟨rfl, hb05.trans (hb6.mono hb05.size)⟩

set_option maxRecDepth 100000 in
theorem lifted (os : Os) (started : os.Started) (H : Type) (enc : TypeId × Value → H) :
    ReturnsInHanded {} Try.checked os 10 .any (Rows.fnExactGreatestSpec.pre6 enc Try.prog Try.f10 Rows.fnExactGreatestRow.domain false) (Rows.fnExactGreatestSpec.post enc Try.prog Try.f10 false true false false) := by
  refine returnsInHanded_of_change (C := Try.checked) (s := Rows.fnExactGreatestSpec) own started (by kernel_rfl) Try.func10
    (ChangeSpec.witness6 (enc := enc) (C := Try.checked) (s := Rows.fnExactGreatestSpec) false ⟨#[], #[.agg #[.int .i64 0, .int .i64 0, .slice none 0 0]], []⟩ 8 (by kernel_rfl) (by kernel_rfl) (by kernel_rfl) (by kernel_rfl)) ?_
  intro W base args ds gs before hval hW _ _
  have hW' := hW
  obtain ⟨p, q, hA0, hV, rfl, hfz, hnd⟩ := hW
  have hA : DataW.TrodAll enc Try.prog W 0 (fun _ => true) true Try.f10.params.toList args.toList ds p := hA0
  replace hval : ∀ (j : Nat) t v, Try.f10.params[j]? = some t → args[j]? = some v → Value.okWide Try.prog W .any base t v := hval
  rw [Try.params10] at hA hval
  obtain ⟨v0, vs0, d0, ds0, p0, q0, hargs0, rfl, rfl, h0, r0⟩ := trodAll_cons hA
  obtain ⟨rfl, rfl, rfl⟩ := trodAll_nil r0
  obtain rfl : args = #[v0] := by cases args; simp_all
  obtain ⟨rfl, rfl⟩ := trodVars_none hV
  obtain ⟨A, a, c, rfl, hR⟩ := CodOpen.open_unit (hval 0 65 v0 rfl rfl) h0
  refine (walk a A c W hR).mono fun e W' ⟨he, hb⟩ => ?_
  subst he
  exact ⟨_, rfl, post_read hW' rfl rfl rfl rfl rfl Try.underlying4 laidOut (by kernel_rfl) hb⟩

theorem proved : Rows.FnExactGreatestSaid :=
  OpenClaim.holds_of_wide 10 Try.f10 rfl rfl rfl rfl rfl rfl rfl ⟨rfl, rfl, rfl, rfl, rfl⟩ rfl rfl rfl rfl rfl (by kernel_rfl) Try.func10 (by kernel_rfl)
    (of_decide_eq_true (by kernel_rfl)) (by unfold Func.isWrapper; first | (rw [if_pos (by decide +kernel)]; kernel_rfl) | (rw [if_neg (by decide +kernel)]; exact ⟨rfl, rfl⟩))
    (fun os started H enc _ => lifted os started H enc)
end GreatestLaw
end Go.Proofs.Ytpepikjcbgkcfaa
