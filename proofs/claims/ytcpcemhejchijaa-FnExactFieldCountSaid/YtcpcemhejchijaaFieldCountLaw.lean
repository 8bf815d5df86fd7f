/-
  At every arena and number FieldCount answers as its model, and writes into no argument. No condition.
-/
import Derived.Test.YtcpcemhejchijaaSpecArnV
import Derived.Test.YtcpcemhejchijaaFieldCnt
import Derived.Test.YtcpcemhejchijaaArnOpen
namespace Go.Proofs.Ytcpcemhejchijaa
open Go.ChangeShapes Go.WideShapes Go.ChangeAt Go.RowKit
set_option linter.unusedVariables false
namespace FieldCountLaw

set_option maxRecDepth 100000 in
set_option maxHeartbeats 4000000 in
theorem walk (a : Ar) (A0 A1 A2 : Option Addr) (c0 c1 c2 : Nat) (z : Int) (w : World) (hR : ArL w 0 w.heap.size A0 A1 A2 a) :
    Calls Try.prog 7 #[.agg #[.slice A0 a.slots.length c0, .slice A1 a.queue.length c1, .slice A2 a.purple.length c2], .int .i64 z] w fun e w' => e = .returned (.bool true) ∧ Below w.heap.size w w' := by
  have hbA := blw1 w (.cells #[.slice A0 a.slots.length c0, .slice A1 a.queue.length c1, .slice A2 a.purple.length c2] 25)
  have KA := Blk.new w 25 #[.slice A0 a.slots.length c0, .slice A1 a.queue.length c1, .slice A2 a.purple.length c2]
  have Hsz := Lib.hid (szArena_c a A0 A1 A2 c0 c1 c2 0 w.heap.size 1048576 (w.alloc (.cells #[.slice A0 a.slots.length c0, .slice A1 a.queue.length c1, .slice A2 a.purple.length c2] 25)) (by simp) (by omega) (by omega) (hR.below hbA))
  have HR := Lib.hid hR
  have HbA := Lib.hid hbA
  have HKA := Lib.hid KA
  clear hR hbA KA
  go_enter Try.func7, Try.ntmps7
  go_wp2_with fail
  refine Hsz.out.mono ?_
  rintro e w0 ⟨r, rfl, hr1, hr2, hr3, hbx⟩
  have hb0 := HbA.out.trans (hbx.mono HbA.out.size)
  have KA0 := HKA.out.below hbx HKA.out.lt
  have Hb0 := Lib.hid hb0
  by_cases hr : r < 0
  · clear hr3 hb0 KA0 hbx Hsz HbA HKA
    go_wp2
    go_ret
    exact ⟨rfl, Hb0.out⟩
  have hr' : 0 ≤ r := by omega
  have hsz : arSz a ≤ 1048576 := by have := hr3 hr'; omega
  have hr0 : decide (r < 0) = false := decide_eq_false hr
  have Ht := Lib.hid (toArena_c a A0 A1 A2 c0 c1 c2 0 w.heap.size w0 hb0.size hsz (HR.out.below hb0))
  have qA := KA0.four3
  obtain ⟨qA0, qA1, qA2⟩ := qA
  have HKA0 := Lib.hid KA0
  have Hszz := Lib.hid hsz
  clear hr3 hbx KA0 hb0 Hsz HbA HKA hr hsz
  go_wp2_with fail
  refine Ht.out.mono ?_
  rintro e w1 ⟨s0, s1, s2, rfl, hL1, hb1⟩
  have hb01 := Hb0.out.trans (hb1.mono Hb0.out.size)
  have KA1 := HKA0.out.below hb1 HKA0.out.lt
  have Hsp := Lib.hid (specFieldCount_c a (some ⟨s0, 0, none⟩) (some ⟨s1, 0, none⟩) (some ⟨s2, 0, none⟩) a.slots.length a.queue.length a.purple.length w0.heap.size w1.heap.size w1 z (Nat.le_refl _) hL1 Hszz.out (Nat.le_refl _))
  have HKA1 := Lib.hid KA1
  have Hb1 := Lib.hid hb01
  clear hL1 hb1 hb01 KA1 qA0 qA1 qA2 HKA0 Hb0 Ht
  go_wp2_with fail
  refine Hsp.out.mono ?_
  rintro e w2 ⟨rfl, hb2⟩
  have hb02 := Hb1.out.trans (hb2.mono Hb1.out.size)
  have KA2 := HKA1.out.below hb2 HKA1.out.lt
  obtain ⟨qA0, qA1, qA2⟩ := KA2.four3
  have Ht := Lib.hid (toArena_c a A0 A1 A2 c0 c1 c2 0 w.heap.size w2 hb02.size Hszz.out (HR.out.below hb02))
  have HKA2 := Lib.hid KA2
  have Hb2 := Lib.hid hb02
  clear hb2 hb02 KA2 HKA1 Hb1 Hsp
  go_wp2_with fail
  refine Ht.out.mono ?_
  rintro e w3 ⟨x0, x1, x2, rfl, hL3, hb3⟩
  have hb03 := Hb2.out.trans (hb3.mono Hb2.out.size)
  have KA3 := HKA2.out.below hb3 HKA2.out.lt
  have hbX := blw1 w3 (.cells #[.slice (some ⟨x0, 0, none⟩) a.slots.length a.slots.length, .slice (some ⟨x1, 0, none⟩) a.queue.length a.queue.length, .slice (some ⟨x2, 0, none⟩) a.purple.length a.purple.length] 30)
  have KX := Blk.new w3 30 #[.slice (some ⟨x0, 0, none⟩) a.slots.length a.slots.length, .slice (some ⟨x1, 0, none⟩) a.queue.length a.queue.length, .slice (some ⟨x2, 0, none⟩) a.purple.length a.purple.length]
  have Him := Lib.hid (implFieldCount_c a (some ⟨x0, 0, none⟩) (some ⟨x1, 0, none⟩) (some ⟨x2, 0, none⟩) a.slots.length a.queue.length a.purple.length w2.heap.size w3.heap.size (w3.alloc (.cells #[.slice (some ⟨x0, 0, none⟩) a.slots.length a.slots.length, .slice (some ⟨x1, 0, none⟩) a.queue.length a.queue.length, .slice (some ⟨x2, 0, none⟩) a.purple.length a.purple.length] 30)) z (by simp) (hL3.below hbX) Hszz.out)
  have HKA3 := Lib.hid (KA3.below hbX KA3.lt)
  have HKX := Lib.hid KX
  have HL3 := Lib.hid (hL3.below hbX)
  have Hb3 := Lib.hid (hb03.trans (hbX.mono hb03.size))
  have hs3 : w3.heap.size < (w3.alloc (.cells #[.slice (some ⟨x0, 0, none⟩) a.slots.length a.slots.length, .slice (some ⟨x1, 0, none⟩) a.queue.length a.queue.length, .slice (some ⟨x2, 0, none⟩) a.purple.length a.purple.length] 30)).heap.size := by simp
  clear hL3 hb3 hb03 KA3 hbX KX qA0 qA1 qA2 HKA2 Hb2 Ht
  go_wp2_with fail
  refine Him.out.mono ?_
  rintro e w4 ⟨rfl, hb4⟩
  have hb04 := Hb3.out.trans (hb4.mono Hb3.out.size)
  have KA4 := HKA3.out.below hb4 HKA3.out.lt
  have KX4 := HKX.out.below hb4 HKX.out.lt
  have hL4 := HL3.out.below (hb4.mono (Nat.le_of_lt hs3))
  have hX4 : w3.heap.size ≤ w4.heap.size := Nat.le_trans (Nat.le_of_lt hs3) hb4.size
  obtain ⟨qA0, qA1, qA2⟩ := KA4.four3
  obtain ⟨qX0, qX1, qX2⟩ := KX4.four3
  have Ht := Lib.hid (fun m => toArena_c a A0 A1 A2 c0 c1 c2 0 w.heap.size (w4.drewN m) hb04.size Hszz.out ((HR.out.below hb04).keep (w' := w4.drewN m) fun _ _ _ => rfl))
  have HKX4 := Lib.hid KX4
  have HL4 := Lib.hid hL4
  have Hb4 := Lib.hid hb04
  have HX4 := Lib.hid hX4
  clear hb4 hb04 KA4 KX4 hL4 hX4 HKA3 HKX HL3 Hb3 hs3 Him
  go_wp2_with fail
  go_region_with (first
    | (go_at_call 17; refine (Ht.out 1).mono ?_; rintro e w5 ⟨y0, y1, y2, rfl, hL5, hb5⟩; have hb45 : Below w4.heap.size w4 w5 := ⟨hb5.os, hb5.tape, hb5.output, hb5.size, hb5.block⟩; obtain ⟨qY0, qY1, qY2⟩ := (HKX4.out.below hb45 HKX4.out.lt).four3; have Heq := Lib.hid (eqArena_c a (some ⟨x0, 0, none⟩) (some ⟨x1, 0, none⟩) (some ⟨x2, 0, none⟩) (some ⟨y0, 0, none⟩) (some ⟨y1, 0, none⟩) (some ⟨y2, 0, none⟩) a.slots.length a.queue.length a.purple.length a.slots.length a.queue.length a.purple.length _ w3.heap.size _ w5.heap.size w5 (Nat.le_trans HX4.out hb45.size) (Nat.le_refl _) Hszz.out (HL4.out.below (hb45.mono HX4.out)) hL5); have Hb45 := Lib.hid hb45; clear hL5 hb5 hb45 Ht)
    | (go_at_call 19; refine Heq.out.mono ?_; rintro e w6 ⟨rfl, hb6⟩))
  all_goals
    have hb05 := Hb4.out.trans (Hb45.out.mono Hb4.out.size)
    go_wp2
    go_ret
    exact ⟨rfl, hb05.trans (hb6.mono hb05.size)⟩

set_option maxRecDepth 100000 in
theorem lifted (os : Os) (started : os.Started) (H : Type) (enc : TypeId × Value → H) :
    ReturnsInHanded {} Try.checked os 7 .any (Rows.fnExactFieldCountSpec.pre6 enc Try.prog Try.f7 Rows.fnExactFieldCountRow.domain false) (Rows.fnExactFieldCountSpec.post enc Try.prog Try.f7 false true false false) := by
  refine returnsInHanded_of_change (C := Try.checked) (s := Rows.fnExactFieldCountSpec) own started (by kernel_rfl) Try.func7
    (ChangeSpec.witness6 (enc := enc) (C := Try.checked) (s := Rows.fnExactFieldCountSpec) false ⟨#[], #[.agg #[.slice none 0 0, .slice none 0 0, .slice none 0 0], .int .i64 0], []⟩ 8 (by kernel_rfl) (by kernel_rfl) (by kernel_rfl) (by kernel_rfl)) ?_
  intro W base args ds gs before hval hW _ _
  have hW' := hW
  obtain ⟨p, q, hA0, hV, rfl, hfz, hnd⟩ := hW
  have hA : DataW.TrodAll enc Try.prog W 0 (fun _ => true) true Try.f7.params.toList args.toList ds p := hA0
  replace hval : ∀ (j : Nat) t v, Try.f7.params[j]? = some t → args[j]? = some v → Value.okWide Try.prog W .any base t v := hval
  rw [Try.params7] at hA hval
  obtain ⟨v0, vs0, d0, ds0, p0, q0, hargs0, rfl, rfl, h0, r0⟩ := trodAll_cons hA
  obtain ⟨v1, vs1, d1, ds1, p1, q1, hargs1, rfl, rfl, h1, r1⟩ := trodAll_cons r0
  obtain ⟨rfl, rfl, rfl⟩ := trodAll_nil r1
  obtain rfl : args = #[v0, v1] := by cases args; simp_all
  obtain ⟨rfl, rfl⟩ := trodVars_none hV
  obtain ⟨A0, A1, A2, a, c0, c1, c2, rfl, hR⟩ := ArnOpen.open_arena (hval 0 25 v0 rfl rfl) h0
  obtain ⟨z, rfl, rfl, rfl, wn⟩ := open_int Try.underlying3 (hval 1 3 v1 rfl rfl) h1
  refine (walk a A0 A1 A2 c0 c1 c2 z W hR).mono fun e W' ⟨he, hb⟩ => ?_
  subst he
  exact ⟨_, rfl, post_read hW' rfl rfl rfl rfl rfl Try.underlying4 laidOut (by kernel_rfl) hb⟩

theorem proved : Rows.FnExactFieldCountSaid :=
  OpenClaim.holds_of_wide 7 Try.f7 rfl rfl rfl rfl rfl rfl rfl ⟨rfl, rfl, rfl, rfl, rfl⟩ rfl rfl rfl rfl rfl (by kernel_rfl) Try.func7 (by kernel_rfl)
    (of_decide_eq_true (by kernel_rfl)) (by unfold Func.isWrapper; first | (rw [if_pos (by decide +kernel)]; kernel_rfl) | (rw [if_neg (by decide +kernel)]; exact ⟨rfl, rfl⟩))
    (fun os started H enc _ => lifted os started H enc)
end FieldCountLaw
end Go.Proofs.Ytcpcemhejchijaa
