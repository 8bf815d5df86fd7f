/-
  At every arena and value Alive answers as its model, and writes into no argument. No condition.
-/
import Derived.Test.YtcpcemhejchijaaSpecArnV
import Derived.Test.YtcpcemhejchijaaAlive
import Derived.Test.YtcpcemhejchijaaArnOpen
namespace Go.Proofs.Ytcpcemhejchijaa
open Go.ChangeShapes Go.WideShapes Go.ChangeAt Go.RowKit
set_option linter.unusedVariables false
namespace AliveLaw

set_option maxRecDepth 100000 in
set_option maxHeartbeats 8000000 in
theorem walk (a : Ar) (A0 A1 A2 : Option Addr) (c0 c1 c2 : Nat) (k n g : Int) (w : World) (hR : ArL w 0 w.heap.size A0 A1 A2 a) :
    Calls Try.prog 4 #[.agg #[.slice A0 a.slots.length c0, .slice A1 a.queue.length c1, .slice A2 a.purple.length c2], .agg #[.int .i64 k, .int .i64 n, .int .i64 g]] w fun e w' => e = .returned (.bool true) ∧ Below w.heap.size w w' := by
  have hbA := blw2 w (.cells #[.slice A0 a.slots.length c0, .slice A1 a.queue.length c1, .slice A2 a.purple.length c2] 25) (.cells #[.int .i64 k, .int .i64 n, .int .i64 g] 35)
  have KA : Blk ((w.alloc (.cells #[.slice A0 a.slots.length c0, .slice A1 a.queue.length c1, .slice A2 a.purple.length c2] 25)).alloc (.cells #[.int .i64 k, .int .i64 n, .int .i64 g] 35)) w.heap.size 25 #[.slice A0 a.slots.length c0, .slice A1 a.queue.length c1, .slice A2 a.purple.length c2] := (Blk.new w 25 #[.slice A0 a.slots.length c0, .slice A1 a.queue.length c1, .slice A2 a.purple.length c2]).alloc _
  have KV : Blk ((w.alloc (.cells #[.slice A0 a.slots.length c0, .slice A1 a.queue.length c1, .slice A2 a.purple.length c2] 25)).alloc (.cells #[.int .i64 k, .int .i64 n, .int .i64 g] 35)) (w.heap.size + 1) 35 #[.int .i64 k, .int .i64 n, .int .i64 g] := by
    have := Blk.new (w.alloc (.cells #[.slice A0 a.slots.length c0, .slice A1 a.queue.length c1, .slice A2 a.purple.length c2] 25)) 35 #[.int .i64 k, .int .i64 n, .int .i64 g]
    simpa using this
  have Hsz := Lib.hid (szArena_c a A0 A1 A2 c0 c1 c2 0 w.heap.size 1048576 ((w.alloc (.cells #[.slice A0 a.slots.length c0, .slice A1 a.queue.length c1, .slice A2 a.purple.length c2] 25)).alloc (.cells #[.int .i64 k, .int .i64 n, .int .i64 g] 35)) (by simp; omega) (by omega) (by omega) (hR.below hbA))
  have HR := Lib.hid hR
  have HbA := Lib.hid hbA
  have HKA := Lib.hid KA
  have HKV := Lib.hid KV
  clear hR hbA KA KV
  go_enter Try.func4, Try.ntmps4
  go_wp2_with fail
  refine Hsz.out.mono ?_
  rintro e w0 ⟨r, rfl, hr1, hr2, hr3, hbx⟩
  have hb0 := HbA.out.trans (hbx.mono HbA.out.size)
  have KA0 := HKA.out.below hbx HKA.out.lt
  have KV0 := HKV.out.below hbx HKV.out.lt
  have Hb0 := Lib.hid hb0
  by_cases hr : r < 0
  · clear hr3 hb0 KA0 KV0 hbx Hsz HbA HKA HKV
    go_wp2
    go_ret
    exact ⟨rfl, Hb0.out⟩
  have hr' : 0 ≤ r := by omega
  have hsz : arSz a ≤ 1048576 := by have := hr3 hr'; omega
  have hr0 : decide (r < 0) = false := decide_eq_false hr
  have Ht := Lib.hid (fun m => toArena_c a A0 A1 A2 c0 c1 c2 0 w.heap.size (w0.drewN m) hb0.size hsz ((HR.out.below hb0).keep (w' := w0.drewN m) fun _ _ _ => rfl))
  obtain ⟨qA0, qA1, qA2⟩ := KA0.four3
  obtain ⟨qV0, qV1, qV2⟩ := KV0.four3
  have HKA0 := Lib.hid KA0
  have HKV0 := Lib.hid KV0
  have Hszz := Lib.hid hsz
  clear hr3 hbx KA0 KV0 hb0 Hsz HbA HKA HKV hr hsz
  go_wp2_with fail
  go_region_with (first
    | (go_at_call 17; refine (Ht.out 1).mono ?_; rintro e w1 ⟨s0, s1, s2, rfl, hL1, hb1⟩; have hb01 : Below w0.heap.size w0 w1 := ⟨hb1.os, hb1.tape, hb1.output, hb1.size, hb1.block⟩; obtain ⟨qV01, qV11, qV21⟩ := (HKV0.out.below hb01 HKV0.out.lt).four3; have HL1 := Lib.hid hL1; have Hb01 := Lib.hid hb01; clear hL1 hb1 hb01 Ht)
    | (go_at_call 21; refine (toVal_c k n g w1).mono ?_; rintro e w2 ⟨rfl, hb2⟩; have hb02 := Hb01.out.trans (hb2.mono Hb01.out.size); have HL2 := Lib.hid (HL1.out.below hb2); have Hb02 := Lib.hid hb02; have Hs2 := Lib.hid hb2.size; clear hb2 hb02)
    | (go_at_call 20; refine (specAlive_c a (some ⟨s0, 0, none⟩) (some ⟨s1, 0, none⟩) (some ⟨s2, 0, none⟩) a.slots.length a.queue.length a.purple.length w0.heap.size w1.heap.size w2 k n g Hs2.out HL2.out Hszz.out (Nat.le_refl _)).mono ?_; rintro e w3 ⟨rfl, hb3⟩; have Hb03 := Lib.hid (Hb02.out.trans (hb3.mono Hb02.out.size)); clear hb3))
  all_goals
    clear qA0 qA1 qA2 qV0 qV1 qV2 qV01 qV11 qV21
    have hb03 := Hb0.out.trans (Hb03.out.mono Hb0.out.size)
    have KA3 := HKA0.out.below Hb03.out HKA0.out.lt
    have KV3 := HKV0.out.below Hb03.out HKV0.out.lt
    obtain ⟨qA0, qA1, qA2⟩ := KA3.four3
    obtain ⟨qV0, qV1, qV2⟩ := KV3.four3
    have Ht := Lib.hid (toArena_c a A0 A1 A2 c0 c1 c2 0 w.heap.size w3 hb03.size Hszz.out (HR.out.below hb03))
    have HKA3 := Lib.hid KA3
    have HKV3 := Lib.hid KV3
    have Hb3 := Lib.hid hb03
    clear hb03 KA3 KV3 HKA0 HKV0 Hb0 Hb01 Hb02 Hb03 HL1 HL2 Hs2
    go_wp2_with fail
    refine Ht.out.mono ?_
    rintro e w4 ⟨x0, x1, x2, rfl, hL4, hb4⟩
    have hb04 := Hb3.out.trans (hb4.mono Hb3.out.size)
    have hbX := blw1 w4 (.cells #[.slice (some ⟨x0, 0, none⟩) a.slots.length a.slots.length, .slice (some ⟨x1, 0, none⟩) a.queue.length a.queue.length, .slice (some ⟨x2, 0, none⟩) a.purple.length a.purple.length] 30)
    have KX := Blk.new w4 30 #[.slice (some ⟨x0, 0, none⟩) a.slots.length a.slots.length, .slice (some ⟨x1, 0, none⟩) a.queue.length a.queue.length, .slice (some ⟨x2, 0, none⟩) a.purple.length a.purple.length]
    have KA4 := (HKA3.out.below hb4 HKA3.out.lt).below hbX (HKA3.out.below hb4 HKA3.out.lt).lt
    have KV4 := (HKV3.out.below hb4 HKV3.out.lt).below hbX (HKV3.out.below hb4 HKV3.out.lt).lt
    obtain ⟨Y, hY⟩ : ∃ Y, Y = w4.alloc (.cells #[.slice (some ⟨x0, 0, none⟩) a.slots.length a.slots.length, .slice (some ⟨x1, 0, none⟩) a.queue.length a.queue.length, .slice (some ⟨x2, 0, none⟩) a.purple.length a.purple.length] 30) := ⟨_, rfl⟩
    have hYs : w4.heap.size < Y.heap.size := by rw [hY]; simp
    have hL4' := hL4.below hbX
    have hb0Y := hb04.trans (hbX.mono hb04.size)
    rw [← hY] at hbX KX KA4 KV4 hL4' hb0Y
    have HY := Lib.hid hY
    have HKA4 := Lib.hid KA4
    have HKV4 := Lib.hid KV4
    have HKX := Lib.hid KX
    have HL4 := Lib.hid hL4'
    have Hb4 := Lib.hid hb0Y
    have HYs := Lib.hid hYs
    clear hL4 hb4 hb04 hbX KX KA4 KV4 hL4' hb0Y hY hYs qA0 qA1 qA2 qV0 qV1 qV2 HKA3 HKV3 Hb3 Ht
    go_wp2_with fail
    rw [← HY.out]
    obtain ⟨qX0, qX1, qX2⟩ := HKX.out.four3
    obtain ⟨qV0, qV1, qV2⟩ := HKV4.out.four3
    have Htv := Lib.hid (fun m => toVal_c k n g (Y.drewN m))
    go_region_with (first
      | (go_at_call 21; refine (Htv.out 1).mono ?_; rintro e w5 ⟨rfl, hb5⟩; have hb5' : Below Y.heap.size Y w5 := ⟨hb5.os, hb5.tape, hb5.output, hb5.size, hb5.block⟩; obtain ⟨qX01, qX11, qX21⟩ := (HKX.out.below hb5' HKX.out.lt).four3; have Hb5 := Lib.hid hb5'; clear hb5 hb5')
      | (go_at_call 22; refine (implAlive_c a (some ⟨x0, 0, none⟩) (some ⟨x1, 0, none⟩) (some ⟨x2, 0, none⟩) a.slots.length a.queue.length a.purple.length w3.heap.size w4.heap.size w5 k n g (Nat.le_trans (Nat.le_of_lt HYs.out) Hb5.out.size) (HL4.out.below (Hb5.out.mono (Nat.le_of_lt HYs.out))) Hszz.out).mono ?_; rintro e w6 ⟨rfl, hb6⟩; have Hb6 := Lib.hid (Hb5.out.trans (hb6.mono Hb5.out.size)); clear hb6))
    all_goals
      clear qX0 qX1 qX2 qV0 qV1 qV2 qX01 qX11 qX21 Htv
      have hb06 := Hb4.out.trans (Hb6.out.mono Hb4.out.size)
      have KA6 := HKA4.out.below Hb6.out HKA4.out.lt
      have KX6 := HKX.out.below Hb6.out HKX.out.lt
      have hL6 := HL4.out.below (Hb6.out.mono (Nat.le_of_lt HYs.out))
      have hX6 : w4.heap.size ≤ w6.heap.size := Nat.le_trans (Nat.le_of_lt HYs.out) Hb6.out.size
      obtain ⟨qA0, qA1, qA2⟩ := KA6.four3
      obtain ⟨qX0, qX1, qX2⟩ := KX6.four3
      have Ht := Lib.hid (fun m => toArena_c a A0 A1 A2 c0 c1 c2 0 w.heap.size (w6.drewN m) hb06.size Hszz.out ((HR.out.below hb06).keep (w' := w6.drewN m) fun _ _ _ => rfl))
      have HKX6 := Lib.hid KX6
      have HL6 := Lib.hid hL6
      have Hb06 := Lib.hid hb06
      have HX6 := Lib.hid hX6
      clear hb06 KA6 KX6 hL6 hX6 HKA4 HKV4 HKX HL4 Hb4 Hb5 Hb6 HYs HY
      go_wp2_with fail
      go_region_with (first
        | (go_at_call 17; refine (Ht.out 1).mono ?_; rintro e w7 ⟨y0, y1, y2, rfl, hL7, hb7⟩; have hb67 : Below w6.heap.size w6 w7 := ⟨hb7.os, hb7.tape, hb7.output, hb7.size, hb7.block⟩; obtain ⟨qY0, qY1, qY2⟩ := (HKX6.out.below hb67 HKX6.out.lt).four3; have Heq := Lib.hid (eqArena_c a (some ⟨x0, 0, none⟩) (some ⟨x1, 0, none⟩) (some ⟨x2, 0, none⟩) (some ⟨y0, 0, none⟩) (some ⟨y1, 0, none⟩) (some ⟨y2, 0, none⟩) a.slots.length a.queue.length a.purple.length a.slots.length a.queue.length a.purple.length _ w4.heap.size _ w7.heap.size w7 (Nat.le_trans HX6.out hb67.size) (Nat.le_refl _) Hszz.out (HL6.out.below (hb67.mono HX6.out)) hL7); have Hb67 := Lib.hid hb67; clear hL7 hb7 hb67 Ht)
        | (go_at_call 19; refine Heq.out.mono ?_; rintro e w8 ⟨rfl, hb8⟩))
      all_goals
        have hb07 := Hb06.out.trans (Hb67.out.mono Hb06.out.size)
        go_wp2
        go_ret
        exact ⟨rfl, hb07.trans (hb8.mono hb07.size)⟩

set_option maxRecDepth 100000 in
theorem lifted (os : Os) (started : os.Started) (H : Type) (enc : TypeId × Value → H) :
    ReturnsInHanded {} Try.checked os 4 .any (Rows.fnExactAliveSpec.pre6 enc Try.prog Try.f4 Rows.fnExactAliveRow.domain false) (Rows.fnExactAliveSpec.post enc Try.prog Try.f4 false true false false) := by
  refine returnsInHanded_of_change (C := Try.checked) (s := Rows.fnExactAliveSpec) own started (by kernel_rfl) Try.func4
    (ChangeSpec.witness6 (enc := enc) (C := Try.checked) (s := Rows.fnExactAliveSpec) false ⟨#[], #[.agg #[.slice none 0 0, .slice none 0 0, .slice none 0 0], .agg #[.int .i64 0, .int .i64 0, .int .i64 0]], []⟩ 8 (by kernel_rfl) (by kernel_rfl) (by kernel_rfl) (by kernel_rfl)) ?_
  intro W base args ds gs before hval hW _ _
  have hW' := hW
  obtain ⟨p, q, hA0, hV, rfl, hfz, hnd⟩ := hW
  have hA : DataW.TrodAll enc Try.prog W 0 (fun _ => true) true Try.f4.params.toList args.toList ds p := hA0
  replace hval : ∀ (j : Nat) t v, Try.f4.params[j]? = some t → args[j]? = some v → Value.okWide Try.prog W .any base t v := hval
  rw [Try.params4] at hA hval
  obtain ⟨v0, vs0, d0, ds0, p0, q0, hargs0, rfl, rfl, h0, r0⟩ := trodAll_cons hA
  obtain ⟨v1, vs1, d1, ds1, p1, q1, hargs1, rfl, rfl, h1, r1⟩ := trodAll_cons r0
  obtain ⟨rfl, rfl, rfl⟩ := trodAll_nil r1
  obtain rfl : args = #[v0, v1] := by cases args; simp_all
  obtain ⟨rfl, rfl⟩ := trodVars_none hV
  obtain ⟨A0, A1, A2, a, c0, c1, c2, rfl, hR⟩ := ArnOpen.open_arena (hval 0 25 v0 rfl rfl) h0
  obtain ⟨k, n, g, rfl⟩ := ArnOpen.open_val (hval 1 35 v1 rfl rfl) h1
  refine (walk a A0 A1 A2 c0 c1 c2 k n g W hR).mono fun e W' ⟨he, hb⟩ => ?_
  subst he
  exact ⟨_, rfl, post_read hW' rfl rfl rfl rfl rfl Try.underlying4 laidOut (by kernel_rfl) hb⟩

theorem proved : Rows.FnExactAliveSaid :=
  OpenClaim.holds_of_wide 4 Try.f4 rfl rfl rfl rfl rfl rfl rfl ⟨rfl, rfl, rfl, rfl, rfl⟩ rfl rfl rfl rfl rfl (by kernel_rfl) Try.func4 (by kernel_rfl)
    (of_decide_eq_true (by kernel_rfl)) (by unfold Func.isWrapper; first | (rw [if_pos (by decide +kernel)]; kernel_rfl) | (rw [if_neg (by decide +kernel)]; exact ⟨rfl, rfl⟩))
    (fun os started H enc _ => lifted os started H enc)
end AliveLaw
end Go.Proofs.Ytcpcemhejchijaa
