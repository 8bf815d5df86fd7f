/-
  At every arena and row of values Counted answers as its model, and writes into no argument. No condition.
-/
import Derived.Test.YtpepikjcbgkcfaaCountedS
import Derived.Test.YtpepikjcbgkcfaaCounted
import Derived.Test.YtpepikjcbgkcfaaArnMarkD
import Derived.Test.YtpepikjcbgkcfaaValsMark
import Derived.Test.YtpepikjcbgkcfaaValsOpen
namespace Go.Proofs.Ytpepikjcbgkcfaa
open Go.ChangeShapes Go.WideShapes Go.ChangeAt Go.RowKit
set_option linter.unusedVariables false
namespace CountedLaw

theorem cell_blk {w w' : World} {p : Addr} (h : w'.heap[p.block]? = w.heap[p.block]?) : w'.cell? p = w.cell? p := by
  unfold World.cell?
  rw [h]
theorem blw0 {w w' : World} {n : Nat} (h : w' = w.drewN n) : Below w.heap.size w w' := by subst h; exact ⟨rfl, rfl, rfl, Nat.le_refl _, fun _ _ => rfl⟩
theorem mkAr_le {a : Ar} (h : arSz a ≤ 1048576) : ArnM.mkAr a ≤ 100000000 := by
  have h1 := ArnM.mkSl_sum a.slots a.slots.length
  have h2 : slsSz a.slots ≤ 1048576 := by unfold arSz at h; omega
  have h3 : a.queue.length ≤ 1048576 := by unfold arSz at h; omega
  have h4 : a.purple.length ≤ 1048576 := by unfold arSz at h; omega
  unfold ArnM.mkAr
  unfold slsSz at h2
  omega

set_option maxRecDepth 100000 in
set_option maxHeartbeats 16000000 in
theorem walk (a : Ar) (A0 A1 A2 : Option Addr) (c0 c1 c2 : Nat) (vs : List Vl) (VA : Option Addr) (vc : Nat) (w : World) (hR : ArL w 0 w.heap.size A0 A1 A2 a) (hV : VlR w 0 w.heap.size VA vs) :
    Calls Try.prog 7 #[.agg #[.slice A0 a.slots.length c0, .slice A1 a.queue.length c1, .slice A2 a.purple.length c2], .slice VA vs.length vc] w fun e w' => e = .returned (.bool true) ∧ Below w.heap.size w w' := by
  have hbA := blw1 w (.cells #[.slice A0 a.slots.length c0, .slice A1 a.queue.length c1, .slice A2 a.purple.length c2] 25)
  have KA := Blk.new w 25 #[.slice A0 a.slots.length c0, .slice A1 a.queue.length c1, .slice A2 a.purple.length c2]
  have Hsz := Lib.hid (szArena_c a A0 A1 A2 c0 c1 c2 0 w.heap.size 1048576 (w.alloc (.cells #[.slice A0 a.slots.length c0, .slice A1 a.queue.length c1, .slice A2 a.purple.length c2] 25)) (by simp) (by omega) (by omega) (hR.below hbA))
  have HR := Lib.hid hR
  have HV := Lib.hid hV
  have HbA := Lib.hid hbA
  have HKA := Lib.hid KA
  have Hvm := Lib.hid hV.1
  clear hR hV hbA KA
  go_enter Try.func7, Try.ntmps7
  go_wp2_with fail
  refine Hsz.out.mono ?_
  rintro e w0 ⟨r, rfl, hr1, hr2, hr3, hbx⟩
  have hb0 := HbA.out.trans (hbx.mono HbA.out.size)
  have KA0 := HKA.out.below hbx HKA.out.lt
  have Hb0 := Lib.hid hb0
  by_cases hr : r < 0
  · clear hr3 hb0 KA0 hbx Hsz HbA HKA
    go_wp2
    go_ret
    exact ⟨rfl, Hb0.out⟩
  have hr' : 0 ≤ r := by omega
  have hsz : arSz a ≤ 1048576 := by have := hr3 hr'; omega
  have hr0 : decide (r < 0) = false := decide_eq_false hr
  have hlc := lft_cases r vs.length
  have Hsv := Lib.hid (szValS_c VA vs.length vc r w0 (by have := Hvm.out; unfold maxLen at this; omega) hr' hr2)
  obtain ⟨r2, hr2e⟩ : ∃ x, lft r vs.length = x := ⟨_, rfl⟩
  rw [hr2e] at Hsv hlc
  have qA := KA0.four3
  obtain ⟨qA0, qA1, qA2⟩ := qA
  have Hlc := Lib.hid hlc
  have HKA0 := Lib.hid KA0
  clear hlc hr2e hr3 hbx KA0 Hsz HbA HKA hr
  go_wp2_with fail
  refine Hsv.out.mono ?_
  rintro e w' ⟨rfl, rfl⟩
  by_cases hq : r2 < 0
  · clear hb0 Hsv
    go_wp2
    go_ret
    exact ⟨rfl, Hb0.out⟩
  have hvl : vs.length ≤ 1048576 := by rcases Hlc.out with ⟨h1, h2⟩ | ⟨h1, h2⟩ <;> omega
  have hq0 : decide (r2 < 0) = false := decide_eq_false hq
  have hspec := fun A0 A1 A2 c0 c1 c2 L B w VA vc LV BV => specCounted_c a A0 A1 A2 c0 c1 c2 L B w vs VA vc LV BV
  have himpl := fun A0 A1 A2 c0 c1 c2 L B w VA vc LV BV => implCounted_c a A0 A1 A2 c0 c1 c2 L B w vs VA vc LV BV
  obtain ⟨l, hl⟩ : ∃ l, cntedA a vs = l := ⟨_, rfl⟩
  simp only [hl] at hspec himpl
  have Hspec := Lib.hid hspec
  have Himpl := Lib.hid himpl
  have Ht := Lib.hid (toArena_c a A0 A1 A2 c0 c1 c2 0 w.heap.size w0 hb0.size hsz (HR.out.below hb0))
  have Hszz := Lib.hid hsz
  have Hmkb := Lib.hid (mkAr_le hsz)
  clear hb0 hq hsz hspec himpl hl Hsv Hlc
  go_wp2_with fail
  refine Ht.out.mono ?_
  rintro e w1 ⟨s0, s1, s2, rfl, hL1, hb1⟩
  have hb01 := Hb0.out.trans (hb1.mono Hb0.out.size)
  have KA1 := HKA0.out.below hb1 HKA0.out.lt
  have Hv1 := Lib.hid (toValS_n vs VA vc 0 w.heap.size w1 hb01.size hvl (HV.out.below hb01))
  have HKA1 := Lib.hid KA1
  have HL1 := Lib.hid hL1
  have Hb1 := Lib.hid hb01
  clear hL1 hb1 hb01 KA1 qA0 qA1 qA2 HKA0 Hb0 Ht
  go_wp2_with fail
  refine Hv1.out.mono ?_
  rintro e w1b ⟨sv, rfl, -, -, hLv, hbv, -⟩
  have hb01b := Hb1.out.trans (hbv.mono Hb1.out.size)
  have KA1b := HKA1.out.below hbv HKA1.out.lt
  have Hsp := Lib.hid (Hspec.out (some ⟨s0, 0, none⟩) (some ⟨s1, 0, none⟩) (some ⟨s2, 0, none⟩) a.slots.length a.queue.length a.purple.length w0.heap.size w1.heap.size w1b (some ⟨sv, 0, none⟩) vs.length w1.heap.size w1b.heap.size hbv.size (Nat.le_refl _) (HL1.out.below hbv) Hszz.out (Nat.le_refl _) hLv.vl hvl)
  have HKA1b := Lib.hid KA1b
  have Hb1b := Lib.hid hb01b
  clear hLv hbv hb01b KA1b HKA1 Hb1 HL1 Hv1
  go_wp2_with fail
  refine Hsp.out.mono ?_
  rintro e w2 ⟨rfl, hb2⟩
  have hb02 := Hb1b.out.trans (hb2.mono Hb1b.out.size)
  have KA2 := HKA1b.out.below hb2 HKA1b.out.lt
  obtain ⟨qA0, qA1, qA2⟩ := KA2.four3
  have Ht := Lib.hid (ArnN.toArena_n a A0 A1 A2 c0 c1 c2 0 w.heap.size w2 hb02.size Hszz.out (HR.out.below hb02))
  have HKA2 := Lib.hid KA2
  have HlA := Lib.hid KA2.lt
  have Hb2 := Lib.hid hb02
  clear hb2 hb02 KA2 HKA1b Hb1b Hsp
  go_wp2_with fail
  refine Ht.out.mono ?_
  rintro e w3 ⟨x0, x1, x2, rfl, hL3, hb3, hnw⟩
  have Hnw := Lib.hid hnw
  have hb03 := Hb2.out.trans (hb3.mono Hb2.out.size)
  have KA3 := HKA2.out.below hb3 HKA2.out.lt
  have hbX := blw1 w3 (.cells #[.slice (some ⟨x0, 0, none⟩) a.slots.length a.slots.length, .slice (some ⟨x1, 0, none⟩) a.queue.length a.queue.length, .slice (some ⟨x2, 0, none⟩) a.purple.length a.purple.length] 30)
  have KX := Blk.new w3 30 #[.slice (some ⟨x0, 0, none⟩) a.slots.length a.slots.length, .slice (some ⟨x1, 0, none⟩) a.queue.length a.queue.length, .slice (some ⟨x2, 0, none⟩) a.purple.length a.purple.length]
  have hb0X := hb03.trans (hbX.mono hb03.size)
  have Hv3 := Lib.hid (toValS_n vs VA vc 0 w.heap.size (w3.alloc (.cells #[.slice (some ⟨x0, 0, none⟩) a.slots.length a.slots.length, .slice (some ⟨x1, 0, none⟩) a.queue.length a.queue.length, .slice (some ⟨x2, 0, none⟩) a.purple.length a.purple.length] 30)) hb0X.size hvl (HV.out.below hb0X))
  have HKA3 := Lib.hid (KA3.below hbX KA3.lt)
  have HKX := Lib.hid KX
  have HL3 := Lib.hid (hL3.below hbX)
  have Hb3 := Lib.hid hb0X
  have Hb23 := Lib.hid (hb3.trans (hbX.mono hb3.size))
  have hB23 := hb3.size
  have HbX := Lib.hid hbX
  clear hL3 hb3 hb03 KA3 hbX KX qA0 qA1 qA2 HKA2 Hb2 Ht hnw hb0X
  go_wp2_with fail
  refine Hv3.out.mono ?_
  rintro e w3v ⟨xv, rfl, -, -, hLv3, hbv3, hnv⟩
  have hxs : (w3.alloc (.cells #[.slice (some ⟨x0, 0, none⟩) a.slots.length a.slots.length, .slice (some ⟨x1, 0, none⟩) a.queue.length a.queue.length, .slice (some ⟨x2, 0, none⟩) a.purple.length a.purple.length] 30)).heap.size = w3.heap.size + 1 := by simp
  rw [hxs] at hLv3 hnv
  have hb03v := Hb3.out.trans (hbv3.mono Hb3.out.size)
  have hb23v := Hb23.out.trans (hbv3.mono Hb23.out.size)
  have hb3v := HbX.out.trans (hbv3.mono HbX.out.size)
  have KA3v := HKA3.out.below hbv3 HKA3.out.lt
  have KX3v := HKX.out.below hbv3 HKX.out.lt
  have hL3v := HL3.out.below (hbv3.mono HbX.out.size)
  have hx3v : w3.heap.size < w3v.heap.size := KX3v.lt
  have Him := Lib.hid (Himpl.out (some ⟨x0, 0, none⟩) (some ⟨x1, 0, none⟩) (some ⟨x2, 0, none⟩) a.slots.length a.queue.length a.purple.length w2.heap.size w3.heap.size w3v (some ⟨xv, 0, none⟩) vs.length (w3.heap.size + 1) w3v.heap.size hb3v.size (Nat.le_refl _) hL3v Hszz.out hLv3.vl hvl)
  have HKA3v := Lib.hid KA3v
  have HKX3v := Lib.hid KX3v
  have HL3v := Lib.hid hL3v
  have HLv3 := Lib.hid hLv3
  have Hnv := Lib.hid hnv
  have Hb3v := Lib.hid hb03v
  have Hb23v := Lib.hid hb23v
  have Hb33v := Lib.hid hb3v
  obtain ⟨qX0, qX1, qX2⟩ := KX3v.four3
  clear hLv3 hbv3 hnv hxs hb03v hb23v hb3v KA3v KX3v hL3v HKA3 HKX HL3 Hb3 Hb23 HbX Hv3
  go_wp2_with fail
  refine Him.out.mono ?_
  rintro e w4 ⟨rfl, hb4⟩
  have hb04 := Hb3v.out.trans (hb4.mono Hb3v.out.size)
  have hb24 := Hb23v.out.trans (hb4.mono Hb23v.out.size)
  have hb34 := Hb33v.out.trans (hb4.mono Hb33v.out.size)
  have KA4 := HKA3v.out.below hb4 HKA3v.out.lt
  have KX4 := HKX3v.out.below hb4 HKX3v.out.lt
  have hL4 := HL3v.out.below (hb4.mono Hb33v.out.size)
  have HKA4 := Lib.hid KA4
  have HKX4 := Lib.hid KX4
  have HL4 := Lib.hid hL4
  have HLv4 := Lib.hid (HLv3.out.below hb4)
  have Hb4 := Lib.hid hb04
  have Hb24 := Lib.hid hb24
  have Hb34 := Lib.hid hb34
  have Hbv4 := Lib.hid hb4
  have qA := KA4.four3
  obtain ⟨qA0, qA1, qA2⟩ := qA
  obtain ⟨qX0, qX1, qX2⟩ := KX4.four3
  have Ht := Lib.hid (fun m => toArena_c a A0 A1 A2 c0 c1 c2 0 w.heap.size (w4.drewN m) hb04.size Hszz.out ((HR.out.below hb04).keep (w' := w4.drewN m) fun _ _ _ => rfl))
  have HX4 := Lib.hid hb34.size
  clear hb4 hb04 hb24 hb34 KA4 KX4 hL4 HKA3v HKX3v HL3v HLv3 Hb3v Hb23v Hb33v Him
  have hbb : (l != l) = false := by simp
  go_upto_region 14 with fail
  go_cut [39] (fun b wx => b = .bool false ∧ Hid (Below w4.heap.size w4 wx))
  case first =>
    go_region_with (first
      | (go_at_call 13; refine (Ht.out 1).mono ?_; rintro e w6 ⟨y0, y1, y2, rfl, hL6, hb6⟩; have hb46 : Below w4.heap.size w4 w6 := ⟨hb6.os, hb6.tape, hb6.output, hb6.size, hb6.block⟩; obtain ⟨qY0, qY1, qY2⟩ := (HKX4.out.below hb46 HKX4.out.lt).four3; have Heq := Lib.hid (eqArena_c a (some ⟨x0, 0, none⟩) (some ⟨x1, 0, none⟩) (some ⟨x2, 0, none⟩) (some ⟨y0, 0, none⟩) (some ⟨y1, 0, none⟩) (some ⟨y2, 0, none⟩) a.slots.length a.queue.length a.purple.length a.slots.length a.queue.length a.purple.length _ w3.heap.size _ w6.heap.size w6 (Nat.le_trans HX4.out hb46.size) (Nat.le_refl _) Hszz.out (HL4.out.below (hb46.mono HX4.out)) hL6); have Hb46 := Lib.hid hb46; clear hL6 hb6 hb46 Ht)
      | (go_at_call 16; refine Heq.out.mono ?_; rintro e w7 ⟨rfl, hb7⟩))
    all_goals
      try go_wp2_with fail
      go_meet
      case rel => exact ⟨by simp, Lib.hid (Hb46.out.trans (hb7.mono Hb46.out.size))⟩
  case rest =>
    obtain ⟨rfl, hb47⟩ := hcut
    obtain ⟨w7, hw7⟩ : ∃ x, x = wc := ⟨_, rfl⟩
    subst hw7
    have h47 := hb47.out
    have h07 := Hb4.out.trans (h47.mono Hb4.out.size)
    have HLv7 := Lib.hid (HLv4.out.below (h47.mono Hbv4.out.size))
    have Hv7 := Lib.hid (Hbv4.out.trans (h47.mono Hbv4.out.size))
    have Htv := Lib.hid (toValS_n vs VA vc 0 w.heap.size w7 h07.size hvl (HV.out.below h07))
    have H07 := Lib.hid h07
    clear h47 hb47 h07 Ht qA0 qA1 qA2 qX0 qX1 qX2
    go_wp2_with fail
    refine Htv.out.mono ?_
    rintro e w7a ⟨yv, rfl, -, -, hLy, hby, -⟩
    have Hev := Lib.hid (eqValS_c vs (some ⟨xv, 0, none⟩) (some ⟨yv, 0, none⟩) vs.length vs.length (w3.heap.size + 1) w3v.heap.size w7.heap.size w7a.heap.size w7a (Nat.le_trans Hv7.out.size hby.size) (Nat.le_refl _) hvl (HLv7.out.below (hby.mono Hv7.out.size)) hLy)
    have Hby := Lib.hid hby
    clear hLy hby Htv
    go_wp2_with fail
    refine Hev.out.mono ?_
    rintro e w8 ⟨rfl, hb8⟩
    have h78 := Lib.hid (H07.out.trans ((Hby.out.trans (hb8.mono Hby.out.size)).mono H07.out.size))
    clear hb8 Hby Hev
    go_wp2
    go_ret
    exact ⟨rfl, h78.out⟩

set_option maxRecDepth 100000 in
theorem lifted (os : Os) (started : os.Started) (H : Type) (enc : TypeId × Value → H) :
    ReturnsInHanded {} Try.checked os 7 .any (Rows.fnExactCountedSpec.pre6 enc Try.prog Try.f7 Rows.fnExactCountedRow.domain false) (Rows.fnExactCountedSpec.post enc Try.prog Try.f7 false true false false) := by
  refine returnsInHanded_of_change (C := Try.checked) (s := Rows.fnExactCountedSpec) own started (by kernel_rfl) Try.func7
    (ChangeSpec.witness6 (enc := enc) (C := Try.checked) (s := Rows.fnExactCountedSpec) false ⟨#[], #[.agg #[.slice none 0 0, .slice none 0 0, .slice none 0 0], .slice none 0 0], []⟩ 8 (by kernel_rfl) (by kernel_rfl) (by kernel_rfl) (by kernel_rfl)) ?_
  intro W base args ds gs before hval hW _ _
  have hW' := hW
  obtain ⟨p, q, hA0, hV, rfl, hfz, hnd⟩ := hW
  have hA : DataW.TrodAll enc Try.prog W 0 (fun _ => true) true Try.f7.params.toList args.toList ds p := hA0
  replace hval : ∀ (j : Nat) t v, Try.f7.params[j]? = some t → args[j]? = some v → Value.okWide Try.prog W .any base t v := hval
  rw [Try.params7] at hA hval
  obtain ⟨v0, vs0, d0, ds0, p0, q0, hargs0, rfl, rfl, h0, r0⟩ := trodAll_cons hA
  obtain ⟨v1, vs1, d1, ds1, p1, q1, hargs1, rfl, rfl, h1, r1⟩ := trodAll_cons r0
  obtain ⟨rfl, rfl, rfl⟩ := trodAll_nil r1
  obtain rfl : args = #[v0, v1] := by cases args; simp_all
  obtain ⟨rfl, rfl⟩ := trodVars_none hV
  obtain ⟨A0, A1, A2, a, c0, c1, c2, rfl, hR⟩ := ArnOpen.open_arena (hval 0 25 v0 rfl rfl) h0
  obtain ⟨VA, vs, vc, rfl, hVv⟩ := ValOpen.open_vals (hval 1 39 v1 rfl rfl) h1
  refine (walk a A0 A1 A2 c0 c1 c2 vs VA vc W hR hVv).mono fun e W' ⟨he, hb⟩ => ?_
  subst he
  exact ⟨_, rfl, post_read hW' rfl rfl rfl rfl rfl Try.underlying4 laidOut (by kernel_rfl) hb⟩

theorem proved : Rows.FnExactCountedSaid :=
  OpenClaim.holds_of_wide 7 Try.f7 rfl rfl rfl rfl rfl rfl rfl ⟨rfl, rfl, rfl, rfl, rfl⟩ rfl rfl rfl rfl rfl (by kernel_rfl) Try.func7 (by kernel_rfl)
    (of_decide_eq_true (by kernel_rfl)) (by unfold Func.isWrapper; first | (rw [if_pos (by decide +kernel)]; kernel_rfl) | (rw [if_neg (by decide +kernel)]; exact ⟨rfl, rfl⟩))
    (fun os started H enc _ => lifted os started H enc)
end CountedLaw
end Go.Proofs.Ytpepikjcbgkcfaa
