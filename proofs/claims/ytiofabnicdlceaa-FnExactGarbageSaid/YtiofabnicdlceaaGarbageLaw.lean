/-
  At every arena and row of values Garbage answers as its model, writes into no argument, and its answer shares no memory with an argument or another answer. No condition.
-/
import Derived.Test.YtiofabnicdlceaaGarbS
import Derived.Test.YtiofabnicdlceaaGarbI
import Derived.Test.YtiofabnicdlceaaArnMarkD
import Derived.Test.YtiofabnicdlceaaValsMark
import Derived.Test.YtiofabnicdlceaaValsOpen
namespace Go.Proofs.Ytiofabnicdlceaa
open Go.ChangeShapes Go.WideShapes Go.ChangeAt Go.RowKit
set_option linter.unusedVariables false
namespace GarbageLaw

theorem cell_blk {w w' : World} {p : Addr} (h : w'.heap[p.block]? = w.heap[p.block]?) : w'.cell? p = w.cell? p := by
  unfold World.cell?
  rw [h]
theorem blw0 {w w' : World} {n : Nat} (h : w' = w.drewN n) : Below w.heap.size w w' := by subst h; exact ⟨rfl, rfl, rfl, Nat.le_refl _, fun _ _ => rfl⟩
theorem mkAr_le {a : Ar} (h : arSz a ≤ 1048576) : ArnM.mkAr a ≤ 100000000 := by
  have h1 := ArnM.mkSl_sum a.slots a.slots.length
  have h2 : slsSz a.slots ≤ 1048576 := by unfold arSz at h; omega
  have h3 : a.queue.length ≤ 1048576 := by unfold arSz at h; omega
  have h4 : a.purple.length ≤ 1048576 := by unfold arSz at h; omega
  unfold ArnM.mkAr
  unfold slsSz at h2
  omega

set_option maxRecDepth 100000 in
set_option maxHeartbeats 16000000 in
theorem walk (a : Ar) (A0 A1 A2 : Option Addr) (c0 c1 c2 : Nat) (vs : List Vl) (VA : Option Addr) (vc : Nat) (w : World) (hR : ArL w 0 w.heap.size A0 A1 A2 a) (hV : VlR w 0 w.heap.size VA vs) :
    Calls Try.prog 3 #[.agg #[.slice A0 a.slots.length c0, .slice A1 a.queue.length c1, .slice A2 a.purple.length c2], .slice VA vs.length vc] w fun e w' => e = .returned (.bool true) ∧ Below w.heap.size w w' := by
  have hbA := blw1 w (.cells #[.slice A0 a.slots.length c0, .slice A1 a.queue.length c1, .slice A2 a.purple.length c2] 25)
  have KA := Blk.new w 25 #[.slice A0 a.slots.length c0, .slice A1 a.queue.length c1, .slice A2 a.purple.length c2]
  have Hsz := Lib.hid (szArena_c a A0 A1 A2 c0 c1 c2 0 w.heap.size 1048576 (w.alloc (.cells #[.slice A0 a.slots.length c0, .slice A1 a.queue.length c1, .slice A2 a.purple.length c2] 25)) (by simp) (by omega) (by omega) (hR.below hbA))
  have HR := Lib.hid hR
  have HV := Lib.hid hV
  have HbA := Lib.hid hbA
  have HKA := Lib.hid KA
  have Hvm := Lib.hid hV.1
  clear hR hV hbA KA
  go_enter Try.func3, Try.ntmps3
  go_wp2_with fail
  refine Hsz.out.mono ?_
  rintro e w0 ⟨r, rfl, hr1, hr2, hr3, hbx⟩
  have hb0 := HbA.out.trans (hbx.mono HbA.out.size)
  have KA0 := HKA.out.below hbx HKA.out.lt
  have Hb0 := Lib.hid hb0
  by_cases hr : r < 0
  · clear hr3 hb0 KA0 hbx Hsz HbA HKA
    go_wp2
    go_ret
    exact ⟨rfl, Hb0.out⟩
  have hr' : 0 ≤ r := by omega
  have hsz : arSz a ≤ 1048576 := by have := hr3 hr'; omega
  have hr0 : decide (r < 0) = false := decide_eq_false hr
  have hlc := lft_cases r vs.length
  have Hsv := Lib.hid (szValS_c VA vs.length vc r w0 (by have := Hvm.out; unfold maxLen at this; omega) hr' hr2)
  obtain ⟨r2, hr2e⟩ : ∃ x, lft r vs.length = x := ⟨_, rfl⟩
  rw [hr2e] at Hsv hlc
  have qA := KA0.four3
  obtain ⟨qA0, qA1, qA2⟩ := qA
  have Hlc := Lib.hid hlc
  have HKA0 := Lib.hid KA0
  clear hlc hr2e hr3 hbx KA0 Hsz HbA HKA hr
  go_wp2_with fail
  refine Hsv.out.mono ?_
  rintro e w' ⟨rfl, rfl⟩
  by_cases hq : r2 < 0
  · clear hb0 Hsv
    go_wp2
    go_ret
    exact ⟨rfl, Hb0.out⟩
  have hvl : vs.length ≤ 1048576 := by rcases Hlc.out with ⟨h1, h2⟩ | ⟨h1, h2⟩ <;> omega
  have hq0 : decide (r2 < 0) = false := decide_eq_false hq
  have hlm : (garbA a vs).length ≤ 1048576 := garbA_bd a vs hsz
  have hspec := fun A0 A1 A2 c0 c1 c2 L B w VA vc LV BV => specGarbage_c a A0 A1 A2 c0 c1 c2 L B w vs VA vc LV BV
  have himpl := fun A0 A1 A2 c0 c1 c2 L B w VA vc LV BV => implGarbage_c a A0 A1 A2 c0 c1 c2 L B w vs VA vc LV BV
  obtain ⟨l, hl⟩ : ∃ l, garbA a vs = l := ⟨_, rfl⟩
  rw [hl] at hlm
  simp only [hl] at hspec himpl
  have Hspec := Lib.hid hspec
  have Himpl := Lib.hid himpl
  have Ht := Lib.hid (toArena_c a A0 A1 A2 c0 c1 c2 0 w.heap.size w0 hb0.size hsz (HR.out.below hb0))
  have Hszz := Lib.hid hsz
  have Hmkb := Lib.hid (mkAr_le hsz)
  clear hb0 hq hsz hspec himpl hl Hsv Hlc
  go_wp2_with fail
  refine Ht.out.mono ?_
  rintro e w1 ⟨s0, s1, s2, rfl, hL1, hb1⟩
  have hb01 := Hb0.out.trans (hb1.mono Hb0.out.size)
  have KA1 := HKA0.out.below hb1 HKA0.out.lt
  have Hv1 := Lib.hid (toValS_n vs VA vc 0 w.heap.size w1 hb01.size hvl (HV.out.below hb01))
  have HKA1 := Lib.hid KA1
  have HL1 := Lib.hid hL1
  have Hb1 := Lib.hid hb01
  clear hL1 hb1 hb01 KA1 qA0 qA1 qA2 HKA0 Hb0 Ht
  go_wp2_with fail
  refine Hv1.out.mono ?_
  rintro e w1b ⟨sv, rfl, -, -, hLv, hbv, -⟩
  have hb01b := Hb1.out.trans (hbv.mono Hb1.out.size)
  have KA1b := HKA1.out.below hbv HKA1.out.lt
  have Hsp := Lib.hid (Hspec.out (some ⟨s0, 0, none⟩) (some ⟨s1, 0, none⟩) (some ⟨s2, 0, none⟩) a.slots.length a.queue.length a.purple.length w0.heap.size w1.heap.size w1b (some ⟨sv, 0, none⟩) vs.length w1.heap.size w1b.heap.size hbv.size (Nat.le_refl _) (HL1.out.below hbv) Hszz.out (Nat.le_refl _) hLv.vl hvl)
  have HKA1b := Lib.hid KA1b
  have Hb1b := Lib.hid hb01b
  clear hLv hbv hb01b KA1b HKA1 Hb1 HL1 Hv1
  go_wp2_with fail
  refine Hsp.out.mono ?_
  rintro e w2 ⟨As, cs, rfl, hos, hb2⟩
  have Rs := Lib.hid (hos.ilg (by unfold maxLen; omega))
  have hb02 := Hb1b.out.trans (hb2.mono Hb1b.out.size)
  have KA2 := HKA1b.out.below hb2 HKA1b.out.lt
  obtain ⟨qA0, qA1, qA2⟩ := KA2.four3
  have Ht := Lib.hid (ArnN.toArena_n a A0 A1 A2 c0 c1 c2 0 w.heap.size w2 hb02.size Hszz.out (HR.out.below hb02))
  have HKA2 := Lib.hid KA2
  have HlA := Lib.hid KA2.lt
  have Hb2 := Lib.hid hb02
  clear hb2 hb02 KA2 HKA1b Hb1b Hsp hos
  go_wp2_with fail
  refine Ht.out.mono ?_
  rintro e w3 ⟨x0, x1, x2, rfl, hL3, hb3, hnw⟩
  have Hnw := Lib.hid hnw
  have hb03 := Hb2.out.trans (hb3.mono Hb2.out.size)
  have KA3 := HKA2.out.below hb3 HKA2.out.lt
  have hbX := blw1 w3 (.cells #[.slice (some ⟨x0, 0, none⟩) a.slots.length a.slots.length, .slice (some ⟨x1, 0, none⟩) a.queue.length a.queue.length, .slice (some ⟨x2, 0, none⟩) a.purple.length a.purple.length] 32)
  have KX := Blk.new w3 32 #[.slice (some ⟨x0, 0, none⟩) a.slots.length a.slots.length, .slice (some ⟨x1, 0, none⟩) a.queue.length a.queue.length, .slice (some ⟨x2, 0, none⟩) a.purple.length a.purple.length]
  have hb0X := hb03.trans (hbX.mono hb03.size)
  have Hv3 := Lib.hid (toValS_n vs VA vc 0 w.heap.size (w3.alloc (.cells #[.slice (some ⟨x0, 0, none⟩) a.slots.length a.slots.length, .slice (some ⟨x1, 0, none⟩) a.queue.length a.queue.length, .slice (some ⟨x2, 0, none⟩) a.purple.length a.purple.length] 32)) hb0X.size hvl (HV.out.below hb0X))
  have HKA3 := Lib.hid (KA3.below hbX KA3.lt)
  have HKX := Lib.hid KX
  have HL3 := Lib.hid (hL3.below hbX)
  have Hb3 := Lib.hid hb0X
  have Hb23 := Lib.hid (hb3.trans (hbX.mono hb3.size))
  have hB23 := hb3.size
  have HbX := Lib.hid hbX
  clear hL3 hb3 hb03 KA3 hbX KX qA0 qA1 qA2 HKA2 Hb2 Ht hnw hb0X
  go_wp2_with fail
  refine Hv3.out.mono ?_
  rintro e w3v ⟨xv, rfl, -, -, hLv3, hbv3, hnv⟩
  have hxs : (w3.alloc (.cells #[.slice (some ⟨x0, 0, none⟩) a.slots.length a.slots.length, .slice (some ⟨x1, 0, none⟩) a.queue.length a.queue.length, .slice (some ⟨x2, 0, none⟩) a.purple.length a.purple.length] 32)).heap.size = w3.heap.size + 1 := by simp
  rw [hxs] at hLv3 hnv
  have hb03v := Hb3.out.trans (hbv3.mono Hb3.out.size)
  have hb23v := Hb23.out.trans (hbv3.mono Hb23.out.size)
  have hb3v := HbX.out.trans (hbv3.mono HbX.out.size)
  have KA3v := HKA3.out.below hbv3 HKA3.out.lt
  have KX3v := HKX.out.below hbv3 HKX.out.lt
  have hL3v := HL3.out.below (hbv3.mono HbX.out.size)
  have hx3v : w3.heap.size < w3v.heap.size := KX3v.lt
  have Him := Lib.hid (Himpl.out (some ⟨x0, 0, none⟩) (some ⟨x1, 0, none⟩) (some ⟨x2, 0, none⟩) a.slots.length a.queue.length a.purple.length w2.heap.size w3.heap.size w3v (some ⟨xv, 0, none⟩) vs.length (w3.heap.size + 1) w3v.heap.size hb3v.size (Nat.le_refl _) hL3v Hszz.out hLv3.vl hvl)
  have HKA3v := Lib.hid KA3v
  have HKX3v := Lib.hid KX3v
  have HL3v := Lib.hid hL3v
  have HLv3 := Lib.hid hLv3
  have Hnv := Lib.hid hnv
  have Hb3v := Lib.hid hb03v
  have Hb23v := Lib.hid hb23v
  have Hb33v := Lib.hid hb3v
  obtain ⟨qX0, qX1, qX2⟩ := KX3v.four3
  clear hLv3 hbv3 hnv hxs hb03v hb23v hb3v KA3v KX3v hL3v HKA3 HKX HL3 Hb3 Hb23 HbX Hv3
  go_wp2_with fail
  refine Him.out.mono ?_
  rintro e w4 ⟨Ag, cg, rfl, hog, hb4⟩
  have hb04 := Hb3v.out.trans (hb4.mono Hb3v.out.size)
  have hb24 := Hb23v.out.trans (hb4.mono Hb23v.out.size)
  have hb34 := Hb33v.out.trans (hb4.mono Hb33v.out.size)
  have KA4 := HKA3v.out.below hb4 HKA3v.out.lt
  have KX4 := HKX3v.out.below hb4 HKX3v.out.lt
  have hL4 := HL3v.out.below (hb4.mono Hb33v.out.size)
  have Hq1 := Lib.hid (eqIntS_c l Ag As cg cs _ _ _ _ w4 (hog.ilg (by unfold maxLen; omega)) (Rs.out.below hb24))
  have HKA4 := Lib.hid KA4
  have HKX4 := Lib.hid KX4
  have HL4 := Lib.hid hL4
  have HLv4 := Lib.hid (HLv3.out.below hb4)
  have Hog := Lib.hid hog
  have Hb4 := Lib.hid hb04
  have Hb24 := Lib.hid hb24
  have Hb34 := Lib.hid hb34
  have Hbv4 := Lib.hid hb4
  clear hb4 hb04 hb24 hb34 KA4 KX4 hL4 HKA3v HKX3v HL3v HLv3 Hb3v Hb23v Hb33v Him hog qX0 qX1 qX2
  go_wp2_with fail
  refine Hq1.out.mono ?_
  rintro e w5 ⟨rfl, n5, hw5⟩
  have hb45 := blw0 hw5
  have hb05 := Hb4.out.trans (hb45.mono Hb4.out.size)
  have KA5 := HKA4.out.below hb45 HKA4.out.lt
  have KX5 := HKX4.out.below hb45 HKX4.out.lt
  have hL5 := HL4.out.below (hb45.mono Hb34.out.size)
  have hLv5 := HLv4.out.below (hb45.mono Hbv4.out.size)
  have hX5 : w3.heap.size ≤ w5.heap.size := Nat.le_trans Hb34.out.size hb45.size
  obtain ⟨qA0, qA1, qA2⟩ := KA5.four3
  obtain ⟨qX0, qX1, qX2⟩ := KX5.four3
  have Ht := Lib.hid (fun m => toArena_c a A0 A1 A2 c0 c1 c2 0 w.heap.size (w5.drewN m) hb05.size Hszz.out ((HR.out.below hb05).keep (w' := w5.drewN m) fun _ _ _ => rfl))
  have HKA5 := Lib.hid KA5
  have HKX5 := Lib.hid KX5
  have HL5 := Lib.hid hL5
  have HLv5 := Lib.hid hLv5
  have Hb5 := Lib.hid hb05
  have Hb25 := Lib.hid (Hb24.out.trans (hb45.mono Hb24.out.size))
  have Hb35 := Lib.hid (Hb34.out.trans (hb45.mono Hb34.out.size))
  have Hbv5 := Lib.hid (Hbv4.out.trans (hb45.mono Hbv4.out.size))
  have Hog5 := Lib.hid (Hog.out.below hb45)
  have HX5 := Lib.hid hX5
  clear hw5 hb45 hb05 KA5 KX5 hL5 hLv5 hX5 HKA4 HKX4 HL4 HLv4 Hb4 Hb24 Hb34 Hbv4 Hog Hq1
  go_upto_region 14 with fail
  go_cut [44] (fun b wx => b = .bool false ∧ Hid (Below w5.heap.size w5 wx))
  case first =>
    go_region_with (first
      | (go_at_call 11; refine (Ht.out 1).mono ?_; rintro e w6 ⟨y0, y1, y2, rfl, hL6, hb6⟩; have hb56 : Below w5.heap.size w5 w6 := ⟨hb6.os, hb6.tape, hb6.output, hb6.size, hb6.block⟩; obtain ⟨qY0, qY1, qY2⟩ := (HKX5.out.below hb56 HKX5.out.lt).four3; have Heq := Lib.hid (eqArena_c a (some ⟨x0, 0, none⟩) (some ⟨x1, 0, none⟩) (some ⟨x2, 0, none⟩) (some ⟨y0, 0, none⟩) (some ⟨y1, 0, none⟩) (some ⟨y2, 0, none⟩) a.slots.length a.queue.length a.purple.length a.slots.length a.queue.length a.purple.length _ w3.heap.size _ w6.heap.size w6 (Nat.le_trans HX5.out hb56.size) (Nat.le_refl _) Hszz.out (HL5.out.below (hb56.mono HX5.out)) hL6); have Hb56 := Lib.hid hb56; clear hL6 hb6 hb56 Ht)
      | (go_at_call 15; refine Heq.out.mono ?_; rintro e w7 ⟨rfl, hb7⟩))
    all_goals
      try go_wp2_with fail
      go_meet
      case rel => exact ⟨by simp, Lib.hid (Hb56.out.trans (hb7.mono Hb56.out.size))⟩
  case rest =>
    obtain ⟨rfl, hb57⟩ := hcut
    obtain ⟨w7, hw7⟩ : ∃ x, x = wc := ⟨_, rfl⟩
    subst hw7
    have h57 := hb57.out
    have h07 := Hb5.out.trans (h57.mono Hb5.out.size)
    have HKX7 := Lib.hid (HKX5.out.below h57 HKX5.out.lt)
    have HKA7 := Lib.hid (HKA5.out.below h57 HKA5.out.lt)
    have HL7 := Lib.hid (HL5.out.below (h57.mono HX5.out))
    have HLv7 := Lib.hid (HLv5.out.below (h57.mono Hbv5.out.size))
    have H27 := Lib.hid (Hb25.out.trans (h57.mono Hb25.out.size))
    have H37 := Lib.hid (Hb35.out.trans (h57.mono Hb35.out.size))
    have Hv7 := Lib.hid (Hbv5.out.trans (h57.mono Hbv5.out.size))
    have Hog7 := Lib.hid (Hog5.out.below h57)
    have Htv := Lib.hid (toValS_n vs VA vc 0 w.heap.size w7 h07.size hvl (HV.out.below h07))
    have H07 := Lib.hid h07
    clear h57 hb57 h07 HKX5 HKA5 HL5 HLv5 Hb5 Hb25 Hb35 Hbv5 Hog5 HX5 Ht qA0 qA1 qA2 qX0 qX1 qX2
    go_wp2_with fail
    refine Htv.out.mono ?_
    rintro e w7a ⟨yv, rfl, -, -, hLy, hby, -⟩
    have Hev := Lib.hid (eqValS_c vs (some ⟨xv, 0, none⟩) (some ⟨yv, 0, none⟩) vs.length vs.length (w3.heap.size + 1) w3v.heap.size w7.heap.size w7a.heap.size w7a (Nat.le_trans Hv7.out.size hby.size) (Nat.le_refl _) hvl (HLv7.out.below (hby.mono Hv7.out.size)) hLy)
    have Hby := Lib.hid hby
    clear hLy hby Htv
    go_wp2_with fail
    refine Hev.out.mono ?_
    rintro e w8 ⟨rfl, hb8⟩
    have h78 := Hby.out.trans (hb8.mono Hby.out.size)
    have KX8 := HKX7.out.below h78 HKX7.out.lt
    have KA8 := HKA7.out.below h78 HKA7.out.lt
    have hv8 := Hv7.out.trans (h78.mono Hv7.out.size)
    have h38 := H37.out.trans (h78.mono H37.out.size)
    have h28 := H27.out.trans (h78.mono H27.out.size)
    have hL8 := HL7.out.below (h78.mono H37.out.size)
    obtain ⟨qX0, qX1, qX2⟩ := KX8.four3
    have hT8 : ArnM.Thaw w2.heap.size w3.heap.size w8 := fun k h1 h2 => by
      obtain ⟨cs', t', e'⟩ := Hnw.out k h1 h2
      exact ⟨cs', t', (h38.block k h2).trans e'⟩
    have Hmk := Lib.hid (ArnM.markArena_m a (some ⟨x0, 0, none⟩) (some ⟨x1, 0, none⟩) (some ⟨x2, 0, none⟩) a.slots.length a.queue.length a.purple.length w2.heap.size w3.heap.size 1 w8 h38.size hB23 Hszz.out (by omega) hT8 hL8)
    have HLv8 := Lib.hid (HLv7.out.below (h78.mono Hv7.out.size))
    have Hog8 := Lib.hid (Hog7.out.below h78)
    have H08 := Lib.hid (H07.out.trans (h78.mono H07.out.size))
    have H28 := Lib.hid h28
    have HKA8 := Lib.hid KA8
    have Hv8 := Lib.hid hv8
    have h02 : w.heap.size < w2.heap.size := HlA.out
    clear KX8 KA8 hL8 h38 hT8 h78 hb8 h28 hv8 HKX7 HKA7 HL7 HLv7 Hog7 H07 H27 H37 Hv7 Hby Hev
    go_wp2_with fail
    refine Hmk.out.mono ?_
    rintro e w9 ⟨rfl, hb89, hap⟩
    have hub : 1 + ArnM.mkAr a ≤ 1073741824 := by have := Hmkb.out; omega
    obtain ⟨u, hu⟩ : ∃ u : Nat, 1 + ArnM.mkAr a = u := ⟨_, rfl⟩
    rw [hu] at hub ⊢
    have hT9 : ArnM.Thaw (w3.heap.size + 1) w3v.heap.size w9 := fun k h1 h2 => by
      obtain ⟨cs', t', e'⟩ := Hnv.out k h1 h2
      exact ⟨cs', t', (hap k (Nat.lt_of_lt_of_le h2 Hv8.out.size) (.inr (by omega))).trans ((Hv8.out.block k h2).trans e')⟩
    have hLv9 : VlR w9 (w3.heap.size + 1) w3v.heap.size (some ⟨xv, 0, none⟩) vs := HLv8.out.keep (fun p h1 h2 => cell_blk (hap p.block (Nat.lt_of_lt_of_le h2 Hv8.out.size) (.inr (by omega))))
    have Hmv := Lib.hid (markValS_m vs (some ⟨xv, 0, none⟩) vs.length (w3.heap.size + 1) w3v.heap.size u w9 hvl hub hT9 hLv9)
    have hog9 := Hog8.out.keep (w' := w9) (fun b h1 h2 => hap b h2 (.inr (by omega)))
    have H29 := Lib.hid (H28.out.trans hb89)
    have H09 := Lib.hid (H08.out.trans (hb89.mono (Nat.le_of_lt h02)))
    have HKA9 := Lib.hid (HKA8.out.below hb89 h02)
    have Hog9 := Lib.hid hog9
    have h89 := hb89.size
    have hv9 : w3v.heap.size ≤ w9.heap.size := Nat.le_trans Hv8.out.size h89
    clear hb89 hap hu hT9 hLv9 hog9 h89 Hmk HLv8 Hog8 H08 H28 HKA8 Hv8 qX0 qX1 qX2
    go_wp2_with fail
    refine Hmv.out.mono ?_
    rintro e w10 ⟨rfl, hmk, -⟩
    have hub2 : u + 3 * vs.length ≤ 1099511627776 := by omega
    obtain ⟨u2, hu2⟩ : ∃ u2 : Nat, u + 3 * vs.length = u2 := ⟨_, rfl⟩
    rw [hu2] at hub2 ⊢
    have hu0 : decide ((u2 : Int) < 0) = false := decide_eq_false (by omega)
    have hb910 := hmk.below
    have hb910' : Below w2.heap.size w9 w10 := hb910.mono (by omega)
    have hog10 := Hog9.out.keep (w' := w10) (fun b h1 h2 => hmk.block b (.inr h1))
    have h2x := H29.out.trans hb910'
    have h0x := H09.out.trans (hb910'.mono (Nat.le_of_lt h02))
    have KAx := HKA9.out.below hb910' h02
    have Hq2 := Lib.hid (eqIntS_c l Ag As cg cs _ _ _ _ w10 (hog10.ilg (by unfold maxLen; omega)) (Rs.out.below h2x))
    have Hog10 := Lib.hid hog10
    have H2x := Lib.hid h2x
    have H0x := Lib.hid h0x
    have HKAx := Lib.hid KAx
    have hvx : w3v.heap.size ≤ w10.heap.size := Nat.le_trans hv9 hb910.size
    clear hmk hu2 hb910 hb910' hog10 h2x h0x KAx Hmv H29 H09 HKA9 Hog9 hv9
    go_wp2_with fail
    refine Hq2.out.mono ?_
    rintro e w11 ⟨rfl, n11, hw11⟩
    have hxy := blw0 hw11
    have hog11 := Hog10.out.below hxy
    have Hm := Lib.hid (markIntS_c l.length Ag cg w3v.heap.size 1 (gI l) w11 (by omega) hog11)
    have H2y := Lib.hid (H2x.out.trans (hxy.mono H2x.out.size))
    have H0y := Lib.hid (H0x.out.trans (hxy.mono H0x.out.size))
    have HKAy := Lib.hid (HKAx.out.below hxy HKAx.out.lt)
    clear hw11 hxy hog11 Hq2 Hog10 H2x H0x HKAx
    go_wp2_with fail
    refine Hm.out.mono ?_
    rintro e w12 ⟨rfl, hoa, hsa, hba, -⟩
    have Hh := Lib.hid (fun W (hx : OwnI W w3v.heap.size Ag l.length (fun i => ((1 + i : Nat) : Int))) => heldIntS_c l.length Ag cg w3v.heap.size 1 W (by omega) hx)
    obtain ⟨m, hm⟩ : ∃ m : Nat, 1 + l.length = m := ⟨_, rfl⟩
    rw [hm] at Hh
    rw [hm]
    have hm0 : decide ((m : Int) < 0) = false := decide_eq_false (by omega)
    have h2a := H2y.out.trans (hba.mono (by omega))
    have h0a := H0y.out.trans (hba.mono (by omega))
    have KAa := HKAy.out.below (hba.mono (by omega : w.heap.size + 1 ≤ w3v.heap.size)) (by omega)
    obtain ⟨qA0, qA1, qA2⟩ := KAa.four3
    have Ht := Lib.hid (toArena_c a A0 A1 A2 c0 c1 c2 0 w.heap.size w12 h0a.size Hszz.out (HR.out.below h0a))
    have Hoa := Lib.hid hoa
    have H2a := Lib.hid h2a
    have H0a := Lib.hid h0a
    clear Hm hm hoa hsa hba h2a h0a KAa H2y H0y HKAy
    go_wp2_with fail
    refine (Hh.out w12 Hoa.out).mono ?_
    rintro e w' ⟨rfl, rfl⟩
    go_wp2_with fail
    refine Ht.out.mono ?_
    rintro e w13 ⟨y0, y1, y2, rfl, hLb, hb13⟩
    have h0b := H0a.out.trans (hb13.mono H0a.out.size)
    have Htv := Lib.hid (toValS_n vs VA vc 0 w.heap.size w13 h0b.size hvl (HV.out.below h0b))
    have HLb := Lib.hid hLb
    have Hb13 := Lib.hid hb13
    clear hLb hb13 h0b Ht qA0 qA1 qA2
    go_wp2_with fail
    refine Htv.out.mono ?_
    rintro e w13v ⟨zv, rfl, -, -, hLz, hbz, -⟩
    have Hi2 := Lib.hid (Himpl.out (some ⟨y0, 0, none⟩) (some ⟨y1, 0, none⟩) (some ⟨y2, 0, none⟩) a.slots.length a.queue.length a.purple.length w12.heap.size w13.heap.size w13v (some ⟨zv, 0, none⟩) vs.length w13.heap.size w13v.heap.size hbz.size (Nat.le_refl _) (HLb.out.below hbz) Hszz.out hLz.vl hvl)
    have Hb13v := Lib.hid (Hb13.out.trans (hbz.mono Hb13.out.size))
    clear hLz hbz HLb Hb13 Htv
    go_wp2_with fail
    refine Hi2.out.mono ?_
    rintro e w14 ⟨Ah, ch, rfl, hoh, hb14⟩
    have hbac := Hb13v.out.trans (hb14.mono Hb13v.out.size)
    have h2c := H2a.out.trans (hbac.mono H2a.out.size)
    have Hq3 := Lib.hid (eqIntS_c l Ah As ch cs _ _ _ _ w14 (hoh.ilg (by unfold maxLen; omega)) (Rs.out.below h2c))
    have Hbac := Lib.hid hbac
    clear hoh hbac h2c hb14 Hi2 Hb13v
    go_wp2_with fail
    refine Hq3.out.mono ?_
    rintro e w15 ⟨rfl, n15, hw15⟩
    have hcd := blw0 hw15
    have had := Hbac.out.trans (hcd.mono Hbac.out.size)
    have Hh2 := Lib.hid (Hh.out w15 (Hoa.out.below had))
    have H0d := Lib.hid (H0a.out.trans (had.mono H0a.out.size))
    clear hw15 hcd had Hbac Hq3
    go_wp2_with fail
    refine Hh2.out.mono ?_
    rintro e w' ⟨rfl, rfl⟩
    go_wp2
    go_ret
    exact ⟨rfl, H0d.out⟩

set_option maxRecDepth 100000 in
theorem lifted (os : Os) (started : os.Started) (H : Type) (enc : TypeId × Value → H) :
    ReturnsInHanded {} Try.checked os 3 .any (Rows.fnExactGarbageSpec.pre6 enc Try.prog Try.f3 Rows.fnExactGarbageRow.domain false) (Rows.fnExactGarbageSpec.post enc Try.prog Try.f3 false true false false) := by
  refine returnsInHanded_of_change (C := Try.checked) (s := Rows.fnExactGarbageSpec) own started (by kernel_rfl) Try.func3
    (ChangeSpec.witness6 (enc := enc) (C := Try.checked) (s := Rows.fnExactGarbageSpec) false ⟨#[], #[.agg #[.slice none 0 0, .slice none 0 0, .slice none 0 0], .slice none 0 0], []⟩ 8 (by kernel_rfl) (by kernel_rfl) (by kernel_rfl) (by kernel_rfl)) ?_
  intro W base args ds gs before hval hW _ _
  have hW' := hW
  obtain ⟨p, q, hA0, hV, rfl, hfz, hnd⟩ := hW
  have hA : DataW.TrodAll enc Try.prog W 0 (fun _ => true) true Try.f3.params.toList args.toList ds p := hA0
  replace hval : ∀ (j : Nat) t v, Try.f3.params[j]? = some t → args[j]? = some v → Value.okWide Try.prog W .any base t v := hval
  rw [Try.params3] at hA hval
  obtain ⟨v0, vs0, d0, ds0, p0, q0, hargs0, rfl, rfl, h0, r0⟩ := trodAll_cons hA
  obtain ⟨v1, vs1, d1, ds1, p1, q1, hargs1, rfl, rfl, h1, r1⟩ := trodAll_cons r0
  obtain ⟨rfl, rfl, rfl⟩ := trodAll_nil r1
  obtain rfl : args = #[v0, v1] := by cases args; simp_all
  obtain ⟨rfl, rfl⟩ := trodVars_none hV
  obtain ⟨A0, A1, A2, a, c0, c1, c2, rfl, hR⟩ := ArnOpen.open_arena (hval 0 25 v0 rfl rfl) h0
  obtain ⟨VA, vs, vc, rfl, hVv⟩ := ValOpen.open_vals (hval 1 26 v1 rfl rfl) h1
  refine (walk a A0 A1 A2 c0 c1 c2 vs VA vc W hR hVv).mono fun e W' ⟨he, hb⟩ => ?_
  subst he
  exact ⟨_, rfl, post_read hW' rfl rfl rfl rfl rfl Try.underlying4 laidOut (by kernel_rfl) hb⟩

theorem proved : Rows.FnExactGarbageSaid :=
  OpenClaim.holds_of_wide 3 Try.f3 rfl rfl rfl rfl rfl rfl rfl ⟨rfl, rfl, rfl, rfl, rfl⟩ rfl rfl rfl rfl rfl (by kernel_rfl) Try.func3 (by kernel_rfl)
    (of_decide_eq_true (by kernel_rfl)) (by unfold Func.isWrapper; first | (rw [if_pos (by decide +kernel)]; kernel_rfl) | (rw [if_neg (by decide +kernel)]; exact ⟨rfl, rfl⟩))
    (fun os started H enc _ => lifted os started H enc)
end GarbageLaw
end Go.Proofs.Ytiofabnicdlceaa
