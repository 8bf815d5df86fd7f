/-
  At every arena ArenaBytes answers as its model, writes into no argument, and its answer shares no memory with an argument or another answer. No condition.
-/
import Derived.Test.YtfmlgpnjckamjaaFrzA
import Derived.Test.YtfmlgpnjckamjaaOwnU
import Derived.Test.YtfmlgpnjckamjaaMmark
import Derived.Test.YtfmlgpnjckamjaaMarn
import Derived.Test.YtfmlgpnjckamjaaBytes
import Derived.Test.YtfmlgpnjckamjaaOpen
import Derived.Deep.DeepCutAuto
import Derived.Deep.RegionWith
import Derived.Test.YtfmlgpnjckamjaaArnMarkD
import Derived.Test.YtfmlgpnjckamjaaArnOpen
namespace Go.Proofs.Ytfmlgpnjckamjaa
open Go.ChangeShapes Go.WideShapes Go.ChangeAt Go.RowKit
set_option linter.unusedVariables false
namespace ArenaBytesLaw
theorem blq1 (w : World) (o : Obj) : Below w.heap.size w (w.alloc o) := (Below.refl _ _).alloc (Nat.le_refl _) o
theorem thr3 {w : World} {g : Nat} {t : TypeId} {a b c : Value} (h : Blk w g t #[a, b, c]) : w.cell? ⟨g, 0, none⟩ = some a ∧ w.cell? ⟨g, 1, none⟩ = some b ∧ w.cell? ⟨g, 2, none⟩ = some c := ⟨h.cel 0 rfl, h.cel 1 rfl, h.cel 2 rfl⟩

set_option maxRecDepth 100000 in
set_option maxHeartbeats 8000000 in
theorem walk (a : Ar) (A0 A1 A2 : Option Addr) (c0 c1 c2 : Nat) (w : World) (hR : ArL w 0 w.heap.size A0 A1 A2 a) :
    Calls Try.prog 3 #[.agg #[.slice A0 a.slots.length c0, .slice A1 a.queue.length c1, .slice A2 a.purple.length c2]] w fun e w' => e = .returned (.bool true) ∧ Below w.heap.size w w' := by
  have hbA := blq1 w (.cells #[.slice A0 a.slots.length c0, .slice A1 a.queue.length c1, .slice A2 a.purple.length c2] 25)
  have KA := Blk.new w 25 #[.slice A0 a.slots.length c0, .slice A1 a.queue.length c1, .slice A2 a.purple.length c2]
  have Hsz := Lib.hid (szArena_c a A0 A1 A2 c0 c1 c2 0 w.heap.size 0x100000 (w.alloc (.cells #[.slice A0 a.slots.length c0, .slice A1 a.queue.length c1, .slice A2 a.purple.length c2] 25)) (by simp) (by omega) (by omega) (hR.below hbA))
  have HR := Lib.hid hR
  have HbA := Lib.hid hbA
  have HKA := Lib.hid KA
  clear hR hbA KA
  go_enter Try.func3, Try.ntmps3
  go_wp2_with fail
  refine Hsz.out.mono ?_
  rintro e w0 ⟨r, rfl, hr1, hr2, hr3, hbx⟩
  have hb0 := HbA.out.trans (hbx.mono HbA.out.size)
  have KA0 := HKA.out.below hbx HKA.out.lt
  have Hb0 := Lib.hid hb0
  by_cases hr : r < 0
  · clear hr3 hb0 KA0 hbx Hsz HbA HKA
    go_wp2
    go_ret
    exact ⟨rfl, Hb0.out⟩
  have hr' : 0 ≤ r := by omega
  have hsz : arSz a ≤ 1050000 := by have := hr3 hr'; omega
  have hr0 : decide (r < 0) = false := decide_eq_false hr
  have hlm : (Frz.frzB a).length ≤ 500000000 := Frz.frzB_bd hsz
  have hspec := fun A0 A1 A2 c0 c1 c2 L B w => Frz.specArenaBytes_c a A0 A1 A2 c0 c1 c2 L B w
  have himpl := fun A0 A1 A2 c0 c1 c2 L B w => Frz.implArenaBytes_c a A0 A1 A2 c0 c1 c2 L B w
  obtain ⟨l, hl⟩ : ∃ l, Frz.frzB a = l := ⟨_, rfl⟩
  rw [hl] at hlm
  simp only [hl] at hspec himpl
  obtain ⟨bo, hbo⟩ : ∃ b, arOk a = b := ⟨_, rfl⟩
  simp only [hbo] at hspec himpl
  have Hspec := Lib.hid hspec
  have Himpl := Lib.hid himpl
  have Ht := Lib.hid (toArena_c a A0 A1 A2 c0 c1 c2 0 w.heap.size w0 hb0.size hsz (HR.out.below hb0))
  have qA := (thr3 KA0)
  obtain ⟨qA0, qA1, qA2⟩ := qA
  have HKA0 := Lib.hid KA0
  have Hszz := Lib.hid hsz
  clear hr3 hbx KA0 hb0 Hsz HbA HKA hr hsz hspec himpl hl hbo
  go_wp2_with fail
  refine Ht.out.mono ?_
  rintro e w1 ⟨s0, s1, s2, rfl, hL1, hb1⟩
  have hb01 := Hb0.out.trans (hb1.mono Hb0.out.size)
  have KA1 := HKA0.out.below hb1 HKA0.out.lt
  have Hsp := Lib.hid (Hspec.out (some ⟨s0, 0, none⟩) (some ⟨s1, 0, none⟩) (some ⟨s2, 0, none⟩) a.slots.length a.queue.length a.purple.length w0.heap.size w1.heap.size w1 (Nat.le_refl _) hL1 Hszz.out (Nat.le_refl _))
  have HKA1 := Lib.hid KA1
  have Hb1 := Lib.hid hb01
  clear hL1 hb1 hb01 KA1 qA0 qA1 qA2 HKA0 Hb0 Ht
  go_wp2_with fail
  refine Hsp.out.mono ?_
  rintro e w2 ⟨As, cs, rfl, hos, hb2⟩
  have Rs := Lib.hid (hos.ownU.rb)
  have hb02 := Hb1.out.trans (hb2.mono Hb1.out.size)
  have KA2 := HKA1.out.below hb2 HKA1.out.lt
  obtain ⟨qA0, qA1, qA2⟩ := (thr3 KA2)
  have Ht := Lib.hid (ArnN.toArena_n a A0 A1 A2 c0 c1 c2 0 w.heap.size w2 hb02.size Hszz.out (HR.out.below hb02))
  have HKA2 := Lib.hid KA2
  have HlA := Lib.hid KA2.lt
  have Hb2 := Lib.hid hb02
  clear hb2 hb02 KA2 HKA1 Hb1 Hsp hos
  go_wp2_with fail
  refine Ht.out.mono ?_
  rintro e w3 ⟨x0, x1, x2, rfl, hL3, hb3, hnw⟩
  have Hnw := Lib.hid hnw
  have hb03 := Hb2.out.trans (hb3.mono Hb2.out.size)
  have KA3 := HKA2.out.below hb3 HKA2.out.lt
  have hbX := blq1 w3 (.cells #[.slice (some ⟨x0, 0, none⟩) a.slots.length a.slots.length, .slice (some ⟨x1, 0, none⟩) a.queue.length a.queue.length, .slice (some ⟨x2, 0, none⟩) a.purple.length a.purple.length] 32)
  have KX := Blk.new w3 32 #[.slice (some ⟨x0, 0, none⟩) a.slots.length a.slots.length, .slice (some ⟨x1, 0, none⟩) a.queue.length a.queue.length, .slice (some ⟨x2, 0, none⟩) a.purple.length a.purple.length]
  have Him := Lib.hid (Himpl.out (some ⟨x0, 0, none⟩) (some ⟨x1, 0, none⟩) (some ⟨x2, 0, none⟩) a.slots.length a.queue.length a.purple.length w2.heap.size w3.heap.size (w3.alloc (.cells #[.slice (some ⟨x0, 0, none⟩) a.slots.length a.slots.length, .slice (some ⟨x1, 0, none⟩) a.queue.length a.queue.length, .slice (some ⟨x2, 0, none⟩) a.purple.length a.purple.length] 32)) (by simp) (hL3.below hbX) Hszz.out)
  have HKA3 := Lib.hid (KA3.below hbX KA3.lt)
  have HKX := Lib.hid KX
  have HL3 := Lib.hid (hL3.below hbX)
  have Hb3 := Lib.hid (hb03.trans (hbX.mono hb03.size))
  have hs3 : w3.heap.size < (w3.alloc (.cells #[.slice (some ⟨x0, 0, none⟩) a.slots.length a.slots.length, .slice (some ⟨x1, 0, none⟩) a.queue.length a.queue.length, .slice (some ⟨x2, 0, none⟩) a.purple.length a.purple.length] 32)).heap.size := by simp
  have Hb23 := Lib.hid (hb3.trans (hbX.mono hb3.size))
  have hB23 := hb3.size
  have HbX := Lib.hid hbX
  clear hL3 hb3 hb03 KA3 hbX KX qA0 qA1 qA2 HKA2 Hb2 Ht hnw
  go_wp2_with fail
  refine Him.out.mono ?_
  rintro e w4 ⟨Ag, cg, rfl, hog0, hb4⟩
  have hog := hog0.ownU.lo_le (Nat.le_of_lt hs3)
  have hb04 := Hb3.out.trans (hb4.mono Hb3.out.size)
  have hb24 := Hb23.out.trans (hb4.mono Hb23.out.size)
  have hb34 := HbX.out.trans (hb4.mono HbX.out.size)
  have KA4 := HKA3.out.below hb4 HKA3.out.lt
  have KX4 := HKX.out.below hb4 HKX.out.lt
  have hL4 := HL3.out.below (hb4.mono (Nat.le_of_lt hs3))
  have hX4 : w3.heap.size ≤ w4.heap.size := Nat.le_trans (Nat.le_of_lt hs3) hb4.size
  have Hq1 := Lib.hid (eqByteS_c l Ag As cg cs _ _ w4 (by omega) hog.rb (Rs.out.below hb24))
  have HKA4 := Lib.hid KA4
  have HKX4 := Lib.hid KX4
  have HL4 := Lib.hid hL4
  have Hog := Lib.hid hog
  have Hb4 := Lib.hid hb04
  have Hb24 := Lib.hid hb24
  have Hb34 := Lib.hid hb34
  clear hb4 hb04 hb24 hb34 KA4 KX4 hL4 HKA3 HKX HL3 Hb3 hs3 Him hog hog0 Hb23 HbX
  go_wp2_with fail
  refine Hq1.out.mono ?_
  rintro e w5 ⟨rfl, n5, hw5⟩
  have hb45 : Below w4.heap.size w4 w5 := by subst hw5; exact ⟨rfl, rfl, rfl, Nat.le_refl _, fun _ _ => rfl⟩
  have hb05 := Hb4.out.trans (hb45.mono Hb4.out.size)
  have KA5 := HKA4.out.below hb45 HKA4.out.lt
  have KX5 := HKX4.out.below hb45 HKX4.out.lt
  have hL5 := HL4.out.below (hb45.mono hX4)
  have hX5 : w3.heap.size ≤ w5.heap.size := Nat.le_trans hX4 hb45.size
  obtain ⟨qA0, qA1, qA2⟩ := (thr3 KA5)
  obtain ⟨qX0, qX1, qX2⟩ := (thr3 KX5)
  have Ht := Lib.hid (fun m => toArena_c a A0 A1 A2 c0 c1 c2 0 w.heap.size (w5.drewN m) hb05.size Hszz.out ((HR.out.below hb05).keep (w' := w5.drewN m) fun _ _ _ => rfl))
  have HKA5 := Lib.hid KA5
  have HKX5 := Lib.hid KX5
  have HL5 := Lib.hid hL5
  have Hb5 := Lib.hid hb05
  have Hb25 := Lib.hid (Hb24.out.trans (hb45.mono Hb24.out.size))
  have Hb35 := Lib.hid (Hb34.out.trans (hb45.mono Hb34.out.size))
  have Hog5 := Lib.hid (Hog.out.below hb45)
  have HX5 := Lib.hid hX5
  clear hw5 hb45 hb05 KA5 KX5 hL5 hX5 hX4 HKA4 HKX4 HL4 Hb4 Hb24 Hb34 Hog Hq1
  go_upto_region 10 with fail
  go_cut [45] (fun b wx => b = .bool false ∧ Hid (Below w5.heap.size w5 wx))
  case first =>
    go_region_with (first
      | (go_at_call 11; refine (Ht.out 1).mono ?_; rintro e w6 ⟨y0, y1, y2, rfl, hL6, hb6⟩; have hb56 : Below w5.heap.size w5 w6 := ⟨hb6.os, hb6.tape, hb6.output, hb6.size, hb6.block⟩; obtain ⟨qY0, qY1, qY2⟩ := (thr3 (HKX5.out.below hb56 HKX5.out.lt)); have Heq := Lib.hid (eqArena_c a (some ⟨x0, 0, none⟩) (some ⟨x1, 0, none⟩) (some ⟨x2, 0, none⟩) (some ⟨y0, 0, none⟩) (some ⟨y1, 0, none⟩) (some ⟨y2, 0, none⟩) a.slots.length a.queue.length a.purple.length a.slots.length a.queue.length a.purple.length _ w3.heap.size _ w6.heap.size w6 (Nat.le_trans HX5.out hb56.size) (Nat.le_refl _) Hszz.out (HL5.out.below (hb56.mono HX5.out)) hL6); have Hb56 := Lib.hid hb56; clear hL6 hb6 hb56 Ht)
      | (go_at_call 14; refine Heq.out.mono ?_; rintro e w7 ⟨rfl, hb7⟩))
    all_goals
      try go_wp2_with fail
      go_meet
      case rel => exact ⟨by simp, Lib.hid (Hb56.out.trans (hb7.mono Hb56.out.size))⟩
  case rest =>
    obtain ⟨rfl, hb57⟩ := hcut
    obtain ⟨w7, hw7⟩ : ∃ x, x = wc := ⟨_, rfl⟩
    subst hw7
    have h57 := hb57.out
    have KX7 := HKX5.out.below h57 HKX5.out.lt
    have KA7 := HKA5.out.below h57 HKA5.out.lt
    obtain ⟨qX0, qX1, qX2⟩ := (thr3 KX7)
    have hL7 := HL5.out.below (h57.mono HX5.out)
    have h37 := Hb35.out.trans (h57.mono Hb35.out.size)
    have hT7 : ArnM.Thaw w2.heap.size w3.heap.size w7 := fun k h1 h2 => by
      obtain ⟨cs', t', e'⟩ := Hnw.out k h1 h2
      exact ⟨cs', t', (h37.block k h2).trans e'⟩
    have Hmk := Lib.hid (ArnM.markArena_m a (some ⟨x0, 0, none⟩) (some ⟨x1, 0, none⟩) (some ⟨x2, 0, none⟩) a.slots.length a.queue.length a.purple.length w2.heap.size w3.heap.size 1 w7 h37.size hB23 Hszz.out (by omega) hT7 hL7)
    have Hog7 := Lib.hid (Hog5.out.below h57)
    have Hb07 := Lib.hid (Hb5.out.trans (h57.mono Hb5.out.size))
    have Hb27 := Lib.hid (Hb25.out.trans (h57.mono Hb25.out.size))
    have HKA7 := Lib.hid KA7
    have hwk := KA7.lt
    have h02 : w.heap.size < w2.heap.size := HlA.out
    clear KX7 KA7 hL7 h37 hT7 h57 hb57 HKX5 HKA5 HL5 Hb35 Hog5 Hb25 Hb5 HX5 Ht
    go_wp2_with fail
    refine Hmk.out.mono ?_
    rintro e w8 ⟨rfl, hb78, hap⟩
    obtain ⟨u, hu⟩ : ∃ u : Nat, 1 + ArnM.mkAr a = u := ⟨_, rfl⟩
    rw [hu]
    have hu0 : decide ((u : Int) < 0) = false := decide_eq_false (by omega)
    have hog8 := Hog7.out.keep (w' := w8) (fun b h1 h2 => hap b h2 (.inr h1))
    have h28 := Hb27.out.trans hb78
    have h08 := Hb07.out.trans (hb78.mono (Nat.le_of_lt h02))
    have KA8 := HKA7.out.below hb78 h02
    have Hq2 := Lib.hid (eqByteS_c l Ag As cg cs _ _ w8 (by omega) hog8.rb (Rs.out.below h28))
    have Hog8 := Lib.hid hog8
    have H28 := Lib.hid h28
    have H08 := Lib.hid h08
    have HKA8 := Lib.hid KA8
    clear Hmk hb78 hap hu hog8 h28 h08 KA8 Hog7 Hb07 Hb27 HKA7 qX0 qX1 qX2
    go_wp2_with fail
    refine Hq2.out.mono ?_
    rintro e w9 ⟨rfl, n9, hw9⟩
    have h89 : Below w8.heap.size w8 w9 := by subst hw9; exact ⟨rfl, rfl, rfl, Nat.le_refl _, fun _ _ => rfl⟩
    have hog9 := Hog8.out.below h89
    have Hm := Lib.hid (markByteS_o l.length Ag cg w3.heap.size 1 (gU l) w9 (by omega) hog9)
    have H29 := Lib.hid (H28.out.trans (h89.mono H28.out.size))
    have H09 := Lib.hid (H08.out.trans (h89.mono H08.out.size))
    have HKA9 := Lib.hid (HKA8.out.below h89 HKA8.out.lt)
    clear hw9 h89 hog9 Hq2 Hog8 H28 H08 HKA8
    go_wp2_with fail
    refine Hm.out.mono ?_
    rintro e w10 ⟨rfl, hoa, hsa, hba, -⟩
    have Hh := Lib.hid (fun W (hx : OwnU W w3.heap.size Ag l.length (fun i => (((1 + i) % 256 : Nat) : Int))) => heldByteS_o l.length Ag cg w3.heap.size 1 W (by omega) hx)
    obtain ⟨m, hm⟩ : ∃ m : Nat, 1 + l.length = m := ⟨_, rfl⟩
    rw [hm] at Hh
    rw [hm]
    have hm0 : decide ((m : Int) < 0) = false := decide_eq_false (by omega)
    have h2a := H29.out.trans (hba.mono hB23)
    have h0a := H09.out.trans (hba.mono (by omega))
    have KAa := HKA9.out.below (hba.mono (by omega : w.heap.size + 1 ≤ w3.heap.size)) (by omega)
    obtain ⟨qA0, qA1, qA2⟩ := (thr3 KAa)
    have Ht := Lib.hid (toArena_c a A0 A1 A2 c0 c1 c2 0 w.heap.size w10 h0a.size Hszz.out (HR.out.below h0a))
    have Hoa := Lib.hid hoa
    have H2a := Lib.hid h2a
    have H0a := Lib.hid h0a
    clear Hm hm hoa hsa hba h2a h0a KAa H29 H09 HKA9
    go_wp2_with fail
    refine (Hh.out w10 Hoa.out).mono ?_
    rintro e w' ⟨rfl, rfl⟩
    go_wp2_with fail
    refine Ht.out.mono ?_
    rintro e w11 ⟨y0, y1, y2, rfl, hLb, hb11⟩
    have Hi2 := Lib.hid (Himpl.out (some ⟨y0, 0, none⟩) (some ⟨y1, 0, none⟩) (some ⟨y2, 0, none⟩) a.slots.length a.queue.length a.purple.length w10.heap.size w11.heap.size w11 (Nat.le_refl _) hLb Hszz.out)
    have Hb11 := Lib.hid hb11
    clear hLb hb11 Ht qA0 qA1 qA2
    go_wp2_with fail
    refine Hi2.out.mono ?_
    rintro e w12 ⟨Ah, ch, rfl, hoh, hb12⟩
    have hbac := Hb11.out.trans (hb12.mono Hb11.out.size)
    have h2c := H2a.out.trans (hbac.mono H2a.out.size)
    have Hq3 := Lib.hid (eqByteS_c l Ah As ch cs _ _ w12 (by omega) hoh.ownU.rb (Rs.out.below h2c))
    have Hbac := Lib.hid hbac
    clear hoh hbac h2c hb12 Hi2 Hb11
    go_wp2_with fail
    refine Hq3.out.mono ?_
    rintro e w13 ⟨rfl, n13, hw13⟩
    have hcd : Below w12.heap.size w12 w13 := by subst hw13; exact ⟨rfl, rfl, rfl, Nat.le_refl _, fun _ _ => rfl⟩
    have had := Hbac.out.trans (hcd.mono Hbac.out.size)
    have Hh2 := Lib.hid (Hh.out w13 (Hoa.out.below had))
    have H0d := Lib.hid (H0a.out.trans (had.mono H0a.out.size))
    clear hw13 hcd had Hbac Hq3
    go_wp2_with fail
    refine Hh2.out.mono ?_
    rintro e w' ⟨rfl, rfl⟩
    go_wp2
    go_ret
    exact ⟨rfl, H0d.out⟩

set_option maxRecDepth 100000 in
theorem lifted (os : Os) (started : os.Started) (H : Type) (enc : TypeId × Value → H) :
    ReturnsInHanded {} Try.checked os 3 .any (Rows.fnExactArenaBytesSpec.pre6 enc Try.prog Try.f3 Rows.fnExactArenaBytesRow.domain false) (Rows.fnExactArenaBytesSpec.post enc Try.prog Try.f3 false true false false) := by
  refine returnsInHanded_of_change (C := Try.checked) (s := Rows.fnExactArenaBytesSpec) own started (by kernel_rfl) Try.func3
    (ChangeSpec.witness6 (enc := enc) (C := Try.checked) (s := Rows.fnExactArenaBytesSpec) false ⟨#[], #[.agg #[.slice none 0 0, .slice none 0 0, .slice none 0 0]], []⟩ 8 (by kernel_rfl) (by kernel_rfl) (by kernel_rfl) (by kernel_rfl)) ?_
  intro W base args ds gs before hval hW _ _
  have hW' := hW
  obtain ⟨p, q, hA0, hV, rfl, hfz, hnd⟩ := hW
  have hA : DataW.TrodAll enc Try.prog W 0 (fun _ => true) true Try.f3.params.toList args.toList ds p := hA0
  replace hval : ∀ (j : Nat) t v, Try.f3.params[j]? = some t → args[j]? = some v → Value.okWide Try.prog W .any base t v := hval
  rw [Try.params3] at hA hval
  obtain ⟨v0, vs0, d0, ds0, p0, q0, hargs0, rfl, rfl, h0, r0⟩ := trodAll_cons hA
  obtain ⟨rfl, rfl, rfl⟩ := trodAll_nil r0
  obtain rfl : args = #[v0] := by cases args; simp_all
  obtain ⟨rfl, rfl⟩ := trodVars_none hV
  obtain ⟨A0, A1, A2, a, c0, c1, c2, rfl, hR⟩ := ArnOpen.open_arena (hval 0 25 v0 rfl rfl) h0
  refine (walk a A0 A1 A2 c0 c1 c2 W hR).mono fun e W' ⟨he, hb⟩ => ?_
  subst he
  exact ⟨_, rfl, post_read hW' rfl rfl rfl rfl rfl Try.underlying4 laidOut (by kernel_rfl) hb⟩

theorem proved : Rows.FnExactArenaBytesSaid :=
  OpenClaim.holds_of_wide 3 Try.f3 rfl rfl rfl rfl rfl rfl rfl ⟨rfl, rfl, rfl, rfl, rfl⟩ rfl rfl rfl rfl rfl (by kernel_rfl) Try.func3 (by kernel_rfl)
    (of_decide_eq_true (by kernel_rfl)) (by unfold Func.isWrapper; first | (rw [if_pos (by decide +kernel)]; kernel_rfl) | (rw [if_neg (by decide +kernel)]; exact ⟨rfl, rfl⟩))
    (fun os started H enc _ => lifted os started H enc)
end ArenaBytesLaw
end Go.Proofs.Ytfmlgpnjckamjaa
