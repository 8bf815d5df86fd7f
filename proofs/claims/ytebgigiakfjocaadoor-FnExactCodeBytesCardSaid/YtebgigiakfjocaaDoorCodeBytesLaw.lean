/-
  At every code CodeBytes answers as its model, writes into no argument, and its answer shares no memory with an argument or another answer. No condition but that the table of orders holds what the text lays.
-/
import Derived.Test.YtebgigiakfjocaaDoorCodBytS
import Derived.Test.YtebgigiakfjocaaDoorCodeEq
import Derived.Test.YtebgigiakfjocaaDoorCodeOpen
import Derived.Test.YtebgigiakfjocaaDoorCodeToN
import Derived.Test.YtebgigiakfjocaaDoorCodeMark
import Derived.Test.YtebgigiakfjocaaDoorLaidT
import Derived.Test.YtebgigiakfjocaaDoorPostVar
import Derived.Test.YtebgigiakfjocaaDoorOwnU
import Derived.Deep.RegionWith
import Derived.Test.YtebgigiakfjocaaDoorCards
import Derived.Test.YtebgigiakfjocaaDoorTie
import Derived.Deep.DeepCutAuto
import Derived.JoinedCond
import Derived.Deep.DeepHandedRow
import Derived.Deep.CondSized
import Derived.Lib.LaidTab
import Derived.Stop.LaidErr
import Derived.SevenTiedAt
import Derived.SevenTiedPlain
namespace Go.Proofs.YtebgigiakfjocaaDoor
open Go.ChangeShapes Go.WideShapes Go.ChangeAt Go.RowKit
set_option linter.unusedVariables false
namespace CodeBytesLaw

set_option maxRecDepth 100000 in
set_option maxHeartbeats 8000000 in
theorem walk (a : List Un) (A : Option Addr) (c : Nat) (w : World) (hR : UnL w 0 w.heap.size A a) (hF : Cod.Forms w w.heap.size) :
    Calls Tryd.prog 7 #[.agg #[.slice A a.length c]] w fun e w' => e = .returned (.bool true) ∧ Below w.heap.size w w' := by
  have hbA := blwC w (.cells #[.slice A a.length c] 51)
  have KA := Blk.new w 51 #[.slice A a.length c]
  have Hsz := Lib.hid (Cod.szCode_c a A c 0 w.heap.size 1048576 (w.alloc (.cells #[.slice A a.length c] 51)) (by simp) (by omega) (by omega) (hR.below hbA))
  have HR := Lib.hid hR
  have HbA := Lib.hid hbA
  have HKA := Lib.hid KA
  have HF := Lib.hid hF
  clear hR hbA KA hF
  go_enter Tryd.func7, Tryd.ntmps7
  go_wp2_with fail
  refine Hsz.out.mono ?_
  rintro e w0 ⟨r, rfl, hr1, hr2, hr3, hbx⟩
  have hb0 := HbA.out.trans (hbx.mono HbA.out.size)
  have KA0 := HKA.out.below hbx HKA.out.lt
  have Hb0 := Lib.hid hb0
  by_cases hr : r < 0
  · clear hr3 hb0 KA0 hbx Hsz HbA HKA
    go_wp2
    go_ret
    exact ⟨rfl, Hb0.out⟩
  have hr' : 0 ≤ r := by omega
  have hsz : unsSz a ≤ 1048576 := by have := hr3 hr'; omega
  have hr0 : decide (r < 0) = false := decide_eq_false hr
  have hlm : (Cod.codB a).length ≤ 100000 := Cod.codB_bd a
  have hspec := fun A c L B w => CodBS.specCodeBytes_c a A c L B w
  have himpl := fun A c L B w => CodBI.implCodeBytes_c a A c L B w
  obtain ⟨l, hl⟩ : ∃ l, Cod.codB a = l := ⟨_, rfl⟩
  rw [hl] at hlm
  simp only [hl] at hspec himpl
  obtain ⟨bo, hbo⟩ : ∃ b, Cod.codeOk a = b := ⟨_, rfl⟩
  simp only [hbo] at hspec himpl
  have Hspec := Lib.hid hspec
  have Himpl := Lib.hid himpl
  have Hszz := Lib.hid hsz
  have Ht := Lib.hid (Cod.toCode_c a A c 0 w.heap.size w0 hb0.size Hszz.out (HR.out.below hb0))
  obtain ⟨qA0, -⟩ := KA0.uno
  have HKA0 := Lib.hid KA0
  clear hr3 hbx KA0 hb0 Hsz HbA HKA hr hsz hspec himpl hl hbo
  go_wp2_with fail
  refine Ht.out.mono ?_
  rintro e w1 ⟨s0, rfl, hL1, hb1⟩
  have hb01 := Hb0.out.trans (hb1.mono Hb0.out.size)
  have KA1 := HKA0.out.below hb1 HKA0.out.lt
  have Hsp := Lib.hid (Hspec.out (some ⟨s0, 0, none⟩) a.length w0.heap.size w1.heap.size w1 (Nat.le_refl _) Hszz.out hL1)
  have HKA1 := Lib.hid KA1
  have Hb1 := Lib.hid hb01
  clear hL1 hb1 hb01 KA1 qA0 HKA0 Hb0 Ht
  go_wp2_with fail
  refine Hsp.out.mono ?_
  rintro e w2 ⟨As, cs, rfl, hos, hb2⟩
  have Rs := Lib.hid (hos.ownU.rb)
  have hb02 := Hb1.out.trans (hb2.mono Hb1.out.size)
  have KA2 := HKA1.out.below hb2 HKA1.out.lt
  obtain ⟨qA0, -⟩ := KA2.uno
  have Ht := Lib.hid (CodM.toCode_n a A c 0 w.heap.size w2 hb02.size Hszz.out (HR.out.below hb02))
  have HKA2 := Lib.hid KA2
  have HlA := Lib.hid KA2.lt
  have Hb2 := Lib.hid hb02
  clear hb2 hb02 KA2 HKA1 Hb1 Hsp hos
  go_wp2_with fail
  refine Ht.out.mono ?_
  rintro e w3 ⟨x0, rfl, hL3, hb3, hnw⟩
  have Hnw := Lib.hid hnw
  have hb03 := Hb2.out.trans (hb3.mono Hb2.out.size)
  have KA3 := HKA2.out.below hb3 HKA2.out.lt
  have hbX := blwC w3 (.cells #[.slice (some ⟨x0, 0, none⟩) a.length a.length] 56)
  have KX := Blk.new w3 56 #[.slice (some ⟨x0, 0, none⟩) a.length a.length]
  have hb03X := hb03.trans (hbX.mono hb03.size)
  have Him := Lib.hid (Himpl.out (some ⟨x0, 0, none⟩) a.length w2.heap.size w3.heap.size (w3.alloc (.cells #[.slice (some ⟨x0, 0, none⟩) a.length a.length] 56)) (by simp) Hszz.out (hL3.below hbX) ((HF.out.below hb03X).more hb03.size))
  have HKA3 := Lib.hid (KA3.below hbX KA3.lt)
  have HKX := Lib.hid KX
  have HL3 := Lib.hid (hL3.below hbX)
  have Hb3 := Lib.hid hb03X
  have hs3 : w3.heap.size < (w3.alloc (.cells #[.slice (some ⟨x0, 0, none⟩) a.length a.length] 56)).heap.size := by simp
  have Hb23 := Lib.hid (hb3.trans (hbX.mono hb3.size))
  have hB23 := hb3.size
  have HbX := Lib.hid hbX
  clear hL3 hb3 hb03 KA3 hbX KX qA0 HKA2 Hb2 Ht hnw hb03X
  go_wp2_with fail
  refine Him.out.mono ?_
  rintro e w4 ⟨Ag, cg, rfl, hog0, hb4⟩
  have hog := hog0.ownU.lo_le (Nat.le_of_lt hs3)
  have hb04 := Hb3.out.trans (hb4.mono Hb3.out.size)
  have hb24 := Hb23.out.trans (hb4.mono Hb23.out.size)
  have hb34 := HbX.out.trans (hb4.mono HbX.out.size)
  have KA4 := HKA3.out.below hb4 HKA3.out.lt
  have KX4 := HKX.out.below hb4 HKX.out.lt
  have hL4 := HL3.out.below (hb4.mono (Nat.le_of_lt hs3))
  have hX4 : w3.heap.size ≤ w4.heap.size := Nat.le_trans (Nat.le_of_lt hs3) hb4.size
  have Hq1 := Lib.hid (eqByteS_c l Ag As cg cs _ _ w4 (by omega) hog.rb (Rs.out.below hb24))
  have HKA4 := Lib.hid KA4
  have HKX4 := Lib.hid KX4
  have HL4 := Lib.hid hL4
  have Hog := Lib.hid hog
  have Hb4 := Lib.hid hb04
  have Hb24 := Lib.hid hb24
  have Hb34 := Lib.hid hb34
  clear hb4 hb04 hb24 hb34 KA4 KX4 hL4 HKA3 HKX HL3 Hb3 hs3 Him hog hog0 Hb23 HbX
  go_wp2_with fail
  refine Hq1.out.mono ?_
  rintro e w5 ⟨rfl, n5, hw5⟩
  have hb45 : Below w4.heap.size w4 w5 := by subst hw5; exact ⟨rfl, rfl, rfl, Nat.le_refl _, fun _ _ => rfl⟩
  have hb05 := Hb4.out.trans (hb45.mono Hb4.out.size)
  have KA5 := HKA4.out.below hb45 HKA4.out.lt
  have KX5 := HKX4.out.below hb45 HKX4.out.lt
  have hL5 := HL4.out.below (hb45.mono hX4)
  have hX5 : w3.heap.size ≤ w5.heap.size := Nat.le_trans hX4 hb45.size
  obtain ⟨qA0, -⟩ := KA5.uno
  obtain ⟨qX0, -⟩ := KX5.uno
  have Ht := Lib.hid (fun m => Cod.toCode_c a A c 0 w.heap.size (w5.drewN m) hb05.size Hszz.out ((HR.out.below hb05).keep (w' := w5.drewN m) fun _ _ _ => rfl))
  have HKA5 := Lib.hid KA5
  have HKX5 := Lib.hid KX5
  have HL5 := Lib.hid hL5
  have Hb5 := Lib.hid hb05
  have Hb25 := Lib.hid (Hb24.out.trans (hb45.mono Hb24.out.size))
  have Hb35 := Lib.hid (Hb34.out.trans (hb45.mono Hb34.out.size))
  have Hog5 := Lib.hid (Hog.out.below hb45)
  have HX5 := Lib.hid hX5
  clear hw5 hb45 hb05 KA5 KX5 hL5 hX5 hX4 HKA4 HKX4 HL4 Hb4 Hb24 Hb34 Hog Hq1
  go_upto_region 10 with fail
  go_cut [45] (fun b wx => b = .bool false ∧ Hid (Below w5.heap.size w5 wx))
  case first =>
    go_region_with (first
      | (go_at_call 28; refine (Ht.out 1).mono ?_; rintro e w6 ⟨y0, rfl, hL6, hb6⟩; have hb56 : Below w5.heap.size w5 w6 := ⟨hb6.os, hb6.tape, hb6.output, hb6.size, hb6.block⟩; obtain ⟨qY0, -⟩ := (HKX5.out.below hb56 HKX5.out.lt).uno; have Heq := Lib.hid (Cod.eqCode_c a (some ⟨x0, 0, none⟩) (some ⟨y0, 0, none⟩) a.length a.length _ w3.heap.size _ w6.heap.size w6 (Nat.le_trans HX5.out hb56.size) (Nat.le_refl _) Hszz.out (HL5.out.below (hb56.mono HX5.out)) hL6); have Hb56 := Lib.hid hb56; clear hL6 hb6 hb56 Ht)
      | (go_at_call 30; refine Heq.out.mono ?_; rintro e w7 ⟨rfl, hb7⟩))
    all_goals
      try go_wp2_with fail
      go_meet
      case rel => exact ⟨by simp, Lib.hid (Hb56.out.trans (hb7.mono Hb56.out.size))⟩
  case rest =>
    obtain ⟨rfl, hb57⟩ := hcut
    obtain ⟨w7, hw7⟩ : ∃ x, x = wc := ⟨_, rfl⟩
    subst hw7
    have h57 := hb57.out
    have KX7 := HKX5.out.below h57 HKX5.out.lt
    have KA7 := HKA5.out.below h57 HKA5.out.lt
    obtain ⟨qX0, -⟩ := KX7.uno
    have hL7 := HL5.out.below (h57.mono HX5.out)
    have h37 := Hb35.out.trans (h57.mono Hb35.out.size)
    have hT7 : CodM.Thaw w2.heap.size w3.heap.size w7 := fun k h1 h2 => by
      obtain ⟨cs', t', e'⟩ := Hnw.out k h1 h2
      exact ⟨cs', t', (h37.block k h2).trans e'⟩
    have Hmk := Lib.hid (CodM.markCode_m a (some ⟨x0, 0, none⟩) a.length w2.heap.size w3.heap.size 1 w7 h37.size hB23 Hszz.out (by omega) hT7 hL7)
    have Hog7 := Lib.hid (Hog5.out.below h57)
    have Hb07 := Lib.hid (Hb5.out.trans (h57.mono Hb5.out.size))
    have Hb27 := Lib.hid (Hb25.out.trans (h57.mono Hb25.out.size))
    have HKA7 := Lib.hid KA7
    have hwk := KA7.lt
    have h02 : w.heap.size < w2.heap.size := HlA.out
    clear KX7 KA7 hL7 h37 hT7 h57 hb57 HKX5 HKA5 HL5 Hb35 Hog5 Hb25 Hb5 HX5 Ht
    go_wp2_with fail
    refine Hmk.out.mono ?_
    rintro e w8 ⟨rfl, hb78, hap⟩
    obtain ⟨u, hu⟩ : ∃ u : Nat, 1 + sumIn CodM.mkUn a a.length = u := ⟨_, rfl⟩
    rw [hu]
    have hu0 : decide ((u : Int) < 0) = false := decide_eq_false (by omega)
    have hog8 := Hog7.out.keep (w' := w8) (fun b h1 h2 => hap b h2 (.inr h1))
    have h28 := Hb27.out.trans hb78
    have h08 := Hb07.out.trans (hb78.mono (Nat.le_of_lt h02))
    have KA8 := HKA7.out.below hb78 h02
    have Hq2 := Lib.hid (eqByteS_c l Ag As cg cs _ _ w8 (by omega) hog8.rb (Rs.out.below h28))
    have Hog8 := Lib.hid hog8
    have H28 := Lib.hid h28
    have H08 := Lib.hid h08
    have HKA8 := Lib.hid KA8
    clear Hmk hb78 hap hu hog8 h28 h08 KA8 Hog7 Hb07 Hb27 HKA7 qX0
    go_wp2_with fail
    refine Hq2.out.mono ?_
    rintro e w9 ⟨rfl, n9, hw9⟩
    have h89 : Below w8.heap.size w8 w9 := by subst hw9; exact ⟨rfl, rfl, rfl, Nat.le_refl _, fun _ _ => rfl⟩
    have hog9 := Hog8.out.below h89
    have Hm := Lib.hid (markByteS_o l.length Ag cg w3.heap.size 1 (gU l) w9 (by omega) hog9)
    have H29 := Lib.hid (H28.out.trans (h89.mono H28.out.size))
    have H09 := Lib.hid (H08.out.trans (h89.mono H08.out.size))
    have HKA9 := Lib.hid (HKA8.out.below h89 HKA8.out.lt)
    clear hw9 h89 hog9 Hq2 Hog8 H28 H08 HKA8
    go_wp2_with fail
    refine Hm.out.mono ?_
    rintro e w10 ⟨rfl, hoa, hsa, hba, -⟩
    have Hh := Lib.hid (fun W (hx : OwnU W w3.heap.size Ag l.length (fun i => (((1 + i) % 256 : Nat) : Int))) => heldByteS_o l.length Ag cg w3.heap.size 1 W (by omega) hx)
    obtain ⟨m, hm⟩ : ∃ m : Nat, 1 + l.length = m := ⟨_, rfl⟩
    rw [hm] at Hh
    rw [hm]
    have hm0 : decide ((m : Int) < 0) = false := decide_eq_false (by omega)
    have h2a := H29.out.trans (hba.mono hB23)
    have h0a := H09.out.trans (hba.mono (by omega))
    have KAa := HKA9.out.below (hba.mono (by omega : w.heap.size + 1 ≤ w3.heap.size)) (by omega)
    obtain ⟨qA0, -⟩ := KAa.uno
    have Ht := Lib.hid (Cod.toCode_c a A c 0 w.heap.size w10 h0a.size Hszz.out (HR.out.below h0a))
    have Hoa := Lib.hid hoa
    have H2a := Lib.hid h2a
    have H0a := Lib.hid h0a
    clear Hm hm hoa hsa hba h2a h0a KAa H29 H09 HKA9
    go_wp2_with fail
    refine (Hh.out w10 Hoa.out).mono ?_
    rintro e w' ⟨rfl, rfl⟩
    go_wp2_with fail
    refine Ht.out.mono ?_
    rintro e w11 ⟨y0, rfl, hLb, hb11⟩
    have h0b := H0a.out.trans (hb11.mono H0a.out.size)
    have Hi2 := Lib.hid (Himpl.out (some ⟨y0, 0, none⟩) a.length w10.heap.size w11.heap.size w11 (Nat.le_refl _) Hszz.out hLb ((HF.out.below h0b).more h0b.size))
    have Hb11 := Lib.hid hb11
    clear hLb hb11 Ht qA0 h0b
    go_wp2_with fail
    refine Hi2.out.mono ?_
    rintro e w12 ⟨Ah, ch, rfl, hoh, hb12⟩
    have hbac := Hb11.out.trans (hb12.mono Hb11.out.size)
    have h2c := H2a.out.trans (hbac.mono H2a.out.size)
    have Hq3 := Lib.hid (eqByteS_c l Ah As ch cs _ _ w12 (by omega) hoh.ownU.rb (Rs.out.below h2c))
    have Hbac := Lib.hid hbac
    clear hoh hbac h2c hb12 Hi2 Hb11
    go_wp2_with fail
    refine Hq3.out.mono ?_
    rintro e w13 ⟨rfl, n13, hw13⟩
    have hcd : Below w12.heap.size w12 w13 := by subst hw13; exact ⟨rfl, rfl, rfl, Nat.le_refl _, fun _ _ => rfl⟩
    have had := Hbac.out.trans (hcd.mono Hbac.out.size)
    have Hh2 := Lib.hid (Hh.out w13 (Hoa.out.below had))
    have H0d := Lib.hid (H0a.out.trans (had.mono H0a.out.size))
    clear hw13 hcd had Hbac Hq3
    go_wp2_with fail
    refine Hh2.out.mono ?_
    rintro e w' ⟨rfl, rfl⟩
    go_wp2
    go_ret
    exact ⟨rfl, H0d.out⟩

theorem table_forms {W : World} (h : laidMetH Tryd.prog Rows.fnExactCodeBytesRow.laid W) : Cod.Forms W W.heap.size := by
  have h' : laidMet Tryd.prog Rows.fnExactCodeBytesRow.laid W := by
    rw [MakeChecks.laidMetH_plain _ _ _ (by kernel_rfl)] at h
    exact h
  exact Cod.forms_of h'

set_option maxRecDepth 100000 in
theorem contract (H : Type) (enc : TypeId × Value → H) (W : World) (base : Nat) (args : Array Value) (ds gs : List (DataW H)) (before : List MemPlace)
    (hval : ∀ (j : Nat) t v, Tryd.f7.params[j]? = some t → args[j]? = some v → Value.okWide Tryd.prog W .any base t v)
    (hW : DataW.Whole enc Tryd.prog Tryd.f7.params.toList Rows.fnExactCodeBytesSpec.vars false W args.toList ds gs before) (hL : laidMetH Tryd.prog Rows.fnExactCodeBytesRow.laid W) :
    Calls Tryd.prog 7 args W fun e W' => ∃ v, e = .returned v ∧ Rows.fnExactCodeBytesSpec.post enc Tryd.prog Tryd.f7 false true false false W args v W' := by
  have hW' := hW
  obtain ⟨p, q, hA0, hV, rfl, hfz, hnd⟩ := hW
  have hA : DataW.TrodAll enc Tryd.prog W 0 (fun _ => true) true Tryd.f7.params.toList args.toList ds p := hA0
  replace hval : ∀ (j : Nat) t v, Tryd.f7.params[j]? = some t → args[j]? = some v → Value.okWide Tryd.prog W .any base t v := hval
  rw [Tryd.params7] at hA hval
  obtain ⟨v0, vs0, d0, ds0, p0, q0, hargs0, rfl, rfl, h0, r0⟩ := trodAll_cons hA
  obtain ⟨rfl, rfl, rfl⟩ := trodAll_nil r0
  obtain rfl : args = #[v0] := by cases args; simp_all
  obtain ⟨A, a, c, rfl, hR⟩ := CodOpen.open_code (hval 0 51 v0 rfl rfl) h0
  refine (walk a A c W hR (table_forms hL)).mono fun e W' ⟨he, hb⟩ => ?_
  subst he
  have hgs : ∃ g, gs = [g] := by
    obtain ⟨g, t, cs, fuel, d, p, rfl, _⟩ := trodVars_one hV
    exact ⟨d, rfl⟩
  obtain ⟨g, rfl⟩ := hgs
  exact ⟨_, rfl, PV.post_var hW' rfl Cod.gTab Cod.gTabType (by kernel_rfl) (of_decide_eq_true (by kernel_rfl)) rfl rfl rfl rfl Tryd.underlying4 laidOut (by kernel_rfl) hb⟩

/-- a table's cells out of its listed datum -/
def litsOf : List (DataW Unit) → List Value
  | [] => []
  | .lit (.int k n) :: r => .int k n :: litsOf r
  | .lit (.bool b) :: r => .bool b :: litsOf r
  | .lit (.string s) :: r => .string ⟨s.toArray⟩ :: litsOf r
  | _ :: r => litsOf r
def rowsOf : List (DataW Unit) → List Value
  | [] => []
  | .agg l :: r => litsOf l ++ rowsOf r
  | _ :: r => rowsOf r
def partsOf : DataW Unit → Array Value
  | .agg l => (litsOf l).toArray
  | _ => #[]
def partsOfR : DataW Unit → Array Value
  | .agg l => (rowsOf l).toArray
  | _ => #[]
def layAt (cs : Array Value) : Obj → Obj
  | .cells _ t frozen => .cells cs t frozen
  | o => o
/-- A WORLD FOR THE WITNESS: the settled one, the tables holding what their initialisers lay. -/
noncomputable def laidWorld (os : Os) : World :=
  { World.holding Tryd.prog os ⟨#[], #[], []⟩ with heap := ((World.holding Tryd.prog os ⟨#[], #[], []⟩).heap.modify 1 (layAt (partsOfR Rows.laid_loop_example_g00547_impl_orderForms))) }
theorem laid_met (os : Os) : laidMet Tryd.prog Rows.fnExactCodeBytesRow.laid ((laidWorld os).forCall (fun _ _ => 0) ⟨#[], #[.agg #[.slice none 0 0]], []⟩).memory :=
  laidMet_of_run' 8 (by kernel_rfl) (by kernel_rfl)
theorem reads (os : Os) {H : Type} (enc : TypeId × Value → H) : ∃ places, DataW.whole enc Tryd.prog ((laidWorld os).forCall (fun _ _ => 0) ⟨#[], #[.agg #[.slice none 0 0]], []⟩).memory Tryd.f7.params.toList Rows.fnExactCodeBytesSpec.vars false #[.agg #[.slice none 0 0]].toList 8 = some ([.agg [.nil]], [Rows.laid_loop_example_g00547_impl_orderForms], places) :=
  ⟨MemPlace.row ⟨1, 0, none⟩ 75, by kernel_rfl⟩

set_option maxRecDepth 100000 in
theorem lifted (os : Os) (started : os.Started) (H : Type) (enc : TypeId × Value → H) (F0 : Stop.Interp) :
    ReturnsInHanded {} Tryd.checked os 7 .any ((OpenSpec.ofChange Rows.fnExactCodeBytesSpec).preRow enc Tryd.prog Tryd.f7 Rows.fnExactCodeBytesRow.domain false Rows.fnExactCodeBytesRow.laid) (((OpenSpec.ofChange Rows.fnExactCodeBytesSpec).at F0).post enc Tryd.prog Tryd.f7 false true false false) := by
  obtain ⟨places, hx⟩ := reads os enc
  refine returnsInHanded_of_row (C := Tryd.checked) (s := OpenSpec.ofChange Rows.fnExactCodeBytesSpec) own started (by kernel_rfl) Tryd.func7
    (witness_row_at (enc := enc) (C := Tryd.checked) false (laidWorld os) #[.agg #[.slice none 0 0]] rfl (by kernel_rfl) (by kernel_rfl) (by kernel_rfl)
      (OpenSpec.preRow_of_cond 8 hx (by kernel_rfl) (fun k hk => by cases hk) (by kernel_rfl) (laid_met os))) ?_
  intro W base args ds gs before hval hW _ _ _ hL _ _
  exact contract H enc W base args ds gs before hval hW hL

theorem said : Rows.FnExactCodeBytesSaid :=
  OpenClaim.holds_of_cond 7 Tryd.f7 rfl rfl rfl rfl rfl rfl rfl ⟨rfl, rfl, rfl, rfl, rfl⟩ rfl rfl rfl rfl rfl (by kernel_rfl) Tryd.func7 (by kernel_rfl)
    (of_decide_eq_true (by kernel_rfl)) (by unfold Func.isWrapper; first | (rw [if_pos (by decide +kernel)]; kernel_rfl) | (rw [if_neg (by decide +kernel)]; exact ⟨rfl, rfl⟩))
    (fun os started H enc _ F0 => by rw [OpenClaim.pre_eq_preRow]; exact lifted os started H enc F0)

theorem plain (f : FuncId) (fn : Func) (hf : Tryd.pinned.checked.prog.funcNamed "loop.example/g00547/laws.FnExactCodeBytes" = some f) (hfn : Tryd.pinned.checked.prog.funcs[f]? = some fn) :
    false = Tryd.pinned.checked.prog.looks [] ∧ ∀ (j : Nat) t, fn.params[j]? = some t → Tryd.pinned.checked.prog.wantsStandIn t = false := by
  obtain rfl : f = 7 := Option.some.inj ((show Tryd.prog.funcNamed "loop.example/g00547/laws.FnExactCodeBytes" = some 7 by kernel_rfl).symm.trans hf) |>.symm
  obtain rfl : fn = Tryd.f7 := (Option.some.inj (Tryd.func7.symm.trans hfn)).symm
  refine ⟨by kernel_rfl, fun j t ht => ?_⟩
  rw [Tryd.params7] at ht
  have hm := Array.mem_of_getElem? ht
  simp only [List.mem_toArray, List.mem_cons, List.not_mem_nil, or_false] at hm
  subst hm
  exact (show Tryd.prog.wantsStandIn 51 = false by kernel_rfl)

theorem card : Rows.FnExactCodeBytesCardSaid :=
  Claim7.holds_tied_plain_at .later [] _ _ _ _ said (fun _ h => by cases h) (by kernel_rfl) (fun _ h => by cases h) fnExactCodeBytes_row_tie rfl ⟨rfl, rfl⟩ (by kernel_rfl) rfl plain (by kernel_rfl)
end CodeBytesLaw
end Go.Proofs.YtebgigiakfjocaaDoor
