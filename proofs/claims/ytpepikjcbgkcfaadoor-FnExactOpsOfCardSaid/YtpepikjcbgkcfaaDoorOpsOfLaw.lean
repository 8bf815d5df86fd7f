/-
  At every code and number OpsOf answers as its model, and writes into no argument. No condition but that the table of orders holds what the text lays.
-/
import Derived.Test.YtpepikjcbgkcfaaDoorSizes
import Derived.Test.YtpepikjcbgkcfaaDoorCodeEq
import Derived.Test.YtpepikjcbgkcfaaDoorCodeOpen
import Derived.Test.YtpepikjcbgkcfaaDoorLaidT
import Derived.Test.YtpepikjcbgkcfaaDoorCards
import Derived.Test.YtpepikjcbgkcfaaDoorTie
import Derived.JoinedCond
import Derived.Deep.DeepHandedRow
import Derived.Deep.CondSized
import Derived.Lib.LaidTab
import Derived.Stop.LaidErr
import Derived.SevenTiedAt
import Derived.SevenTiedPlain
namespace Go.Proofs.YtpepikjcbgkcfaaDoor
open Go.ChangeShapes Go.WideShapes Go.ChangeAt Go.RowKit
set_option linter.unusedVariables false
namespace OpsOfLaw

set_option maxRecDepth 100000 in
set_option maxHeartbeats 4000000 in
theorem walk (a : List Un) (A : Option Addr) (c : Nat) (z : Int) (w : World) (hR : UnL w 0 w.heap.size A a) (hF : Cod.Forms w w.heap.size) :
    Calls Tryd.prog 5 #[.agg #[.slice A a.length c], .int .i64 z] w fun e w' => e = .returned (.bool true) ∧ Below w.heap.size w w' := by
  have hbA := blwC w (.cells #[.slice A a.length c] 24)
  have KA := Blk.new w 24 #[.slice A a.length c]
  have Hsz := Lib.hid (Cod.szCode_c a A c 0 w.heap.size 1048576 (w.alloc (.cells #[.slice A a.length c] 24)) (by simp) (by omega) (by omega) (hR.below hbA))
  have HR := Lib.hid hR
  have HbA := Lib.hid hbA
  have HKA := Lib.hid KA
  have HF := Lib.hid hF
  clear hR hbA KA hF
  go_enter Tryd.func5, Tryd.ntmps5
  go_wp2_with fail
  refine Hsz.out.mono ?_
  rintro e w0 ⟨r, rfl, hr1, hr2, hr3, hbx⟩
  have hb0 := HbA.out.trans (hbx.mono HbA.out.size)
  have KA0 := HKA.out.below hbx HKA.out.lt
  have Hb0 := Lib.hid hb0
  by_cases hr : r < 0
  · clear hr3 hb0 KA0 hbx Hsz HbA HKA
    go_wp2
    go_ret
    exact ⟨rfl, Hb0.out⟩
  have hr' : 0 ≤ r := by omega
  have hsz : unsSz a ≤ 1048576 := by have := hr3 hr'; omega
  have hr0 : decide (r < 0) = false := decide_eq_false hr
  have Hszz := Lib.hid hsz
  have Ht := Lib.hid (Cod.toCode_c a A c 0 w.heap.size (w0) hb0.size Hszz.out (HR.out.below hb0))
  have qA := KA0.uno
  obtain ⟨qA0, -⟩ := qA
  have HKA0 := Lib.hid KA0
  clear hr3 hbx KA0 hb0 Hsz HbA HKA hr hsz
  go_wp2_with fail
  refine Ht.out.mono ?_
  rintro e w1 ⟨s0, rfl, hL1, hb1⟩
  have hb01 := Hb0.out.trans (hb1.mono Hb0.out.size)
  have KA1 := HKA0.out.below hb1 HKA0.out.lt
  have Hsp := Lib.hid (Cod.specOpsOf_c a (some ⟨s0, 0, none⟩) a.length w0.heap.size w1.heap.size w1 z (Nat.le_refl _) Hszz.out hL1)
  have HKA1 := Lib.hid KA1
  have Hb1 := Lib.hid hb01
  clear hL1 hb1 hb01 KA1 qA0 HKA0 Hb0 Ht
  go_wp2_with fail
  refine Hsp.out.mono ?_
  rintro e w2 ⟨rfl, hb2⟩
  have hb02 := Hb1.out.trans (hb2.mono Hb1.out.size)
  have KA2 := HKA1.out.below hb2 HKA1.out.lt
  obtain ⟨qA0, -⟩ := KA2.uno
  have Ht := Lib.hid (Cod.toCode_c a A c 0 w.heap.size (w2) hb02.size Hszz.out (HR.out.below hb02))
  have HKA2 := Lib.hid KA2
  have Hb2 := Lib.hid hb02
  clear hb2 hb02 KA2 HKA1 Hb1 Hsp
  go_wp2_with fail
  refine Ht.out.mono ?_
  rintro e w3 ⟨x0, rfl, hL3, hb3⟩
  have hb03 := Hb2.out.trans (hb3.mono Hb2.out.size)
  have KA3 := HKA2.out.below hb3 HKA2.out.lt
  have hbX := blwC w3 (.cells #[.slice (some ⟨x0, 0, none⟩) a.length a.length] 29)
  have KX := Blk.new w3 29 #[.slice (some ⟨x0, 0, none⟩) a.length a.length]
  have hb03X := hb03.trans (hbX.mono hb03.size)
  have Him := Lib.hid (Cod.implOpsOf_c a (some ⟨x0, 0, none⟩) a.length w2.heap.size w3.heap.size (w3.alloc (.cells #[.slice (some ⟨x0, 0, none⟩) a.length a.length] 29)) z (by simp) Hszz.out (hL3.below hbX) ((HF.out.below hb03X).more hb03.size))
  have HKA3 := Lib.hid (KA3.below hbX KA3.lt)
  have HKX := Lib.hid KX
  have HL3 := Lib.hid (hL3.below hbX)
  have Hb3 := Lib.hid hb03X
  have hs3 : w3.heap.size < (w3.alloc (.cells #[.slice (some ⟨x0, 0, none⟩) a.length a.length] 29)).heap.size := by simp
  clear hL3 hb3 hb03 KA3 hbX KX qA0 HKA2 Hb2 Ht hb03X
  go_wp2_with fail
  refine Him.out.mono ?_
  rintro e w4 ⟨rfl, hb4⟩
  have hb04 := Hb3.out.trans (hb4.mono Hb3.out.size)
  have KA4 := HKA3.out.below hb4 HKA3.out.lt
  have KX4 := HKX.out.below hb4 HKX.out.lt
  have hL4 := HL3.out.below (hb4.mono (Nat.le_of_lt hs3))
  have hX4 : w3.heap.size ≤ w4.heap.size := Nat.le_trans (Nat.le_of_lt hs3) hb4.size
  obtain ⟨qA0, -⟩ := KA4.uno
  obtain ⟨qX0, -⟩ := KX4.uno
  have Ht := Lib.hid (fun m => Cod.toCode_c a A c 0 w.heap.size (w4.drewN m) hb04.size Hszz.out ((HR.out.below hb04).keep (w' := w4.drewN m) fun _ _ _ => rfl))
  have HKX4 := Lib.hid KX4
  have HL4 := Lib.hid hL4
  have Hb4 := Lib.hid hb04
  have HX4 := Lib.hid hX4
  clear hb4 hb04 KA4 KX4 hL4 hX4 HKA3 HKX HL3 Hb3 hs3 Him
  go_wp2_with fail
  go_region_with (first
    | (go_at_call 9; refine (Ht.out 1).mono ?_; rintro e w5 ⟨y0, rfl, hL5, hb5⟩; have hb45 : Below w4.heap.size w4 w5 := ⟨hb5.os, hb5.tape, hb5.output, hb5.size, hb5.block⟩; obtain ⟨qY0, -⟩ := (HKX4.out.below hb45 HKX4.out.lt).uno; have Heq := Lib.hid (Cod.eqCode_c a (some ⟨x0, 0, none⟩) (some ⟨y0, 0, none⟩) a.length a.length _ w3.heap.size _ w5.heap.size (w5) (Nat.le_trans HX4.out hb45.size) (Nat.le_refl _) Hszz.out (HL4.out.below (hb45.mono HX4.out)) (hL5)); have Hb45 := Lib.hid hb45; clear hL5 hb5 hb45 Ht)
    | (go_at_call 11; refine Heq.out.mono ?_; rintro e w6 ⟨rfl, hb6⟩))
  all_goals
    have hb05 := Hb4.out.trans (Hb45.out.mono Hb4.out.size)
    go_wp2
    go_ret
    exact ⟨rfl, hb05.trans (hb6.mono hb05.size)⟩

theorem table {W : World} (h : laidMetH Tryd.prog Rows.fnExactOpsOfRow.laid W) : Cod.Forms W W.heap.size := by
  have h' : laidMet Tryd.prog Rows.fnExactOpsOfRow.laid W := by
    rw [MakeChecks.laidMetH_plain _ _ _ (by kernel_rfl)] at h
    exact h
  exact Cod.forms_of h'

theorem contract (H : Type) (enc : TypeId × Value → H) (W : World) (base : Nat) (args : Array Value) (ds gs : List (DataW H)) (before : List MemPlace)
    (hval : ∀ (j : Nat) t v, Tryd.f5.params[j]? = some t → args[j]? = some v → Value.okWide Tryd.prog W .any base t v)
    (hW : DataW.Whole enc Tryd.prog Tryd.f5.params.toList Rows.fnExactOpsOfSpec.vars false W args.toList ds gs before) (hL : laidMetH Tryd.prog Rows.fnExactOpsOfRow.laid W) :
    Calls Tryd.prog 5 args W fun e W' => ∃ v, e = .returned v ∧ Rows.fnExactOpsOfSpec.post enc Tryd.prog Tryd.f5 false true false false W args v W' := by
  have hW' := hW
  obtain ⟨p, q, hA0, hV, rfl, hfz, hnd⟩ := hW
  have hA : DataW.TrodAll enc Tryd.prog W 0 (fun _ => true) true Tryd.f5.params.toList args.toList ds p := hA0
  replace hval : ∀ (j : Nat) t v, Tryd.f5.params[j]? = some t → args[j]? = some v → Value.okWide Tryd.prog W .any base t v := hval
  rw [Tryd.params5] at hA hval
  obtain ⟨v0, vs0, d0, ds0, p0, q0, hargs0, rfl, rfl, h0, r0⟩ := trodAll_cons hA
  obtain ⟨v1, vs1, d1, ds1, p1, q1, hargs1, rfl, rfl, h1, r1⟩ := trodAll_cons r0
  obtain ⟨rfl, rfl, rfl⟩ := trodAll_nil r1
  obtain rfl : args = #[v0, v1] := by cases args; simp_all
  obtain ⟨A, a, c, rfl, hR⟩ := CodOpen.open_code (hval 0 24 v0 rfl rfl) h0
  obtain ⟨z, rfl, rfl, rfl, wn⟩ := open_int Tryd.underlying3 (hval 1 3 v1 rfl rfl) h1
  refine (walk a A c z W hR (table hL)).mono fun e W' ⟨he, hb⟩ => ?_
  subst he
  have hgs : ∃ g, gs = [g] := by
    obtain ⟨g, t, cs, fuel, d, p, rfl, _⟩ := trodVars_one hV
    exact ⟨d, rfl⟩
  obtain ⟨g, rfl⟩ := hgs
  exact ⟨_, rfl, Cod.post_var hW' rfl Cod.gTab Cod.gTabType (by kernel_rfl) (of_decide_eq_true (by kernel_rfl)) rfl rfl rfl rfl Tryd.underlying4 laidOut (by kernel_rfl) hb⟩

/-- a table's cells out of its listed datum -/
def litsOf : List (DataW Unit) → List Value
  | [] => []
  | .lit (.int k n) :: r => .int k n :: litsOf r
  | .lit (.bool b) :: r => .bool b :: litsOf r
  | .lit (.string s) :: r => .string ⟨s.toArray⟩ :: litsOf r
  | _ :: r => litsOf r
def rowsOf : List (DataW Unit) → List Value
  | [] => []
  | .agg l :: r => litsOf l ++ rowsOf r
  | _ :: r => rowsOf r
def partsOf : DataW Unit → Array Value
  | .agg l => (rowsOf l).toArray
  | _ => #[]
def layAt (cs : Array Value) : Obj → Obj
  | .cells _ t frozen => .cells cs t frozen
  | o => o
/-- A WORLD FOR THE WITNESS: the settled one, the table holding what its initialiser lays. -/
noncomputable def laidWorld (os : Os) : World :=
  { World.holding Tryd.prog os ⟨#[], #[], []⟩ with heap := ((World.holding Tryd.prog os ⟨#[], #[], []⟩).heap.modify 0 (layAt (partsOf Rows.laid_loop_example_g00547_impl_orderForms))) }
theorem laid_met (os : Os) : laidMet Tryd.prog Rows.fnExactOpsOfRow.laid ((laidWorld os).forCall (fun _ _ => 0) ⟨#[], #[.agg #[.slice none 0 0], .int .i64 0], []⟩).memory :=
  laidMet_of_run' 8 (by kernel_rfl) (by kernel_rfl)
theorem reads (os : Os) {H : Type} (enc : TypeId × Value → H) : ∃ places, DataW.whole enc Tryd.prog ((laidWorld os).forCall (fun _ _ => 0) ⟨#[], #[.agg #[.slice none 0 0], .int .i64 0], []⟩).memory Tryd.f5.params.toList Rows.fnExactOpsOfSpec.vars false #[.agg #[.slice none 0 0], .int .i64 0].toList 8 = some ([.agg [.nil], .lit (.int .i64 0)], [Rows.laid_loop_example_g00547_impl_orderForms], places) :=
  ⟨MemPlace.row ⟨0, 0, none⟩ 75, by kernel_rfl⟩

set_option maxRecDepth 100000 in
theorem lifted (os : Os) (started : os.Started) (H : Type) (enc : TypeId × Value → H) (F0 : Stop.Interp) :
    ReturnsInHanded {} Tryd.checked os 5 .any ((OpenSpec.ofChange Rows.fnExactOpsOfSpec).preRow enc Tryd.prog Tryd.f5 Rows.fnExactOpsOfRow.domain false Rows.fnExactOpsOfRow.laid) (((OpenSpec.ofChange Rows.fnExactOpsOfSpec).at F0).post enc Tryd.prog Tryd.f5 false true false false) := by
  obtain ⟨places, hx⟩ := reads os enc
  refine returnsInHanded_of_row (C := Tryd.checked) (s := OpenSpec.ofChange Rows.fnExactOpsOfSpec) own started (by kernel_rfl) Tryd.func5
    (witness_row_at (enc := enc) (C := Tryd.checked) false (laidWorld os) #[.agg #[.slice none 0 0], .int .i64 0] rfl (by kernel_rfl) (by kernel_rfl) (by kernel_rfl)
      (OpenSpec.preRow_of_cond 8 hx (by kernel_rfl) (fun k hk => by cases hk) (by kernel_rfl) (laid_met os))) ?_
  intro W base args ds gs before hval hW _ _ _ hL _ _
  exact contract H enc W base args ds gs before hval hW hL

theorem said : Rows.FnExactOpsOfSaid :=
  OpenClaim.holds_of_cond 5 Tryd.f5 rfl rfl rfl rfl rfl rfl rfl ⟨rfl, rfl, rfl, rfl, rfl⟩ rfl rfl rfl rfl rfl (by kernel_rfl) Tryd.func5 (by kernel_rfl)
    (of_decide_eq_true (by kernel_rfl)) (by unfold Func.isWrapper; first | (rw [if_pos (by decide +kernel)]; kernel_rfl) | (rw [if_neg (by decide +kernel)]; exact ⟨rfl, rfl⟩))
    (fun os started H enc _ F0 => by rw [OpenClaim.pre_eq_preRow]; exact lifted os started H enc F0)

theorem plain (f : FuncId) (fn : Func) (hf : Tryd.pinned.checked.prog.funcNamed "loop.example/g00547/laws.FnExactOpsOf" = some f) (hfn : Tryd.pinned.checked.prog.funcs[f]? = some fn) :
    false = Tryd.pinned.checked.prog.looks [] ∧ ∀ (j : Nat) t, fn.params[j]? = some t → Tryd.pinned.checked.prog.wantsStandIn t = false := by
  obtain rfl : f = 5 := Option.some.inj ((show Tryd.prog.funcNamed "loop.example/g00547/laws.FnExactOpsOf" = some 5 by kernel_rfl).symm.trans hf) |>.symm
  obtain rfl : fn = Tryd.f5 := (Option.some.inj (Tryd.func5.symm.trans hfn)).symm
  refine ⟨by kernel_rfl, fun j t ht => ?_⟩
  rw [Tryd.params5] at ht
  have hm := Array.mem_of_getElem? ht
  simp only [List.mem_toArray, List.mem_cons, List.not_mem_nil, or_false] at hm
  rcases hm with rfl | rfl
  · exact (show Tryd.prog.wantsStandIn 24 = false by kernel_rfl)
  · exact (show Tryd.prog.wantsStandIn 3 = false by kernel_rfl)

theorem card : Rows.FnExactOpsOfCardSaid :=
  Claim7.holds_tied_plain_at .later [] _ _ _ _ said (fun _ h => by cases h) (by kernel_rfl) (fun _ h => by cases h) fnExactOpsOf_row_tie rfl ⟨rfl, rfl⟩ (by kernel_rfl) rfl plain (by kernel_rfl)
end OpsOfLaw
end Go.Proofs.YtpepikjcbgkcfaaDoor
