/-
  At every number CodeWord answers as its model, and its answer owns its memory. No condition but that the table of words holds what the text lays.
-/
import Derived.Test.YtebgigiakfjocaaDoorCodeWd
import Derived.Test.YtebgigiakfjocaaDoorLaidW
import Derived.Test.YtebgigiakfjocaaDoorCards
import Derived.Test.YtebgigiakfjocaaDoorTie
import Derived.JoinedCond
import Derived.Deep.DeepHandedRow
import Derived.Deep.CondSized
import Derived.Lib.LaidTab
import Derived.Stop.LaidErr
import Derived.SevenTiedAt
import Derived.SevenTiedPlain
namespace Go.Proofs.YtebgigiakfjocaaDoor
open Go.ChangeShapes Go.WideShapes Go.ChangeAt Go.RowKit
set_option linter.unusedVariables false
namespace CodeWordLaw

set_option maxRecDepth 100000 in
set_option maxHeartbeats 4000000 in
theorem walk (x : Int) (w : World) (hF : CodeWd.Words w w.heap.size) :
    Calls Tryd.prog 4 #[.int .i64 x] w fun e w' => e = .returned (.bool true) ∧ Below w.heap.size w w' := by
  have hlm := CodeWd.wordOf_len x
  have hs := fun w => CodeWd.specCodeWord_c x w
  have hi := fun B w => CodeWd.implCodeWord_c x B w
  obtain ⟨l, hl⟩ : ∃ l, CodeWd.wordOf x = l := ⟨_, rfl⟩
  rw [hl] at hlm
  simp only [hl] at hs hi
  have Hs := Lib.hid hs
  have Hi := Lib.hid hi
  have HF := Lib.hid hF
  clear hs hi hl hF
  go_enter Tryd.func4, Tryd.ntmps4
  go_wp2_with fail
  refine (Hs.out _).mono ?_
  rintro e w1 ⟨A1, c1, rfl, hO1, hb1⟩
  have Hb1 := Lib.hid hb1
  have HR1 := Lib.hid (hO1.ownU.rb)
  have Hi1 := Lib.hid (Hi.out _ w1 (HF.out.below hb1))
  clear hO1 hb1
  go_wp2_with fail
  refine Hi1.out.mono ?_
  rintro e w2 ⟨A2, c2, rfl, hO2, hb2⟩
  have Hb2 := Lib.hid (Hb1.out.trans (hb2.mono Hb1.out.size))
  have HR1' := Lib.hid (HR1.out.below hb2)
  have HO2 := Lib.hid hO2.ownU
  have Heq := Lib.hid (eqByteS_c l A2 A1 c2 c1 _ _ w2 (by omega) HO2.out.rb HR1'.out)
  have hs12 := hb2.size
  clear hO2 hb2 HR1 Hi1
  go_wp2_with fail
  refine Heq.out.mono ?_
  rintro e w3 ⟨rfl, n3, hw3⟩
  have hb3 : Below w2.heap.size w2 w3 := by subst hw3; exact ⟨rfl, rfl, rfl, Nat.le_refl _, fun _ _ => rfl⟩
  have hO3 := HO2.out.below hb3
  have Hm := Lib.hid (markByteS_o l.length A2 c2 w1.heap.size 1 (gU l) w3 (by omega) hO3)
  have Hb3 := Lib.hid (Hb2.out.trans (hb3.mono Hb2.out.size))
  have HR3 := Lib.hid (HR1'.out.below (hb3.mono hs12))
  have hs3 := hb3.size
  clear hw3 hb3 hO3 HO2 HR1' Heq
  go_wp2_with fail
  refine Hm.out.mono ?_
  rintro e w4 ⟨rfl, hO4, hs4, hb4, hot⟩
  obtain ⟨u, hu⟩ : ∃ u : Nat, 1 + l.length = u := ⟨_, rfl⟩
  have Hh := Lib.hid (heldByteS_o l.length A2 c2 w1.heap.size 1 w4 (by omega) hO4)
  rw [hu] at Hh ⊢
  have hu0 : decide ((u : Int) < 0) = false := decide_eq_false (by omega)
  have HO4 := Lib.hid hO4
  have Hb4 := Lib.hid (Hb3.out.trans (hb4.mono Hb1.out.size))
  have HR4 := Lib.hid (HR3.out.below hb4)
  have Hu := Lib.hid hu
  clear hO4 hb4 hot HR3 Hm hu
  go_wp2_with fail
  refine Hh.out.mono ?_
  rintro e w5 ⟨rfl, rfl⟩
  have Hi5 := Lib.hid (Hi.out _ w4 (HF.out.below Hb4.out))
  clear Hh
  go_wp2_with fail
  refine Hi5.out.mono ?_
  rintro e w6 ⟨A6, c6, rfl, hO6, hb6⟩
  have Hb6 := Lib.hid (Hb4.out.trans (hb6.mono Hb4.out.size))
  have hs24 : w1.heap.size ≤ w4.heap.size := by omega
  have HR6 := Lib.hid (HR4.out.below (hb6.mono hs24))
  have HO6 := Lib.hid (HO4.out.below hb6)
  have Heq := Lib.hid (eqByteS_c l A6 A1 c6 c1 _ _ w6 (by omega) hO6.ownU.rb HR6.out)
  clear hO6 hb6 HR4 HO4 Hi5
  go_wp2_with fail
  refine Heq.out.mono ?_
  rintro e w7 ⟨rfl, n7, hw7⟩
  have hb7 : Below w6.heap.size w6 w7 := by subst hw7; exact ⟨rfl, rfl, rfl, Nat.le_refl _, fun _ _ => rfl⟩
  have Hb7 := Lib.hid (Hb6.out.trans (hb7.mono Hb6.out.size))
  have Hh := Lib.hid (heldByteS_o l.length A2 c2 w1.heap.size 1 w7 (by omega) (HO6.out.below hb7))
  rw [Hu.out] at Hh
  clear hw7 hb7 HO6 HR6 Heq
  go_wp2_with fail
  refine Hh.out.mono ?_
  rintro e w8 ⟨rfl, rfl⟩
  go_wp2
  go_ret
  exact ⟨rfl, Hb7.out⟩

theorem table {W : World} (h : laidMetH Tryd.prog Rows.fnExactCodeWordRow.laid W) : CodeWd.Words W W.heap.size := by
  have h' : laidMet Tryd.prog Rows.fnExactCodeWordRow.laid W := by
    rw [MakeChecks.laidMetH_plain _ _ _ (by kernel_rfl)] at h
    exact h
  exact CodeWd.words_of h'

set_option maxRecDepth 100000 in
theorem contract (H : Type) (enc : TypeId × Value → H) (W : World) (base : Nat) (args : Array Value) (ds gs : List (DataW H)) (before : List MemPlace)
    (hval : ∀ (j : Nat) t v, Tryd.f4.params[j]? = some t → args[j]? = some v → Value.okWide Tryd.prog W .any base t v)
    (hW : DataW.Whole enc Tryd.prog Tryd.f4.params.toList Rows.fnExactCodeWordSpec.vars false W args.toList ds gs before) (hL : laidMetH Tryd.prog Rows.fnExactCodeWordRow.laid W) :
    Calls Tryd.prog 4 args W fun e W' => ∃ v, e = .returned v ∧ Rows.fnExactCodeWordSpec.post enc Tryd.prog Tryd.f4 false true false false W args v W' := by
  have hW' := hW
  obtain ⟨p, q, hA0, hV, rfl, hfz, hnd⟩ := hW
  have hA : DataW.TrodAll enc Tryd.prog W 0 (fun _ => true) true Tryd.f4.params.toList args.toList ds p := hA0
  replace hval : ∀ (j : Nat) t v, Tryd.f4.params[j]? = some t → args[j]? = some v → Value.okWide Tryd.prog W .any base t v := hval
  rw [Tryd.params4] at hA hval
  obtain ⟨v0, vs0, d0, ds0, p0, q0, hargs0, rfl, rfl, h0, r0⟩ := trodAll_cons hA
  obtain ⟨rfl, rfl, rfl⟩ := trodAll_nil r0
  obtain rfl : args = #[v0] := by cases args; simp_all
  obtain ⟨n, rfl, rfl, rfl, wn⟩ := open_int Tryd.underlying3 (hval 0 3 v0 rfl rfl) h0
  refine (walk n W (table hL)).mono fun e W' ⟨he, hb⟩ => ?_
  subst he
  have hgs : ∃ g, gs = [g] := by
    obtain ⟨g, t, cs, fuel, d, p, rfl, _⟩ := trodVars_one hV
    exact ⟨d, rfl⟩
  obtain ⟨g, rfl⟩ := hgs
  exact ⟨_, rfl, PV.post_var hW' rfl CodeWd.gTab CodeWd.gTabType (by kernel_rfl) (of_decide_eq_true (by kernel_rfl)) rfl rfl rfl rfl Tryd.underlying4 laidOut (by kernel_rfl) hb⟩

/-- a table's cells out of its listed datum -/
def litsOf : List (DataW Unit) → List Value
  | [] => []
  | .lit (.int k n) :: r => .int k n :: litsOf r
  | .lit (.bool b) :: r => .bool b :: litsOf r
  | .lit (.string s) :: r => .string ⟨s.toArray⟩ :: litsOf r
  | _ :: r => litsOf r
def partsOf : DataW Unit → Array Value
  | .agg l => (litsOf l).toArray
  | _ => #[]
def layAt (cs : Array Value) : Obj → Obj
  | .cells _ t frozen => .cells cs t frozen
  | o => o
/-- A WORLD FOR THE WITNESS: the settled one, the table holding what its initialiser lays. -/
noncomputable def laidWorld (os : Os) : World :=
  { World.holding Tryd.prog os ⟨#[], #[], []⟩ with heap := ((World.holding Tryd.prog os ⟨#[], #[], []⟩).heap.modify 0 (layAt (partsOf Rows.laid_loop_example_g00547_impl_codeWords))) }
theorem laid_met (os : Os) : laidMet Tryd.prog Rows.fnExactCodeWordRow.laid ((laidWorld os).forCall (fun _ _ => 0) ⟨#[], #[.int .i64 0], []⟩).memory :=
  laidMet_of_run' 8 (by kernel_rfl) (by kernel_rfl)
theorem reads (os : Os) {H : Type} (enc : TypeId × Value → H) : ∃ places, DataW.whole enc Tryd.prog ((laidWorld os).forCall (fun _ _ => 0) ⟨#[], #[.int .i64 0], []⟩).memory Tryd.f4.params.toList Rows.fnExactCodeWordSpec.vars false #[.int .i64 0].toList 8 = some ([.lit (.int .i64 0)], [Rows.laid_loop_example_g00547_impl_codeWords], places) :=
  ⟨MemPlace.row ⟨0, 0, none⟩ 6, by kernel_rfl⟩

set_option maxRecDepth 100000 in
theorem lifted (os : Os) (started : os.Started) (H : Type) (enc : TypeId × Value → H) (F0 : Stop.Interp) :
    ReturnsInHanded {} Tryd.checked os 4 .any ((OpenSpec.ofChange Rows.fnExactCodeWordSpec).preRow enc Tryd.prog Tryd.f4 Rows.fnExactCodeWordRow.domain false Rows.fnExactCodeWordRow.laid) (((OpenSpec.ofChange Rows.fnExactCodeWordSpec).at F0).post enc Tryd.prog Tryd.f4 false true false false) := by
  obtain ⟨places, hx⟩ := reads os enc
  refine returnsInHanded_of_row (C := Tryd.checked) (s := OpenSpec.ofChange Rows.fnExactCodeWordSpec) own started (by kernel_rfl) Tryd.func4
    (witness_row_at (enc := enc) (C := Tryd.checked) false (laidWorld os) #[.int .i64 0] rfl (by kernel_rfl) (by kernel_rfl) (by kernel_rfl)
      (OpenSpec.preRow_of_cond 8 hx (by kernel_rfl) (fun k hk => by cases hk) (by kernel_rfl) (laid_met os))) ?_
  intro W base args ds gs before hval hW _ _ _ hL _ _
  exact contract H enc W base args ds gs before hval hW hL

theorem said : Rows.FnExactCodeWordSaid :=
  OpenClaim.holds_of_cond 4 Tryd.f4 rfl rfl rfl rfl rfl rfl rfl ⟨rfl, rfl, rfl, rfl, rfl⟩ rfl rfl rfl rfl rfl (by kernel_rfl) Tryd.func4 (by kernel_rfl)
    (of_decide_eq_true (by kernel_rfl)) (by unfold Func.isWrapper; first | (rw [if_pos (by decide +kernel)]; kernel_rfl) | (rw [if_neg (by decide +kernel)]; exact ⟨rfl, rfl⟩))
    (fun os started H enc _ F0 => by rw [OpenClaim.pre_eq_preRow]; exact lifted os started H enc F0)

theorem plain (f : FuncId) (fn : Func) (hf : Tryd.pinned.checked.prog.funcNamed "loop.example/g00547/laws.FnExactCodeWord" = some f) (hfn : Tryd.pinned.checked.prog.funcs[f]? = some fn) :
    false = Tryd.pinned.checked.prog.looks [] ∧ ∀ (j : Nat) t, fn.params[j]? = some t → Tryd.pinned.checked.prog.wantsStandIn t = false := by
  obtain rfl : f = 4 := Option.some.inj ((show Tryd.prog.funcNamed "loop.example/g00547/laws.FnExactCodeWord" = some 4 by kernel_rfl).symm.trans hf) |>.symm
  obtain rfl : fn = Tryd.f4 := (Option.some.inj (Tryd.func4.symm.trans hfn)).symm
  refine ⟨by kernel_rfl, fun j t ht => ?_⟩
  rw [Tryd.params4] at ht
  have hm := Array.mem_of_getElem? ht
  simp only [List.mem_toArray, List.mem_cons, List.not_mem_nil, or_false] at hm
  subst hm
  exact (show Tryd.prog.wantsStandIn 3 = false by kernel_rfl)

theorem card : Rows.FnExactCodeWordCardSaid :=
  Claim7.holds_tied_plain_at .later [] _ _ _ _ said (fun _ h => by cases h) (by kernel_rfl) (fun _ h => by cases h) fnExactCodeWord_row_tie rfl ⟨rfl, rfl⟩ (by kernel_rfl) rfl plain (by kernel_rfl)
end CodeWordLaw
end Go.Proofs.YtebgigiakfjocaaDoor
