/-
  At every function Calls answers as its model, writes into no argument, and its answer shares no memory with an argument or another answer. No condition.
-/
import Derived.Test.YtmejbmfopdfbjaaFnAll
import Derived.Test.YtmejbmfopdfbjaaOpenAll
import Derived.Test.YtmejbmfopdfbjaaSpecCallsFn
import Derived.Test.YtmejbmfopdfbjaaMarkSz
import Derived.Test.YtmejbmfopdfbjaaNewFn
import Derived.Test.YtmejbmfopdfbjaaOpen
namespace Go.Proofs.Ytmejbmfopdfbjaa
open Go.ChangeShapes Go.WideShapes Go.ChangeAt Go.RowKit
set_option linter.unusedVariables false

theorem mkBs_six : ∀ l : List (List UInt8), (∀ a ∈ l, a.length ≤ 6) → mkBs l ≤ 6 * l.length
  | [], _ => by simp [mkBs]
  | a :: r, h => by
    have h1 := mkBs_six r (fun x hx => h x (by simp [hx]))
    have h2 := h a (by simp)
    unfold mkBs at h1 ⊢
    simp only [List.map_cons, List.sum_cons, List.length_cons]
    omega
theorem calls_sz (f : Fn) : bsSz (callsOf f) ≤ 1048576 := by
  unfold callsOf
  by_cases h : fnForm f = true
  · rw [if_pos h]
    obtain ⟨h1, h2⟩ := calls_names f h
    have h3 := mkBs_six _ (fun a ha => (h2 a ha).2)
    unfold bsSz
    rw [bsIn_all]
    omega
  · rw [if_neg h]; simp [bsSz, bsIn]
theorem FnV.shape {w : World} {L B : Nat} {v0 v1 v2 : Value} {f : Fn} (h : FnV w L B v0 v1 v2 f) : ∃ A c A1 c1 A2 c2, v0 = .slice A f.name.length c ∧ v1 = .slice A1 f.params.length c1 ∧ v2 = .slice A2 f.body.length c2 := by
  obtain ⟨A, c, A1, c1, A2, c2, e0, e1, e2, _⟩ := h
  exact ⟨A, c, A1, c1, A2, c2, e0, e1, e2⟩
theorem OwnN.bsl_ {w : World} {lo : Nat} {A : Option Addr} {l : List (List UInt8)} {gs : Nat → Nat} (h : OwnN w lo A l gs) (hl : bsSz l ≤ 1048576) : BsL w lo w.heap.size A l :=
  h.bsl (by unfold bsSz at hl; unfold maxLen; omega) (fun i hi => by have := bsSz_get hi; unfold maxLen; omega)

namespace CallsLaw

set_option maxRecDepth 100000 in
set_option maxHeartbeats 4000000 in
theorem walk (f : Fn) (v0 v1 v2 : Value) (w : World) (hRp : FnV w 0 w.heap.size v0 v1 v2 f) :
    Calls Try.prog 3 #[.agg #[v0, v1, v2]] w fun e w' => e = .returned (.bool true) ∧ Below w.heap.size w w' := by
  obtain ⟨Ap, cp, Ap1, cp1, Ap2, cp2, rfl, rfl, rfl⟩ := hRp.shape
  have hbA : Below w.heap.size w (w.alloc (.cells #[.slice Ap f.name.length cp, .slice Ap1 f.params.length cp1, .slice Ap2 f.body.length cp2] 26)) := (Below.refl _ _).alloc (Nat.le_refl _) _
  have KA : Blk (w.alloc (.cells #[.slice Ap f.name.length cp, .slice Ap1 f.params.length cp1, .slice Ap2 f.body.length cp2] 26)) w.heap.size 26 #[.slice Ap f.name.length cp, .slice Ap1 f.params.length cp1, .slice Ap2 f.body.length cp2] := Blk.new w _ _
  go_enter Try.func3, Try.ntmps3
  go_wp2_with fail
  refine (szFunc_c f _ _ _ 1048576 _ 0 w.heap.size (hRp.below hbA) (by simp) (by omega) (by omega)).mono ?_
  rintro e w0 ⟨r, rfl, hr1, hr2, hr3, hbx⟩
  have hb0 := hbA.trans (hbx.mono hbA.size)
  have KA0 := KA.below hbx KA.lt
  by_cases hr : r < 0
  · clear hr3
    go_wp2
    go_ret
    exact ⟨rfl, hb0⟩
  have hr' : 0 ≤ r := by omega
  have hsz : fnSz f ≤ 1048576 := by have := hr3 hr'; omega
  have hNz : bsSz (callsOf f) ≤ 1048576 := calls_sz f
  have hNl : (callsOf f).length ≤ 4194304 := by unfold bsSz at hNz; omega
  have hNm : 1 + mkBs (callsOf f) ≤ 1073741824 := by have := mkBs_sz (callsOf f); omega
  have hpm : 1 + mkFn f ≤ 1073741824 := by have := mkFn_sz f; omega
  have qA0 := KA0.cell_of 0 (v := .slice Ap f.name.length cp) rfl
  have qA1 := KA0.cell_of 1 (v := .slice Ap1 f.params.length cp1) rfl
  have qA2 := KA0.cell_of 2 (v := .slice Ap2 f.body.length cp2) rfl
  clear hr hr3 hbx KA
  go_wp2_with fail
  refine (toFunc_c f _ _ _ _ 0 w.heap.size (hRp.below hb0) hb0.size hsz).mono ?_
  rintro e w1 ⟨y0, y1, y2, rfl, hL1, hb1⟩
  have hb01 := hb0.trans (hb1.mono hb0.size)
  have KA1 := KA0.below hb1 KA0.lt
  clear qA0 qA1 qA2
  go_wp2_with fail
  refine (specCalls_c f _ _ _ _ _ _ (Nat.le_refl _) hsz hL1).mono ?_
  rintro e w2 ⟨As, cs, gss, rfl, hos, hb2⟩
  have hb02 := hb01.trans (hb2.mono hb01.size)
  have KA2 := KA1.below hb2 KA1.lt
  have qA0 := KA2.cell_of 0 (v := .slice Ap f.name.length cp) rfl
  have qA1 := KA2.cell_of 1 (v := .slice Ap1 f.params.length cp1) rfl
  have qA2 := KA2.cell_of 2 (v := .slice Ap2 f.body.length cp2) rfl
  have hwl : w.heap.size < w2.heap.size := KA2.lt
  have hsl := hb2.size
  go_wp2_with fail
  refine (toFunc_n f _ _ _ _ 0 w.heap.size (hRp.below hb02) hb02.size hsz).mono ?_
  rintro e w3 ⟨z0, z1, z2, rfl, hL3, hb3, hnw3⟩
  obtain ⟨Ax, cx, Ax1, cx1, Ax2, cx2, rfl, rfl, rfl⟩ := hL3.shape
  have hb03 := hb02.trans (hb3.mono hb02.size)
  have KA3 := KA2.below hb3 KA2.lt
  have hbX : Below w3.heap.size w3 (w3.alloc (.cells #[.slice Ax f.name.length cx, .slice Ax1 f.params.length cx1, .slice Ax2 f.body.length cx2] 31)) := (Below.refl _ _).alloc (Nat.le_refl _) _
  have KX : Blk (w3.alloc (.cells #[.slice Ax f.name.length cx, .slice Ax1 f.params.length cx1, .slice Ax2 f.body.length cx2] 31)) w3.heap.size 31 #[.slice Ax f.name.length cx, .slice Ax1 f.params.length cx1, .slice Ax2 f.body.length cx2] := Blk.new w3 _ _
  clear qA0 qA1 qA2
  go_wp2_with fail
  refine (implCalls_c f _ _ _ _ w3.heap.size _ (by simp) hsz (hL3.below hbX)).mono ?_
  rintro e w4 ⟨Ag, cg, gsg, rfl, hog, hb4⟩
  have hb34 := hbX.trans (hb4.mono hbX.size)
  have hb24 := hb3.trans (hb34.mono hb3.size)
  have KX4 := KX.below hb4 KX.lt
  have hq1 := eqByteSS_c (callsOf f) Ag As cg cs _ _ _ _ w4 (Nat.le_refl _) (Nat.le_refl _) hNz (hog.bsl_ hNz) ((hos.below hb24 (Nat.le_refl _)).bsl_ hNz)
  have Hq1 := Lib.hid hq1
  clear hq1
  go_wp2_with fail
  refine Hq1.out.mono ?_
  rintro e w5 ⟨rfl, hb5⟩
  have hb35 := hb34.trans (hb5.mono hb34.size)
  have hb05 := hb03.trans (hb35.mono hb03.size)
  have hL5 := hL3.below hb35
  have KX5 := KX4.below hb5 KX4.lt
  have KA5 := KA3.below hb35 KA3.lt
  have qA0 := KA5.cell_of 0 (v := .slice Ap f.name.length cp) rfl
  have qA1 := KA5.cell_of 1 (v := .slice Ap1 f.params.length cp1) rfl
  have qA2 := KA5.cell_of 2 (v := .slice Ap2 f.body.length cp2) rfl
  have qX_0 := KX5.cell_of 0 (v := .slice Ax f.name.length cx) rfl
  have qX_1 := KX5.cell_of 1 (v := .slice Ax1 f.params.length cx1) rfl
  have qX_2 := KX5.cell_of 2 (v := .slice Ax2 f.body.length cx2) rfl
  have hx5 := KX5.lt
  have ha5 := KA5.lt
  have Ht := Lib.hid (fun m => toFunc_c f _ _ _ (w5.drewN m) 0 w.heap.size ((hRp.below hb05).keep (w' := w5.drewN m) fun _ _ _ => rfl) hb05.size hsz)
  have Hos := Lib.hid hos
  have Hog := Lib.hid (hog.below hb5 (Nat.le_refl _))
  have Hnw := Lib.hid hnw3
  have HR := Lib.hid hRp
  have HlX := Lib.hid hb4.size
  clear hos hog hnw3 hRp Hq1 hb4 KX KX4 KA0 KA1 KA2 KA3 hL1 hb1 hbA hb0 hb01
  go_wp2_with fail
  go_region_with (first
    | (go_at_call 8; refine (Ht.out 1).mono ?_; rintro e w6 ⟨t0, t1, t2, rfl, hL6, hb6⟩; have hb56 : Below w5.heap.size w5 w6 := ⟨hb6.os, hb6.tape, hb6.output, hb6.size, hb6.block⟩; have qX60 := (KX5.below hb56 hx5).cell_of 0 (v := .slice Ax f.name.length cx) rfl; have qX61 := (KX5.below hb56 hx5).cell_of 1 (v := .slice Ax1 f.params.length cx1) rfl; have qX62 := (KX5.below hb56 hx5).cell_of 2 (v := .slice Ax2 f.body.length cx2) rfl; have Heq := Lib.hid (eqFunc_c f _ _ _ _ _ _ w6 _ _ _ _ (hL5.below (hb56.mono hb35.size)) hL6 (Nat.le_trans hb35.size hb56.size) (Nat.le_refl _) hsz))
    | (go_at_call 11; refine Heq.out.mono ?_; rintro e w7 ⟨rfl, hb7⟩))
  all_goals
    have hb57 := hb56.trans (hb7.mono hb56.size)
    have hb37 := hb35.trans (hb57.mono hb35.size)
    have KX7 := KX5.below hb57 hx5
    have KA7 := KA5.below hb57 ha5
    have qX7_0 := KX7.cell_of 0 (v := .slice Ax f.name.length cx) rfl
    have qX7_1 := KX7.cell_of 1 (v := .slice Ax1 f.params.length cx1) rfl
    have qX7_2 := KX7.cell_of 2 (v := .slice Ax2 f.body.length cx2) rfl
    have hx7 := KX7.lt
    have ha7 := KA7.lt
    have hT7 : Thaw w2.heap.size w3.heap.size w7 := fun k h1 h2 => by
      obtain ⟨cs', t', e'⟩ := Hnw.out k h1 h2
      exact ⟨cs', t', (hb37.block k h2).trans e'⟩
    have hb7M : Below w7.heap.size w7 (w7.alloc (.cells #[.slice Ax f.name.length cx, .slice Ax1 f.params.length cx1, .slice Ax2 f.body.length cx2] 31)) := (Below.refl _ _).alloc (Nat.le_refl _) _
    have Hmk := Lib.hid (markFunc_c f _ _ _ w2.heap.size w3.heap.size 1 w7 hb37.size hpm hT7 (hL3.below hb37))
    have Hb := Lib.hid (And.intro hb05 (And.intro hb57 (And.intro hb37 (And.intro hb7M (And.intro hb24 (And.intro hb3 (And.intro hb02 hb5)))))))
    clear Ht Heq hb05 hb56 hb57 hb37 hb7M hb24 hb3 hb02 hb5 hb6 hb7 hT7 hL3 hL5 hL6 hb34 hb35 hb03 hbX qX60 qX61 qX62 qX_0 qX_1 qX_2
    go_wp2_with fail
    refine Hmk.out.mono ?_
    rintro e w8 ⟨rfl, hmk⟩
    obtain ⟨u, hu⟩ : ∃ u : Nat, 1 + mkFn f = u := ⟨_, rfl⟩
    rw [hu]
    have hu0 : decide ((u : Int) < 0) = false := decide_eq_false (by omega)
    obtain ⟨hb05, hb57, hb37, hb7M, hb24, hb3, hb02, hb5⟩ := Hb.out
    have KA8 := (KA7.below hb7M ha7).below hmk.below hwl
    have ha8 := KA8.lt
    have hs78 := hb7M.size
    have hs8 := hmk.size
    have hs23 := hb3.size
    have hs35 := hb37.size
    have hb28 : Below w2.heap.size w2 w8 := (((hb24.trans (hb5.mono hb24.size)).trans (hb57.mono (by have := hb24.size; have := hb5.size; omega))).trans (hb7M.mono (by omega))).trans hmk.below
    have hg8 : OwnN w8 (w3.alloc (.cells #[.slice Ax f.name.length cx, .slice Ax1 f.params.length cx1, .slice Ax2 f.body.length cx2] 31)).heap.size Ag (callsOf f) gsg :=
      ((Hog.out.below hb57 (Nat.le_refl _)).below hb7M (Nat.le_refl _)).mk_ hmk (by simp)
    have hlo8 : (w3.alloc (.cells #[.slice Ax f.name.length cx, .slice Ax1 f.params.length cx1, .slice Ax2 f.body.length cx2] 31)).heap.size ≤ w8.heap.size := by have := HlX.out; have := hb5.size; have := hb57.size; omega
    have Hq2 := Lib.hid (eqByteSS_c (callsOf f) Ag As cg cs _ _ _ _ w8 (Nat.le_refl _) (Nat.le_refl _) hNz (hg8.bsl_ hNz) ((Hos.out.below hb28 (Nat.le_refl _)).bsl_ hNz))
    have Hb2 := Lib.hid hb28
    have Hg8 := Lib.hid hg8
    have Hlo := Lib.hid hlo8
    have hb08 := hb02.trans (hb28.mono hb02.size)
    have Hb08 := Lib.hid hb08
    have U := Lib.hid hu
    have Hs23 := Lib.hid hs23
    clear Hmk Hb hb05 hb57 hb37 hb7M hb24 hb3 hb02 hb5 hmk hb28 hg8 hlo8 hb08 hu KA5 KA7 KX5 KX7 qA0 qA1 qA2 qX7_0 qX7_1 qX7_2 Hog Hnw hs78 hs8 hs23 hs35
    go_wp2_with fail
    refine Hq2.out.mono ?_
    rintro e w9 ⟨rfl, hb9⟩
    have hg9 := Hg8.out.below hb9 (Nat.le_refl _)
    have Hm := Lib.hid (markOwn_c (callsOf f) Ag cg _ 1 1 gsg w9 rfl hNl hNm (Nat.le_trans Hlo.out hb9.size) hg9)
    have Hb9 := Lib.hid hb9
    have KA9 := KA8.below hb9 ha8
    have ha9 := KA9.lt
    clear Hq2 hb9 hg9 KA8
    go_wp2_with fail
    refine Hm.out.mono ?_
    rintro e w10 ⟨rfl, hg10, hb10⟩
    have Hh := Lib.hid (heldOwn_c (callsOf f) Ag cg _ 1 1 gsg w10 rfl hNl hNm hg10)
    obtain ⟨m, hm⟩ : ∃ m : Nat, 1 + mkBs (callsOf f) = m := ⟨_, rfl⟩
    rw [hm]
    rw [hm] at Hh
    have hm0 : decide ((m : Int) < 0) = false := decide_eq_false (by omega)
    have M := Lib.hid hm
    have hlo2 : w2.heap.size ≤ (w3.alloc (.cells #[.slice Ax f.name.length cx, .slice Ax1 f.params.length cx1, .slice Ax2 f.body.length cx2] 31)).heap.size := by rw [World.size_alloc]; have := Hs23.out; omega
    have hb2x := Hb2.out.trans ((Hb9.out.mono Hb2.out.size).trans (hb10.mono hlo2))
    have hb0x := Hb08.out.trans ((Hb9.out.mono Hb08.out.size).trans (hb10.mono (Nat.le_trans (Nat.le_of_lt hwl) hlo2)))
    have KAx := KA9.below hb10 (by omega)
    have qA0 := KAx.cell_of 0 (v := .slice Ap f.name.length cp) rfl
    have qA1 := KAx.cell_of 1 (v := .slice Ap1 f.params.length cp1) rfl
    have qA2 := KAx.cell_of 2 (v := .slice Ap2 f.body.length cp2) rfl
    have Ht := Lib.hid (toFunc_c f _ _ _ _ 0 w.heap.size (HR.out.below hb0x) hb0x.size hsz)
    have Hb2x := Lib.hid hb2x
    have Hb0x := Lib.hid hb0x
    have Hg10 := Lib.hid hg10
    clear Hm hm hb2x hb0x hg10 hb10 KA9 KAx
    go_wp2_with fail
    refine Hh.out.mono ?_
    rintro e w' ⟨rfl, rfl⟩
    go_wp2_with fail
    refine Ht.out.mono ?_
    rintro e w11 ⟨s0, s1, s2, rfl, hL11, hb11⟩
    clear qA0 qA1 qA2
    go_wp2_with fail
    refine (implCalls_c f _ _ _ _ _ _ (Nat.le_refl _) hsz hL11).mono ?_
    rintro e w12 ⟨Ah, ch, gsh, rfl, hoh, hb12⟩
    have hbx := hb11.trans (hb12.mono hb11.size)
    have Hq3 := Lib.hid (eqByteSS_c (callsOf f) Ah As ch cs _ _ _ _ w12 (Nat.le_refl _) (Nat.le_refl _) hNz (hoh.bsl_ hNz) ((Hos.out.below (Hb2x.out.trans (hbx.mono Hb2x.out.size)) (Nat.le_refl _)).bsl_ hNz))
    have Hbx := Lib.hid hbx
    clear hbx hoh
    go_wp2_with fail
    refine Hq3.out.mono ?_
    rintro e w13 ⟨rfl, hb13⟩
    have hbf := Hbx.out.trans (hb13.mono Hbx.out.size)
    have Hh2 := Lib.hid (heldOwn_c (callsOf f) Ag cg _ 1 1 gsg w13 rfl hNl hNm (Hg10.out.below hbf (Nat.le_refl _)))
    rw [M.out] at Hh2
    have hb0f := Hb0x.out.trans (hbf.mono Hb0x.out.size)
    have Hb0f := Lib.hid hb0f
    clear hb0f hbf Hq3 Hh hb11 hb12
    go_wp2_with fail
    refine Hh2.out.mono ?_
    rintro e w' ⟨rfl, rfl⟩
    go_wp2
    go_ret
    exact ⟨rfl, Hb0f.out⟩

set_option maxRecDepth 100000 in
theorem lifted (os : Os) (started : os.Started) (H : Type) (enc : TypeId × Value → H) :
    ReturnsInHanded {} Try.checked os 3 .any (Rows.fnExactCallsSpec.pre6 enc Try.prog Try.f3 Rows.fnExactCallsRow.domain false) (Rows.fnExactCallsSpec.post enc Try.prog Try.f3 false true false false) := by
  refine returnsInHanded_of_change (C := Try.checked) (s := Rows.fnExactCallsSpec) own started (by kernel_rfl) Try.func3
    (ChangeSpec.witness6 (enc := enc) (C := Try.checked) (s := Rows.fnExactCallsSpec) false ⟨#[], #[.agg #[.slice none 0 0, .slice none 0 0, .slice none 0 0]], []⟩ 8 (by kernel_rfl) (by kernel_rfl) (by kernel_rfl) (by kernel_rfl)) ?_
  intro W base args ds gs before hval hW _ _
  have hW' := hW
  obtain ⟨p, q, hA0, hV, rfl, hfz, hnd⟩ := hW
  have hA : DataW.TrodAll enc Try.prog W 0 (fun _ => true) true Try.f3.params.toList args.toList ds p := hA0
  replace hval : ∀ (j : Nat) t v, Try.f3.params[j]? = some t → args[j]? = some v → Value.okWide Try.prog W .any base t v := hval
  rw [Try.params3] at hA hval
  obtain ⟨v0, vs0, d0, ds0, p0, q0, hargs0, rfl, rfl, h0, r0⟩ := trodAll_cons hA
  obtain ⟨rfl, rfl, rfl⟩ := trodAll_nil r0
  obtain rfl : args = #[v0] := by cases args; simp_all
  obtain ⟨rfl, rfl⟩ := trodVars_none hV
  obtain ⟨u0, u1, u2, f, rfl, hRp⟩ := open_func (hval 0 26 v0 rfl rfl) h0
  refine (walk f u0 u1 u2 W hRp).mono fun e W' ⟨he, hb⟩ => ?_
  subst he
  exact ⟨_, rfl, post_read hW' rfl rfl rfl rfl rfl Try.underlying4 laidOut (by kernel_rfl) hb⟩

theorem proved : Rows.FnExactCallsSaid :=
  OpenClaim.holds_of_wide 3 Try.f3 rfl rfl rfl rfl rfl rfl rfl ⟨rfl, rfl, rfl, rfl, rfl⟩ rfl rfl rfl rfl rfl (by kernel_rfl) Try.func3 (by kernel_rfl)
    (of_decide_eq_true (by kernel_rfl)) (by unfold Func.isWrapper; first | (rw [if_pos (by decide +kernel)]; kernel_rfl) | (rw [if_neg (by decide +kernel)]; exact ⟨rfl, rfl⟩))
    (fun os started H enc _ => lifted os started H enc)
end CallsLaw
end Go.Proofs.Ytmejbmfopdfbjaa
