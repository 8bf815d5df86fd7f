/-
  At every program and name FuncAt answers as its model, and writes into no argument. No condition.
-/
import Derived.Test.YtglalpoalinieaaFnAll
import Derived.Test.YtglalpoalinieaaOpenAll
import Derived.Test.YtglalpoalinieaaSpecFuncAt
import Derived.Test.YtglalpoalinieaaImplFuncAt
import Derived.Test.YtglalpoalinieaaOpen
namespace Go.Proofs.Ytglalpoalinieaa
open Go.ChangeShapes Go.WideShapes Go.ChangeAt Go.RowKit
set_option linter.unusedVariables false

namespace FuncAtLaw

set_option maxHeartbeats 1000000 in
theorem walk (p : List Fn) (Ap : Option Addr) (cp : Nat) (n : List UInt8) (An : Option Addr) (cn : Nat) (w : World) (hRp : FnL w 0 w.heap.size Ap p) (hln : n.length ≤ maxLen) (hRn : RB w w.heap.size An n) :
    Calls Try.prog 5 #[.agg #[.slice Ap p.length cp], .slice An n.length cn] w fun e w' => e = .returned (.bool true) ∧ Below w.heap.size w w' := by
  have hbA : Below w.heap.size w (w.alloc (.cells #[.slice Ap p.length cp] 24)) := (Below.refl _ _).alloc (Nat.le_refl _) _
  have KA : Blk (w.alloc (.cells #[.slice Ap p.length cp] 24)) w.heap.size 24 #[.slice Ap p.length cp] := Blk.new w _ _
  unfold maxLen at hln
  have Hp := Lib.hid hRp
  have Hn := Lib.hid hRn
  clear hRp hRn
  by_cases hbig : 1048576 < n.length
  · go_enter Try.func5, Try.ntmps5
    go_wp2
    go_ret
    exact ⟨rfl, hbA⟩
  have hn : n.length ≤ 1048576 := by omega
  clear hbig
  go_enter Try.func5, Try.ntmps5
  go_wp2_with fail
  refine (szProg_c p Ap cp 0 w.heap.size 1048576 _ (by simp) (by omega) (by omega) (Hp.out.below hbA)).mono ?_
  rintro e w0 ⟨r, rfl, hr1, hr2, hr3, hbx⟩
  have hb0 := hbA.trans (hbx.mono hbA.size)
  have KA0 := KA.below hbx KA.lt
  by_cases hr : r < 0
  · clear hr3
    go_wp2
    go_ret
    exact ⟨rfl, hb0⟩
  have hr' : 0 ≤ r := by omega
  have hsz : fnsSz p ≤ 1048576 := by have := hr3 hr'; omega
  have qA := KA0.cell_of 0 rfl
  clear hr hr3 hbx KA
  go_wp2_with fail
  refine (toProg_c p Ap cp 0 w.heap.size _ hb0.size hsz (Hp.out.below hb0)).mono ?_
  rintro e w1 ⟨g1, rfl, hs1, hg1, hL1, hb1⟩
  have hb01 := hb0.trans (hb1.mono hb0.size)
  have KA1 := KA0.below hb1 KA0.lt
  clear qA
  go_wp2_with fail
  refine (toByteS_c n An cn w.heap.size w1 (by omega) hb01.size (Hn.out.below hb01)).mono ?_
  rintro e w2 ⟨g2, rfl, hB2, hg2, hs2, hb2⟩
  have hb02 := hb01.trans (hb2.mono hb01.size)
  have KA2 := KA1.below hb2 KA1.lt
  have hL2 := hL1.below (hb2.mono (Nat.le_refl _))
  have hR2 : RB w2 w2.heap.size (some ⟨g2, 0, none⟩) n := RB.of_blk hB2 hs2
  go_wp2_with fail
  refine (specFuncAt_c p _ _ _ _ n _ _ _ _ hb2.size (Nat.le_refl _) hsz hL2 hR2).mono ?_
  rintro e w3 ⟨rfl, hb3⟩
  have hb03 := hb02.trans (hb3.mono hb02.size)
  have KA3 := KA2.below hb3 KA2.lt
  have qA := KA3.cell_of 0 rfl
  clear hL1 hL2 hR2 hB2
  obtain ⟨ans, hans⟩ : ∃ a : Int, (if progOk p = true then placeOf (namesOf p) n else -1) = a := ⟨_, rfl⟩
  rw [hans]
  have Hans := Lib.hid hans
  clear hans
  go_wp2_with fail
  refine (toProg_c p Ap cp 0 w.heap.size _ hb03.size hsz (Hp.out.below hb03)).mono ?_
  rintro e w4 ⟨g4, rfl, hs4, hg4, hL4, hb4⟩
  have hb04 := hb03.trans (hb4.mono hb03.size)
  have KA4 := KA3.below hb4 KA3.lt
  have hbX : Below w4.heap.size w4 (w4.alloc (.cells #[.slice (some ⟨g4, 0, none⟩) p.length p.length] 29)) := (Below.refl _ _).alloc (Nat.le_refl _) _
  have KX : Blk (w4.alloc (.cells #[.slice (some ⟨g4, 0, none⟩) p.length p.length] 29)) w4.heap.size 29 #[.slice (some ⟨g4, 0, none⟩) p.length p.length] := Blk.new w4 _ _
  have hbX0 := hb04.trans (hbX.mono hb04.size)
  clear qA
  go_wp2_with fail
  refine (toByteS_c n An cn w.heap.size _ (by omega) hbX0.size (Hn.out.below hbX0)).mono ?_
  rintro e w5 ⟨g5, rfl, hB5, hg5, hs5, hb5⟩
  have hb45 := hbX.trans (hb5.mono hbX.size)
  have hb05 := hb04.trans (hb45.mono hb04.size)
  have hR5 : RB w5 w5.heap.size (some ⟨g5, 0, none⟩) n := RB.of_blk hB5 hs5
  have hL5 := hL4.below hb45
  have KX5 := KX.below hb5 KX.lt
  have KA5 := KA4.below hb45 KA4.lt
  have qX := KX5.cell_of 0 rfl
  go_wp2_with fail
  refine (implFuncAt_c p _ _ _ w4.heap.size n _ _ w5.heap.size w5 hb45.size (Nat.le_refl _) hsz hL5 hR5).mono ?_
  rintro e w6 ⟨rfl, hb6⟩
  rw [Hans.out]
  have hb46 := hb45.trans (hb6.mono hb45.size)
  have hb06 := hb05.trans (hb6.mono hb05.size)
  have hL6 := hL5.below (hb6.mono hb45.size)
  have hR6 := hR5.below hb6
  have KX6 := KX5.below hb6 KX5.lt
  have KA6 := KA5.below hb6 KA5.lt
  clear qX
  have qA := KA6.cell_of 0 rfl
  have qX := KX6.cell_of 0 rfl
  have hx6 := KX6.lt
  have hs56 := hb6.size
  have ha6 := KA6.lt
  have Ht := Lib.hid (fun m => toProg_c p Ap cp 0 w.heap.size (w6.drewN m) hb06.size hsz ((Hp.out.below hb06).keep (w' := w6.drewN m) fun _ _ _ => rfl))
  clear hb1 hb2 hb3 hb4 hbX hb5 hb6 KA0 KA1 KA2 KA3 KA4 KA5 KX KX5 hL4 hL5 hR5 hB5
  go_wp2_with fail
  go_region_with (first
    | (go_at_call 13; refine (Ht.out 1).mono ?_; rintro e w7 ⟨g7, rfl, hs7, hg7, hL7, hb7⟩; have hb67 : Below w6.heap.size w6 w7 := ⟨hb7.os, hb7.tape, hb7.output, hb7.size, hb7.block⟩; have qX7 := (KX6.below hb67 hx6).cell_of 0 rfl; have Heq := Lib.hid (eqProg_c p _ _ p.length p.length _ _ _ _ w7 (Nat.le_trans hb46.size hb67.size) (Nat.le_refl _) hsz (hL6.below (hb67.mono hb46.size)) hL7))
    | (go_at_call 15; refine Heq.out.mono ?_; rintro e w8 ⟨rfl, hb8⟩))
  all_goals
    have hb68 := hb67.trans (hb8.mono hb67.size)
    have hb08 := hb06.trans (hb68.mono hb06.size)
    have hR8 := hR6.below (hb68.mono (by omega))
    go_wp2_with fail
    refine (toByteS_c n An cn w.heap.size w8 (by omega) hb08.size (Hn.out.below hb08)).mono ?_
    rintro e w9 ⟨g9, rfl, hB9, hg9, hs9, hb9⟩
    have hb09 := hb08.trans (hb9.mono hb08.size)
    go_wp2_with fail
    refine (eqByteS_c n _ _ _ _ _ _ w9 (by omega) (hR8.below (hb9.mono (by have := hb68.size; omega))) (RB.of_blk hB9 hs9)).mono ?_
    rintro e w10 ⟨rfl, m10, rfl⟩
    go_wp2
    go_ret
    exact ⟨rfl, ⟨hb09.os, hb09.tape, hb09.output, hb09.size, hb09.block⟩⟩

set_option maxRecDepth 100000 in
theorem lifted (os : Os) (started : os.Started) (H : Type) (enc : TypeId × Value → H) :
    ReturnsInHanded {} Try.checked os 5 .any (Rows.fnExactFuncAtSpec.pre6 enc Try.prog Try.f5 Rows.fnExactFuncAtRow.domain false) (Rows.fnExactFuncAtSpec.post enc Try.prog Try.f5 false true false false) := by
  refine returnsInHanded_of_change (C := Try.checked) (s := Rows.fnExactFuncAtSpec) own started (by kernel_rfl) Try.func5
    (ChangeSpec.witness6 (enc := enc) (C := Try.checked) (s := Rows.fnExactFuncAtSpec) false ⟨#[], #[.agg #[.slice none 0 0], .slice none 0 0], []⟩ 8 (by kernel_rfl) (by kernel_rfl) (by kernel_rfl) (by kernel_rfl)) ?_
  intro W base args ds gs before hval hW _ _
  have hW' := hW
  obtain ⟨p, q, hA0, hV, rfl, hfz, hnd⟩ := hW
  have hA : DataW.TrodAll enc Try.prog W 0 (fun _ => true) true Try.f5.params.toList args.toList ds p := hA0
  replace hval : ∀ (j : Nat) t v, Try.f5.params[j]? = some t → args[j]? = some v → Value.okWide Try.prog W .any base t v := hval
  rw [Try.params5] at hA hval
  obtain ⟨v0, vs0, d0, ds0, p0, q0, hargs0, rfl, rfl, h0, r0⟩ := trodAll_cons hA
  obtain ⟨v1, vs1, d1, ds1, p1, q1, hargs1, rfl, rfl, h1, r1⟩ := trodAll_cons r0
  obtain ⟨rfl, rfl, rfl⟩ := trodAll_nil r1
  obtain rfl : args = #[v0, v1] := by cases args; simp_all
  obtain ⟨rfl, rfl⟩ := trodVars_none hV
  obtain ⟨Ap, p, cp, rfl, hRp⟩ := open_prog (hval 0 24 v0 rfl rfl) h0
  obtain ⟨An, n, cn, rfl, hln, hRn⟩ := open_bytes Try.underlying33 Try.underlying5 cellsU8 (hval 1 33 v1 rfl rfl) h1
  refine (walk p Ap cp n An cn W hRp hln hRn).mono fun e W' ⟨he, hb⟩ => ?_
  subst he
  exact ⟨_, rfl, post_read hW' rfl rfl rfl rfl rfl Try.underlying4 laidOut (by kernel_rfl) hb⟩

theorem proved : Rows.FnExactFuncAtSaid :=
  OpenClaim.holds_of_wide 5 Try.f5 rfl rfl rfl rfl rfl rfl rfl ⟨rfl, rfl, rfl, rfl, rfl⟩ rfl rfl rfl rfl rfl (by kernel_rfl) Try.func5 (by kernel_rfl)
    (of_decide_eq_true (by kernel_rfl)) (by unfold Func.isWrapper; first | (rw [if_pos (by decide +kernel)]; kernel_rfl) | (rw [if_neg (by decide +kernel)]; exact ⟨rfl, rfl⟩))
    (fun os started H enc _ => lifted os started H enc)
end FuncAtLaw
end Go.Proofs.Ytglalpoalinieaa
