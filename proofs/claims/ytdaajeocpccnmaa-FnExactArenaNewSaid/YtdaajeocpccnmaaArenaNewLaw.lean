/-
  At every number ArenaNew answers as its model, and its answer owns its memory. No condition.
-/
import Derived.Test.YtdaajeocpccnmaaArnNew
import Derived.Test.YtdaajeocpccnmaaOpen
namespace Go.Proofs.Ytdaajeocpccnmaa
open Go.ChangeShapes Go.WideShapes Go.ChangeAt Go.RowKit
set_option linter.unusedVariables false
namespace ArenaNewLaw

theorem eqZ (n : Nat) (A D : Option Addr) (L B L' B' : Nat) (w : World) (hn : n ≤ 16) (hB : B ≤ w.heap.size) (hB' : B' ≤ w.heap.size) (h : SlL w L B A (zs n)) (h' : SlL w L' B' D (zs n)) :
    Calls Try.prog 19 #[.agg #[.slice A n n, .slice none 0 0, .slice none 0 0], .agg #[.slice D n n, .slice none 0 0, .slice none 0 0]] w fun e w' => e = .returned (.bool true) ∧ Below w.heap.size w w' := by
  have := eqArena_c ⟨zs n, [], []⟩ A none none D none none n 0 0 n 0 0 L B L' B' w hB hB' (by rw [zs_sz]; omega) ⟨h, IL.none_ _ _ _ _, IL.none_ _ _ _ _⟩ ⟨h', IL.none_ _ _ _ _, IL.none_ _ _ _ _⟩
  simp only [zs_len, List.length_nil] at this
  exact this

set_option maxRecDepth 100000 in
set_option maxHeartbeats 4000000 in
theorem walk (x : Int) (w : World) :
    Calls Try.prog 4 #[.int .i64 x] w fun e w' => e = .returned (.bool true) ∧ Below w.heap.size w w' := by
  have hn := newN_le x
  obtain ⟨n, en⟩ : ∃ n, newN x = n := ⟨_, rfl⟩
  obtain ⟨b, eb⟩ : ∃ b, newB x = b := ⟨_, rfl⟩
  have hs := fun w => specArenaNew_c x w
  have hi := fun w => implArenaNew_c x w
  rw [en] at hn
  simp only [en, eb] at hs hi
  clear en eb
  have Hs := Lib.hid hs
  have Hi := Lib.hid hi
  have Hn := Lib.hid hn
  clear hs hi
  go_enter Try.func4, Try.ntmps4
  go_wp2_with fail
  refine (Hs.out _).mono ?_
  rintro e w1 ⟨A1, rfl, hA1, hO1, hL1, hb1⟩
  have KW := Blk.new w1 30 #[.slice A1 n n, .slice none 0 0, .slice none 0 0]
  have hb1' := hb1.trans (((Below.refl _ _).alloc (Nat.le_refl _) (.cells #[.slice A1 n n, .slice none 0 0, .slice none 0 0] 30)).mono hb1.size)
  have hL1' := hL1.below ((Below.refl _ w1).alloc (Nat.le_refl _) (.cells #[.slice A1 n n, .slice none 0 0, .slice none 0 0] 30))
  have Hb1 := Lib.hid hb1'
  have HL1 := Lib.hid hL1'
  have HKW := Lib.hid KW
  clear hA1 hO1 hL1 hb1 hb1' hL1' KW
  go_wp2_with fail
  refine (Hi.out _).mono ?_
  rintro e w2 ⟨A2, rfl, hA2, hO2, hL2, hb2⟩
  obtain ⟨Y1, eY1⟩ : ∃ Y, Y = w1.alloc (.cells #[.slice A1 n n, .slice none 0 0, .slice none 0 0] 30) := ⟨_, rfl⟩
  have hY1 : Y1.heap.size = w1.heap.size + 1 := by rw [eY1, World.size_alloc]
  rw [← eY1] at Hb1 HL1 HKW hO2 hL2 hb2
  clear eY1
  have hbY2 : Below w2.heap.size w2 (w2.alloc (.cells #[.slice A2 n n, .slice none 0 0, .slice none 0 0] 30)) := (Below.refl _ _).alloc (Nat.le_refl _) _
  have KG := Blk.new w2 30 #[.slice A2 n n, .slice none 0 0, .slice none 0 0]
  have KW2 := (HKW.out.below hb2 (by omega)).below hbY2 (by have := hb2.size; omega)
  have m0 := KW2.cel 0 rfl
  have m1 := KW2.cel 1 rfl
  have m2 := KW2.cel 2 rfl
  have hne : ∀ ad, A2 = some ad → ad.block ≠ w2.heap.size := by
    by_cases h0 : n = 0
    · rw [hA2 h0]; intro ad e; cases e
    · exact hO2.ne (by omega) (Nat.le_refl _)
  have hb12 : Below Y1.heap.size Y1 (w2.alloc (.cells #[.slice A2 n n, .slice none 0 0, .slice none 0 0] 30)) := hb2.trans (hbY2.mono hb2.size)
  have Heq := Lib.hid (eqZ n A2 A1 _ w2.heap.size _ w1.heap.size (w2.alloc (.cells #[.slice A2 n n, .slice none 0 0, .slice none 0 0] 30)) Hn.out (by simp) (by have := hb12.size; omega) (hL2.below hbY2) (HL1.out.below (hb12.mono (by omega))))
  have HO2 := Lib.hid (hO2.alloc (.cells #[.slice A2 n n, .slice none 0 0, .slice none 0 0] 30))
  have Hb12 := Lib.hid hb12
  have HKG := Lib.hid KG
  have HKW2 := Lib.hid KW2
  have Hne := Lib.hid hne
  have HA2 := Lib.hid hA2
  clear HKW hO2 hL2 hb2 hbY2 KG KW2 hne hb12 hA2
  go_wp2_with fail
  refine Heq.out.mono ?_
  rintro e w3 ⟨rfl, hb3⟩
  obtain ⟨Y2, eY2⟩ : ∃ Y, Y = w2.alloc (.cells #[.slice A2 n n, .slice none 0 0, .slice none 0 0] 30) := ⟨_, rfl⟩
  have hY2 : Y2.heap.size = w2.heap.size + 1 := by rw [eY2, World.size_alloc]
  have hY12 := Hb12.out.size
  rw [← eY2] at hb3 HO2 Hb12 HKG HKW2 hY12
  clear eY2 m0 m1 m2 Heq
  have KG3 := HKG.out.below hb3 (by omega)
  have KW3 := HKW2.out.below hb3 (by omega)
  have m0 := KG3.cel 0 rfl
  have m1 := KG3.cel 1 rfl
  have m2 := KG3.cel 2 rfl
  have Hm := Lib.hid (markArena_z n A2 n _ 1 w3 Hn.out (by omega) (by have := hb3.size; omega) (fun h0 => HA2.out h0) (HO2.out.below hb3))
  have Hb3 := Lib.hid hb3
  have HKG3 := Lib.hid KG3
  have HKW3 := Lib.hid KW3
  clear HKG HKW2 HO2 hb3 KG3 KW3
  go_wp2_with fail
  refine Hm.out.mono ?_
  rintro e w4 ⟨rfl, hO4, hb4, hot⟩
  obtain ⟨q, hq⟩ : ∃ q : Nat, 1 + n * 3 = q := ⟨_, rfl⟩
  rw [hq]
  have hq0 : decide ((q : Int) < 0) = false := decide_eq_false (by omega)
  have Hq := Lib.hid hq
  have KG4 : Blk w4 w2.heap.size 30 #[.slice A2 n n, .slice none 0 0, .slice none 0 0] := (hot _ (by have := Hb3.out.size; omega) Hne.out).trans HKG3.out
  have KW4 := HKW3.out.below hb4 (by omega)
  clear m0 m1 m2 Hm hq
  have m0 := KG4.cel 0 rfl
  have m1 := KG4.cel 1 rfl
  have m2 := KG4.cel 2 rfl
  have Hh := Lib.hid (heldArena_z n A2 n _ 1 w4 Hn.out (by omega) hO4)
  rw [Hq.out] at Hh
  have HO4 := Lib.hid hO4
  have Hb4 := Lib.hid hb4
  have HKG4 := Lib.hid KG4
  have HKW4 := Lib.hid KW4
  clear HKG3 HKW3 hO4 hb4 hot KG4 KW4
  go_wp2_with fail
  refine Hh.out.mono ?_
  rintro e w5 ⟨rfl, hb5⟩
  have Hb5 := Lib.hid hb5
  clear hb5 m0 m1 m2 Hh
  go_wp2_with fail
  refine (Hi.out _).mono ?_
  rintro e w6 ⟨A3, rfl, hA3, hO3, hL3, hb6⟩
  have hbY6 : Below w6.heap.size w6 (w6.alloc (.cells #[.slice A3 n n, .slice none 0 0, .slice none 0 0] 30)) := (Below.refl _ _).alloc (Nat.le_refl _) _
  have KH := Blk.new w6 30 #[.slice A3 n n, .slice none 0 0, .slice none 0 0]
  have hs3 := Hb3.out.size
  have hs4 := Hb4.out.size
  have hs5 := Hb5.out.size
  have hs6 := hb6.size
  have hb46 : Below w4.heap.size w4 (w6.alloc (.cells #[.slice A3 n n, .slice none 0 0, .slice none 0 0] 30)) := Hb5.out.trans ((hb6.trans (hbY6.mono hs6)).mono hs5)
  have hb16 : Below Y1.heap.size Y1 (w6.alloc (.cells #[.slice A3 n n, .slice none 0 0, .slice none 0 0] 30)) := (Hb12.out.trans (Hb3.out.mono hY12)).trans (Hb4.out.trans (hb46.mono (by omega)))
  have KW6 := HKW4.out.below hb46 (by omega)
  have KG6 := HKG4.out.below hb46 (by omega)
  have m0 := KW6.cel 0 rfl
  have m1 := KW6.cel 1 rfl
  have m2 := KW6.cel 2 rfl
  have Heq := Lib.hid (eqZ n A3 A1 _ w6.heap.size _ w1.heap.size (w6.alloc (.cells #[.slice A3 n n, .slice none 0 0, .slice none 0 0] 30)) Hn.out (by simp) (by have := hb16.size; omega) (hL3.below hbY6) (HL1.out.below (hb16.mono (by omega))))
  have Hb46 := Lib.hid hb46
  have Hb16 := Lib.hid hb16
  have HKG6 := Lib.hid KG6
  clear hA3 hO3 hL3 hb6 hbY6 KH hb46 hb16 KW6 KG6 hs3 hs4 hs5 hs6
  go_wp2_with fail
  refine Heq.out.mono ?_
  rintro e w7 ⟨rfl, hb7⟩
  have hlt6 := HKG6.out.lt
  have KG7 := HKG6.out.below hb7 hlt6
  clear m0 m1 m2 Heq hlt6
  have m0 := KG7.cel 0 rfl
  have m1 := KG7.cel 1 rfl
  have m2 := KG7.cel 2 rfl
  have Hh := Lib.hid (heldArena_z n A2 n _ 1 w7 Hn.out (by omega) (HO4.out.below (Hb46.out.trans (hb7.mono Hb46.out.size))))
  rw [Hq.out] at Hh
  have Hb7 := Lib.hid hb7
  clear hb7 KG7
  go_wp2_with fail
  refine Hh.out.mono ?_
  rintro e w8 ⟨rfl, hb8⟩
  have hbf : Below w.heap.size w w8 := Hb1.out.trans ((Hb16.out.trans ((Hb7.out.trans (hb8.mono Hb7.out.size)).mono Hb16.out.size)).mono Hb1.out.size)
  have Hbf := Lib.hid hbf
  clear hb8 hbf m0 m1 m2 Hh
  go_wp2
  go_ret
  exact ⟨rfl, Hbf.out⟩

set_option maxRecDepth 100000 in
theorem lifted (os : Os) (started : os.Started) (H : Type) (enc : TypeId × Value → H) :
    ReturnsInHanded {} Try.checked os 4 .any (Rows.fnExactArenaNewSpec.pre6 enc Try.prog Try.f4 Rows.fnExactArenaNewRow.domain false) (Rows.fnExactArenaNewSpec.post enc Try.prog Try.f4 false true false false) := by
  refine returnsInHanded_of_change (C := Try.checked) (s := Rows.fnExactArenaNewSpec) own started (by kernel_rfl) Try.func4
    (ChangeSpec.witness6 (enc := enc) (C := Try.checked) (s := Rows.fnExactArenaNewSpec) false ⟨#[], #[.int .i64 0], []⟩ 8 (by kernel_rfl) (by kernel_rfl) (by kernel_rfl) (by kernel_rfl)) ?_
  intro W base args ds gs before hval hW _ _
  have hW' := hW
  obtain ⟨p, q, hA0, hV, rfl, hfz, hnd⟩ := hW
  have hA : DataW.TrodAll enc Try.prog W 0 (fun _ => true) true Try.f4.params.toList args.toList ds p := hA0
  replace hval : ∀ (j : Nat) t v, Try.f4.params[j]? = some t → args[j]? = some v → Value.okWide Try.prog W .any base t v := hval
  rw [Try.params4] at hA hval
  obtain ⟨v0, vs0, d0, ds0, p0, q0, hargs0, rfl, rfl, h0, r0⟩ := trodAll_cons hA
  obtain ⟨rfl, rfl, rfl⟩ := trodAll_nil r0
  obtain rfl : args = #[v0] := by cases args; simp_all
  obtain ⟨rfl, rfl⟩ := trodVars_none hV
  obtain ⟨n, rfl, rfl, rfl, wn⟩ := open_int Try.underlying3 (hval 0 3 v0 rfl rfl) h0
  refine (walk n W).mono fun e W' ⟨he, hb⟩ => ?_
  subst he
  exact ⟨_, rfl, post_read hW' rfl rfl rfl rfl rfl Try.underlying4 laidOut (by kernel_rfl) hb⟩

theorem proved : Rows.FnExactArenaNewSaid :=
  OpenClaim.holds_of_wide 4 Try.f4 rfl rfl rfl rfl rfl rfl rfl ⟨rfl, rfl, rfl, rfl, rfl⟩ rfl rfl rfl rfl rfl (by kernel_rfl) Try.func4 (by kernel_rfl)
    (of_decide_eq_true (by kernel_rfl)) (by unfold Func.isWrapper; first | (rw [if_pos (by decide +kernel)]; kernel_rfl) | (rw [if_neg (by decide +kernel)]; exact ⟨rfl, rfl⟩))
    (fun os started H enc _ => lifted os started H enc)
end ArenaNewLaw
end Go.Proofs.Ytdaajeocpccnmaa
