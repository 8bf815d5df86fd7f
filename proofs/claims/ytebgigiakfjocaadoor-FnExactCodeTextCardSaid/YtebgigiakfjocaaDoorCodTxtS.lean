/-
  The model's CodeText.
-/
import Derived.Test.YtebgigiakfjocaaDoorCodTxt
import Derived.Test.YtebgigiakfjocaaDoorAppD
import Derived.Test.YtebgigiakfjocaaDoorDigB
import Derived.Test.YtebgigiakfjocaaDoorSpecCode2
import Derived.Test.YtebgigiakfjocaaDoorRes
import Derived.Deep.DeepCutAuto
import Derived.Deep.RegionHeld3
namespace Go.Proofs.YtebgigiakfjocaaDoor
open Go.RowKit
set_option linter.unusedVariables false
set_option linter.unusedSimpArgs false
namespace CodS
open Cod

theorem Blk.five {w : World} {g : Nat} {t : TypeId} {a b c d e : Value} (h : Blk w g t #[a, b, c, d, e]) : w.cell? ⟨g, 0, none⟩ = some a ∧ w.cell? ⟨g, 1, none⟩ = some b ∧ w.cell? ⟨g, 2, none⟩ = some c ∧ w.cell? ⟨g, 3, none⟩ = some d ∧ w.cell? ⟨g, 4, none⟩ = some e :=
  ⟨by rw [h.cell]; rfl, by rw [h.cell]; rfl, by rw [h.cell]; rfl, by rw [h.cell]; rfl, by rw [h.cell]; rfl⟩
def wordArr : Array Value := #[.string ⟨#[116, 105, 99, 107]⟩, .string ⟨#[110, 117, 109]⟩, .string ⟨#[110, 105, 108]⟩, .string ⟨#[109, 111, 118, 101]⟩, .string ⟨#[110, 101, 119]⟩, .string ⟨#[103, 101, 116]⟩, .string ⟨#[112, 117, 116]⟩, .string ⟨#[98, 105, 110]⟩, .string ⟨#[106, 117, 109, 112]⟩, .string ⟨#[122, 101, 114, 111]⟩, .string ⟨#[99, 97, 108, 108]⟩, .string ⟨#[98, 97, 99, 107]⟩, .string ⟨#[115, 104, 111, 119]⟩, .string ⟨#[119, 101, 97, 107]⟩, .string ⟨#[108, 105, 118, 101]⟩]
theorem fifteen {k : Nat} (h : k < 15) : k = 0 ∨ k = 1 ∨ k = 2 ∨ k = 3 ∨ k = 4 ∨ k = 5 ∨ k = 6 ∨ k = 7 ∨ k = 8 ∨ k = 9 ∨ k = 10 ∨ k = 11 ∨ k = 12 ∨ k = 13 ∨ k = 14 := by omega
set_option maxRecDepth 100000 in
set_option maxHeartbeats 8000000 in
theorem l6word_c (k : Nat) (hk : k < 15) (w : World) :
    Calls Tryd.prog 56 #[.int .i64 k] w fun e w' => e = .returned (.string ⟨(opW k).toArray⟩) ∧ w' = w.alloc (.cells wordArr 9) := by
  rcases fifteen hk with rfl | rfl | rfl | rfl | rfl | rfl | rfl | rfl | rfl | rfl | rfl | rfl | rfl | rfl | rfl
  all_goals
    go_enter Tryd.func56, Tryd.ntmps56
    go_wp2
    go_ret
    exact ⟨rfl, rfl⟩
def unitS : List UInt8 := [117, 110, 105, 116, 32]

section
variable (C : List Un) (CA : Option Addr) (cc L B : Nat) (w : World)
set_option maxRecDepth 100000 in
set_option maxHeartbeats 16000000 in
theorem specCodeText_c (hB : B ≤ w.heap.size) (hsz : unsSz C ≤ 1048576) (hC : UnL w L B CA C) :
    Calls Tryd.prog 27 #[.agg #[.slice CA C.length cc]] w (AnsT w (codTxt C)) := by
  have hbW := blwC w (.cells #[.slice CA C.length cc] 56)
  have HR := Lib.hid (specCodeOk_c C CA cc L B (w.alloc (.cells #[.slice CA C.length cc] 56)) (Nat.le_trans hB hbW.size) hsz (hC.below (hbW.mono hB)))
  have HKA := Lib.hid (Blk.new w 56 #[.slice CA C.length cc])
  have HbW := Lib.hid hbW
  have HC := Lib.hid hC
  clear hsz hC hbW
  go_enter Tryd.func27, Tryd.ntmps27
  go_wp2_with fail
  refine HR.out.mono ?_
  rintro e W ⟨rfl, hb⟩
  have Hb := Lib.hid (HbW.out.trans (hb.mono HbW.out.size))
  have hs1 := Hb.out.size
  have hKA := HKA.out.below hb HKA.out.lt
  cases hok : codeOk C
  · have E := Lib.hid (show codTxt C = [] by unfold codTxt; rw [hok]; rfl)
    clear hb HbW HR hok hKA HKA
    go_wp2
    go_ret
    rw [E.out]
    exact AnsT.nil Hb.out
  · have E := Lib.hid (show codTxt C = unsTo C C.length by unfold codTxt; rw [hok]; rfl)
    obtain ⟨⟨hC1, hC4⟩, hUn⟩ := codeOk_bd hok
    have HUn := Lib.hid hUn
    have hbd := Lib.hid (unsTo_len hUn)
    have HKA1 := Lib.hid hKA
    obtain ⟨q0, -⟩ := hKA.uno
    have HL := Lib.hid (HC.out.below (Hb.out.mono hB))
    have hwW : w.heap.size < W.heap.size := hKA.lt
    have hBW : B ≤ W.heap.size := by omega
    clear hb HbW HR hok hKA HKA hUn HC
    go_wp2_with fail
    go_loopw [3, 4] (fun t i wr => ∃ (k : Nat) (x : List UInt8) (A : Option Addr) (c : Nat), k ≤ C.length ∧ i = .int .i64 k ∧ t = .slice A x.length c ∧ Hid (x = unsTo C k) ∧ Hid (OwnT wr W.heap.size (.slice A x.length c) x) ∧ Hid (Say W.heap.size W wr)) (fun _ i _ => C.length - (intOf i).toNat)
    case atStart => exact ⟨0, [], none, 0, Nat.zero_le _, rfl, rfl, Lib.hid rfl, Lib.hid (OwnT.nil _ _), Lib.hid (Say.refl _ _)⟩
    case round =>
      obtain ⟨k, x, At, ct, hk, rfl, rfl, hx, hO, hY⟩ := hrel
      have hxl : x.length ≤ 24060 * k := hx.out ▸ hbd.out k hk
      have hsz := hY.out.size
      obtain ⟨q0, -⟩ := (HKA1.out.below hY.out.below HKA1.out.lt).uno
      by_cases hlt : k < C.length
      · obtain ⟨ad, rfl, _, hbk, hat⟩ := (HL.out.below (hY.out.below.mono hBW)).2 (by omega)
        obtain ⟨v0, v1, v2, ⟨d0, d1, d2⟩, rfl, rfl, UA, uc, rfl, hI⟩ := hat k hlt
        obtain ⟨⟨hp0, hp3⟩, ⟨hr1, hr24⟩, ⟨hu1, hu300⟩, hin⟩ := HUn.out k hlt
        have hnext : unsTo C (k + 1) = x ++ unHead C[k] ++ insTo C[k].l C[k].l.length := by rw [unsTo_succ hlt, ← hx.out]; unfold unTxt; simp
        obtain ⟨ul, hul⟩ : ∃ y, C[k].l = y := ⟨_, rfl⟩
        have hin' : ∀ j (hj : j < ul.length), InB ul[j] := by subst hul; exact hin
        have hhead : unHead C[k] = unitW ++ [32] ++ Lib.decDigits C[k].params.toNat ++ [32] ++ Lib.decDigits C[k].regs.toNat ++ [10] := rfl
        rw [hhead] at hnext
        obtain ⟨ui, hup⟩ : ∃ y, C[k].params = y := ⟨_, rfl⟩
        obtain ⟨ri, hur⟩ : ∃ y, C[k].regs = y := ⟨_, rfl⟩
        rw [hul] at d2 hI hnext hu1 hu300
        rw [hup] at d0 hnext hp0 hp3
        rw [hur] at d1 hnext hr1 hr24
        obtain ⟨up, rfl⟩ : ∃ n : Nat, ui = n := ⟨ui.toNat, by omega⟩
        obtain ⟨ur, rfl⟩ : ∃ n : Nat, ri = n := ⟨ri.toNat, by omega⟩
        rw [Int.toNat_natCast, Int.toNat_natCast] at hnext
        have hdu := dig20 up (by omega)
        have hdr := dig20 ur (by omega)
        obtain ⟨p1, hp1⟩ : ∃ y, x ++ unitS = y := ⟨_, rfl⟩
        obtain ⟨p2, hp2⟩ : ∃ y, p1 ++ Lib.decDigits up = y := ⟨_, rfl⟩
        obtain ⟨p3, hp3'⟩ : ∃ y, p2 ++ [32] = y := ⟨_, rfl⟩
        obtain ⟨p4, hp4⟩ : ∃ y, p3 ++ Lib.decDigits ur = y := ⟨_, rfl⟩
        obtain ⟨z, hz⟩ : ∃ y, p4 ++ [10] = y := ⟨_, rfl⟩
        have hpl1 : p1.length ≤ 24060 * k + 5 := by rw [← hp1, List.length_append]; show _ + 5 ≤ _; omega
        have hpl2 : p2.length ≤ 24060 * k + 25 := by rw [← hp2, List.length_append]; omega
        have hpl3 : p3.length ≤ 24060 * k + 26 := by rw [← hp3', List.length_append]; simp only [List.length_cons, List.length_nil]; omega
        have hpl4 : p4.length ≤ 24060 * k + 46 := by rw [← hp4, List.length_append]; omega
        have hzl : z.length ≤ 24060 * k + 47 := by rw [← hz, List.length_append]; simp only [List.length_cons, List.length_nil]; omega
        have Hnext := Lib.hid (show unsTo C (k + 1) = z ++ insTo ul ul.length by rw [hnext, ← hz, ← hp4, ← hp3', ← hp2, ← hp1]; simp [unitS, unitW])
        have Hin := Lib.hid hin'
        have Hp1 := Lib.hid hp1
        have Hp2 := Lib.hid hp2
        have Hp3 := Lib.hid hp3'
        have Hp4 := Lib.hid hp4
        have Hz := Lib.hid hz
        obtain ⟨nu, hnu⟩ : ∃ n, ul.length = n := ⟨_, rfl⟩
        rw [hnu] at d2 hu1 hu300
        have Hnu := Lib.hid hnu
        have HX0O := Lib.hid (hO.out.alloc (.cells #[.int .i64 up, .int .i64 ur, .slice UA nu uc] 102))
        have HX0Y := Lib.hid (hY.out.alloc hsz (.cells #[.int .i64 up, .int .i64 ur, .slice UA nu uc] 102))
        have HX0K := Lib.hid (Blk.new wr 102 #[.int .i64 up, .int .i64 ur, .slice UA nu uc])
        have HX0I := Lib.hid (hI.below ((blOne wr (.cells #[.int .i64 up, .int .i64 ur, .slice UA nu uc] 102)).mono (by omega)))
        obtain ⟨X0, hX0⟩ : ∃ X, X = wr.alloc (.cells #[.int .i64 up, .int .i64 ur, .slice UA nu uc] 102) := ⟨_, rfl⟩
        have hsX0 : W.heap.size ≤ X0.heap.size := by rw [hX0, World.size_alloc]; omega
        rw [← hX0] at HX0O HX0Y HX0K HX0I
        have HX0 := Lib.hid hX0
        clear hnext hhead hx hO hY hul hup hur hp1 hp2 hp3' hp4 hz hI hnu hin hin' hX0 hat
        go_upto_region 8 with fail
        rw [← HX0.out]
        obtain ⟨gb, hgb⟩ : ∃ g, g = wr.heap.size := ⟨_, rfl⟩
        rw [← hgb] at HX0K
        rw [← hgb]
        clear hgb HX0 d0 d1 d2 q0 hsz
        have b1 := fun o => (Blk.three (HX0K.out.alloc o)).1
        have b10 := (Blk.three HX0K.out).1
        have hd1 := dig20 up (by omega)
        have Hd1 := Lib.hid (fun w => l1digitsB_c (up + 1) up w (by omega) (by omega))
        go_upto_region 8 with fail
        go_cut [3] (fun t wx => ∃ A c, t = .slice A p2.length c ∧ Hid (OwnT wx W.heap.size (.slice A p2.length c) p2) ∧ Hid (Say W.heap.size X0 wx))
        case first =>
          go_region_law (first
            | (refine step_strT rfl (.tmp 23) (.const (.string ⟨#[117, 110, 105, 116, 32]⟩) ) rfl (show OwnT X0.drew _ _ _ from HX0O.out) (s := ⟨#[117, 110, 105, 116, 32]⟩) (r := unitS) rfl Hp1.out (by unfold unitS; simp; omega) (by show W.heap.size ≤ X0.heap.size; omega) (by simp [Act.eval, Act.put]) (by simp [Act.eval, Act.put]) ?_; intro A6 c6 w6 hO6 hY6'; have hY6 := hY6'.undrew; have HO6 := Lib.hid hO6; have s1 := (Blk.three (HX0K.out.say hY6 (by decide))).1; have hs6 : X0.heap.size ≤ w6.heap.size := hY6.size; have HY6 := Lib.hid hY6; clear hO6 hY6 hY6')
            | (refine step_rowT (c0 := c7) rfl (.tmp 24) (.tmp 27) rfl HO7.out HR7.out Hp2.out (by omega) (by omega) (by simp [Act.eval, Act.put]) (by simp [Act.eval, Act.put]) ?_; intro A8 c8 w8 hO8 hY8; have HO8 := Lib.hid hO8; have HY8 := Lib.hid (HY7.out.trans hY8); clear hO8 hY8)
            | (go_simp; go_at_call 41; refine (Hd1.out _).mono ?_; rintro e w7 ⟨v7, rfl, hO7, hb7⟩; obtain ⟨A7, c7, rfl, hR7⟩ := hO7.form; have HR7 := Lib.hid hR7; have HO7 := Lib.hid (HO6.out.below hb7); have hs7 := hb7.size; have HY7 := Lib.hid (HY6.out.trans (Say.of hb7 (by omega))); clear hR7 hO7 hb7 Hd1))
          all_goals
            try go_wp2_with fail
            go_meet
            case rel => exact ⟨A8, c8, rfl, HO8, HY8⟩
        case rest =>
          obtain ⟨A1, c1, rfl, HX1O, HX1S⟩ := hcut
          obtain ⟨X1, hX1⟩ : ∃ x, x = wc := ⟨_, rfl⟩
          subst hX1
          have HX1K := Lib.hid (HX0K.out.say HX1S.out (by decide))
          have HX1Y := Lib.hid (HX0Y.out.trans HX1S.out)
          have hsX1 : W.heap.size ≤ X1.heap.size := Nat.le_trans hsX0 HX1S.out.size
          have hssX1 := HX1S.out.size
          clear b1 b10 Hd1
          go_upto_region 9 with fail
          go_cut [3] (fun t wx => ∃ A c, t = .slice A z.length c ∧ Hid (OwnT wx W.heap.size (.slice A z.length c) z) ∧ Hid (Say W.heap.size X1 wx))
          case first =>
            obtain ⟨X1d, eX1d⟩ : ∃ x, x = X1.drew := ⟨_, rfl⟩
            have HX1dO : Hid (OwnT X1d W.heap.size (.slice A1 p2.length c1) p2) := Lib.hid (eX1d ▸ (show OwnT X1.drew _ _ _ from HX1O.out))
            have hKX1d : Blk X1d gb 102 #[.int .i64 up, .int .i64 ur, .slice UA nu uc] := eX1d ▸ HX1K.out.drew
            have HX1dK := Lib.hid hKX1d
            have HX1dY : Hid (Say W.heap.size X1 X1d) := Lib.hid (eX1d ▸ (Say.refl W.heap.size X1).drew)
            have hzX1d : X1d.heap.size = X1.heap.size := by rw [eX1d]; rfl
            have hsX1d : W.heap.size ≤ X1d.heap.size := by omega
            refine wp_region_noPanic ?_
            refine wp_region_held_drew (S := (fun W => Blk W gb 102 #[.int .i64 up, .int .i64 ur, .slice UA nu uc])) (by kernel_rfl) ?_ (fun hHeld => ?_)
            · exact eX1d ▸ hKX1d
            rw [← eX1d]
            clear eX1d
            refine wpAnyH_take (i := 0) (oi := _) (v := ?_) rfl (by kernel_rfl) (by kernel_rfl) (by kernel_rfl) (fun _ _ _ h => h) (Or.inl ⟨by rfl, ?_⟩) (by assumption) ?_
            rotate_left
            focus
              intro w hSw
              obtain ⟨qs0, qs1, qs2⟩ := Blk.three hSw
              go_simp
              try with_reducible rfl
            try simp only [List.getElem_toArray, List.getElem_cons_succ, List.getElem_cons_zero, Act.put, List.setIfInBounds_toArray, List.set_cons_zero, List.set_cons_succ]
            refine wpAnyH_take (i := 3) (oi := _) (v := ?_) rfl (by kernel_rfl) (by kernel_rfl) (by kernel_rfl) (fun _ _ _ h => h) (Or.inl ⟨by rfl, ?_⟩) (by assumption) ?_
            rotate_left
            focus
              intro w hSw
              obtain ⟨qs0, qs1, qs2⟩ := Blk.three hSw
              go_simp
              try with_reducible rfl
            try simp only [List.getElem_toArray, List.getElem_cons_succ, List.getElem_cons_zero, Act.put, List.setIfInBounds_toArray, List.set_cons_zero, List.set_cons_succ]
            refine wpAnyH_take (i := 4) (oi := _) (v := ?_) rfl (by kernel_rfl) (by kernel_rfl) (by kernel_rfl) (fun _ _ _ h => h) (Or.inl ⟨by rfl, ?_⟩) (by assumption) ?_
            rotate_left
            focus
              intro w hSw
              obtain ⟨qs0, qs1, qs2⟩ := Blk.three hSw
              go_simp
              try with_reducible rfl
            try simp only [List.getElem_toArray, List.getElem_cons_succ, List.getElem_cons_zero, Act.put, List.setIfInBounds_toArray, List.set_cons_zero, List.set_cons_succ]
            refine wpAnyH_ready (rs := [1, 7]) (by kernel_rfl) (by simp) ?_
            refine AllReadyH.cons (o := _) rfl (fun K hK => ?_) ?_
            · go_simp
              obtain ⟨v1, ev1⟩ : ∃ x, x = X1d.alloc (.cells #[.int .u8 32] 5) := ⟨_, rfl⟩
              rw [← ev1]
              have Hv1O : Hid (OwnT v1 W.heap.size (.slice A1 p2.length c1) p2) := Lib.hid (ev1 ▸ HX1dO.out.alloc _)
              have hKv1 : Blk v1 gb 102 #[.int .i64 up, .int .i64 ur, .slice UA nu uc] := ev1 ▸ HX1dK.out.alloc _
              have Hv1K := Lib.hid hKv1
              have Hv1Y : Hid (Say W.heap.size X1 v1) := Lib.hid (ev1 ▸ HX1dY.out.alloc hsX1d _)
              have hzv1 : v1.heap.size = X1d.heap.size + 1 := by rw [ev1]; simp
              have hsv1 : W.heap.size ≤ v1.heap.size := by omega
              have gv1_1 : Hid (Blk v1 X1d.heap.size 5 #[.int .u8 32]) := Lib.hid (ev1 ▸ Blk.new X1d _ _)
              have nv1_1 : Hid (((.slice A1 p2.length c1) : Value).ownBlock ≠ some X1d.heap.size) := Lib.hid (fun e => by have := (HX1dO.out.block e).2; omega)
              clear ev1
              refine hK.out _ _ ?_ (fun hHeld => ?_)
              · exact hKv1
              · clear hK K
                try simp only [List.getElem_toArray, List.getElem_cons_succ, List.getElem_cons_zero, Act.put, List.setIfInBounds_toArray, List.set_cons_zero, List.set_cons_succ]
                refine wpAnyH_ready (rs := [2, 7]) (by kernel_rfl) (by simp) ?_
                refine AllReadyH.cons (o := _) rfl (fun K hK => ?_) ?_
                · refine wp_oneK (b := 32) (.tmp 29) (.tmp 30) rfl Hv1O.out 32 rfl gv1_1.out Hp3.out (by omega) (by omega) (by simp [Act.eval, Act.put]) (by simp [Act.eval, Act.put]) ?_
                  intro Av2 cv2 v2 hO hY hkp
                  have Hv2O := Lib.hid hO
                  have hKv2 := Hv1K.out.say hY (by decide)
                  have Hv2K := Lib.hid hKv2
                  have hsv2 : W.heap.size ≤ v2.heap.size := Nat.le_trans hsv1 hY.size
                  have hzv2 := hY.size
                  have Hv2Y := Lib.hid (Hv1Y.out.trans hY)
                  clear hO hY hkp
                  refine hK.out _ _ ?_ (fun hHeld => ?_)
                  · exact hKv2
                  · clear hK K
                    try simp only [List.getElem_toArray, List.getElem_cons_succ, List.getElem_cons_zero, Act.put, List.setIfInBounds_toArray, List.set_cons_zero, List.set_cons_succ]
                    refine wpAnyH_ready (rs := [5, 7]) (by kernel_rfl) (by simp) ?_
                    refine AllReadyH.cons (o := _) rfl (fun K hK => ?_) ?_
                    · go_simp
                      refine Calls.mono (l1digitsB_c (ur + 1) ur _ (by omega) (by omega)) ?_
                      rintro e v3 ⟨vd, rfl, hOd, hb⟩
                      obtain ⟨Ad3, cd3, rfl, hRd⟩ := hOd.form
                      have rv3 := Lib.hid hRd
                      have Hv3O := Lib.hid (Hv2O.out.below hb)
                      have hKv3 := Hv2K.out.below hb Hv2K.out.lt
                      have Hv3K := Lib.hid hKv3
                      have hsv3 : W.heap.size ≤ v3.heap.size := Nat.le_trans hsv2 hb.size
                      have hzv3 := hb.size
                      have Hv3Y := Lib.hid (Hv2Y.out.trans (Say.of hb hsv2))
                      clear hRd hOd hb
                      refine hK.out _ _ ?_ (fun hHeld => ?_)
                      · exact hKv3
                      · clear hK K
                        try simp only [List.getElem_toArray, List.getElem_cons_succ, List.getElem_cons_zero, Act.put, List.setIfInBounds_toArray, List.set_cons_zero, List.set_cons_succ]
                        refine wpAnyH_ready (rs := [6, 7]) (by kernel_rfl) (by simp) ?_
                        refine AllReadyH.cons (o := _) rfl (fun K hK => ?_) ?_
                        · refine wp_rowK (c0 := cd3) (.tmp 31) (.tmp 34) rfl Hv3O.out rv3.out Hp4.out (by omega) (by omega) (by simp [Act.eval, Act.put]) (by simp [Act.eval, Act.put]) ?_
                          intro Av4 cv4 v4 hO hY hkp
                          have Hv4O := Lib.hid hO
                          have hKv4 := Hv3K.out.say hY (by decide)
                          have Hv4K := Lib.hid hKv4
                          have hsv4 : W.heap.size ≤ v4.heap.size := Nat.le_trans hsv3 hY.size
                          have hzv4 := hY.size
                          have Hv4Y := Lib.hid (Hv3Y.out.trans hY)
                          clear hO hY hkp
                          refine hK.out _ _ ?_ (fun hHeld => ?_)
                          · exact hKv4
                          · clear hK K
                            try simp only [List.getElem_toArray, List.getElem_cons_succ, List.getElem_cons_zero, Act.put, List.setIfInBounds_toArray, List.set_cons_zero, List.set_cons_succ]
                            refine wpAnyH_ready (rs := [7]) (by kernel_rfl) (by simp) ?_
                            refine AllReadyH.cons (o := _) rfl (fun K hK => ?_) ?_
                            · go_simp
                              obtain ⟨v5, ev5⟩ : ∃ x, x = v4.alloc (.cells #[.int .u8 10] 5) := ⟨_, rfl⟩
                              rw [← ev5]
                              have Hv5O : Hid (OwnT v5 W.heap.size (.slice Av4 p4.length cv4) p4) := Lib.hid (ev5 ▸ Hv4O.out.alloc _)
                              have hKv5 : Blk v5 gb 102 #[.int .i64 up, .int .i64 ur, .slice UA nu uc] := ev5 ▸ Hv4K.out.alloc _
                              have Hv5K := Lib.hid hKv5
                              have Hv5Y : Hid (Say W.heap.size X1 v5) := Lib.hid (ev5 ▸ Hv4Y.out.alloc hsv4 _)
                              have hzv5 : v5.heap.size = v4.heap.size + 1 := by rw [ev5]; simp
                              have hsv5 : W.heap.size ≤ v5.heap.size := by omega
                              have gv5_7 : Hid (Blk v5 v4.heap.size 5 #[.int .u8 10]) := Lib.hid (ev5 ▸ Blk.new v4 _ _)
                              have nv5_7 : Hid (((.slice Av4 p4.length cv4) : Value).ownBlock ≠ some v4.heap.size) := Lib.hid (fun e => by have := (Hv4O.out.block e).2; omega)
                              clear ev5
                              refine hK.out _ _ ?_ (fun hHeld => ?_)
                              · exact hKv5
                              · clear hK K
                                try simp only [List.getElem_toArray, List.getElem_cons_succ, List.getElem_cons_zero, Act.put, List.setIfInBounds_toArray, List.set_cons_zero, List.set_cons_succ]
                                refine wpAnyH_ready (rs := [8]) (by kernel_rfl) (by simp) ?_
                                refine AllReadyH.cons (o := _) rfl (fun K hK => ?_) ?_
                                · refine wp_oneK (b := 10) (.tmp 35) (.tmp 36) rfl Hv5O.out 10 rfl gv5_7.out Hz.out (by omega) (by omega) (by simp [Act.eval, Act.put]) (by simp [Act.eval, Act.put]) ?_
                                  intro Av6 cv6 v6 hO hY hkp
                                  have Hv6O := Lib.hid hO
                                  have hKv6 := Hv5K.out.say hY (by decide)
                                  have Hv6K := Lib.hid hKv6
                                  have hsv6 : W.heap.size ≤ v6.heap.size := Nat.le_trans hsv5 hY.size
                                  have hzv6 := hY.size
                                  have Hv6Y := Lib.hid (Hv5Y.out.trans hY)
                                  clear hO hY hkp
                                  refine hK.out _ _ ?_ (fun hHeld => ?_)
                                  · exact hKv6
                                  · clear hK K
                                    try simp only [List.getElem_toArray, List.getElem_cons_succ, List.getElem_cons_zero, Act.put, List.setIfInBounds_toArray, List.set_cons_zero, List.set_cons_succ]
                                    refine wpAnyH_take (i := 9) (oi := _) (v := ?_) rfl (by kernel_rfl) (by kernel_rfl) (by kernel_rfl) (fun _ _ _ h => h) (Or.inl ⟨by rfl, ?_⟩) (by assumption) ?_
                                    rotate_left
                                    focus
                                      intro w hSw
                                      obtain ⟨qs0, qs1, qs2⟩ := Blk.three hSw
                                      go_simp
                                      try with_reducible rfl
                                    try simp only [List.getElem_toArray, List.getElem_cons_succ, List.getElem_cons_zero, Act.put, List.setIfInBounds_toArray, List.set_cons_zero, List.set_cons_succ]
                                    refine wpAnyH_done (by kernel_rfl) ?_ _
                                    refine NoPanic.normal ?_
                                    try go_wp2_with fail
                                    go_meet
                                    case rel => exact ⟨_, _, rfl, Hv6O, Hv6Y⟩
                                exact AllReadyH.nil
                            exact AllReadyH.nil
                        refine AllReadyH.cons (o := _) rfl (fun K hK => ?_) ?_
                        · go_simp
                          obtain ⟨v7, ev7⟩ : ∃ x, x = v3.alloc (.cells #[.int .u8 10] 5) := ⟨_, rfl⟩
                          rw [← ev7]
                          have Hv7O : Hid (OwnT v7 W.heap.size (.slice Av2 p3.length cv2) p3) := Lib.hid (ev7 ▸ Hv3O.out.alloc _)
                          have hKv7 : Blk v7 gb 102 #[.int .i64 up, .int .i64 ur, .slice UA nu uc] := ev7 ▸ Hv3K.out.alloc _
                          have Hv7K := Lib.hid hKv7
                          have Hv7Y : Hid (Say W.heap.size X1 v7) := Lib.hid (ev7 ▸ Hv3Y.out.alloc hsv3 _)
                          have hzv7 : v7.heap.size = v3.heap.size + 1 := by rw [ev7]; simp
                          have hsv7 : W.heap.size ≤ v7.heap.size := by omega
                          have gv7_7 : Hid (Blk v7 v3.heap.size 5 #[.int .u8 10]) := Lib.hid (ev7 ▸ Blk.new v3 _ _)
                          have nv7_7 : Hid (((.slice Av2 p3.length cv2) : Value).ownBlock ≠ some v3.heap.size) := Lib.hid (fun e => by have := (Hv3O.out.block e).2; omega)
                          have rv7 := Lib.hid (rv3.out.below (ev7 ▸ blOne v3 (.cells #[.int .u8 10] 5)))
                          clear ev7
                          refine hK.out _ _ ?_ (fun hHeld => ?_)
                          · exact hKv7
                          · clear hK K
                            try simp only [List.getElem_toArray, List.getElem_cons_succ, List.getElem_cons_zero, Act.put, List.setIfInBounds_toArray, List.set_cons_zero, List.set_cons_succ]
                            refine wpAnyH_ready (rs := [6]) (by kernel_rfl) (by simp) ?_
                            refine AllReadyH.cons (o := _) rfl (fun K hK => ?_) ?_
                            · refine wp_rowK (c0 := cd3) (.tmp 31) (.tmp 34) rfl Hv7O.out rv7.out Hp4.out (by omega) (by omega) (by simp [Act.eval, Act.put]) (by simp [Act.eval, Act.put]) ?_
                              intro Av8 cv8 v8 hO hY hkp
                              have Hv8O := Lib.hid hO
                              have hKv8 := Hv7K.out.say hY (by decide)
                              have Hv8K := Lib.hid hKv8
                              have hsv8 : W.heap.size ≤ v8.heap.size := Nat.le_trans hsv7 hY.size
                              have hzv8 := hY.size
                              have gv8_7 := Lib.hid (hkp.blk gv7_7.out nv7_7.out).1
                              have nv8_7 := Lib.hid (hkp.blk gv7_7.out nv7_7.out).2
                              have Hv8Y := Lib.hid (Hv7Y.out.trans hY)
                              clear hO hY hkp
                              refine hK.out _ _ ?_ (fun hHeld => ?_)
                              · exact hKv8
                              · clear hK K
                                try simp only [List.getElem_toArray, List.getElem_cons_succ, List.getElem_cons_zero, Act.put, List.setIfInBounds_toArray, List.set_cons_zero, List.set_cons_succ]
                                refine wpAnyH_ready (rs := [8]) (by kernel_rfl) (by simp) ?_
                                refine AllReadyH.cons (o := _) rfl (fun K hK => ?_) ?_
                                · refine wp_oneK (b := 10) (.tmp 35) (.tmp 36) rfl Hv8O.out 10 rfl gv8_7.out Hz.out (by omega) (by omega) (by simp [Act.eval, Act.put]) (by simp [Act.eval, Act.put]) ?_
                                  intro Av9 cv9 v9 hO hY hkp
                                  have Hv9O := Lib.hid hO
                                  have hKv9 := Hv8K.out.say hY (by decide)
                                  have Hv9K := Lib.hid hKv9
                                  have hsv9 : W.heap.size ≤ v9.heap.size := Nat.le_trans hsv8 hY.size
                                  have hzv9 := hY.size
                                  have Hv9Y := Lib.hid (Hv8Y.out.trans hY)
                                  clear hO hY hkp
                                  refine hK.out _ _ ?_ (fun hHeld => ?_)
                                  · exact hKv9
                                  · clear hK K
                                    try simp only [List.getElem_toArray, List.getElem_cons_succ, List.getElem_cons_zero, Act.put, List.setIfInBounds_toArray, List.set_cons_zero, List.set_cons_succ]
                                    refine wpAnyH_take (i := 9) (oi := _) (v := ?_) rfl (by kernel_rfl) (by kernel_rfl) (by kernel_rfl) (fun _ _ _ h => h) (Or.inl ⟨by rfl, ?_⟩) (by assumption) ?_
                                    rotate_left
                                    focus
                                      intro w hSw
                                      obtain ⟨qs0, qs1, qs2⟩ := Blk.three hSw
                                      go_simp
                                      try with_reducible rfl
                                    try simp only [List.getElem_toArray, List.getElem_cons_succ, List.getElem_cons_zero, Act.put, List.setIfInBounds_toArray, List.set_cons_zero, List.set_cons_succ]
                                    refine wpAnyH_done (by kernel_rfl) ?_ _
                                    refine NoPanic.normal ?_
                                    try go_wp2_with fail
                                    go_meet
                                    case rel => exact ⟨_, _, rfl, Hv9O, Hv9Y⟩
                                exact AllReadyH.nil
                            exact AllReadyH.nil
                        exact AllReadyH.nil
                    refine AllReadyH.cons (o := _) rfl (fun K hK => ?_) ?_
                    · go_simp
                      obtain ⟨v10, ev10⟩ : ∃ x, x = v2.alloc (.cells #[.int .u8 10] 5) := ⟨_, rfl⟩
                      rw [← ev10]
                      have Hv10O : Hid (OwnT v10 W.heap.size (.slice Av2 p3.length cv2) p3) := Lib.hid (ev10 ▸ Hv2O.out.alloc _)
                      have hKv10 : Blk v10 gb 102 #[.int .i64 up, .int .i64 ur, .slice UA nu uc] := ev10 ▸ Hv2K.out.alloc _
                      have Hv10K := Lib.hid hKv10
                      have Hv10Y : Hid (Say W.heap.size X1 v10) := Lib.hid (ev10 ▸ Hv2Y.out.alloc hsv2 _)
                      have hzv10 : v10.heap.size = v2.heap.size + 1 := by rw [ev10]; simp
                      have hsv10 : W.heap.size ≤ v10.heap.size := by omega
                      have gv10_7 : Hid (Blk v10 v2.heap.size 5 #[.int .u8 10]) := Lib.hid (ev10 ▸ Blk.new v2 _ _)
                      have nv10_7 : Hid (((.slice Av2 p3.length cv2) : Value).ownBlock ≠ some v2.heap.size) := Lib.hid (fun e => by have := (Hv2O.out.block e).2; omega)
                      clear ev10
                      refine hK.out _ _ ?_ (fun hHeld => ?_)
                      · exact hKv10
                      · clear hK K
                        try simp only [List.getElem_toArray, List.getElem_cons_succ, List.getElem_cons_zero, Act.put, List.setIfInBounds_toArray, List.set_cons_zero, List.set_cons_succ]
                        refine wpAnyH_ready (rs := [5]) (by kernel_rfl) (by simp) ?_
                        refine AllReadyH.cons (o := _) rfl (fun K hK => ?_) ?_
                        · go_simp
                          refine Calls.mono (l1digitsB_c (ur + 1) ur _ (by omega) (by omega)) ?_
                          rintro e v11 ⟨vd, rfl, hOd, hb⟩
                          obtain ⟨Ad11, cd11, rfl, hRd⟩ := hOd.form
                          have rv11 := Lib.hid hRd
                          have Hv11O := Lib.hid (Hv10O.out.below hb)
                          have hKv11 := Hv10K.out.below hb Hv10K.out.lt
                          have Hv11K := Lib.hid hKv11
                          have hsv11 : W.heap.size ≤ v11.heap.size := Nat.le_trans hsv10 hb.size
                          have hzv11 := hb.size
                          have Hv11Y := Lib.hid (Hv10Y.out.trans (Say.of hb hsv10))
                          have gv11_7 := Lib.hid (gv10_7.out.below hb gv10_7.out.lt)
                          clear hRd hOd hb
                          refine hK.out _ _ ?_ (fun hHeld => ?_)
                          · exact hKv11
                          · clear hK K
                            try simp only [List.getElem_toArray, List.getElem_cons_succ, List.getElem_cons_zero, Act.put, List.setIfInBounds_toArray, List.set_cons_zero, List.set_cons_succ]
                            refine wpAnyH_ready (rs := [6]) (by kernel_rfl) (by simp) ?_
                            refine AllReadyH.cons (o := _) rfl (fun K hK => ?_) ?_
                            · refine wp_rowK (c0 := cd11) (.tmp 31) (.tmp 34) rfl Hv11O.out rv11.out Hp4.out (by omega) (by omega) (by simp [Act.eval, Act.put]) (by simp [Act.eval, Act.put]) ?_
                              intro Av12 cv12 v12 hO hY hkp
                              have Hv12O := Lib.hid hO
                              have hKv12 := Hv11K.out.say hY (by decide)
                              have Hv12K := Lib.hid hKv12
                              have hsv12 : W.heap.size ≤ v12.heap.size := Nat.le_trans hsv11 hY.size
                              have hzv12 := hY.size
                              have gv12_7 := Lib.hid (hkp.blk gv11_7.out nv10_7.out).1
                              have nv12_7 := Lib.hid (hkp.blk gv11_7.out nv10_7.out).2
                              have Hv12Y := Lib.hid (Hv11Y.out.trans hY)
                              clear hO hY hkp
                              refine hK.out _ _ ?_ (fun hHeld => ?_)
                              · exact hKv12
                              · clear hK K
                                try simp only [List.getElem_toArray, List.getElem_cons_succ, List.getElem_cons_zero, Act.put, List.setIfInBounds_toArray, List.set_cons_zero, List.set_cons_succ]
                                refine wpAnyH_ready (rs := [8]) (by kernel_rfl) (by simp) ?_
                                refine AllReadyH.cons (o := _) rfl (fun K hK => ?_) ?_
                                · refine wp_oneK (b := 10) (.tmp 35) (.tmp 36) rfl Hv12O.out 10 rfl gv12_7.out Hz.out (by omega) (by omega) (by simp [Act.eval, Act.put]) (by simp [Act.eval, Act.put]) ?_
                                  intro Av13 cv13 v13 hO hY hkp
                                  have Hv13O := Lib.hid hO
                                  have hKv13 := Hv12K.out.say hY (by decide)
                                  have Hv13K := Lib.hid hKv13
                                  have hsv13 : W.heap.size ≤ v13.heap.size := Nat.le_trans hsv12 hY.size
                                  have hzv13 := hY.size
                                  have Hv13Y := Lib.hid (Hv12Y.out.trans hY)
                                  clear hO hY hkp
                                  refine hK.out _ _ ?_ (fun hHeld => ?_)
                                  · exact hKv13
                                  · clear hK K
                                    try simp only [List.getElem_toArray, List.getElem_cons_succ, List.getElem_cons_zero, Act.put, List.setIfInBounds_toArray, List.set_cons_zero, List.set_cons_succ]
                                    refine wpAnyH_take (i := 9) (oi := _) (v := ?_) rfl (by kernel_rfl) (by kernel_rfl) (by kernel_rfl) (fun _ _ _ h => h) (Or.inl ⟨by rfl, ?_⟩) (by assumption) ?_
                                    rotate_left
                                    focus
                                      intro w hSw
                                      obtain ⟨qs0, qs1, qs2⟩ := Blk.three hSw
                                      go_simp
                                      try with_reducible rfl
                                    try simp only [List.getElem_toArray, List.getElem_cons_succ, List.getElem_cons_zero, Act.put, List.setIfInBounds_toArray, List.set_cons_zero, List.set_cons_succ]
                                    refine wpAnyH_done (by kernel_rfl) ?_ _
                                    refine NoPanic.normal ?_
                                    try go_wp2_with fail
                                    go_meet
                                    case rel => exact ⟨_, _, rfl, Hv13O, Hv13Y⟩
                                exact AllReadyH.nil
                            exact AllReadyH.nil
                        exact AllReadyH.nil
                    exact AllReadyH.nil
                refine AllReadyH.cons (o := _) rfl (fun K hK => ?_) ?_
                · go_simp
                  obtain ⟨v14, ev14⟩ : ∃ x, x = v1.alloc (.cells #[.int .u8 10] 5) := ⟨_, rfl⟩
                  rw [← ev14]
                  have Hv14O : Hid (OwnT v14 W.heap.size (.slice A1 p2.length c1) p2) := Lib.hid (ev14 ▸ Hv1O.out.alloc _)
                  have hKv14 : Blk v14 gb 102 #[.int .i64 up, .int .i64 ur, .slice UA nu uc] := ev14 ▸ Hv1K.out.alloc _
                  have Hv14K := Lib.hid hKv14
                  have Hv14Y : Hid (Say W.heap.size X1 v14) := Lib.hid (ev14 ▸ Hv1Y.out.alloc hsv1 _)
                  have hzv14 : v14.heap.size = v1.heap.size + 1 := by rw [ev14]; simp
                  have hsv14 : W.heap.size ≤ v14.heap.size := by omega
                  have gv14_7 : Hid (Blk v14 v1.heap.size 5 #[.int .u8 10]) := Lib.hid (ev14 ▸ Blk.new v1 _ _)
                  have nv14_7 : Hid (((.slice A1 p2.length c1) : Value).ownBlock ≠ some v1.heap.size) := Lib.hid (fun e => by have := (Hv1O.out.block e).2; omega)
                  have gv14_1 : Hid (Blk v14 (X1d.heap.size) 5 #[.int .u8 32]) := Lib.hid (ev14 ▸ gv1_1.out.alloc _)
                  clear ev14
                  refine hK.out _ _ ?_ (fun hHeld => ?_)
                  · exact hKv14
                  · clear hK K
                    try simp only [List.getElem_toArray, List.getElem_cons_succ, List.getElem_cons_zero, Act.put, List.setIfInBounds_toArray, List.set_cons_zero, List.set_cons_succ]
                    refine wpAnyH_ready (rs := [2]) (by kernel_rfl) (by simp) ?_
                    refine AllReadyH.cons (o := _) rfl (fun K hK => ?_) ?_
                    · refine wp_oneK (b := 32) (.tmp 29) (.tmp 30) rfl Hv14O.out 32 rfl gv14_1.out Hp3.out (by omega) (by omega) (by simp [Act.eval, Act.put]) (by simp [Act.eval, Act.put]) ?_
                      intro Av15 cv15 v15 hO hY hkp
                      have Hv15O := Lib.hid hO
                      have hKv15 := Hv14K.out.say hY (by decide)
                      have Hv15K := Lib.hid hKv15
                      have hsv15 : W.heap.size ≤ v15.heap.size := Nat.le_trans hsv14 hY.size
                      have hzv15 := hY.size
                      have gv15_7 := Lib.hid (hkp.blk gv14_7.out nv14_7.out).1
                      have nv15_7 := Lib.hid (hkp.blk gv14_7.out nv14_7.out).2
                      have Hv15Y := Lib.hid (Hv14Y.out.trans hY)
                      clear hO hY hkp
                      refine hK.out _ _ ?_ (fun hHeld => ?_)
                      · exact hKv15
                      · clear hK K
                        try simp only [List.getElem_toArray, List.getElem_cons_succ, List.getElem_cons_zero, Act.put, List.setIfInBounds_toArray, List.set_cons_zero, List.set_cons_succ]
                        refine wpAnyH_ready (rs := [5]) (by kernel_rfl) (by simp) ?_
                        refine AllReadyH.cons (o := _) rfl (fun K hK => ?_) ?_
                        · go_simp
                          refine Calls.mono (l1digitsB_c (ur + 1) ur _ (by omega) (by omega)) ?_
                          rintro e v16 ⟨vd, rfl, hOd, hb⟩
                          obtain ⟨Ad16, cd16, rfl, hRd⟩ := hOd.form
                          have rv16 := Lib.hid hRd
                          have Hv16O := Lib.hid (Hv15O.out.below hb)
                          have hKv16 := Hv15K.out.below hb Hv15K.out.lt
                          have Hv16K := Lib.hid hKv16
                          have hsv16 : W.heap.size ≤ v16.heap.size := Nat.le_trans hsv15 hb.size
                          have hzv16 := hb.size
                          have Hv16Y := Lib.hid (Hv15Y.out.trans (Say.of hb hsv15))
                          have gv16_7 := Lib.hid (gv15_7.out.below hb gv15_7.out.lt)
                          clear hRd hOd hb
                          refine hK.out _ _ ?_ (fun hHeld => ?_)
                          · exact hKv16
                          · clear hK K
                            try simp only [List.getElem_toArray, List.getElem_cons_succ, List.getElem_cons_zero, Act.put, List.setIfInBounds_toArray, List.set_cons_zero, List.set_cons_succ]
                            refine wpAnyH_ready (rs := [6]) (by kernel_rfl) (by simp) ?_
                            refine AllReadyH.cons (o := _) rfl (fun K hK => ?_) ?_
                            · refine wp_rowK (c0 := cd16) (.tmp 31) (.tmp 34) rfl Hv16O.out rv16.out Hp4.out (by omega) (by omega) (by simp [Act.eval, Act.put]) (by simp [Act.eval, Act.put]) ?_
                              intro Av17 cv17 v17 hO hY hkp
                              have Hv17O := Lib.hid hO
                              have hKv17 := Hv16K.out.say hY (by decide)
                              have Hv17K := Lib.hid hKv17
                              have hsv17 : W.heap.size ≤ v17.heap.size := Nat.le_trans hsv16 hY.size
                              have hzv17 := hY.size
                              have gv17_7 := Lib.hid (hkp.blk gv16_7.out nv15_7.out).1
                              have nv17_7 := Lib.hid (hkp.blk gv16_7.out nv15_7.out).2
                              have Hv17Y := Lib.hid (Hv16Y.out.trans hY)
                              clear hO hY hkp
                              refine hK.out _ _ ?_ (fun hHeld => ?_)
                              · exact hKv17
                              · clear hK K
                                try simp only [List.getElem_toArray, List.getElem_cons_succ, List.getElem_cons_zero, Act.put, List.setIfInBounds_toArray, List.set_cons_zero, List.set_cons_succ]
                                refine wpAnyH_ready (rs := [8]) (by kernel_rfl) (by simp) ?_
                                refine AllReadyH.cons (o := _) rfl (fun K hK => ?_) ?_
                                · refine wp_oneK (b := 10) (.tmp 35) (.tmp 36) rfl Hv17O.out 10 rfl gv17_7.out Hz.out (by omega) (by omega) (by simp [Act.eval, Act.put]) (by simp [Act.eval, Act.put]) ?_
                                  intro Av18 cv18 v18 hO hY hkp
                                  have Hv18O := Lib.hid hO
                                  have hKv18 := Hv17K.out.say hY (by decide)
                                  have Hv18K := Lib.hid hKv18
                                  have hsv18 : W.heap.size ≤ v18.heap.size := Nat.le_trans hsv17 hY.size
                                  have hzv18 := hY.size
                                  have Hv18Y := Lib.hid (Hv17Y.out.trans hY)
                                  clear hO hY hkp
                                  refine hK.out _ _ ?_ (fun hHeld => ?_)
                                  · exact hKv18
                                  · clear hK K
                                    try simp only [List.getElem_toArray, List.getElem_cons_succ, List.getElem_cons_zero, Act.put, List.setIfInBounds_toArray, List.set_cons_zero, List.set_cons_succ]
                                    refine wpAnyH_take (i := 9) (oi := _) (v := ?_) rfl (by kernel_rfl) (by kernel_rfl) (by kernel_rfl) (fun _ _ _ h => h) (Or.inl ⟨by rfl, ?_⟩) (by assumption) ?_
                                    rotate_left
                                    focus
                                      intro w hSw
                                      obtain ⟨qs0, qs1, qs2⟩ := Blk.three hSw
                                      go_simp
                                      try with_reducible rfl
                                    try simp only [List.getElem_toArray, List.getElem_cons_succ, List.getElem_cons_zero, Act.put, List.setIfInBounds_toArray, List.set_cons_zero, List.set_cons_succ]
                                    refine wpAnyH_done (by kernel_rfl) ?_ _
                                    refine NoPanic.normal ?_
                                    try go_wp2_with fail
                                    go_meet
                                    case rel => exact ⟨_, _, rfl, Hv18O, Hv18Y⟩
                                exact AllReadyH.nil
                            exact AllReadyH.nil
                        exact AllReadyH.nil
                    exact AllReadyH.nil
                exact AllReadyH.nil
            refine AllReadyH.cons (o := _) rfl (fun K hK => ?_) ?_
            · go_simp
              obtain ⟨v19, ev19⟩ : ∃ x, x = X1d.alloc (.cells #[.int .u8 10] 5) := ⟨_, rfl⟩
              rw [← ev19]
              have Hv19O : Hid (OwnT v19 W.heap.size (.slice A1 p2.length c1) p2) := Lib.hid (ev19 ▸ HX1dO.out.alloc _)
              have hKv19 : Blk v19 gb 102 #[.int .i64 up, .int .i64 ur, .slice UA nu uc] := ev19 ▸ HX1dK.out.alloc _
              have Hv19K := Lib.hid hKv19
              have Hv19Y : Hid (Say W.heap.size X1 v19) := Lib.hid (ev19 ▸ HX1dY.out.alloc hsX1d _)
              have hzv19 : v19.heap.size = X1d.heap.size + 1 := by rw [ev19]; simp
              have hsv19 : W.heap.size ≤ v19.heap.size := by omega
              have gv19_7 : Hid (Blk v19 X1d.heap.size 5 #[.int .u8 10]) := Lib.hid (ev19 ▸ Blk.new X1d _ _)
              have nv19_7 : Hid (((.slice A1 p2.length c1) : Value).ownBlock ≠ some X1d.heap.size) := Lib.hid (fun e => by have := (HX1dO.out.block e).2; omega)
              clear ev19
              refine hK.out _ _ ?_ (fun hHeld => ?_)
              · exact hKv19
              · clear hK K
                try simp only [List.getElem_toArray, List.getElem_cons_succ, List.getElem_cons_zero, Act.put, List.setIfInBounds_toArray, List.set_cons_zero, List.set_cons_succ]
                refine wpAnyH_ready (rs := [1]) (by kernel_rfl) (by simp) ?_
                refine AllReadyH.cons (o := _) rfl (fun K hK => ?_) ?_
                · go_simp
                  obtain ⟨v20, ev20⟩ : ∃ x, x = v19.alloc (.cells #[.int .u8 32] 5) := ⟨_, rfl⟩
                  rw [← ev20]
                  have Hv20O : Hid (OwnT v20 W.heap.size (.slice A1 p2.length c1) p2) := Lib.hid (ev20 ▸ Hv19O.out.alloc _)
                  have hKv20 : Blk v20 gb 102 #[.int .i64 up, .int .i64 ur, .slice UA nu uc] := ev20 ▸ Hv19K.out.alloc _
                  have Hv20K := Lib.hid hKv20
                  have Hv20Y : Hid (Say W.heap.size X1 v20) := Lib.hid (ev20 ▸ Hv19Y.out.alloc hsv19 _)
                  have hzv20 : v20.heap.size = v19.heap.size + 1 := by rw [ev20]; simp
                  have hsv20 : W.heap.size ≤ v20.heap.size := by omega
                  have gv20_1 : Hid (Blk v20 v19.heap.size 5 #[.int .u8 32]) := Lib.hid (ev20 ▸ Blk.new v19 _ _)
                  have nv20_1 : Hid (((.slice A1 p2.length c1) : Value).ownBlock ≠ some v19.heap.size) := Lib.hid (fun e => by have := (Hv19O.out.block e).2; omega)
                  have gv20_7 : Hid (Blk v20 (X1d.heap.size) 5 #[.int .u8 10]) := Lib.hid (ev20 ▸ gv19_7.out.alloc _)
                  clear ev20
                  refine hK.out _ _ ?_ (fun hHeld => ?_)
                  · exact hKv20
                  · clear hK K
                    try simp only [List.getElem_toArray, List.getElem_cons_succ, List.getElem_cons_zero, Act.put, List.setIfInBounds_toArray, List.set_cons_zero, List.set_cons_succ]
                    refine wpAnyH_ready (rs := [2]) (by kernel_rfl) (by simp) ?_
                    refine AllReadyH.cons (o := _) rfl (fun K hK => ?_) ?_
                    · refine wp_oneK (b := 32) (.tmp 29) (.tmp 30) rfl Hv20O.out 32 rfl gv20_1.out Hp3.out (by omega) (by omega) (by simp [Act.eval, Act.put]) (by simp [Act.eval, Act.put]) ?_
                      intro Av21 cv21 v21 hO hY hkp
                      have Hv21O := Lib.hid hO
                      have hKv21 := Hv20K.out.say hY (by decide)
                      have Hv21K := Lib.hid hKv21
                      have hsv21 : W.heap.size ≤ v21.heap.size := Nat.le_trans hsv20 hY.size
                      have hzv21 := hY.size
                      have gv21_7 := Lib.hid (hkp.blk gv20_7.out nv19_7.out).1
                      have nv21_7 := Lib.hid (hkp.blk gv20_7.out nv19_7.out).2
                      have Hv21Y := Lib.hid (Hv20Y.out.trans hY)
                      clear hO hY hkp
                      refine hK.out _ _ ?_ (fun hHeld => ?_)
                      · exact hKv21
                      · clear hK K
                        try simp only [List.getElem_toArray, List.getElem_cons_succ, List.getElem_cons_zero, Act.put, List.setIfInBounds_toArray, List.set_cons_zero, List.set_cons_succ]
                        refine wpAnyH_ready (rs := [5]) (by kernel_rfl) (by simp) ?_
                        refine AllReadyH.cons (o := _) rfl (fun K hK => ?_) ?_
                        · go_simp
                          refine Calls.mono (l1digitsB_c (ur + 1) ur _ (by omega) (by omega)) ?_
                          rintro e v22 ⟨vd, rfl, hOd, hb⟩
                          obtain ⟨Ad22, cd22, rfl, hRd⟩ := hOd.form
                          have rv22 := Lib.hid hRd
                          have Hv22O := Lib.hid (Hv21O.out.below hb)
                          have hKv22 := Hv21K.out.below hb Hv21K.out.lt
                          have Hv22K := Lib.hid hKv22
                          have hsv22 : W.heap.size ≤ v22.heap.size := Nat.le_trans hsv21 hb.size
                          have hzv22 := hb.size
                          have Hv22Y := Lib.hid (Hv21Y.out.trans (Say.of hb hsv21))
                          have gv22_7 := Lib.hid (gv21_7.out.below hb gv21_7.out.lt)
                          clear hRd hOd hb
                          refine hK.out _ _ ?_ (fun hHeld => ?_)
                          · exact hKv22
                          · clear hK K
                            try simp only [List.getElem_toArray, List.getElem_cons_succ, List.getElem_cons_zero, Act.put, List.setIfInBounds_toArray, List.set_cons_zero, List.set_cons_succ]
                            refine wpAnyH_ready (rs := [6]) (by kernel_rfl) (by simp) ?_
                            refine AllReadyH.cons (o := _) rfl (fun K hK => ?_) ?_
                            · refine wp_rowK (c0 := cd22) (.tmp 31) (.tmp 34) rfl Hv22O.out rv22.out Hp4.out (by omega) (by omega) (by simp [Act.eval, Act.put]) (by simp [Act.eval, Act.put]) ?_
                              intro Av23 cv23 v23 hO hY hkp
                              have Hv23O := Lib.hid hO
                              have hKv23 := Hv22K.out.say hY (by decide)
                              have Hv23K := Lib.hid hKv23
                              have hsv23 : W.heap.size ≤ v23.heap.size := Nat.le_trans hsv22 hY.size
                              have hzv23 := hY.size
                              have gv23_7 := Lib.hid (hkp.blk gv22_7.out nv21_7.out).1
                              have nv23_7 := Lib.hid (hkp.blk gv22_7.out nv21_7.out).2
                              have Hv23Y := Lib.hid (Hv22Y.out.trans hY)
                              clear hO hY hkp
                              refine hK.out _ _ ?_ (fun hHeld => ?_)
                              · exact hKv23
                              · clear hK K
                                try simp only [List.getElem_toArray, List.getElem_cons_succ, List.getElem_cons_zero, Act.put, List.setIfInBounds_toArray, List.set_cons_zero, List.set_cons_succ]
                                refine wpAnyH_ready (rs := [8]) (by kernel_rfl) (by simp) ?_
                                refine AllReadyH.cons (o := _) rfl (fun K hK => ?_) ?_
                                · refine wp_oneK (b := 10) (.tmp 35) (.tmp 36) rfl Hv23O.out 10 rfl gv23_7.out Hz.out (by omega) (by omega) (by simp [Act.eval, Act.put]) (by simp [Act.eval, Act.put]) ?_
                                  intro Av24 cv24 v24 hO hY hkp
                                  have Hv24O := Lib.hid hO
                                  have hKv24 := Hv23K.out.say hY (by decide)
                                  have Hv24K := Lib.hid hKv24
                                  have hsv24 : W.heap.size ≤ v24.heap.size := Nat.le_trans hsv23 hY.size
                                  have hzv24 := hY.size
                                  have Hv24Y := Lib.hid (Hv23Y.out.trans hY)
                                  clear hO hY hkp
                                  refine hK.out _ _ ?_ (fun hHeld => ?_)
                                  · exact hKv24
                                  · clear hK K
                                    try simp only [List.getElem_toArray, List.getElem_cons_succ, List.getElem_cons_zero, Act.put, List.setIfInBounds_toArray, List.set_cons_zero, List.set_cons_succ]
                                    refine wpAnyH_take (i := 9) (oi := _) (v := ?_) rfl (by kernel_rfl) (by kernel_rfl) (by kernel_rfl) (fun _ _ _ h => h) (Or.inl ⟨by rfl, ?_⟩) (by assumption) ?_
                                    rotate_left
                                    focus
                                      intro w hSw
                                      obtain ⟨qs0, qs1, qs2⟩ := Blk.three hSw
                                      go_simp
                                      try with_reducible rfl
                                    try simp only [List.getElem_toArray, List.getElem_cons_succ, List.getElem_cons_zero, Act.put, List.setIfInBounds_toArray, List.set_cons_zero, List.set_cons_succ]
                                    refine wpAnyH_done (by kernel_rfl) ?_ _
                                    refine NoPanic.normal ?_
                                    try go_wp2_with fail
                                    go_meet
                                    case rel => exact ⟨_, _, rfl, Hv24O, Hv24Y⟩
                                exact AllReadyH.nil
                            exact AllReadyH.nil
                        exact AllReadyH.nil
                    exact AllReadyH.nil
                exact AllReadyH.nil
            exact AllReadyH.nil
          case rest =>
            obtain ⟨A2, c2, rfl, HX2O, HX2S⟩ := hcut
            obtain ⟨X2, hX2⟩ : ∃ x, x = wc := ⟨_, rfl⟩
            subst hX2
            have HX2K := Lib.hid (HX1K.out.say HX2S.out (by decide))
            have hsX2 : W.heap.size ≤ X2.heap.size := Nat.le_trans hsX1 HX2S.out.size
            have HX2Y := Lib.hid (HX1Y.out.trans HX2S.out)
            have HX2I := Lib.hid (HX0I.out.below ((HX1S.out.trans HX2S.out).below.mono hBW))
            clear HX0O HX0Y HX0K HX0I HX1O HX1K HX1Y HX1S HX2S hsX0 hsX1 hssX1 hsX2 hpl1 hpl2 hpl3 hpl4 Hp1 Hp2 Hp3 Hp4 Hz hdu hdr hxl
            go_wp2_with fail

            go_loopw [3, 6] (fun t i wr => ∃ (j : Nat) (y : List UInt8) (A : Option Addr) (c : Nat), j ≤ nu ∧ i = .int .i64 j ∧ t = .slice A y.length c ∧ Hid (y = z ++ insTo ul j) ∧ Hid (OwnT wr W.heap.size (.slice A y.length c) y) ∧ Hid (Say W.heap.size W wr) ∧ Hid (InL wr L B UA ul) ∧ Hid (Blk wr gb 102 #[.int .i64 up, .int .i64 ur, .slice UA nu uc])) (fun _ i _ => nu - (intOf i).toNat)
            case atStart => exact ⟨0, z, A2, c2, Nat.zero_le _, rfl, rfl, Lib.hid (by simp [insTo]), HX2O, HX2Y, HX2I, HX2K⟩
            case round =>
              obtain ⟨j, yy, Aj, cj, hj, rfl, rfl, hx, hO, hY, hI, hK⟩ := hrel
              have hyl : yy.length ≤ 24060 * k + 47 + 80 * j := by
                rw [hx.out, List.length_append]
                have := insTo_len Hin.out j (by rw [Hnu.out]; exact hj)
                omega
              have hszi := hY.out.size
              obtain ⟨r0, r1, r2⟩ := hK.out.three
              by_cases hltj : j < nu
              · have hltf : j < ul.length := by rw [Hnu.out]; exact hltj
                obtain ⟨fd, rfl, _, hfdb, hfat⟩ := hI.out.2 (by omega)
                obtain ⟨y0, y1, y2, y3, y4, ⟨f0, f1, f2, f3, f4⟩, rfl, rfl, rfl, rfl, NA, nc, rfl, hN, hnm⟩ := hfat j hltf
                obtain ⟨⟨ho0, ho1⟩, ⟨ha0, ha1⟩, ⟨hb0, hb1⟩, ⟨hc0, hc1⟩, hn6⟩ := Hin.out j hltf
                have hnext : z ++ insTo ul (j + 1) = yy ++ opW ul[j].op.toNat ++ [32] ++ Lib.decDigits ul[j].a.toNat ++ [32] ++ Lib.decDigits ul[j].b.toNat ++ [32] ++ Lib.decDigits ul[j].c.toNat ++ nmT ul[j].name ++ [10] := by rw [insTo_succ hltf, hx.out]; unfold inTxt; simp
                obtain ⟨nm, hnme⟩ : ∃ n, ul[j].name = n := ⟨_, rfl⟩
                obtain ⟨oi, hoi⟩ : ∃ n, ul[j].op = n := ⟨_, rfl⟩
                obtain ⟨ia, hia⟩ : ∃ n, ul[j].a = n := ⟨_, rfl⟩
                obtain ⟨ib, hib⟩ : ∃ n, ul[j].b = n := ⟨_, rfl⟩
                obtain ⟨ic, hic⟩ : ∃ n, ul[j].c = n := ⟨_, rfl⟩
                rw [hnme] at f4 hn6 hN hnext
                rw [hoi] at f0 ho0 ho1 hnext
                rw [hia] at f1 ha0 ha1 hnext
                rw [hib] at f2 hb0 hb1 hnext
                rw [hic] at f3 hc0 hc1 hnext
                obtain ⟨op, rfl⟩ : ∃ n : Nat, oi = n := ⟨oi.toNat, by omega⟩
                obtain ⟨oa, rfl⟩ : ∃ n : Nat, ia = n := ⟨ia.toNat, by omega⟩
                obtain ⟨ob, rfl⟩ : ∃ n : Nat, ib = n := ⟨ib.toNat, by omega⟩
                obtain ⟨oc, rfl⟩ : ∃ n : Nat, ic = n := ⟨ic.toNat, by omega⟩
                rw [Int.toNat_natCast, Int.toNat_natCast, Int.toNat_natCast, Int.toNat_natCast] at hnext
                have hwl := opW_len op
                have hda := dig20 oa (by omega)
                have hdb := dig20 ob (by omega)
                have hdc := dig20 oc (by omega)
                obtain ⟨u1, hu1'⟩ : ∃ y, yy ++ opW op = y := ⟨_, rfl⟩
                obtain ⟨u2, hu2'⟩ : ∃ y, u1 ++ [32] = y := ⟨_, rfl⟩
                obtain ⟨u3, hu3'⟩ : ∃ y, u2 ++ Lib.decDigits oa = y := ⟨_, rfl⟩
                obtain ⟨u4, hu4'⟩ : ∃ y, u3 ++ [32] = y := ⟨_, rfl⟩
                obtain ⟨u5, hu5'⟩ : ∃ y, u4 ++ Lib.decDigits ob = y := ⟨_, rfl⟩
                obtain ⟨u6, hu6'⟩ : ∃ y, u5 ++ [32] = y := ⟨_, rfl⟩
                obtain ⟨u7, hu7'⟩ : ∃ y, u6 ++ Lib.decDigits oc = y := ⟨_, rfl⟩
                have hul1 : u1.length ≤ 24060 * k + 51 + 80 * j := by rw [← hu1', List.length_append]; omega
                have hul2 : u2.length ≤ 24060 * k + 52 + 80 * j := by rw [← hu2', List.length_append]; simp only [List.length_cons, List.length_nil]; omega
                have hul3 : u3.length ≤ 24060 * k + 72 + 80 * j := by rw [← hu3', List.length_append]; omega
                have hul4 : u4.length ≤ 24060 * k + 73 + 80 * j := by rw [← hu4', List.length_append]; simp only [List.length_cons, List.length_nil]; omega
                have hul5 : u5.length ≤ 24060 * k + 93 + 80 * j := by rw [← hu5', List.length_append]; omega
                have hul6 : u6.length ≤ 24060 * k + 94 + 80 * j := by rw [← hu6', List.length_append]; simp only [List.length_cons, List.length_nil]; omega
                have hul7 : u7.length ≤ 24060 * k + 114 + 80 * j := by rw [← hu7', List.length_append]; omega
                rw [hu1', hu2', hu3', hu4', hu5', hu6', hu7'] at hnext
                have Hnx := Lib.hid hnext
                have Hu1 := Lib.hid hu1'
                have Hu2 := Lib.hid hu2'
                have Hu3 := Lib.hid hu3'
                have Hu4 := Lib.hid hu4'
                have Hu5 := Lib.hid hu5'
                have Hu6 := Lib.hid hu6'
                have Hu7 := Lib.hid hu7'
                have hop : op < 15 := by omega
                have hBr : B ≤ wr.heap.size := by omega
                have HXO := Lib.hid (hO.out.alloc (.cells #[.int .i64 op, .int .i64 oa, .int .i64 ob, .int .i64 oc, .slice NA nm.length nc] 104))
                have HXY := Lib.hid (hY.out.alloc hszi (.cells #[.int .i64 op, .int .i64 oa, .int .i64 ob, .int .i64 oc, .slice NA nm.length nc] 104))
                have HXK := Lib.hid (Blk.new wr 104 #[.int .i64 op, .int .i64 oa, .int .i64 ob, .int .i64 oc, .slice NA nm.length nc])
                have HXU := Lib.hid (hK.out.alloc (.cells #[.int .i64 op, .int .i64 oa, .int .i64 ob, .int .i64 oc, .slice NA nm.length nc] 104))
                have HXI := Lib.hid (hI.out.below ((blOne wr (.cells #[.int .i64 op, .int .i64 oa, .int .i64 ob, .int .i64 oc, .slice NA nm.length nc] 104)).mono hBr))
                have HXN := Lib.hid (hN.1.below ((blOne wr (.cells #[.int .i64 op, .int .i64 oa, .int .i64 ob, .int .i64 oc, .slice NA nm.length nc] 104)).mono hBr))
                obtain ⟨X, hX⟩ : ∃ X, X = wr.alloc (.cells #[.int .i64 op, .int .i64 oa, .int .i64 ob, .int .i64 oc, .slice NA nm.length nc] 104) := ⟨_, rfl⟩
                have hsX : W.heap.size ≤ X.heap.size := by rw [hX, World.size_alloc]; omega
                rw [← hX] at HXO HXY HXK HXU HXI HXN
                have HX := Lib.hid hX
                clear hfat hu1' hu2' hu3' hu4' hu5' hu6' hu7' hnext hN hx hnme hoi hia hib hic hX hO hY hI hK
                go_upto_region 14 with fail
                rw [← HX.out]
                obtain ⟨gi, hgi⟩ : ∃ g, g = wr.heap.size := ⟨_, rfl⟩
                rw [← hgi] at HXK
                rw [← hgi]
                clear hgi HX f0 f1 f2 f3 f4 r0 r1 r2 hszi hBr
                obtain ⟨r0, r1, r2, r3, r4⟩ := Blk.five HXK.out
                go_upto_region 15 with (first
                  | (go_at_call 56; refine (l6word_c op hop X).mono ?_; rintro e w7 ⟨rfl, hw7⟩; have HO7 : Hid (OwnT w7 W.heap.size (.slice Aj yy.length cj) yy) := Lib.hid (hw7 ▸ HXO.out.alloc _); have HY7 : Hid (Say W.heap.size X w7) := Lib.hid (hw7 ▸ (Say.refl _ X).alloc hsX _); have hs7 : W.heap.size ≤ w7.heap.size := Nat.le_trans hsX HY7.out.size; clear hw7)
                  | (at_builtin; refine wpList_strT rfl (.tmp 50) (.tmp 53) rfl rfl HO7.out rfl (r := opW op) (by simp) Hu1.out (by omega) hs7 ?_; intro A5 c5 Y1 hO5 hY5; have HY1O := Lib.hid hO5; have HY1S := Lib.hid (HY7.out.trans hY5); clear hO5 hY5 HO7 HY7))
                have HY1K := Lib.hid (HXK.out.say HY1S.out (by decide))
                have HY1U := Lib.hid (HXU.out.say HY1S.out (by decide))
                have HY1Y := Lib.hid (HXY.out.trans HY1S.out)
                have hsY1 : W.heap.size ≤ Y1.heap.size := Nat.le_trans hsX HY1S.out.size
                have HY1I := Lib.hid (HXI.out.below (HY1S.out.below.mono hBW))
                have HY1N := Lib.hid (HXN.out.below (HY1S.out.below.mono hBW))
                clear HXO HXY HXK HXU HXI HXN HY1S hs7 r0 r1 r2 r3 r4 hsX
                go_upto_region 15 with fail
                go_cut [3] (fun t wx => ∃ A c, t = .slice A u3.length c ∧ Hid (OwnT wx W.heap.size (.slice A u3.length c) u3) ∧ Hid (Say W.heap.size Y1 wx))
                case first =>
                  obtain ⟨Y1d, eY1d⟩ : ∃ x, x = Y1.drew := ⟨_, rfl⟩
                  have HY1dO : Hid (OwnT Y1d W.heap.size (.slice A5 u1.length c5) u1) := Lib.hid (eY1d ▸ (show OwnT Y1.drew _ _ _ from HY1O.out))
                  have hKY1d : Blk Y1d gi 104 #[.int .i64 op, .int .i64 oa, .int .i64 ob, .int .i64 oc, .slice NA nm.length nc] := eY1d ▸ HY1K.out.drew
                  have HY1dK := Lib.hid hKY1d
                  have HY1dY : Hid (Say W.heap.size Y1 Y1d) := Lib.hid (eY1d ▸ (Say.refl W.heap.size Y1).drew)
                  have hzY1d : Y1d.heap.size = Y1.heap.size := by rw [eY1d]; rfl
                  have hsY1d : W.heap.size ≤ Y1d.heap.size := by omega
                  refine wp_region_noPanic ?_
                  refine wp_region_held_drew (S := (fun W => Blk W gi 104 #[.int .i64 op, .int .i64 oa, .int .i64 ob, .int .i64 oc, .slice NA nm.length nc])) (by kernel_rfl) ?_ (fun hHeld => ?_)
                  · exact eY1d ▸ hKY1d
                  rw [← eY1d]
                  clear eY1d
                  refine wpAnyH_take (i := 0) (oi := _) (v := ?_) rfl (by kernel_rfl) (by kernel_rfl) (by kernel_rfl) (fun _ _ _ h => h) (Or.inl ⟨by rfl, ?_⟩) (by assumption) ?_
                  rotate_left
                  focus
                    intro w hSw
                    obtain ⟨qs0, qs1, qs2, qs3, qs4⟩ := Blk.five hSw
                    go_simp
                    try with_reducible rfl
                  try simp only [List.getElem_toArray, List.getElem_cons_succ, List.getElem_cons_zero, Act.put, List.setIfInBounds_toArray, List.set_cons_zero, List.set_cons_succ]
                  refine wpAnyH_take (i := 3) (oi := _) (v := ?_) rfl (by kernel_rfl) (by kernel_rfl) (by kernel_rfl) (fun _ _ _ h => h) (Or.inl ⟨by rfl, ?_⟩) (by assumption) ?_
                  rotate_left
                  focus
                    intro w hSw
                    obtain ⟨qs0, qs1, qs2, qs3, qs4⟩ := Blk.five hSw
                    go_simp
                    try with_reducible rfl
                  try simp only [List.getElem_toArray, List.getElem_cons_succ, List.getElem_cons_zero, Act.put, List.setIfInBounds_toArray, List.set_cons_zero, List.set_cons_succ]
                  refine wpAnyH_take (i := 4) (oi := _) (v := ?_) rfl (by kernel_rfl) (by kernel_rfl) (by kernel_rfl) (fun _ _ _ h => h) (Or.inl ⟨by rfl, ?_⟩) (by assumption) ?_
                  rotate_left
                  focus
                    intro w hSw
                    obtain ⟨qs0, qs1, qs2, qs3, qs4⟩ := Blk.five hSw
                    go_simp
                    try with_reducible rfl
                  try simp only [List.getElem_toArray, List.getElem_cons_succ, List.getElem_cons_zero, Act.put, List.setIfInBounds_toArray, List.set_cons_zero, List.set_cons_succ]
                  refine wpAnyH_ready (rs := [1]) (by kernel_rfl) (by simp) ?_
                  refine AllReadyH.cons (o := _) rfl (fun K hK => ?_) ?_
                  · go_simp
                    obtain ⟨v1, ev1⟩ : ∃ x, x = Y1d.alloc (.cells #[.int .u8 32] 5) := ⟨_, rfl⟩
                    rw [← ev1]
                    have Hv1O : Hid (OwnT v1 W.heap.size (.slice A5 u1.length c5) u1) := Lib.hid (ev1 ▸ HY1dO.out.alloc _)
                    have hKv1 : Blk v1 gi 104 #[.int .i64 op, .int .i64 oa, .int .i64 ob, .int .i64 oc, .slice NA nm.length nc] := ev1 ▸ HY1dK.out.alloc _
                    have Hv1K := Lib.hid hKv1
                    have Hv1Y : Hid (Say W.heap.size Y1 v1) := Lib.hid (ev1 ▸ HY1dY.out.alloc hsY1d _)
                    have hzv1 : v1.heap.size = Y1d.heap.size + 1 := by rw [ev1]; simp
                    have hsv1 : W.heap.size ≤ v1.heap.size := by omega
                    have gv1_1 : Hid (Blk v1 Y1d.heap.size 5 #[.int .u8 32]) := Lib.hid (ev1 ▸ Blk.new Y1d _ _)
                    have nv1_1 : Hid (((.slice A5 u1.length c5) : Value).ownBlock ≠ some Y1d.heap.size) := Lib.hid (fun e => by have := (HY1dO.out.block e).2; omega)
                    clear ev1
                    refine hK.out _ _ ?_ (fun hHeld => ?_)
                    · exact hKv1
                    · clear hK K
                      try simp only [List.getElem_toArray, List.getElem_cons_succ, List.getElem_cons_zero, Act.put, List.setIfInBounds_toArray, List.set_cons_zero, List.set_cons_succ]
                      refine wpAnyH_ready (rs := [2]) (by kernel_rfl) (by simp) ?_
                      refine AllReadyH.cons (o := _) rfl (fun K hK => ?_) ?_
                      · refine wp_oneK (b := 32) (.tmp 55) (.tmp 56) rfl Hv1O.out 32 rfl gv1_1.out Hu2.out (by omega) (by omega) (by simp [Act.eval, Act.put]) (by simp [Act.eval, Act.put]) ?_
                        intro Av2 cv2 v2 hO hY hkp
                        have Hv2O := Lib.hid hO
                        have hKv2 := Hv1K.out.say hY (by decide)
                        have Hv2K := Lib.hid hKv2
                        have hsv2 : W.heap.size ≤ v2.heap.size := Nat.le_trans hsv1 hY.size
                        have hzv2 := hY.size
                        have Hv2Y := Lib.hid (Hv1Y.out.trans hY)
                        clear hO hY hkp
                        refine hK.out _ _ ?_ (fun hHeld => ?_)
                        · exact hKv2
                        · clear hK K
                          try simp only [List.getElem_toArray, List.getElem_cons_succ, List.getElem_cons_zero, Act.put, List.setIfInBounds_toArray, List.set_cons_zero, List.set_cons_succ]
                          refine wpAnyH_ready (rs := [5]) (by kernel_rfl) (by simp) ?_
                          refine AllReadyH.cons (o := _) rfl (fun K hK => ?_) ?_
                          · go_simp
                            refine Calls.mono (l1digitsB_c (oa + 1) oa _ (by omega) (by omega)) ?_
                            rintro e v3 ⟨vd, rfl, hOd, hb⟩
                            obtain ⟨Ad3, cd3, rfl, hRd⟩ := hOd.form
                            have rv3 := Lib.hid hRd
                            have Hv3O := Lib.hid (Hv2O.out.below hb)
                            have hKv3 := Hv2K.out.below hb Hv2K.out.lt
                            have Hv3K := Lib.hid hKv3
                            have hsv3 : W.heap.size ≤ v3.heap.size := Nat.le_trans hsv2 hb.size
                            have hzv3 := hb.size
                            have Hv3Y := Lib.hid (Hv2Y.out.trans (Say.of hb hsv2))
                            clear hRd hOd hb
                            refine hK.out _ _ ?_ (fun hHeld => ?_)
                            · exact hKv3
                            · clear hK K
                              try simp only [List.getElem_toArray, List.getElem_cons_succ, List.getElem_cons_zero, Act.put, List.setIfInBounds_toArray, List.set_cons_zero, List.set_cons_succ]
                              refine wpAnyH_ready (rs := [6]) (by kernel_rfl) (by simp) ?_
                              refine AllReadyH.cons (o := _) rfl (fun K hK => ?_) ?_
                              · refine wp_rowK (c0 := cd3) (.tmp 57) (.tmp 60) rfl Hv3O.out rv3.out Hu3.out (by omega) (by omega) (by simp [Act.eval, Act.put]) (by simp [Act.eval, Act.put]) ?_
                                intro Av4 cv4 v4 hO hY hkp
                                have Hv4O := Lib.hid hO
                                have hKv4 := Hv3K.out.say hY (by decide)
                                have Hv4K := Lib.hid hKv4
                                have hsv4 : W.heap.size ≤ v4.heap.size := Nat.le_trans hsv3 hY.size
                                have hzv4 := hY.size
                                have Hv4Y := Lib.hid (Hv3Y.out.trans hY)
                                clear hO hY hkp
                                refine hK.out _ _ ?_ (fun hHeld => ?_)
                                · exact hKv4
                                · clear hK K
                                  try simp only [List.getElem_toArray, List.getElem_cons_succ, List.getElem_cons_zero, Act.put, List.setIfInBounds_toArray, List.set_cons_zero, List.set_cons_succ]
                                  refine wpAnyH_take (i := 7) (oi := _) (v := ?_) rfl (by kernel_rfl) (by kernel_rfl) (by kernel_rfl) (fun _ _ _ h => h) (Or.inl ⟨by rfl, ?_⟩) (by assumption) ?_
                                  rotate_left
                                  focus
                                    intro w hSw
                                    obtain ⟨qs0, qs1, qs2, qs3, qs4⟩ := Blk.five hSw
                                    go_simp
                                    try with_reducible rfl
                                  try simp only [List.getElem_toArray, List.getElem_cons_succ, List.getElem_cons_zero, Act.put, List.setIfInBounds_toArray, List.set_cons_zero, List.set_cons_succ]
                                  refine wpAnyH_done (by kernel_rfl) ?_ _
                                  refine NoPanic.normal ?_
                                  try go_wp2_with fail
                                  go_meet
                                  case rel => exact ⟨_, _, rfl, Hv4O, Hv4Y⟩
                              exact AllReadyH.nil
                          exact AllReadyH.nil
                      exact AllReadyH.nil
                  exact AllReadyH.nil
                case rest =>
                  obtain ⟨A6, c6, rfl, HY2O, HY2S⟩ := hcut
                  obtain ⟨Y2, hY2⟩ : ∃ x, x = wc := ⟨_, rfl⟩
                  subst hY2
                  have HY2K := Lib.hid (HY1K.out.say HY2S.out (by decide))
                  have hsY2 : W.heap.size ≤ Y2.heap.size := Nat.le_trans hsY1 HY2S.out.size
                  have HY2U := Lib.hid (HY1U.out.say HY2S.out (by decide))
                  have HY2Y := Lib.hid (HY1Y.out.trans HY2S.out)
                  have HY2I := Lib.hid (HY1I.out.below (HY2S.out.below.mono hBW))
                  have HY2N := Lib.hid (HY1N.out.below (HY2S.out.below.mono hBW))
                  clear HY1O HY1K HY1Y HY1U HY1I HY1N hsY1 HY2S
                  go_upto_region 16 with fail
                  go_cut [3] (fun t wx => ∃ A c, t = .slice A u5.length c ∧ Hid (OwnT wx W.heap.size (.slice A u5.length c) u5) ∧ Hid (Say W.heap.size Y2 wx))
                  case first =>
                    obtain ⟨Y2d, eY2d⟩ : ∃ x, x = Y2.drew := ⟨_, rfl⟩
                    have HY2dO : Hid (OwnT Y2d W.heap.size (.slice A6 u3.length c6) u3) := Lib.hid (eY2d ▸ (show OwnT Y2.drew _ _ _ from HY2O.out))
                    have hKY2d : Blk Y2d gi 104 #[.int .i64 op, .int .i64 oa, .int .i64 ob, .int .i64 oc, .slice NA nm.length nc] := eY2d ▸ HY2K.out.drew
                    have HY2dK := Lib.hid hKY2d
                    have HY2dY : Hid (Say W.heap.size Y2 Y2d) := Lib.hid (eY2d ▸ (Say.refl W.heap.size Y2).drew)
                    have hzY2d : Y2d.heap.size = Y2.heap.size := by rw [eY2d]; rfl
                    have hsY2d : W.heap.size ≤ Y2d.heap.size := by omega
                    refine wp_region_noPanic ?_
                    refine wp_region_held_drew (S := (fun W => Blk W gi 104 #[.int .i64 op, .int .i64 oa, .int .i64 ob, .int .i64 oc, .slice NA nm.length nc])) (by kernel_rfl) ?_ (fun hHeld => ?_)
                    · exact eY2d ▸ hKY2d
                    rw [← eY2d]
                    clear eY2d
                    refine wpAnyH_take (i := 0) (oi := _) (v := ?_) rfl (by kernel_rfl) (by kernel_rfl) (by kernel_rfl) (fun _ _ _ h => h) (Or.inl ⟨by rfl, ?_⟩) (by assumption) ?_
                    rotate_left
                    focus
                      intro w hSw
                      obtain ⟨qs0, qs1, qs2, qs3, qs4⟩ := Blk.five hSw
                      go_simp
                      try with_reducible rfl
                    try simp only [List.getElem_toArray, List.getElem_cons_succ, List.getElem_cons_zero, Act.put, List.setIfInBounds_toArray, List.set_cons_zero, List.set_cons_succ]
                    refine wpAnyH_take (i := 3) (oi := _) (v := ?_) rfl (by kernel_rfl) (by kernel_rfl) (by kernel_rfl) (fun _ _ _ h => h) (Or.inl ⟨by rfl, ?_⟩) (by assumption) ?_
                    rotate_left
                    focus
                      intro w hSw
                      obtain ⟨qs0, qs1, qs2, qs3, qs4⟩ := Blk.five hSw
                      go_simp
                      try with_reducible rfl
                    try simp only [List.getElem_toArray, List.getElem_cons_succ, List.getElem_cons_zero, Act.put, List.setIfInBounds_toArray, List.set_cons_zero, List.set_cons_succ]
                    refine wpAnyH_take (i := 4) (oi := _) (v := ?_) rfl (by kernel_rfl) (by kernel_rfl) (by kernel_rfl) (fun _ _ _ h => h) (Or.inl ⟨by rfl, ?_⟩) (by assumption) ?_
                    rotate_left
                    focus
                      intro w hSw
                      obtain ⟨qs0, qs1, qs2, qs3, qs4⟩ := Blk.five hSw
                      go_simp
                      try with_reducible rfl
                    try simp only [List.getElem_toArray, List.getElem_cons_succ, List.getElem_cons_zero, Act.put, List.setIfInBounds_toArray, List.set_cons_zero, List.set_cons_succ]
                    refine wpAnyH_ready (rs := [1]) (by kernel_rfl) (by simp) ?_
                    refine AllReadyH.cons (o := _) rfl (fun K hK => ?_) ?_
                    · go_simp
                      obtain ⟨v1, ev1⟩ : ∃ x, x = Y2d.alloc (.cells #[.int .u8 32] 5) := ⟨_, rfl⟩
                      rw [← ev1]
                      have Hv1O : Hid (OwnT v1 W.heap.size (.slice A6 u3.length c6) u3) := Lib.hid (ev1 ▸ HY2dO.out.alloc _)
                      have hKv1 : Blk v1 gi 104 #[.int .i64 op, .int .i64 oa, .int .i64 ob, .int .i64 oc, .slice NA nm.length nc] := ev1 ▸ HY2dK.out.alloc _
                      have Hv1K := Lib.hid hKv1
                      have Hv1Y : Hid (Say W.heap.size Y2 v1) := Lib.hid (ev1 ▸ HY2dY.out.alloc hsY2d _)
                      have hzv1 : v1.heap.size = Y2d.heap.size + 1 := by rw [ev1]; simp
                      have hsv1 : W.heap.size ≤ v1.heap.size := by omega
                      have gv1_1 : Hid (Blk v1 Y2d.heap.size 5 #[.int .u8 32]) := Lib.hid (ev1 ▸ Blk.new Y2d _ _)
                      have nv1_1 : Hid (((.slice A6 u3.length c6) : Value).ownBlock ≠ some Y2d.heap.size) := Lib.hid (fun e => by have := (HY2dO.out.block e).2; omega)
                      clear ev1
                      refine hK.out _ _ ?_ (fun hHeld => ?_)
                      · exact hKv1
                      · clear hK K
                        try simp only [List.getElem_toArray, List.getElem_cons_succ, List.getElem_cons_zero, Act.put, List.setIfInBounds_toArray, List.set_cons_zero, List.set_cons_succ]
                        refine wpAnyH_ready (rs := [2]) (by kernel_rfl) (by simp) ?_
                        refine AllReadyH.cons (o := _) rfl (fun K hK => ?_) ?_
                        · refine wp_oneK (b := 32) (.tmp 62) (.tmp 63) rfl Hv1O.out 32 rfl gv1_1.out Hu4.out (by omega) (by omega) (by simp [Act.eval, Act.put]) (by simp [Act.eval, Act.put]) ?_
                          intro Av2 cv2 v2 hO hY hkp
                          have Hv2O := Lib.hid hO
                          have hKv2 := Hv1K.out.say hY (by decide)
                          have Hv2K := Lib.hid hKv2
                          have hsv2 : W.heap.size ≤ v2.heap.size := Nat.le_trans hsv1 hY.size
                          have hzv2 := hY.size
                          have Hv2Y := Lib.hid (Hv1Y.out.trans hY)
                          clear hO hY hkp
                          refine hK.out _ _ ?_ (fun hHeld => ?_)
                          · exact hKv2
                          · clear hK K
                            try simp only [List.getElem_toArray, List.getElem_cons_succ, List.getElem_cons_zero, Act.put, List.setIfInBounds_toArray, List.set_cons_zero, List.set_cons_succ]
                            refine wpAnyH_ready (rs := [5]) (by kernel_rfl) (by simp) ?_
                            refine AllReadyH.cons (o := _) rfl (fun K hK => ?_) ?_
                            · go_simp
                              refine Calls.mono (l1digitsB_c (ob + 1) ob _ (by omega) (by omega)) ?_
                              rintro e v3 ⟨vd, rfl, hOd, hb⟩
                              obtain ⟨Ad3, cd3, rfl, hRd⟩ := hOd.form
                              have rv3 := Lib.hid hRd
                              have Hv3O := Lib.hid (Hv2O.out.below hb)
                              have hKv3 := Hv2K.out.below hb Hv2K.out.lt
                              have Hv3K := Lib.hid hKv3
                              have hsv3 : W.heap.size ≤ v3.heap.size := Nat.le_trans hsv2 hb.size
                              have hzv3 := hb.size
                              have Hv3Y := Lib.hid (Hv2Y.out.trans (Say.of hb hsv2))
                              clear hRd hOd hb
                              refine hK.out _ _ ?_ (fun hHeld => ?_)
                              · exact hKv3
                              · clear hK K
                                try simp only [List.getElem_toArray, List.getElem_cons_succ, List.getElem_cons_zero, Act.put, List.setIfInBounds_toArray, List.set_cons_zero, List.set_cons_succ]
                                refine wpAnyH_ready (rs := [6]) (by kernel_rfl) (by simp) ?_
                                refine AllReadyH.cons (o := _) rfl (fun K hK => ?_) ?_
                                · refine wp_rowK (c0 := cd3) (.tmp 64) (.tmp 67) rfl Hv3O.out rv3.out Hu5.out (by omega) (by omega) (by simp [Act.eval, Act.put]) (by simp [Act.eval, Act.put]) ?_
                                  intro Av4 cv4 v4 hO hY hkp
                                  have Hv4O := Lib.hid hO
                                  have hKv4 := Hv3K.out.say hY (by decide)
                                  have Hv4K := Lib.hid hKv4
                                  have hsv4 : W.heap.size ≤ v4.heap.size := Nat.le_trans hsv3 hY.size
                                  have hzv4 := hY.size
                                  have Hv4Y := Lib.hid (Hv3Y.out.trans hY)
                                  clear hO hY hkp
                                  refine hK.out _ _ ?_ (fun hHeld => ?_)
                                  · exact hKv4
                                  · clear hK K
                                    try simp only [List.getElem_toArray, List.getElem_cons_succ, List.getElem_cons_zero, Act.put, List.setIfInBounds_toArray, List.set_cons_zero, List.set_cons_succ]
                                    refine wpAnyH_take (i := 7) (oi := _) (v := ?_) rfl (by kernel_rfl) (by kernel_rfl) (by kernel_rfl) (fun _ _ _ h => h) (Or.inl ⟨by rfl, ?_⟩) (by assumption) ?_
                                    rotate_left
                                    focus
                                      intro w hSw
                                      obtain ⟨qs0, qs1, qs2, qs3, qs4⟩ := Blk.five hSw
                                      go_simp
                                      try with_reducible rfl
                                    try simp only [List.getElem_toArray, List.getElem_cons_succ, List.getElem_cons_zero, Act.put, List.setIfInBounds_toArray, List.set_cons_zero, List.set_cons_succ]
                                    refine wpAnyH_done (by kernel_rfl) ?_ _
                                    refine NoPanic.normal ?_
                                    try go_wp2_with fail
                                    go_meet
                                    case rel => exact ⟨_, _, rfl, Hv4O, Hv4Y⟩
                                exact AllReadyH.nil
                            exact AllReadyH.nil
                        exact AllReadyH.nil
                    exact AllReadyH.nil
                  case rest =>
                    obtain ⟨A7, c7, rfl, HY3O, HY3S⟩ := hcut
                    obtain ⟨Y3, hY3⟩ : ∃ x, x = wc := ⟨_, rfl⟩
                    subst hY3
                    have HY3K := Lib.hid (HY2K.out.say HY3S.out (by decide))
                    have hsY3 : W.heap.size ≤ Y3.heap.size := Nat.le_trans hsY2 HY3S.out.size
                    have HY3U := Lib.hid (HY2U.out.say HY3S.out (by decide))
                    have HY3Y := Lib.hid (HY2Y.out.trans HY3S.out)
                    have HY3I := Lib.hid (HY2I.out.below (HY3S.out.below.mono hBW))
                    have HY3N := Lib.hid (HY2N.out.below (HY3S.out.below.mono hBW))
                    clear HY2O HY2K HY2Y HY2U HY2I HY2N hsY2 HY3S
                    go_upto_region 17 with fail
                    go_cut [3] (fun t wx => ∃ A c, t = .slice A u7.length c ∧ Hid (OwnT wx W.heap.size (.slice A u7.length c) u7) ∧ Hid (Say W.heap.size Y3 wx))
                    case first =>
                      obtain ⟨Y3d, eY3d⟩ : ∃ x, x = Y3.drew := ⟨_, rfl⟩
                      have HY3dO : Hid (OwnT Y3d W.heap.size (.slice A7 u5.length c7) u5) := Lib.hid (eY3d ▸ (show OwnT Y3.drew _ _ _ from HY3O.out))
                      have hKY3d : Blk Y3d gi 104 #[.int .i64 op, .int .i64 oa, .int .i64 ob, .int .i64 oc, .slice NA nm.length nc] := eY3d ▸ HY3K.out.drew
                      have HY3dK := Lib.hid hKY3d
                      have HY3dY : Hid (Say W.heap.size Y3 Y3d) := Lib.hid (eY3d ▸ (Say.refl W.heap.size Y3).drew)
                      have hzY3d : Y3d.heap.size = Y3.heap.size := by rw [eY3d]; rfl
                      have hsY3d : W.heap.size ≤ Y3d.heap.size := by omega
                      refine wp_region_noPanic ?_
                      refine wp_region_held_drew (S := (fun W => Blk W gi 104 #[.int .i64 op, .int .i64 oa, .int .i64 ob, .int .i64 oc, .slice NA nm.length nc])) (by kernel_rfl) ?_ (fun hHeld => ?_)
                      · exact eY3d ▸ hKY3d
                      rw [← eY3d]
                      clear eY3d
                      refine wpAnyH_take (i := 0) (oi := _) (v := ?_) rfl (by kernel_rfl) (by kernel_rfl) (by kernel_rfl) (fun _ _ _ h => h) (Or.inl ⟨by rfl, ?_⟩) (by assumption) ?_
                      rotate_left
                      focus
                        intro w hSw
                        obtain ⟨qs0, qs1, qs2, qs3, qs4⟩ := Blk.five hSw
                        go_simp
                        try with_reducible rfl
                      try simp only [List.getElem_toArray, List.getElem_cons_succ, List.getElem_cons_zero, Act.put, List.setIfInBounds_toArray, List.set_cons_zero, List.set_cons_succ]
                      refine wpAnyH_take (i := 3) (oi := _) (v := ?_) rfl (by kernel_rfl) (by kernel_rfl) (by kernel_rfl) (fun _ _ _ h => h) (Or.inl ⟨by rfl, ?_⟩) (by assumption) ?_
                      rotate_left
                      focus
                        intro w hSw
                        obtain ⟨qs0, qs1, qs2, qs3, qs4⟩ := Blk.five hSw
                        go_simp
                        try with_reducible rfl
                      try simp only [List.getElem_toArray, List.getElem_cons_succ, List.getElem_cons_zero, Act.put, List.setIfInBounds_toArray, List.set_cons_zero, List.set_cons_succ]
                      refine wpAnyH_take (i := 4) (oi := _) (v := ?_) rfl (by kernel_rfl) (by kernel_rfl) (by kernel_rfl) (fun _ _ _ h => h) (Or.inl ⟨by rfl, ?_⟩) (by assumption) ?_
                      rotate_left
                      focus
                        intro w hSw
                        obtain ⟨qs0, qs1, qs2, qs3, qs4⟩ := Blk.five hSw
                        go_simp
                        try with_reducible rfl
                      try simp only [List.getElem_toArray, List.getElem_cons_succ, List.getElem_cons_zero, Act.put, List.setIfInBounds_toArray, List.set_cons_zero, List.set_cons_succ]
                      refine wpAnyH_ready (rs := [1]) (by kernel_rfl) (by simp) ?_
                      refine AllReadyH.cons (o := _) rfl (fun K hK => ?_) ?_
                      · go_simp
                        obtain ⟨v1, ev1⟩ : ∃ x, x = Y3d.alloc (.cells #[.int .u8 32] 5) := ⟨_, rfl⟩
                        rw [← ev1]
                        have Hv1O : Hid (OwnT v1 W.heap.size (.slice A7 u5.length c7) u5) := Lib.hid (ev1 ▸ HY3dO.out.alloc _)
                        have hKv1 : Blk v1 gi 104 #[.int .i64 op, .int .i64 oa, .int .i64 ob, .int .i64 oc, .slice NA nm.length nc] := ev1 ▸ HY3dK.out.alloc _
                        have Hv1K := Lib.hid hKv1
                        have Hv1Y : Hid (Say W.heap.size Y3 v1) := Lib.hid (ev1 ▸ HY3dY.out.alloc hsY3d _)
                        have hzv1 : v1.heap.size = Y3d.heap.size + 1 := by rw [ev1]; simp
                        have hsv1 : W.heap.size ≤ v1.heap.size := by omega
                        have gv1_1 : Hid (Blk v1 Y3d.heap.size 5 #[.int .u8 32]) := Lib.hid (ev1 ▸ Blk.new Y3d _ _)
                        have nv1_1 : Hid (((.slice A7 u5.length c7) : Value).ownBlock ≠ some Y3d.heap.size) := Lib.hid (fun e => by have := (HY3dO.out.block e).2; omega)
                        clear ev1
                        refine hK.out _ _ ?_ (fun hHeld => ?_)
                        · exact hKv1
                        · clear hK K
                          try simp only [List.getElem_toArray, List.getElem_cons_succ, List.getElem_cons_zero, Act.put, List.setIfInBounds_toArray, List.set_cons_zero, List.set_cons_succ]
                          refine wpAnyH_ready (rs := [2]) (by kernel_rfl) (by simp) ?_
                          refine AllReadyH.cons (o := _) rfl (fun K hK => ?_) ?_
                          · refine wp_oneK (b := 32) (.tmp 69) (.tmp 70) rfl Hv1O.out 32 rfl gv1_1.out Hu6.out (by omega) (by omega) (by simp [Act.eval, Act.put]) (by simp [Act.eval, Act.put]) ?_
                            intro Av2 cv2 v2 hO hY hkp
                            have Hv2O := Lib.hid hO
                            have hKv2 := Hv1K.out.say hY (by decide)
                            have Hv2K := Lib.hid hKv2
                            have hsv2 : W.heap.size ≤ v2.heap.size := Nat.le_trans hsv1 hY.size
                            have hzv2 := hY.size
                            have Hv2Y := Lib.hid (Hv1Y.out.trans hY)
                            clear hO hY hkp
                            refine hK.out _ _ ?_ (fun hHeld => ?_)
                            · exact hKv2
                            · clear hK K
                              try simp only [List.getElem_toArray, List.getElem_cons_succ, List.getElem_cons_zero, Act.put, List.setIfInBounds_toArray, List.set_cons_zero, List.set_cons_succ]
                              refine wpAnyH_ready (rs := [5]) (by kernel_rfl) (by simp) ?_
                              refine AllReadyH.cons (o := _) rfl (fun K hK => ?_) ?_
                              · go_simp
                                refine Calls.mono (l1digitsB_c (oc + 1) oc _ (by omega) (by omega)) ?_
                                rintro e v3 ⟨vd, rfl, hOd, hb⟩
                                obtain ⟨Ad3, cd3, rfl, hRd⟩ := hOd.form
                                have rv3 := Lib.hid hRd
                                have Hv3O := Lib.hid (Hv2O.out.below hb)
                                have hKv3 := Hv2K.out.below hb Hv2K.out.lt
                                have Hv3K := Lib.hid hKv3
                                have hsv3 : W.heap.size ≤ v3.heap.size := Nat.le_trans hsv2 hb.size
                                have hzv3 := hb.size
                                have Hv3Y := Lib.hid (Hv2Y.out.trans (Say.of hb hsv2))
                                clear hRd hOd hb
                                refine hK.out _ _ ?_ (fun hHeld => ?_)
                                · exact hKv3
                                · clear hK K
                                  try simp only [List.getElem_toArray, List.getElem_cons_succ, List.getElem_cons_zero, Act.put, List.setIfInBounds_toArray, List.set_cons_zero, List.set_cons_succ]
                                  refine wpAnyH_ready (rs := [6]) (by kernel_rfl) (by simp) ?_
                                  refine AllReadyH.cons (o := _) rfl (fun K hK => ?_) ?_
                                  · refine wp_rowK (c0 := cd3) (.tmp 71) (.tmp 74) rfl Hv3O.out rv3.out Hu7.out (by omega) (by omega) (by simp [Act.eval, Act.put]) (by simp [Act.eval, Act.put]) ?_
                                    intro Av4 cv4 v4 hO hY hkp
                                    have Hv4O := Lib.hid hO
                                    have hKv4 := Hv3K.out.say hY (by decide)
                                    have Hv4K := Lib.hid hKv4
                                    have hsv4 : W.heap.size ≤ v4.heap.size := Nat.le_trans hsv3 hY.size
                                    have hzv4 := hY.size
                                    have Hv4Y := Lib.hid (Hv3Y.out.trans hY)
                                    clear hO hY hkp
                                    refine hK.out _ _ ?_ (fun hHeld => ?_)
                                    · exact hKv4
                                    · clear hK K
                                      try simp only [List.getElem_toArray, List.getElem_cons_succ, List.getElem_cons_zero, Act.put, List.setIfInBounds_toArray, List.set_cons_zero, List.set_cons_succ]
                                      refine wpAnyH_take (i := 7) (oi := _) (v := ?_) rfl (by kernel_rfl) (by kernel_rfl) (by kernel_rfl) (fun _ _ _ h => h) (Or.inl ⟨by rfl, ?_⟩) (by assumption) ?_
                                      rotate_left
                                      focus
                                        intro w hSw
                                        obtain ⟨qs0, qs1, qs2, qs3, qs4⟩ := Blk.five hSw
                                        go_simp
                                        try with_reducible rfl
                                      try simp only [List.getElem_toArray, List.getElem_cons_succ, List.getElem_cons_zero, Act.put, List.setIfInBounds_toArray, List.set_cons_zero, List.set_cons_succ]
                                      refine wpAnyH_done (by kernel_rfl) ?_ _
                                      refine NoPanic.normal ?_
                                      try go_wp2_with fail
                                      go_meet
                                      case rel => exact ⟨_, _, rfl, Hv4O, Hv4Y⟩
                                  exact AllReadyH.nil
                              exact AllReadyH.nil
                          exact AllReadyH.nil
                      exact AllReadyH.nil
                    case rest =>
                      obtain ⟨A8, c8, rfl, HY4O, HY4S⟩ := hcut
                      obtain ⟨Y4, hY4⟩ : ∃ x, x = wc := ⟨_, rfl⟩
                      subst hY4
                      have HY4K := Lib.hid (HY3K.out.say HY4S.out (by decide))
                      have hsY4 : W.heap.size ≤ Y4.heap.size := Nat.le_trans hsY3 HY4S.out.size
                      have HY4U := Lib.hid (HY3U.out.say HY4S.out (by decide))
                      have HY4Y := Lib.hid (HY3Y.out.trans HY4S.out)
                      have HY4I := Lib.hid (HY3I.out.below (HY4S.out.below.mono hBW))
                      have HY4N := Lib.hid (HY3N.out.below (HY4S.out.below.mono hBW))
                      clear HY3O HY3K HY3Y HY3U HY3I HY3N hsY3 HY4S
                      obtain ⟨r0, r1, r2, r3, r4⟩ := Blk.five HY4K.out
                      by_cases hn0 : 0 < nm.length
                      · obtain ⟨u8, hu8⟩ : ∃ y, u7 ++ [32] = y := ⟨_, rfl⟩
                        obtain ⟨u9, hu9⟩ : ∃ y, u8 ++ nm = y := ⟨_, rfl⟩
                        obtain ⟨ue, hue⟩ : ∃ y, u9 ++ [10] = y := ⟨_, rfl⟩
                        have hul8 : u8.length ≤ 24060 * k + 115 + 80 * j := by rw [← hu8, List.length_append]; simp only [List.length_cons, List.length_nil]; omega
                        have hul9 : u9.length ≤ 24060 * k + 121 + 80 * j := by rw [← hu9, List.length_append]; omega
                        have Hend := Lib.hid (show z ++ insTo ul (j + 1) = ue by rw [Hnx.out, ← hue, ← hu9, ← hu8]; unfold nmT; rw [if_pos hn0]; simp)
                        have Hu8 := Lib.hid hu8
                        have Hu9 := Lib.hid hu9
                        have Hue := Lib.hid hue
                        have hn0' : ¬ nm = [] := by intro e; rw [e] at hn0; exact absurd hn0 (Nat.lt_irrefl 0)
                        clear hu8 hu9 hue
                        clear r0 r1 r2 r3
                        go_upto_region 19 with fail
                        go_cut [3] (fun t wx => ∃ A c, t = .slice A u9.length c ∧ Hid (OwnT wx W.heap.size (.slice A u9.length c) u9) ∧ Hid (Say W.heap.size Y4 wx))
                        case first =>
                          obtain ⟨Y4d, eY4d⟩ : ∃ x, x = Y4.drew := ⟨_, rfl⟩
                          have HY4dO : Hid (OwnT Y4d W.heap.size (.slice A8 u7.length c8) u7) := Lib.hid (eY4d ▸ (show OwnT Y4.drew _ _ _ from HY4O.out))
                          have hKY4d : Blk Y4d gi 104 #[.int .i64 op, .int .i64 oa, .int .i64 ob, .int .i64 oc, .slice NA nm.length nc] := eY4d ▸ HY4K.out.drew
                          have HY4dK := Lib.hid hKY4d
                          have HY4dY : Hid (Say W.heap.size Y4 Y4d) := Lib.hid (eY4d ▸ (Say.refl W.heap.size Y4).drew)
                          have hzY4d : Y4d.heap.size = Y4.heap.size := by rw [eY4d]; rfl
                          have hsY4d : W.heap.size ≤ Y4d.heap.size := by omega
                          have HY4dN := Lib.hid (HY4N.out.below (eY4d ▸ (Below.refl B Y4).drew))
                          refine wp_region_noPanic ?_
                          refine wp_region_held_drew (S := (fun W => Blk W gi 104 #[.int .i64 op, .int .i64 oa, .int .i64 ob, .int .i64 oc, .slice NA nm.length nc])) (by kernel_rfl) ?_ (fun hHeld => ?_)
                          · exact eY4d ▸ hKY4d
                          rw [← eY4d]
                          clear eY4d
                          refine wpAnyH_take (i := 0) (oi := _) (v := ?_) rfl (by kernel_rfl) (by kernel_rfl) (by kernel_rfl) (fun _ _ _ h => h) (Or.inl ⟨by rfl, ?_⟩) (by assumption) ?_
                          rotate_left
                          focus
                            intro w hSw
                            obtain ⟨qs0, qs1, qs2, qs3, qs4⟩ := Blk.five hSw
                            go_simp
                            try with_reducible rfl
                          try simp only [List.getElem_toArray, List.getElem_cons_succ, List.getElem_cons_zero, Act.put, List.setIfInBounds_toArray, List.set_cons_zero, List.set_cons_succ]
                          refine wpAnyH_take (i := 3) (oi := _) (v := ?_) rfl (by kernel_rfl) (by kernel_rfl) (by kernel_rfl) (fun _ _ _ h => h) (Or.inl ⟨by rfl, ?_⟩) (by assumption) ?_
                          rotate_left
                          focus
                            intro w hSw
                            obtain ⟨qs0, qs1, qs2, qs3, qs4⟩ := Blk.five hSw
                            go_simp
                            try with_reducible rfl
                          try simp only [List.getElem_toArray, List.getElem_cons_succ, List.getElem_cons_zero, Act.put, List.setIfInBounds_toArray, List.set_cons_zero, List.set_cons_succ]
                          refine wpAnyH_take (i := 4) (oi := _) (v := ?_) rfl (by kernel_rfl) (by kernel_rfl) (by kernel_rfl) (fun _ _ _ h => h) (Or.inl ⟨by rfl, ?_⟩) (by assumption) ?_
                          rotate_left
                          focus
                            intro w hSw
                            obtain ⟨qs0, qs1, qs2, qs3, qs4⟩ := Blk.five hSw
                            go_simp
                            try with_reducible rfl
                          try simp only [List.getElem_toArray, List.getElem_cons_succ, List.getElem_cons_zero, Act.put, List.setIfInBounds_toArray, List.set_cons_zero, List.set_cons_succ]
                          refine wpAnyH_ready (rs := [1]) (by kernel_rfl) (by simp) ?_
                          refine AllReadyH.cons (o := _) rfl (fun K hK => ?_) ?_
                          · go_simp
                            obtain ⟨v1, ev1⟩ : ∃ x, x = Y4d.alloc (.cells #[.int .u8 32] 5) := ⟨_, rfl⟩
                            rw [← ev1]
                            have Hv1O : Hid (OwnT v1 W.heap.size (.slice A8 u7.length c8) u7) := Lib.hid (ev1 ▸ HY4dO.out.alloc _)
                            have hKv1 : Blk v1 gi 104 #[.int .i64 op, .int .i64 oa, .int .i64 ob, .int .i64 oc, .slice NA nm.length nc] := ev1 ▸ HY4dK.out.alloc _
                            have Hv1K := Lib.hid hKv1
                            have Hv1Y : Hid (Say W.heap.size Y4 v1) := Lib.hid (ev1 ▸ HY4dY.out.alloc hsY4d _)
                            have hzv1 : v1.heap.size = Y4d.heap.size + 1 := by rw [ev1]; simp
                            have hsv1 : W.heap.size ≤ v1.heap.size := by omega
                            have gv1_1 : Hid (Blk v1 Y4d.heap.size 5 #[.int .u8 32]) := Lib.hid (ev1 ▸ Blk.new Y4d _ _)
                            have nv1_1 : Hid (((.slice A8 u7.length c8) : Value).ownBlock ≠ some Y4d.heap.size) := Lib.hid (fun e => by have := (HY4dO.out.block e).2; omega)
                            have Hv1N := Lib.hid (HY4dN.out.below ((ev1 ▸ blOne Y4d (.cells #[.int .u8 32] 5) : Below Y4d.heap.size Y4d v1).mono (by omega)))
                            clear ev1
                            refine hK.out _ _ ?_ (fun hHeld => ?_)
                            · exact hKv1
                            · clear hK K
                              try simp only [List.getElem_toArray, List.getElem_cons_succ, List.getElem_cons_zero, Act.put, List.setIfInBounds_toArray, List.set_cons_zero, List.set_cons_succ]
                              refine wpAnyH_ready (rs := [2]) (by kernel_rfl) (by simp) ?_
                              refine AllReadyH.cons (o := _) rfl (fun K hK => ?_) ?_
                              · refine wp_oneK (b := 32) (.tmp 80) (.tmp 81) rfl Hv1O.out 32 rfl gv1_1.out Hu8.out (by omega) (by omega) (by simp [Act.eval, Act.put]) (by simp [Act.eval, Act.put]) ?_
                                intro Av2 cv2 v2 hO hY hkp
                                have Hv2O := Lib.hid hO
                                have hKv2 := Hv1K.out.say hY (by decide)
                                have Hv2K := Lib.hid hKv2
                                have hsv2 : W.heap.size ≤ v2.heap.size := Nat.le_trans hsv1 hY.size
                                have hzv2 := hY.size
                                have Hv2N := Lib.hid (Hv1N.out.below (hY.below.mono hBW))
                                have Hv2Y := Lib.hid (Hv1Y.out.trans hY)
                                clear hO hY hkp
                                refine hK.out _ _ ?_ (fun hHeld => ?_)
                                · exact hKv2
                                · clear hK K
                                  try simp only [List.getElem_toArray, List.getElem_cons_succ, List.getElem_cons_zero, Act.put, List.setIfInBounds_toArray, List.set_cons_zero, List.set_cons_succ]
                                  refine wpAnyH_ready (rs := [5]) (by kernel_rfl) (by simp) ?_
                                  refine AllReadyH.cons (o := _) rfl (fun K hK => ?_) ?_
                                  · refine wp_rowK (c0 := nc) (.tmp 82) (.tmp 84) rfl Hv2O.out Hv2N.out Hu9.out (by omega) (by omega) (by simp [Act.eval, Act.put]) (by simp [Act.eval, Act.put]) ?_
                                    intro Av3 cv3 v3 hO hY hkp
                                    have Hv3O := Lib.hid hO
                                    have hKv3 := Hv2K.out.say hY (by decide)
                                    have Hv3K := Lib.hid hKv3
                                    have hsv3 : W.heap.size ≤ v3.heap.size := Nat.le_trans hsv2 hY.size
                                    have hzv3 := hY.size
                                    have Hv3N := Lib.hid (Hv2N.out.below (hY.below.mono hBW))
                                    have Hv3Y := Lib.hid (Hv2Y.out.trans hY)
                                    clear hO hY hkp
                                    refine hK.out _ _ ?_ (fun hHeld => ?_)
                                    · exact hKv3
                                    · clear hK K
                                      try simp only [List.getElem_toArray, List.getElem_cons_succ, List.getElem_cons_zero, Act.put, List.setIfInBounds_toArray, List.set_cons_zero, List.set_cons_succ]
                                      refine wpAnyH_take (i := 6) (oi := _) (v := ?_) rfl (by kernel_rfl) (by kernel_rfl) (by kernel_rfl) (fun _ _ _ h => h) (Or.inl ⟨by rfl, ?_⟩) (by assumption) ?_
                                      rotate_left
                                      focus
                                        intro w hSw
                                        obtain ⟨qs0, qs1, qs2, qs3, qs4⟩ := Blk.five hSw
                                        go_simp
                                        try with_reducible rfl
                                      try simp only [List.getElem_toArray, List.getElem_cons_succ, List.getElem_cons_zero, Act.put, List.setIfInBounds_toArray, List.set_cons_zero, List.set_cons_succ]
                                      refine wpAnyH_done (by kernel_rfl) ?_ _
                                      refine NoPanic.normal ?_
                                      try go_wp2_with fail
                                      go_meet
                                      case rel => exact ⟨_, _, rfl, Hv3O, Hv3Y⟩
                                  exact AllReadyH.nil
                              exact AllReadyH.nil
                          exact AllReadyH.nil
                        case rest =>
                          obtain ⟨A9, c9, rfl, HY5O, HY5S⟩ := hcut
                          obtain ⟨Y5, hY5⟩ : ∃ x, x = wc := ⟨_, rfl⟩
                          subst hY5
                          have HY5K := Lib.hid (HY4K.out.say HY5S.out (by decide))
                          have hsY5 : W.heap.size ≤ Y5.heap.size := Nat.le_trans hsY4 HY5S.out.size
                          have HY5U := Lib.hid (HY4U.out.say HY5S.out (by decide))
                          have HY5Y := Lib.hid (HY4Y.out.trans HY5S.out)
                          have HY5I := Lib.hid (HY4I.out.below (HY5S.out.below.mono hBW))
                          clear HY5K
                          go_wp2_with (at_builtin; refine wpList_oneT (b := 10) rfl (.tmp 86) (.tmp 87) rfl rfl HY5O.out 10 rfl rfl (by first | rfl | simp) Hue.out (by omega) hsY5 ?_; intro Ae ce we hOe hYe; have HOe := Lib.hid hOe; have HUe := Lib.hid (HY5U.out.say hYe (by decide)); have HIe := Lib.hid (HY5I.out.below (hYe.below.mono hBW)); have HYe := Lib.hid (HY5Y.out.trans hYe); clear hOe hYe)
                          go_roundw
                          case rel => exact ⟨j + 1, ue, Ae, ce, by omega, by go_num, rfl, Lib.hid Hend.out.symm, HOe, HYe, HIe, HUe⟩
                          case measure => simp [intOf]; omega
                      · have hn1 : nm = [] := List.eq_nil_of_length_eq_zero (by omega)
                        obtain ⟨ue, hue⟩ : ∃ y, u7 ++ [10] = y := ⟨_, rfl⟩
                        have Hend := Lib.hid (show z ++ insTo ul (j + 1) = ue by rw [Hnx.out, ← hue]; unfold nmT; rw [if_neg hn0]; simp)
                        have Hue := Lib.hid hue
                        subst hn1
                        clear hue hn0
                        clear HY4K
                        go_wp2_with (at_builtin; refine wpList_oneT (b := 10) rfl (.tmp 86) (.tmp 87) rfl rfl HY4O.out 10 rfl rfl (by first | rfl | simp) Hue.out (by omega) hsY4 ?_; intro Ae ce we hOe hYe; have HOe := Lib.hid hOe; have HUe := Lib.hid (HY4U.out.say hYe (by decide)); have HIe := Lib.hid (HY4I.out.below (hYe.below.mono hBW)); have HYe := Lib.hid (HY4Y.out.trans hYe); clear hOe hYe)
                        go_roundw
                        case rel => exact ⟨j + 1, ue, Ae, ce, by omega, by go_num, rfl, Lib.hid Hend.out.symm, HOe, HYe, HIe, HUe⟩
                        case measure => simp [intOf]; omega
              · obtain rfl : j = nu := by omega
                go_wp2
                go_roundw
                case rel => exact ⟨k + 1, yy, Aj, cj, by omega, by go_num, rfl, Lib.hid (by rw [Hnext.out, hx.out, Hnu.out]), hO, hY⟩
                case measure => simp [intOf]; omega
      · obtain rfl : k = C.length := by omega
        go_wp2
        go_ret
        rw [E.out, ← hx.out]
        exact ⟨_, _, rfl, hO.out.less Hb.out.size, Hb.out.trans (hY.out.below.mono Hb.out.size)⟩
end
end CodS
end Go.Proofs.YtebgigiakfjocaaDoor
