/-
  The model's CodeBytes.
-/
import Derived.Test.YtebgigiakfjocaaDoorCodBytI
import Derived.Test.YtebgigiakfjocaaDoorLitD
import Derived.Test.YtebgigiakfjocaaDoorSpecCode2
import Derived.Deep.DeepCutAuto
import Derived.Deep.RegionHeld3
namespace Go.Proofs.YtebgigiakfjocaaDoor
open Go.RowKit
set_option linter.unusedVariables false
set_option linter.unusedSimpArgs false
namespace CodBS
open Cod CodBI

section
variable (C : List Un) (CA : Option Addr) (cc L B : Nat) (w : World)
set_option maxRecDepth 100000 in
set_option maxHeartbeats 16000000 in
theorem l6bytes_c (hB : B ≤ w.heap.size) (hok : codeOk C = true) (hC : UnL w L B CA C) :
    Calls Tryd.prog 61 #[.agg #[.slice CA C.length cc]] w (AnsT w (codRow C)) := by
  obtain ⟨W, hW⟩ : ∃ x, x = w.alloc (.cells #[.slice CA C.length cc] 56) := ⟨_, rfl⟩
  have hbW : Below w.heap.size w W := hW ▸ blwC w (.cells #[.slice CA C.length cc] 56)
  have hKA : Blk W w.heap.size 56 #[.slice CA C.length cc] := hW ▸ Blk.new w 56 #[.slice CA C.length cc]
  have HKA1 := Lib.hid hKA
  have Hb := Lib.hid hbW
  have hs1 := hbW.size
  have HW := Lib.hid hW
  obtain ⟨⟨hC1, hC4⟩, hUn⟩ := codeOk_bd hok
  have HUn := Lib.hid hUn
  have hbd := Lib.hid (unsB_len hUn)
  have q0 := (HW.out ▸ hKA.uno.1 : (w.alloc (.cells #[.slice CA C.length cc] 56)).cell? ⟨w.heap.size, 0, none⟩ = some (.slice CA C.length cc))
  have HL := Lib.hid (hC.below (hbW.mono hB))
  have hBW : B ≤ W.heap.size := by omega
  have hlW : w.heap.size < W.heap.size := hKA.lt
  obtain ⟨h0, hh0⟩ : ∃ r, r = [UInt8.ofNat C.length] := ⟨_, rfl⟩
  have hl0 : h0.length = 1 := by rw [hh0]; rfl
  have E := Lib.hid (show codRow C = h0 ++ unsB C C.length by rw [hh0]; rfl)
  have Hlit := Lib.hid (show OwnT (W.alloc (.cells #[.int .u8 (C.length : Int)] 5)) W.heap.size (.slice (some ⟨W.heap.size, 0, none⟩) h0.length h0.length) h0 from (OwnB.lit W h0 _ (by rw [hh0]; exact cell1' (by omega)) (by rw [hl0]; decide)).toT)
  have Hl0 := Lib.hid hl0
  clear hbW hKA hUn hok hC hW hl0 hh0
  go_enter Tryd.func61, Tryd.ntmps61
  go_wp2_with fail
  rw [← HW.out]
  clear q0
  go_loopw [3, 4] (fun t i wr => ∃ (k : Nat) (x : List UInt8) (A : Option Addr) (c : Nat), k ≤ C.length ∧ i = .int .i64 k ∧ t = .slice A x.length c ∧ Hid (x = h0 ++ unsB C k) ∧ Hid (OwnT wr W.heap.size (.slice A x.length c) x) ∧ Hid (Say W.heap.size W wr)) (fun _ i _ => C.length - (intOf i).toNat)
  case atStart => exact ⟨0, h0, some ⟨W.heap.size, 0, none⟩, 1, Nat.zero_le _, rfl, by rw [Hl0.out, HW.out]; simp, Lib.hid (by simp [unsB]), Lib.hid (by have := Hlit.out; rw [Hl0.out] at this ⊢; exact this), Lib.hid ((Say.refl W.heap.size W).alloc (Nat.le_refl _) _)⟩
  case round =>
    obtain ⟨k, x, At, ct, hk, rfl, rfl, hx, hO, hY⟩ := hrel
    have hxl : x.length ≤ 1 + 5105 * k := by
      have := hbd.out k hk
      rw [hx.out, List.length_append, Hl0.out]
      omega
    have hsz := hY.out.size
    obtain ⟨q0, -⟩ := (HKA1.out.below hY.out.below hlW).uno
    by_cases hlt : k < C.length
    · obtain ⟨ad, rfl, _, hbk, hat⟩ := (HL.out.below (hY.out.below.mono hBW)).2 (by omega)
      obtain ⟨v0, v1, v2, ⟨d0, d1, d2⟩, rfl, rfl, UA, uc, rfl, hI⟩ := hat k hlt
      obtain ⟨⟨hp0, hp3⟩, ⟨hr1, hr24⟩, ⟨hu1, hu300⟩, hin⟩ := HUn.out k hlt
      have hnext : h0 ++ unsB C (k + 1) = x ++ [UInt8.ofNat C[k].params.toNat, UInt8.ofNat C[k].regs.toNat] ++ long C[k].l.length ++ insB C[k].l C[k].l.length := by rw [unsB_succ hlt, hx.out]; unfold unB1 unH; simp
      obtain ⟨ul, hul⟩ : ∃ y, C[k].l = y := ⟨_, rfl⟩
      obtain ⟨ui, hup⟩ : ∃ y, C[k].params = y := ⟨_, rfl⟩
      obtain ⟨ri, hur⟩ : ∃ y, C[k].regs = y := ⟨_, rfl⟩
      have hin' : ∀ j (hj : j < ul.length), InB ul[j] := by subst hul; exact hin
      rw [hul] at d2 hI hnext hu1 hu300
      rw [hup] at d0 hnext hp0 hp3
      rw [hur] at d1 hnext hr1 hr24
      obtain ⟨up, rfl⟩ : ∃ n : Nat, ui = n := ⟨ui.toNat, by omega⟩
      obtain ⟨ur, rfl⟩ : ∃ n : Nat, ri = n := ⟨ri.toNat, by omega⟩
      rw [Int.toNat_natCast, Int.toNat_natCast] at hnext
      obtain ⟨nu, hnu⟩ : ∃ n, ul.length = n := ⟨_, rfl⟩
      rw [hnu] at d2 hu1 hu300 hnext
      obtain ⟨r2, hr2⟩ : ∃ y, [UInt8.ofNat up, UInt8.ofNat ur] = y := ⟨_, rfl⟩
      rw [hr2] at hnext
      have hr2l : r2.length = 2 := by rw [← hr2]; rfl
      obtain ⟨y, hy⟩ : ∃ y, x ++ r2 = y := ⟨_, rfl⟩
      obtain ⟨z, hz⟩ : ∃ z, y ++ long nu = z := ⟨_, rfl⟩
      have hyl : y.length ≤ 3 + 5105 * k := by rw [← hy, List.length_append]; omega
      have hzl : z.length ≤ 6 + 5105 * k := by rw [← hz, List.length_append]; show _ + 3 ≤ _; omega
      have Hnext := Lib.hid (show h0 ++ unsB C (k + 1) = z ++ insB ul nu by rw [hnext, ← hz, ← hy])
      have Hin := Lib.hid hin'
      have Hy := Lib.hid hy
      have Hz := Lib.hid hz
      have Hr2 := Lib.hid hr2
      have Hr2l := Lib.hid hr2l
      have Hnu := Lib.hid hnu
      have Hr2c := Lib.hid (show (#[.int .u8 (IntKind.u8.wrap (up : Int)), .int .u8 (IntKind.u8.wrap (ur : Int))] : Array Value).toList = vb r2 from by rw [← Hr2.out]; exact cell2 _ _)
      have HX0I := Lib.hid (hI.below ((blOne wr (.cells #[.int .i64 up, .int .i64 ur, .slice UA nu uc] 102)).mono (by omega)))
      have HX0O := Lib.hid (hO.out.alloc (.cells #[.int .i64 up, .int .i64 ur, .slice UA nu uc] 102))
      have HX0Y := Lib.hid (hY.out.alloc hsz (.cells #[.int .i64 up, .int .i64 ur, .slice UA nu uc] 102))
      have HX0K := Lib.hid (Blk.new wr 102 #[.int .i64 up, .int .i64 ur, .slice UA nu uc])
      obtain ⟨X0, hX0⟩ : ∃ X, X = wr.alloc (.cells #[.int .i64 up, .int .i64 ur, .slice UA nu uc] 102) := ⟨_, rfl⟩
      have hsX0 : W.heap.size ≤ X0.heap.size := by rw [hX0, World.size_alloc]; omega
      rw [← hX0] at HX0O HX0Y HX0K HX0I
      have HX0 := Lib.hid hX0
      clear hat hnext hx hO hY hul hup hur hy hz hr2 hr2l hI hnu hin hin' hX0
      go_upto_region 6 with fail
      rw [← HX0.out]
      obtain ⟨gb, hgb⟩ : ∃ g, g = wr.heap.size := ⟨_, rfl⟩
      rw [← hgb] at HX0K
      rw [← hgb]
      clear hgb HX0 d0 d1 d2 q0 hsz
      go_upto_region 6 with fail
      go_cut [3] (fun t wx => ∃ A c, t = .slice A z.length c ∧ Hid (OwnT wx W.heap.size (.slice A z.length c) z) ∧ Hid (Say W.heap.size X0 wx))
      case first =>
        obtain ⟨X0d, eX0d⟩ : ∃ x, x = X0.drew := ⟨_, rfl⟩
        have HX0dO : Hid (OwnT X0d W.heap.size (.slice At x.length ct) x) := Lib.hid (eX0d ▸ (show OwnT X0.drew _ _ _ from HX0O.out))
        have hKX0d : Blk X0d gb 102 #[.int .i64 up, .int .i64 ur, .slice UA nu uc] := eX0d ▸ HX0K.out.drew
        have HX0dK := Lib.hid hKX0d
        have HX0dY : Hid (Say W.heap.size X0 X0d) := Lib.hid (eX0d ▸ (Say.refl W.heap.size X0).drew)
        have hzX0d : X0d.heap.size = X0.heap.size := by rw [eX0d]; rfl
        have hsX0d : W.heap.size ≤ X0d.heap.size := by omega
        refine wp_region_noPanic ?_
        refine wp_region_held_drew (S := (fun W => Blk W gb 102 #[.int .i64 up, .int .i64 ur, .slice UA nu uc])) (by kernel_rfl) ?_ (fun hHeld => ?_)
        · exact eX0d ▸ hKX0d
        rw [← eX0d]
        clear eX0d
        refine wpAnyH_take (i := 0) (oi := _) (v := ?_) rfl (by kernel_rfl) (by kernel_rfl) (by kernel_rfl) (fun _ _ _ h => h) (Or.inl ⟨by rfl, ?_⟩) (by assumption) ?_
        rotate_left
        focus
          intro w hSw
          obtain ⟨qs0, qs1, qs2⟩ := Blk.three hSw
          go_simp
          try with_reducible rfl
        try simp only [List.getElem_toArray, List.getElem_cons_succ, List.getElem_cons_zero, Act.put, List.setIfInBounds_toArray, List.set_cons_zero, List.set_cons_succ]
        refine wpAnyH_take (i := 1) (oi := _) (v := ?_) rfl (by kernel_rfl) (by kernel_rfl) (by kernel_rfl) (fun _ _ _ h => h) (Or.inl ⟨by rfl, ?_⟩) (by assumption) ?_
        rotate_left
        focus
          intro w hSw
          obtain ⟨qs0, qs1, qs2⟩ := Blk.three hSw
          go_simp
          try with_reducible rfl
        try simp only [List.getElem_toArray, List.getElem_cons_succ, List.getElem_cons_zero, Act.put, List.setIfInBounds_toArray, List.set_cons_zero, List.set_cons_succ]
        refine wpAnyH_take (i := 2) (oi := _) (v := ?_) rfl (by kernel_rfl) (by kernel_rfl) (by kernel_rfl) (fun _ _ _ h => h) (Or.inl ⟨by rfl, ?_⟩) (by assumption) ?_
        rotate_left
        focus
          intro w hSw
          obtain ⟨qs0, qs1, qs2⟩ := Blk.three hSw
          go_simp
          try with_reducible rfl
        try simp only [List.getElem_toArray, List.getElem_cons_succ, List.getElem_cons_zero, Act.put, List.setIfInBounds_toArray, List.set_cons_zero, List.set_cons_succ]
        refine wpAnyH_take (i := 3) (oi := _) (v := ?_) rfl (by kernel_rfl) (by kernel_rfl) (by kernel_rfl) (fun _ _ _ h => h) (Or.inl ⟨by rfl, ?_⟩) (by assumption) ?_
        rotate_left
        focus
          intro w hSw
          obtain ⟨qs0, qs1, qs2⟩ := Blk.three hSw
          go_simp
          try with_reducible rfl
        try simp only [List.getElem_toArray, List.getElem_cons_succ, List.getElem_cons_zero, Act.put, List.setIfInBounds_toArray, List.set_cons_zero, List.set_cons_succ]
        refine wpAnyH_take (i := 4) (oi := _) (v := ?_) rfl (by kernel_rfl) (by kernel_rfl) (by kernel_rfl) (fun _ _ _ h => h) (Or.inl ⟨by rfl, ?_⟩) (by assumption) ?_
        rotate_left
        focus
          intro w hSw
          obtain ⟨qs0, qs1, qs2⟩ := Blk.three hSw
          go_simp
          try with_reducible rfl
        try simp only [List.getElem_toArray, List.getElem_cons_succ, List.getElem_cons_zero, Act.put, List.setIfInBounds_toArray, List.set_cons_zero, List.set_cons_succ]
        refine wpAnyH_take (i := 5) (oi := _) (v := ?_) rfl (by kernel_rfl) (by kernel_rfl) (by kernel_rfl) (fun _ _ _ h => h) (Or.inl ⟨by rfl, ?_⟩) (by assumption) ?_
        rotate_left
        focus
          intro w hSw
          obtain ⟨qs0, qs1, qs2⟩ := Blk.three hSw
          go_simp
          try with_reducible rfl
        try simp only [List.getElem_toArray, List.getElem_cons_succ, List.getElem_cons_zero, Act.put, List.setIfInBounds_toArray, List.set_cons_zero, List.set_cons_succ]
        refine wpAnyH_take (i := 6) (oi := _) (v := ?_) rfl (by kernel_rfl) (by kernel_rfl) (by kernel_rfl) (fun _ _ _ h => h) (Or.inl ⟨by rfl, ?_⟩) (by assumption) ?_
        rotate_left
        focus
          intro w hSw
          obtain ⟨qs0, qs1, qs2⟩ := Blk.three hSw
          go_simp
          try with_reducible rfl
        try simp only [List.getElem_toArray, List.getElem_cons_succ, List.getElem_cons_zero, Act.put, List.setIfInBounds_toArray, List.set_cons_zero, List.set_cons_succ]
        refine wpAnyH_take (i := 9) (oi := _) (v := ?_) rfl (by kernel_rfl) (by kernel_rfl) (by kernel_rfl) (fun _ _ _ h => h) (Or.inl ⟨by rfl, ?_⟩) (by assumption) ?_
        rotate_left
        focus
          intro w hSw
          obtain ⟨qs0, qs1, qs2⟩ := Blk.three hSw
          go_simp
          try with_reducible rfl
        try simp only [List.getElem_toArray, List.getElem_cons_succ, List.getElem_cons_zero, Act.put, List.setIfInBounds_toArray, List.set_cons_zero, List.set_cons_succ]
        refine wpAnyH_take (i := 10) (oi := _) (v := ?_) rfl (by kernel_rfl) (by kernel_rfl) (by kernel_rfl) (fun _ _ _ h => h) (Or.inl ⟨by rfl, ?_⟩) (by assumption) ?_
        rotate_left
        focus
          intro w hSw
          obtain ⟨qs0, qs1, qs2⟩ := Blk.three hSw
          go_simp
          try with_reducible rfl
        try simp only [List.getElem_toArray, List.getElem_cons_succ, List.getElem_cons_zero, Act.put, List.setIfInBounds_toArray, List.set_cons_zero, List.set_cons_succ]
        refine wpAnyH_take (i := 11) (oi := _) (v := ?_) rfl (by kernel_rfl) (by kernel_rfl) (by kernel_rfl) (fun _ _ _ h => h) (Or.inl ⟨by rfl, ?_⟩) (by assumption) ?_
        rotate_left
        focus
          intro w hSw
          obtain ⟨qs0, qs1, qs2⟩ := Blk.three hSw
          go_simp
          try with_reducible rfl
        try simp only [List.getElem_toArray, List.getElem_cons_succ, List.getElem_cons_zero, Act.put, List.setIfInBounds_toArray, List.set_cons_zero, List.set_cons_succ]
        refine wpAnyH_ready (rs := [7]) (by kernel_rfl) (by simp) ?_
        refine AllReadyH.cons (o := _) rfl (fun K hK => ?_) ?_
        · go_simp
          obtain ⟨v1, ev1⟩ : ∃ x, x = X0d.alloc (.cells #[.int .u8 (IntKind.u8.wrap (up : Int)), .int .u8 (IntKind.u8.wrap (ur : Int))] 5) := ⟨_, rfl⟩
          rw [← ev1]
          have Hv1O : Hid (OwnT v1 W.heap.size (.slice At x.length ct) x) := Lib.hid (ev1 ▸ HX0dO.out.alloc _)
          have hKv1 : Blk v1 gb 102 #[.int .i64 up, .int .i64 ur, .slice UA nu uc] := ev1 ▸ HX0dK.out.alloc _
          have Hv1K := Lib.hid hKv1
          have Hv1Y : Hid (Say W.heap.size X0 v1) := Lib.hid (ev1 ▸ HX0dY.out.alloc hsX0d _)
          have hzv1 : v1.heap.size = X0d.heap.size + 1 := by rw [ev1]; simp
          have hsv1 : W.heap.size ≤ v1.heap.size := by omega
          have gv1_7 : Hid (Blk v1 X0d.heap.size 5 #[.int .u8 (IntKind.u8.wrap (up : Int)), .int .u8 (IntKind.u8.wrap (ur : Int))]) := Lib.hid (ev1 ▸ Blk.new X0d _ _)
          clear ev1
          refine hK.out _ _ ?_ (fun hHeld => ?_)
          · exact hKv1
          · clear hK K
            try simp only [List.getElem_toArray, List.getElem_cons_succ, List.getElem_cons_zero, Act.put, List.setIfInBounds_toArray, List.set_cons_zero, List.set_cons_succ]
            refine wpAnyH_ready (rs := [8]) (by kernel_rfl) (by simp) ?_
            refine AllReadyH.cons (o := _) rfl (fun K hK => ?_) ?_
            · refine wp_litK (r := r2) (.tmp 25) (.tmp 32) rfl Hv1O.out gv1_7.out Hr2c.out Hr2l.out Hy.out (by have := Hr2l.out; omega) (by omega) (by simp [Act.eval, Act.put]) (by simp [Act.eval, Act.put]) ?_
              intro Av2 cv2 v2 hO hY hkp
              have Hv2O := Lib.hid hO
              have hKv2 := Hv1K.out.say hY (by decide)
              have Hv2K := Lib.hid hKv2
              have hsv2 : W.heap.size ≤ v2.heap.size := Nat.le_trans hsv1 hY.size
              have hzv2 := hY.size
              have Hv2Y := Lib.hid (Hv1Y.out.trans hY)
              clear hO hY hkp
              refine hK.out _ _ ?_ (fun hHeld => ?_)
              · exact hKv2
              · clear hK K
                try simp only [List.getElem_toArray, List.getElem_cons_succ, List.getElem_cons_zero, Act.put, List.setIfInBounds_toArray, List.set_cons_zero, List.set_cons_succ]
                refine wpAnyH_ready (rs := [12]) (by kernel_rfl) (by simp) ?_
                refine AllReadyH.cons (o := _) rfl (fun K hK => ?_) ?_
                · go_simp
                  refine Calls.mono (l6num_c y _ nu W.heap.size _ (by omega) hsv2 (by omega) Hv2O.out) ?_
                  rintro e v3 ⟨Av3, cv3, rfl, hO, hY⟩
                  rw [Hz.out] at hO
                  rw [Hz.out]
                  have Hv3O := Lib.hid hO
                  have hKv3 := Hv2K.out.say hY (by decide)
                  have Hv3K := Lib.hid hKv3
                  have hsv3 : W.heap.size ≤ v3.heap.size := Nat.le_trans hsv2 hY.size
                  have hzv3 := hY.size
                  have Hv3Y := Lib.hid (Hv2Y.out.trans hY)
                  clear hO hY
                  refine hK.out _ _ ?_ (fun hHeld => ?_)
                  · exact hKv3
                  · clear hK K
                    try simp only [List.getElem_toArray, List.getElem_cons_succ, List.getElem_cons_zero, Act.put, List.setIfInBounds_toArray, List.set_cons_zero, List.set_cons_succ]
                    refine wpAnyH_take (i := 13) (oi := _) (v := ?_) rfl (by kernel_rfl) (by kernel_rfl) (by kernel_rfl) (fun _ _ _ h => h) (Or.inl ⟨by rfl, ?_⟩) (by assumption) ?_
                    rotate_left
                    focus
                      intro w hSw
                      obtain ⟨qs0, qs1, qs2⟩ := Blk.three hSw
                      go_simp
                      try with_reducible rfl
                    try simp only [List.getElem_toArray, List.getElem_cons_succ, List.getElem_cons_zero, Act.put, List.setIfInBounds_toArray, List.set_cons_zero, List.set_cons_succ]
                    refine wpAnyH_done (by kernel_rfl) ?_ _
                    refine NoPanic.normal ?_
                    try go_wp2_with fail
                    go_meet
                    case rel => exact ⟨_, _, rfl, Hv3O, Hv3Y⟩
                exact AllReadyH.nil
            exact AllReadyH.nil
        exact AllReadyH.nil
      case rest =>
        obtain ⟨A1, c1, rfl, HX1O, HX1S⟩ := hcut
        obtain ⟨X1, hX1⟩ : ∃ x, x = wc := ⟨_, rfl⟩
        subst hX1
        have HX1K := Lib.hid (HX0K.out.say HX1S.out (by decide))
        have hsX1 : W.heap.size ≤ X1.heap.size := Nat.le_trans hsX0 HX1S.out.size
        have HX1Y := Lib.hid (HX0Y.out.trans HX1S.out)
        have HX1I := Lib.hid (HX0I.out.below (HX1S.out.below.mono hBW))
        clear HX0O HX0Y HX0K HX0I HX1S hsX0 hxl hyl
        go_wp2_with fail
        go_loopw [3, 6] (fun t i wr => ∃ (j : Nat) (y : List UInt8) (A : Option Addr) (c : Nat), j ≤ nu ∧ i = .int .i64 j ∧ t = .slice A y.length c ∧ Hid (y = z ++ insB ul j) ∧ Hid (OwnT wr W.heap.size (.slice A y.length c) y) ∧ Hid (Say W.heap.size W wr) ∧ Hid (InL wr L B UA ul) ∧ Hid (Blk wr gb 102 #[.int .i64 up, .int .i64 ur, .slice UA nu uc])) (fun _ i _ => nu - (intOf i).toNat)
        case atStart => exact ⟨0, z, A1, c1, Nat.zero_le _, rfl, rfl, Lib.hid (by simp [insB]), HX1O, HX1Y, HX1I, HX1K⟩
        case round =>
          obtain ⟨j, yy, Aj, cj, hj, rfl, rfl, hx, hO, hY, hI, hK⟩ := hrel
          have hyyl : yy.length ≤ 6 + 5105 * k + 17 * j := by
            rw [hx.out, List.length_append]
            have := insB_len Hin.out j (by rw [Hnu.out]; exact hj)
            omega
          have hszi := hY.out.size
          obtain ⟨r0, r1', r2'⟩ := hK.out.three
          by_cases hltj : j < nu
          · have hltf : j < ul.length := by rw [Hnu.out]; exact hltj
            obtain ⟨fd, rfl, _, hfdb, hfat⟩ := hI.out.2 (by omega)
            obtain ⟨y0, y1, y2, y3, y4, ⟨f0, f1, f2, f3, f4⟩, rfl, rfl, rfl, rfl, NA, nc, rfl, hN, hnm⟩ := hfat j hltf
            obtain ⟨⟨ho0, ho1⟩, ⟨ha0, ha1⟩, ⟨hb0, hb1⟩, ⟨hc0, hc1⟩, hn6⟩ := Hin.out j hltf
            have hnext : z ++ insB ul (j + 1) = yy ++ [UInt8.ofNat ul[j].op.toNat] ++ long ul[j].a.toNat ++ long ul[j].b.toNat ++ long ul[j].c.toNat ++ [UInt8.ofNat ul[j].name.length] ++ ul[j].name := by rw [insB_succ hltf, hx.out]; unfold inB1; simp
            obtain ⟨nm, hnme⟩ : ∃ n, ul[j].name = n := ⟨_, rfl⟩
            obtain ⟨oi, hoi⟩ : ∃ n, ul[j].op = n := ⟨_, rfl⟩
            obtain ⟨ia, hia⟩ : ∃ n, ul[j].a = n := ⟨_, rfl⟩
            obtain ⟨ib, hib⟩ : ∃ n, ul[j].b = n := ⟨_, rfl⟩
            obtain ⟨ic, hic⟩ : ∃ n, ul[j].c = n := ⟨_, rfl⟩
            rw [hnme] at f4 hn6 hN hnext
            rw [hoi] at f0 ho0 ho1 hnext
            rw [hia] at f1 ha0 ha1 hnext
            rw [hib] at f2 hb0 hb1 hnext
            rw [hic] at f3 hc0 hc1 hnext
            obtain ⟨op, rfl⟩ : ∃ n : Nat, oi = n := ⟨oi.toNat, by omega⟩
            obtain ⟨oa, rfl⟩ : ∃ n : Nat, ia = n := ⟨ia.toNat, by omega⟩
            obtain ⟨ob, rfl⟩ : ∃ n : Nat, ib = n := ⟨ib.toNat, by omega⟩
            obtain ⟨oc, rfl⟩ : ∃ n : Nat, ic = n := ⟨ic.toNat, by omega⟩
            rw [Int.toNat_natCast, Int.toNat_natCast, Int.toNat_natCast, Int.toNat_natCast] at hnext
            obtain ⟨r1, hr1'⟩ : ∃ y, [UInt8.ofNat op] = y := ⟨_, rfl⟩
            rw [hr1'] at hnext
            have hr1l : r1.length = 1 := by rw [← hr1']; rfl
            obtain ⟨u1, hu1'⟩ : ∃ y, yy ++ r1 = y := ⟨_, rfl⟩
            obtain ⟨u2, hu2'⟩ : ∃ y, u1 ++ long oa = y := ⟨_, rfl⟩
            obtain ⟨u3, hu3'⟩ : ∃ y, u2 ++ long ob = y := ⟨_, rfl⟩
            obtain ⟨u4, hu4'⟩ : ∃ y, u3 ++ long oc = y := ⟨_, rfl⟩
            obtain ⟨r3, hr3'⟩ : ∃ y, [UInt8.ofNat nm.length] = y := ⟨_, rfl⟩
            rw [hr3'] at hnext
            have hr3l : r3.length = 1 := by rw [← hr3']; rfl
            obtain ⟨u5, hu5'⟩ : ∃ y, u4 ++ r3 = y := ⟨_, rfl⟩
            obtain ⟨u6, hu6'⟩ : ∃ y, u5 ++ nm = y := ⟨_, rfl⟩
            have hul1 : u1.length ≤ 7 + 5105 * k + 17 * j := by rw [← hu1', List.length_append]; omega
            have hul2 : u2.length ≤ 10 + 5105 * k + 17 * j := by rw [← hu2', List.length_append]; show _ + 3 ≤ _; omega
            have hul3 : u3.length ≤ 13 + 5105 * k + 17 * j := by rw [← hu3', List.length_append]; show _ + 3 ≤ _; omega
            have hul4 : u4.length ≤ 16 + 5105 * k + 17 * j := by rw [← hu4', List.length_append]; show _ + 3 ≤ _; omega
            have hul5 : u5.length ≤ 17 + 5105 * k + 17 * j := by rw [← hu5', List.length_append]; omega
            rw [hu1', hu2', hu3', hu4', hu5', hu6'] at hnext
            have Hnx := Lib.hid hnext
            have Hr1 := Lib.hid hr1'
            have Hr1l := Lib.hid hr1l
            have Hu1 := Lib.hid hu1'
            have Hu2 := Lib.hid hu2'
            have Hu3 := Lib.hid hu3'
            have Hu4 := Lib.hid hu4'
            have Hu5 := Lib.hid hu5'
            have Hu6 := Lib.hid hu6'
            have Hr1c := Lib.hid (show (#[.int .u8 (IntKind.u8.wrap (op : Int))] : Array Value).toList = vb r1 from by rw [← Hr1.out]; exact cell1 _)
            have Hr3c := Lib.hid (show (#[.int .u8 (IntKind.u8.wrap (nm.length : Int))] : Array Value).toList = vb r3 from by rw [← hr3']; exact cell1 _)
            have Hr3l := Lib.hid hr3l
            have hBr : B ≤ wr.heap.size := by omega
            have HXO := Lib.hid (hO.out.alloc (.cells #[.int .i64 op, .int .i64 oa, .int .i64 ob, .int .i64 oc, .slice NA nm.length nc] 104))
            have HXY := Lib.hid (hY.out.alloc hszi (.cells #[.int .i64 op, .int .i64 oa, .int .i64 ob, .int .i64 oc, .slice NA nm.length nc] 104))
            have HXK := Lib.hid (Blk.new wr 104 #[.int .i64 op, .int .i64 oa, .int .i64 ob, .int .i64 oc, .slice NA nm.length nc])
            have HXU := Lib.hid (hK.out.alloc (.cells #[.int .i64 op, .int .i64 oa, .int .i64 ob, .int .i64 oc, .slice NA nm.length nc] 104))
            have HXI := Lib.hid (hI.out.below ((blOne wr (.cells #[.int .i64 op, .int .i64 oa, .int .i64 ob, .int .i64 oc, .slice NA nm.length nc] 104)).mono hBr))
            have HXN := Lib.hid (hN.1.below ((blOne wr (.cells #[.int .i64 op, .int .i64 oa, .int .i64 ob, .int .i64 oc, .slice NA nm.length nc] 104)).mono hBr))
            obtain ⟨X, hX⟩ : ∃ X, X = wr.alloc (.cells #[.int .i64 op, .int .i64 oa, .int .i64 ob, .int .i64 oc, .slice NA nm.length nc] 104) := ⟨_, rfl⟩
            have hsX : W.heap.size ≤ X.heap.size := by rw [hX, World.size_alloc]; omega
            rw [← hX] at HXO HXY HXK HXU HXI HXN
            have HX := Lib.hid hX
            clear hfat hu1' hu2' hu3' hu4' hu5' hu6' hnext hN hx hnme hoi hia hib hic hX hO hY hI hK hr1' hr1l hr3' hr3l
            go_upto_region 11 with fail
            rw [← HX.out]
            obtain ⟨gi, hgi⟩ : ∃ g, g = wr.heap.size := ⟨_, rfl⟩
            rw [← hgi] at HXK
            rw [← hgi]
            clear hgi HX f0 f1 f2 f3 f4 r0 r1' r2' hszi hBr
            go_upto_region 11 with fail
            go_cut [3] (fun t wx => ∃ A c, t = .slice A u4.length c ∧ Hid (OwnT wx W.heap.size (.slice A u4.length c) u4) ∧ Hid (Say W.heap.size X wx))
            case first =>
              obtain ⟨Xd, eXd⟩ : ∃ x, x = X.drew := ⟨_, rfl⟩
              have HXdO : Hid (OwnT Xd W.heap.size (.slice Aj yy.length cj) yy) := Lib.hid (eXd ▸ (show OwnT X.drew _ _ _ from HXO.out))
              have hKXd : Blk Xd gi 104 #[.int .i64 op, .int .i64 oa, .int .i64 ob, .int .i64 oc, .slice NA nm.length nc] := eXd ▸ HXK.out.drew
              have HXdK := Lib.hid hKXd
              have HXdY : Hid (Say W.heap.size X Xd) := Lib.hid (eXd ▸ (Say.refl W.heap.size X).drew)
              have hzXd : Xd.heap.size = X.heap.size := by rw [eXd]; rfl
              have hsXd : W.heap.size ≤ Xd.heap.size := by omega
              refine wp_region_noPanic ?_
              refine wp_region_held_drew (S := (fun W => Blk W gi 104 #[.int .i64 op, .int .i64 oa, .int .i64 ob, .int .i64 oc, .slice NA nm.length nc])) (by kernel_rfl) ?_ (fun hHeld => ?_)
              · exact eXd ▸ hKXd
              rw [← eXd]
              clear eXd
              refine wpAnyH_take (i := 0) (oi := _) (v := ?_) rfl (by kernel_rfl) (by kernel_rfl) (by kernel_rfl) (fun _ _ _ h => h) (Or.inl ⟨by rfl, ?_⟩) (by assumption) ?_
              rotate_left
              focus
                intro w hSw
                obtain ⟨qs0, qs1, qs2, qs3, qs4⟩ := Blk.five hSw
                go_simp
                try with_reducible rfl
              try simp only [List.getElem_toArray, List.getElem_cons_succ, List.getElem_cons_zero, Act.put, List.setIfInBounds_toArray, List.set_cons_zero, List.set_cons_succ]
              refine wpAnyH_take (i := 1) (oi := _) (v := ?_) rfl (by kernel_rfl) (by kernel_rfl) (by kernel_rfl) (fun _ _ _ h => h) (Or.inl ⟨by rfl, ?_⟩) (by assumption) ?_
              rotate_left
              focus
                intro w hSw
                obtain ⟨qs0, qs1, qs2, qs3, qs4⟩ := Blk.five hSw
                go_simp
                try with_reducible rfl
              try simp only [List.getElem_toArray, List.getElem_cons_succ, List.getElem_cons_zero, Act.put, List.setIfInBounds_toArray, List.set_cons_zero, List.set_cons_succ]
              refine wpAnyH_take (i := 2) (oi := _) (v := ?_) rfl (by kernel_rfl) (by kernel_rfl) (by kernel_rfl) (fun _ _ _ h => h) (Or.inl ⟨by rfl, ?_⟩) (by assumption) ?_
              rotate_left
              focus
                intro w hSw
                obtain ⟨qs0, qs1, qs2, qs3, qs4⟩ := Blk.five hSw
                go_simp
                try with_reducible rfl
              try simp only [List.getElem_toArray, List.getElem_cons_succ, List.getElem_cons_zero, Act.put, List.setIfInBounds_toArray, List.set_cons_zero, List.set_cons_succ]
              refine wpAnyH_take (i := 3) (oi := _) (v := ?_) rfl (by kernel_rfl) (by kernel_rfl) (by kernel_rfl) (fun _ _ _ h => h) (Or.inl ⟨by rfl, ?_⟩) (by assumption) ?_
              rotate_left
              focus
                intro w hSw
                obtain ⟨qs0, qs1, qs2, qs3, qs4⟩ := Blk.five hSw
                go_simp
                try with_reducible rfl
              try simp only [List.getElem_toArray, List.getElem_cons_succ, List.getElem_cons_zero, Act.put, List.setIfInBounds_toArray, List.set_cons_zero, List.set_cons_succ]
              refine wpAnyH_take (i := 6) (oi := _) (v := ?_) rfl (by kernel_rfl) (by kernel_rfl) (by kernel_rfl) (fun _ _ _ h => h) (Or.inl ⟨by rfl, ?_⟩) (by assumption) ?_
              rotate_left
              focus
                intro w hSw
                obtain ⟨qs0, qs1, qs2, qs3, qs4⟩ := Blk.five hSw
                go_simp
                try with_reducible rfl
              try simp only [List.getElem_toArray, List.getElem_cons_succ, List.getElem_cons_zero, Act.put, List.setIfInBounds_toArray, List.set_cons_zero, List.set_cons_succ]
              refine wpAnyH_take (i := 7) (oi := _) (v := ?_) rfl (by kernel_rfl) (by kernel_rfl) (by kernel_rfl) (fun _ _ _ h => h) (Or.inl ⟨by rfl, ?_⟩) (by assumption) ?_
              rotate_left
              focus
                intro w hSw
                obtain ⟨qs0, qs1, qs2, qs3, qs4⟩ := Blk.five hSw
                go_simp
                try with_reducible rfl
              try simp only [List.getElem_toArray, List.getElem_cons_succ, List.getElem_cons_zero, Act.put, List.setIfInBounds_toArray, List.set_cons_zero, List.set_cons_succ]
              refine wpAnyH_take (i := 9) (oi := _) (v := ?_) rfl (by kernel_rfl) (by kernel_rfl) (by kernel_rfl) (fun _ _ _ h => h) (Or.inl ⟨by rfl, ?_⟩) (by assumption) ?_
              rotate_left
              focus
                intro w hSw
                obtain ⟨qs0, qs1, qs2, qs3, qs4⟩ := Blk.five hSw
                go_simp
                try with_reducible rfl
              try simp only [List.getElem_toArray, List.getElem_cons_succ, List.getElem_cons_zero, Act.put, List.setIfInBounds_toArray, List.set_cons_zero, List.set_cons_succ]
              refine wpAnyH_take (i := 10) (oi := _) (v := ?_) rfl (by kernel_rfl) (by kernel_rfl) (by kernel_rfl) (fun _ _ _ h => h) (Or.inl ⟨by rfl, ?_⟩) (by assumption) ?_
              rotate_left
              focus
                intro w hSw
                obtain ⟨qs0, qs1, qs2, qs3, qs4⟩ := Blk.five hSw
                go_simp
                try with_reducible rfl
              try simp only [List.getElem_toArray, List.getElem_cons_succ, List.getElem_cons_zero, Act.put, List.setIfInBounds_toArray, List.set_cons_zero, List.set_cons_succ]
              refine wpAnyH_take (i := 12) (oi := _) (v := ?_) rfl (by kernel_rfl) (by kernel_rfl) (by kernel_rfl) (fun _ _ _ h => h) (Or.inl ⟨by rfl, ?_⟩) (by assumption) ?_
              rotate_left
              focus
                intro w hSw
                obtain ⟨qs0, qs1, qs2, qs3, qs4⟩ := Blk.five hSw
                go_simp
                try with_reducible rfl
              try simp only [List.getElem_toArray, List.getElem_cons_succ, List.getElem_cons_zero, Act.put, List.setIfInBounds_toArray, List.set_cons_zero, List.set_cons_succ]
              refine wpAnyH_take (i := 13) (oi := _) (v := ?_) rfl (by kernel_rfl) (by kernel_rfl) (by kernel_rfl) (fun _ _ _ h => h) (Or.inl ⟨by rfl, ?_⟩) (by assumption) ?_
              rotate_left
              focus
                intro w hSw
                obtain ⟨qs0, qs1, qs2, qs3, qs4⟩ := Blk.five hSw
                go_simp
                try with_reducible rfl
              try simp only [List.getElem_toArray, List.getElem_cons_succ, List.getElem_cons_zero, Act.put, List.setIfInBounds_toArray, List.set_cons_zero, List.set_cons_succ]
              refine wpAnyH_ready (rs := [4]) (by kernel_rfl) (by simp) ?_
              refine AllReadyH.cons (o := _) rfl (fun K hK => ?_) ?_
              · go_simp
                obtain ⟨v1, ev1⟩ : ∃ x, x = Xd.alloc (.cells #[.int .u8 (IntKind.u8.wrap (op : Int))] 5) := ⟨_, rfl⟩
                rw [← ev1]
                have Hv1O : Hid (OwnT v1 W.heap.size (.slice Aj yy.length cj) yy) := Lib.hid (ev1 ▸ HXdO.out.alloc _)
                have hKv1 : Blk v1 gi 104 #[.int .i64 op, .int .i64 oa, .int .i64 ob, .int .i64 oc, .slice NA nm.length nc] := ev1 ▸ HXdK.out.alloc _
                have Hv1K := Lib.hid hKv1
                have Hv1Y : Hid (Say W.heap.size X v1) := Lib.hid (ev1 ▸ HXdY.out.alloc hsXd _)
                have hzv1 : v1.heap.size = Xd.heap.size + 1 := by rw [ev1]; simp
                have hsv1 : W.heap.size ≤ v1.heap.size := by omega
                have gv1_4 : Hid (Blk v1 Xd.heap.size 5 #[.int .u8 (IntKind.u8.wrap (op : Int))]) := Lib.hid (ev1 ▸ Blk.new Xd _ _)
                clear ev1
                refine hK.out _ _ ?_ (fun hHeld => ?_)
                · exact hKv1
                · clear hK K
                  try simp only [List.getElem_toArray, List.getElem_cons_succ, List.getElem_cons_zero, Act.put, List.setIfInBounds_toArray, List.set_cons_zero, List.set_cons_succ]
                  refine wpAnyH_ready (rs := [5]) (by kernel_rfl) (by simp) ?_
                  refine AllReadyH.cons (o := _) rfl (fun K hK => ?_) ?_
                  · refine wp_litK (r := r1) (.tmp 50) (.tmp 54) rfl Hv1O.out gv1_4.out Hr1c.out Hr1l.out Hu1.out (by have := Hr1l.out; omega) (by omega) (by simp [Act.eval, Act.put]) (by simp [Act.eval, Act.put]) ?_
                    intro Av2 cv2 v2 hO hY hkp
                    have Hv2O := Lib.hid hO
                    have hKv2 := Hv1K.out.say hY (by decide)
                    have Hv2K := Lib.hid hKv2
                    have hsv2 : W.heap.size ≤ v2.heap.size := Nat.le_trans hsv1 hY.size
                    have hzv2 := hY.size
                    have Hv2Y := Lib.hid (Hv1Y.out.trans hY)
                    clear hO hY hkp
                    refine hK.out _ _ ?_ (fun hHeld => ?_)
                    · exact hKv2
                    · clear hK K
                      try simp only [List.getElem_toArray, List.getElem_cons_succ, List.getElem_cons_zero, Act.put, List.setIfInBounds_toArray, List.set_cons_zero, List.set_cons_succ]
                      refine wpAnyH_ready (rs := [8]) (by kernel_rfl) (by simp) ?_
                      refine AllReadyH.cons (o := _) rfl (fun K hK => ?_) ?_
                      · go_simp
                        refine Calls.mono (l6num_c u1 _ oa W.heap.size _ (by omega) hsv2 (by omega) Hv2O.out) ?_
                        rintro e v3 ⟨Av3, cv3, rfl, hO, hY⟩
                        rw [Hu2.out] at hO
                        rw [Hu2.out]
                        have Hv3O := Lib.hid hO
                        have hKv3 := Hv2K.out.say hY (by decide)
                        have Hv3K := Lib.hid hKv3
                        have hsv3 : W.heap.size ≤ v3.heap.size := Nat.le_trans hsv2 hY.size
                        have hzv3 := hY.size
                        have Hv3Y := Lib.hid (Hv2Y.out.trans hY)
                        clear hO hY
                        refine hK.out _ _ ?_ (fun hHeld => ?_)
                        · exact hKv3
                        · clear hK K
                          try simp only [List.getElem_toArray, List.getElem_cons_succ, List.getElem_cons_zero, Act.put, List.setIfInBounds_toArray, List.set_cons_zero, List.set_cons_succ]
                          refine wpAnyH_ready (rs := [11]) (by kernel_rfl) (by simp) ?_
                          refine AllReadyH.cons (o := _) rfl (fun K hK => ?_) ?_
                          · go_simp
                            refine Calls.mono (l6num_c u2 _ ob W.heap.size _ (by omega) hsv3 (by omega) Hv3O.out) ?_
                            rintro e v4 ⟨Av4, cv4, rfl, hO, hY⟩
                            rw [Hu3.out] at hO
                            rw [Hu3.out]
                            have Hv4O := Lib.hid hO
                            have hKv4 := Hv3K.out.say hY (by decide)
                            have Hv4K := Lib.hid hKv4
                            have hsv4 : W.heap.size ≤ v4.heap.size := Nat.le_trans hsv3 hY.size
                            have hzv4 := hY.size
                            have Hv4Y := Lib.hid (Hv3Y.out.trans hY)
                            clear hO hY
                            refine hK.out _ _ ?_ (fun hHeld => ?_)
                            · exact hKv4
                            · clear hK K
                              try simp only [List.getElem_toArray, List.getElem_cons_succ, List.getElem_cons_zero, Act.put, List.setIfInBounds_toArray, List.set_cons_zero, List.set_cons_succ]
                              refine wpAnyH_ready (rs := [14]) (by kernel_rfl) (by simp) ?_
                              refine AllReadyH.cons (o := _) rfl (fun K hK => ?_) ?_
                              · go_simp
                                refine Calls.mono (l6num_c u3 _ oc W.heap.size _ (by omega) hsv4 (by omega) Hv4O.out) ?_
                                rintro e v5 ⟨Av5, cv5, rfl, hO, hY⟩
                                rw [Hu4.out] at hO
                                rw [Hu4.out]
                                have Hv5O := Lib.hid hO
                                have hKv5 := Hv4K.out.say hY (by decide)
                                have Hv5K := Lib.hid hKv5
                                have hsv5 : W.heap.size ≤ v5.heap.size := Nat.le_trans hsv4 hY.size
                                have hzv5 := hY.size
                                have Hv5Y := Lib.hid (Hv4Y.out.trans hY)
                                clear hO hY
                                refine hK.out _ _ ?_ (fun hHeld => ?_)
                                · exact hKv5
                                · clear hK K
                                  try simp only [List.getElem_toArray, List.getElem_cons_succ, List.getElem_cons_zero, Act.put, List.setIfInBounds_toArray, List.set_cons_zero, List.set_cons_succ]
                                  refine wpAnyH_take (i := 15) (oi := _) (v := ?_) rfl (by kernel_rfl) (by kernel_rfl) (by kernel_rfl) (fun _ _ _ h => h) (Or.inl ⟨by rfl, ?_⟩) (by assumption) ?_
                                  rotate_left
                                  focus
                                    intro w hSw
                                    obtain ⟨qs0, qs1, qs2, qs3, qs4⟩ := Blk.five hSw
                                    go_simp
                                    try with_reducible rfl
                                  try simp only [List.getElem_toArray, List.getElem_cons_succ, List.getElem_cons_zero, Act.put, List.setIfInBounds_toArray, List.set_cons_zero, List.set_cons_succ]
                                  refine wpAnyH_done (by kernel_rfl) ?_ _
                                  refine NoPanic.normal ?_
                                  try go_wp2_with fail
                                  go_meet
                                  case rel => exact ⟨_, _, rfl, Hv5O, Hv5Y⟩
                              exact AllReadyH.nil
                          exact AllReadyH.nil
                      exact AllReadyH.nil
                  exact AllReadyH.nil
              exact AllReadyH.nil
            case rest =>
              obtain ⟨A5, c5, rfl, HY1O, HY1S⟩ := hcut
              obtain ⟨Y1, hY1⟩ : ∃ x, x = wc := ⟨_, rfl⟩
              subst hY1
              have HY1K := Lib.hid (HXK.out.say HY1S.out (by decide))
              have hsY1 : W.heap.size ≤ Y1.heap.size := Nat.le_trans hsX HY1S.out.size
              have HY1Y := Lib.hid (HXY.out.trans HY1S.out)
              have HY1I := Lib.hid (HXI.out.below (HY1S.out.below.mono hBW))
              have HY1N := Lib.hid (HXN.out.below (HY1S.out.below.mono hBW))
              have HY1U := Lib.hid (HXU.out.say HY1S.out (by decide))
              clear HXO HXY HXK HXU HXI HXN HY1S hsX
              go_upto_region 12 with fail
              obtain ⟨Y1d, eY1d⟩ : ∃ x, x = Y1.drew := ⟨_, rfl⟩
              have HY1dO : Hid (OwnT Y1d W.heap.size (.slice A5 u4.length c5) u4) := Lib.hid (eY1d ▸ (show OwnT Y1.drew _ _ _ from HY1O.out))
              have hKY1d : Blk Y1d gi 104 #[.int .i64 op, .int .i64 oa, .int .i64 ob, .int .i64 oc, .slice NA nm.length nc] := eY1d ▸ HY1K.out.drew
              have HY1dK := Lib.hid hKY1d
              have HY1dY : Hid (Say W.heap.size Y1 Y1d) := Lib.hid (eY1d ▸ (Say.refl W.heap.size Y1).drew)
              have hzY1d : Y1d.heap.size = Y1.heap.size := by rw [eY1d]; rfl
              have hsY1d : W.heap.size ≤ Y1d.heap.size := by omega
              have HY1dN := Lib.hid (HY1N.out.below (eY1d ▸ (Below.refl B Y1).drew))
              refine wp_region_noPanic ?_
              refine wp_region_held_drew (S := (fun W => Blk W gi 104 #[.int .i64 op, .int .i64 oa, .int .i64 ob, .int .i64 oc, .slice NA nm.length nc])) (by kernel_rfl) ?_ (fun hHeld => ?_)
              · exact eY1d ▸ hKY1d
              rw [← eY1d]
              clear eY1d
              refine wpAnyH_take (i := 0) (oi := _) (v := ?_) rfl (by kernel_rfl) (by kernel_rfl) (by kernel_rfl) (fun _ _ _ h => h) (Or.inl ⟨by rfl, ?_⟩) (by assumption) ?_
              rotate_left
              focus
                intro w hSw
                obtain ⟨qs0, qs1, qs2, qs3, qs4⟩ := Blk.five hSw
                go_simp
                try with_reducible rfl
              try simp only [List.getElem_toArray, List.getElem_cons_succ, List.getElem_cons_zero, Act.put, List.setIfInBounds_toArray, List.set_cons_zero, List.set_cons_succ]
              refine wpAnyH_take (i := 1) (oi := _) (v := ?_) rfl (by kernel_rfl) (by kernel_rfl) (by kernel_rfl) (fun _ _ _ h => h) (Or.inl ⟨by rfl, ?_⟩) (by assumption) ?_
              rotate_left
              focus
                intro w hSw
                obtain ⟨qs0, qs1, qs2, qs3, qs4⟩ := Blk.five hSw
                go_simp
                try with_reducible rfl
              try simp only [List.getElem_toArray, List.getElem_cons_succ, List.getElem_cons_zero, Act.put, List.setIfInBounds_toArray, List.set_cons_zero, List.set_cons_succ]
              refine wpAnyH_take (i := 2) (oi := _) (v := ?_) rfl (by kernel_rfl) (by kernel_rfl) (by kernel_rfl) (fun _ _ _ h => h) (Or.inl ⟨by rfl, ?_⟩) (by assumption) ?_
              rotate_left
              focus
                intro w hSw
                obtain ⟨qs0, qs1, qs2, qs3, qs4⟩ := Blk.five hSw
                go_simp
                try with_reducible rfl
              try simp only [List.getElem_toArray, List.getElem_cons_succ, List.getElem_cons_zero, Act.put, List.setIfInBounds_toArray, List.set_cons_zero, List.set_cons_succ]
              refine wpAnyH_take (i := 3) (oi := _) (v := ?_) rfl (by kernel_rfl) (by kernel_rfl) (by kernel_rfl) (fun _ _ _ h => h) (Or.inl ⟨by rfl, ?_⟩) (by assumption) ?_
              rotate_left
              focus
                intro w hSw
                obtain ⟨qs0, qs1, qs2, qs3, qs4⟩ := Blk.five hSw
                go_simp
                try with_reducible rfl
              try simp only [List.getElem_toArray, List.getElem_cons_succ, List.getElem_cons_zero, Act.put, List.setIfInBounds_toArray, List.set_cons_zero, List.set_cons_succ]
              refine wpAnyH_take (i := 4) (oi := _) (v := ?_) rfl (by kernel_rfl) (by kernel_rfl) (by kernel_rfl) (fun _ _ _ h => h) (Or.inl ⟨by rfl, ?_⟩) (by assumption) ?_
              rotate_left
              focus
                intro w hSw
                obtain ⟨qs0, qs1, qs2, qs3, qs4⟩ := Blk.five hSw
                go_simp
                try with_reducible rfl
              try simp only [List.getElem_toArray, List.getElem_cons_succ, List.getElem_cons_zero, Act.put, List.setIfInBounds_toArray, List.set_cons_zero, List.set_cons_succ]
              refine wpAnyH_take (i := 7) (oi := _) (v := ?_) rfl (by kernel_rfl) (by kernel_rfl) (by kernel_rfl) (fun _ _ _ h => h) (Or.inl ⟨by rfl, ?_⟩) (by assumption) ?_
              rotate_left
              focus
                intro w hSw
                obtain ⟨qs0, qs1, qs2, qs3, qs4⟩ := Blk.five hSw
                go_simp
                try with_reducible rfl
              try simp only [List.getElem_toArray, List.getElem_cons_succ, List.getElem_cons_zero, Act.put, List.setIfInBounds_toArray, List.set_cons_zero, List.set_cons_succ]
              refine wpAnyH_take (i := 8) (oi := _) (v := ?_) rfl (by kernel_rfl) (by kernel_rfl) (by kernel_rfl) (fun _ _ _ h => h) (Or.inl ⟨by rfl, ?_⟩) (by assumption) ?_
              rotate_left
              focus
                intro w hSw
                obtain ⟨qs0, qs1, qs2, qs3, qs4⟩ := Blk.five hSw
                go_simp
                try with_reducible rfl
              try simp only [List.getElem_toArray, List.getElem_cons_succ, List.getElem_cons_zero, Act.put, List.setIfInBounds_toArray, List.set_cons_zero, List.set_cons_succ]
              refine wpAnyH_ready (rs := [5]) (by kernel_rfl) (by simp) ?_
              refine AllReadyH.cons (o := _) rfl (fun K hK => ?_) ?_
              · go_simp
                obtain ⟨v1, ev1⟩ : ∃ x, x = Y1d.alloc (.cells #[.int .u8 (IntKind.u8.wrap (nm.length : Int))] 5) := ⟨_, rfl⟩
                rw [← ev1]
                have Hv1O : Hid (OwnT v1 W.heap.size (.slice A5 u4.length c5) u4) := Lib.hid (ev1 ▸ HY1dO.out.alloc _)
                have hKv1 : Blk v1 gi 104 #[.int .i64 op, .int .i64 oa, .int .i64 ob, .int .i64 oc, .slice NA nm.length nc] := ev1 ▸ HY1dK.out.alloc _
                have Hv1K := Lib.hid hKv1
                have Hv1Y : Hid (Say W.heap.size Y1 v1) := Lib.hid (ev1 ▸ HY1dY.out.alloc hsY1d _)
                have hzv1 : v1.heap.size = Y1d.heap.size + 1 := by rw [ev1]; simp
                have hsv1 : W.heap.size ≤ v1.heap.size := by omega
                have gv1_5 : Hid (Blk v1 Y1d.heap.size 5 #[.int .u8 (IntKind.u8.wrap (nm.length : Int))]) := Lib.hid (ev1 ▸ Blk.new Y1d _ _)
                have Hv1N := Lib.hid (HY1dN.out.below ((ev1 ▸ blOne Y1d (.cells #[.int .u8 (IntKind.u8.wrap (nm.length : Int))] 5) : Below Y1d.heap.size Y1d v1).mono (by omega)))
                clear ev1
                refine hK.out _ _ ?_ (fun hHeld => ?_)
                · exact hKv1
                · clear hK K
                  try simp only [List.getElem_toArray, List.getElem_cons_succ, List.getElem_cons_zero, Act.put, List.setIfInBounds_toArray, List.set_cons_zero, List.set_cons_succ]
                  refine wpAnyH_ready (rs := [6]) (by kernel_rfl) (by simp) ?_
                  refine AllReadyH.cons (o := _) rfl (fun K hK => ?_) ?_
                  · refine wp_litK (r := r3) (.tmp 65) (.tmp 70) rfl Hv1O.out gv1_5.out Hr3c.out Hr3l.out Hu5.out (by have := Hr3l.out; omega) (by omega) (by simp [Act.eval, Act.put]) (by simp [Act.eval, Act.put]) ?_
                    intro Av2 cv2 v2 hO hY hkp
                    have Hv2O := Lib.hid hO
                    have hKv2 := Hv1K.out.say hY (by decide)
                    have Hv2K := Lib.hid hKv2
                    have hsv2 : W.heap.size ≤ v2.heap.size := Nat.le_trans hsv1 hY.size
                    have hzv2 := hY.size
                    have Hv2N := Lib.hid (Hv1N.out.below (hY.below.mono hBW))
                    have Hv2Y := Lib.hid (Hv1Y.out.trans hY)
                    clear hO hY hkp
                    refine hK.out _ _ ?_ (fun hHeld => ?_)
                    · exact hKv2
                    · clear hK K
                      try simp only [List.getElem_toArray, List.getElem_cons_succ, List.getElem_cons_zero, Act.put, List.setIfInBounds_toArray, List.set_cons_zero, List.set_cons_succ]
                      refine wpAnyH_ready (rs := [9]) (by kernel_rfl) (by simp) ?_
                      refine AllReadyH.cons (o := _) rfl (fun K hK => ?_) ?_
                      · refine wp_rowK (c0 := nc) (.tmp 71) (.tmp 73) rfl Hv2O.out Hv2N.out Hu6.out (by omega) (by omega) (by simp [Act.eval, Act.put]) (by simp [Act.eval, Act.put]) ?_
                        intro Av3 cv3 v3 hO hY hkp
                        have Hv3O := Lib.hid hO
                        have hKv3 := Hv2K.out.say hY (by decide)
                        have Hv3K := Lib.hid hKv3
                        have hsv3 : W.heap.size ≤ v3.heap.size := Nat.le_trans hsv2 hY.size
                        have hzv3 := hY.size
                        have Hv3N := Lib.hid (Hv2N.out.below (hY.below.mono hBW))
                        have Hv3Y := Lib.hid (Hv2Y.out.trans hY)
                        clear hO hY hkp
                        refine hK.out _ _ ?_ (fun hHeld => ?_)
                        · exact hKv3
                        · clear hK K
                          try simp only [List.getElem_toArray, List.getElem_cons_succ, List.getElem_cons_zero, Act.put, List.setIfInBounds_toArray, List.set_cons_zero, List.set_cons_succ]
                          refine wpAnyH_take (i := 10) (oi := _) (v := ?_) rfl (by kernel_rfl) (by kernel_rfl) (by kernel_rfl) (fun _ _ _ h => h) (Or.inl ⟨by rfl, ?_⟩) (by assumption) ?_
                          rotate_left
                          focus
                            intro w hSw
                            obtain ⟨qs0, qs1, qs2, qs3, qs4⟩ := Blk.five hSw
                            go_simp
                            try with_reducible rfl
                          try simp only [List.getElem_toArray, List.getElem_cons_succ, List.getElem_cons_zero, Act.put, List.setIfInBounds_toArray, List.set_cons_zero, List.set_cons_succ]
                          refine wpAnyH_done (by kernel_rfl) ?_ _
                          refine NoPanic.normal ?_
                          try go_wp2_with fail
                          go_roundw
                          case rel => exact ⟨j + 1, u6, _, _, by omega, by go_num, rfl, Lib.hid Hnx.out.symm, Hv3O, Lib.hid (HY1Y.out.trans Hv3Y.out), Lib.hid (HY1I.out.below (Hv3Y.out.below.mono hBW)), Lib.hid (HY1U.out.say Hv3Y.out (by decide))⟩
                          case measure => simp [intOf]; omega
                      exact AllReadyH.nil
                  exact AllReadyH.nil
              exact AllReadyH.nil
          · obtain rfl : j = nu := by omega
            go_wp2
            go_roundw
            case rel => exact ⟨k + 1, yy, Aj, cj, by omega, by go_num, rfl, Lib.hid (by rw [Hnext.out, hx.out]), hO, hY⟩
            case measure => simp [intOf]; omega
    · obtain rfl : k = C.length := by omega
      go_wp2
      go_ret
      rw [E.out, ← hx.out]
      exact ⟨_, _, rfl, hO.out.less Hb.out.size, Hb.out.trans (hY.out.below.mono Hb.out.size)⟩
end
section
variable (C : List Un) (CA : Option Addr) (cc L B : Nat) (w : World)
set_option maxRecDepth 100000 in
set_option maxHeartbeats 8000000 in
theorem specCodeBytes_c (hB : B ≤ w.heap.size) (hsz : unsSz C ≤ 1048576) (hC : UnL w L B CA C) :
    Calls Tryd.prog 32 #[.agg #[.slice CA C.length cc]] w (AnsTB w (codB C) (codeOk C)) := by
  have hbW := blwC w (.cells #[.slice CA C.length cc] 56)
  have HR := Lib.hid (specCodeOk_c C CA cc L B (w.alloc (.cells #[.slice CA C.length cc] 56)) (Nat.le_trans hB hbW.size) hsz (hC.below (hbW.mono hB)))
  have HKA := Lib.hid (Blk.new w 56 #[.slice CA C.length cc])
  have HbW := Lib.hid hbW
  have HC := Lib.hid hC
  clear hsz hC hbW
  go_enter Tryd.func32, Tryd.ntmps32
  go_wp2_with fail
  refine HR.out.mono ?_
  rintro e W ⟨rfl, hb⟩
  have Hb := Lib.hid (HbW.out.trans (hb.mono HbW.out.size))
  have hs1 := Hb.out.size
  have hKA := HKA.out.below hb HKA.out.lt
  cases hok : codeOk C
  · have Hok := Lib.hid hok
    have E := Lib.hid (show codB C = [] by unfold codB; rw [hok]; rfl)
    clear hb HbW HR hok hKA HKA
    go_wp2
    refine bodyPost_ret (v := .tuple #[.slice none 0 0, .bool false]) (by simp [results, Tryd.results32, go_sem]) rfl ?_
    rw [E.out, Hok.out]
    exact ⟨none, 0, rfl, OwnT.nil _ _, Hb.out⟩
  · have Hok := Lib.hid hok
    have E := Lib.hid (show codB C = codRow C by unfold codB; rw [hok]; rfl)
    obtain ⟨q0, -⟩ := hKA.uno
    have Hl := Lib.hid (l6bytes_c C CA cc L B W (Nat.le_trans hB hs1) hok (HC.out.below (Hb.out.mono hB)))
    clear hb HbW HR hok hKA HKA HC
    go_wp2_with fail
    refine Hl.out.mono ?_
    rintro e w2 ⟨A, c, rfl, hO, hb2⟩
    have HO := Lib.hid (hO.less hs1)
    have Hb2 := Lib.hid (Hb.out.trans (hb2.mono hs1))
    clear hO hb2 Hl q0
    go_wp2
    refine bodyPost_ret (v := .tuple #[.slice A (codRow C).length c, .bool true]) (by simp [results, Tryd.results32, go_sem]) rfl ?_
    rw [E.out, Hok.out]
    exact ⟨A, c, rfl, HO.out, Hb2.out⟩
end
end CodBS
end Go.Proofs.YtebgigiakfjocaaDoor
