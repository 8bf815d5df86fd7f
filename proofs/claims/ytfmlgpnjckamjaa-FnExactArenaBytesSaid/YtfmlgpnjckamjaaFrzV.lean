/-
  The model's values, and rows of numbers, in bytes behind a row.
-/
import Derived.Test.YtfmlgpnjckamjaaFrzD
import Derived.Test.YtfmlgpnjckamjaaLitD
import Derived.Deep.DeepCutAuto
import Derived.Deep.RegionHeld3
namespace Go.Proofs.Ytfmlgpnjckamjaa
open Go.RowKit
set_option linter.unusedVariables false
set_option linter.unusedSimpArgs false
namespace Frz
theorem Blk.three {w : World} {g : Nat} {t : TypeId} {a b c : Value} (h : Blk w g t #[a, b, c]) : w.cell? ⟨g, 0, none⟩ = some a ∧ w.cell? ⟨g, 1, none⟩ = some b ∧ w.cell? ⟨g, 2, none⟩ = some c := ⟨h.cel 0 rfl, h.cel 1 rfl, h.cel 2 rfl⟩
theorem l8num_h (l : List UInt8) (v : Value) (n : Int) (B : Nat) (w : World) (_ : 0 < 1) (hB : B ≤ w.heap.size) (hl : l.length ≤ 140737488355000) (h : OwnT w B v l) :
    Calls Try.prog 69 #[v, .int .i64 n] w fun e w' => ∃ A c, e = .returned (.slice A (l ++ by8 n).length c) ∧ OwnT w' B (.slice A (l ++ by8 n).length c) (l ++ by8 n) ∧ Say B w w' := l8num_c l v n B w hB hl h
section
variable (l : List UInt8) (v : Value) (k n g : Int) (W w : World)
set_option maxRecDepth 100000 in
set_option maxHeartbeats 4000000 in
theorem l8val_c (hB : W.heap.size ≤ w.heap.size) (hl : l.length ≤ 140737488350000) (h : OwnT w W.heap.size v l) :
    Calls Try.prog 70 #[v, .agg #[.int .i64 k, .int .i64 n, .int .i64 g]] w fun e w' => ∃ A c, e = .returned (.slice A (l ++ valB k n g).length c) ∧ OwnT w' W.heap.size (.slice A (l ++ valB k n g).length c) (l ++ valB k n g) ∧ Say W.heap.size w w' := by
  obtain ⟨A0, c0, rfl, _⟩ := h.form
  obtain ⟨r1, hr1⟩ : ∃ r, r = b1 k := ⟨_, rfl⟩
  obtain ⟨y1, hy1⟩ : ∃ y, l ++ r1 = y := ⟨_, rfl⟩
  obtain ⟨y2, hy2⟩ : ∃ y, y1 ++ by8 n = y := ⟨_, rfl⟩
  obtain ⟨y3, hy3⟩ : ∃ y, y2 ++ by8 g = y := ⟨_, rfl⟩
  have hr1l : r1.length = 1 := by rw [hr1]; rfl
  rw [show l ++ valB k n g = y3 by unfold valB; rw [← hy3, ← hy2, ← hy1, hr1]; simp]
  have hl1 : y1.length ≤ 140737488350001 := by rw [← hy1, List.length_append]; omega
  have hl2 : y2.length ≤ 140737488350009 := by rw [← hy2, List.length_append, by8_len]; omega
  have Hy1 := Lib.hid hy1
  have Hy2 := Lib.hid hy2
  have Hy3 := Lib.hid hy3
  have Hr1l := Lib.hid hr1l
  have Hr1c := Lib.hid (show (#[.int .u8 (IntKind.u8.wrap k)] : Array Value).toList = vb r1 from by rw [hr1]; exact b1_cell k)
  obtain ⟨X, hX⟩ : ∃ X, X = w.alloc (.cells #[.int .i64 k, .int .i64 n, .int .i64 g] 43) := ⟨_, rfl⟩
  obtain ⟨gv, hgv⟩ : ∃ x, x = w.heap.size := ⟨_, rfl⟩
  have HXO : Hid (OwnT X W.heap.size (.slice A0 l.length c0) l) := Lib.hid (hX ▸ h.alloc _)
  have HXK : Hid (Blk X gv 43 #[.int .i64 k, .int .i64 n, .int .i64 g]) := Lib.hid (by rw [hX, hgv]; exact Blk.new w _ _)
  have HX0 : Hid (Say W.heap.size w X) := Lib.hid (hX ▸ (Say.refl W.heap.size w).alloc hB _)
  have hsX : W.heap.size ≤ X.heap.size := Nat.le_trans hB HX0.out.size
  have HX := Lib.hid hX
  have Hgv := Lib.hid hgv
  clear h hX hgv hy1 hy2 hy3 hr1 hr1l
  go_enter Try.func70, Try.ntmps70
  go_upto_region 1 with fail
  rw [← HX.out, ← Hgv.out]
  clear HX Hgv
  obtain ⟨Xd, eXd⟩ : ∃ x, x = X.drew := ⟨_, rfl⟩
  have HXdO : Hid (OwnT Xd W.heap.size (.slice A0 l.length c0) l) := Lib.hid (eXd ▸ (show OwnT X.drew _ _ _ from HXO.out))
  have hKXd : Blk Xd gv 43 #[.int .i64 k, .int .i64 n, .int .i64 g] := eXd ▸ HXK.out.drew
  have HXdK := Lib.hid hKXd
  have HXdY : Hid (Say W.heap.size X Xd) := Lib.hid (eXd ▸ (Say.refl W.heap.size X).drew)
  have hzXd : Xd.heap.size = X.heap.size := by rw [eXd]; rfl
  have hsXd : W.heap.size ≤ Xd.heap.size := by omega
  refine wp_region_noPanic ?_
  refine wp_region_held_drew (S := (fun W => Blk W gv 43 #[.int .i64 k, .int .i64 n, .int .i64 g])) (by kernel_rfl) ?_ (fun hHeld => ?_)
  · exact eXd ▸ hKXd
  rw [← eXd]
  clear eXd
  refine wpAnyH_take (i := 0) (oi := _) (v := ?_) rfl (by kernel_rfl) (by kernel_rfl) (by kernel_rfl) (fun _ _ _ h => h) (Or.inl ⟨by rfl, ?_⟩) (by assumption) ?_
  rotate_left
  focus
    intro w hSw
    obtain ⟨qs0, qs1, qs2⟩ := Blk.three hSw
    go_simp
    try with_reducible rfl
  try simp only [List.getElem_toArray, List.getElem_cons_succ, List.getElem_cons_zero, Act.put, List.setIfInBounds_toArray, List.set_cons_zero, List.set_cons_succ]
  refine wpAnyH_take (i := 1) (oi := _) (v := ?_) rfl (by kernel_rfl) (by kernel_rfl) (by kernel_rfl) (fun _ _ _ h => h) (Or.inl ⟨by rfl, ?_⟩) (by assumption) ?_
  rotate_left
  focus
    intro w hSw
    obtain ⟨qs0, qs1, qs2⟩ := Blk.three hSw
    go_simp
    try with_reducible rfl
  try simp only [List.getElem_toArray, List.getElem_cons_succ, List.getElem_cons_zero, Act.put, List.setIfInBounds_toArray, List.set_cons_zero, List.set_cons_succ]
  refine wpAnyH_take (i := 2) (oi := _) (v := ?_) rfl (by kernel_rfl) (by kernel_rfl) (by kernel_rfl) (fun _ _ _ h => h) (Or.inl ⟨by rfl, ?_⟩) (by assumption) ?_
  rotate_left
  focus
    intro w hSw
    obtain ⟨qs0, qs1, qs2⟩ := Blk.three hSw
    go_simp
    try with_reducible rfl
  try simp only [List.getElem_toArray, List.getElem_cons_succ, List.getElem_cons_zero, Act.put, List.setIfInBounds_toArray, List.set_cons_zero, List.set_cons_succ]
  refine wpAnyH_take (i := 3) (oi := _) (v := ?_) rfl (by kernel_rfl) (by kernel_rfl) (by kernel_rfl) (fun _ _ _ h => h) (Or.inl ⟨by rfl, ?_⟩) (by assumption) ?_
  rotate_left
  focus
    intro w hSw
    obtain ⟨qs0, qs1, qs2⟩ := Blk.three hSw
    go_simp
    try with_reducible rfl
  try simp only [List.getElem_toArray, List.getElem_cons_succ, List.getElem_cons_zero, Act.put, List.setIfInBounds_toArray, List.set_cons_zero, List.set_cons_succ]
  refine wpAnyH_take (i := 6) (oi := _) (v := ?_) rfl (by kernel_rfl) (by kernel_rfl) (by kernel_rfl) (fun _ _ _ h => h) (Or.inl ⟨by rfl, ?_⟩) (by assumption) ?_
  rotate_left
  focus
    intro w hSw
    obtain ⟨qs0, qs1, qs2⟩ := Blk.three hSw
    go_simp
    try with_reducible rfl
  try simp only [List.getElem_toArray, List.getElem_cons_succ, List.getElem_cons_zero, Act.put, List.setIfInBounds_toArray, List.set_cons_zero, List.set_cons_succ]
  refine wpAnyH_take (i := 7) (oi := _) (v := ?_) rfl (by kernel_rfl) (by kernel_rfl) (by kernel_rfl) (fun _ _ _ h => h) (Or.inl ⟨by rfl, ?_⟩) (by assumption) ?_
  rotate_left
  focus
    intro w hSw
    obtain ⟨qs0, qs1, qs2⟩ := Blk.three hSw
    go_simp
    try with_reducible rfl
  try simp only [List.getElem_toArray, List.getElem_cons_succ, List.getElem_cons_zero, Act.put, List.setIfInBounds_toArray, List.set_cons_zero, List.set_cons_succ]
  refine wpAnyH_take (i := 9) (oi := _) (v := ?_) rfl (by kernel_rfl) (by kernel_rfl) (by kernel_rfl) (fun _ _ _ h => h) (Or.inl ⟨by rfl, ?_⟩) (by assumption) ?_
  rotate_left
  focus
    intro w hSw
    obtain ⟨qs0, qs1, qs2⟩ := Blk.three hSw
    go_simp
    try with_reducible rfl
  try simp only [List.getElem_toArray, List.getElem_cons_succ, List.getElem_cons_zero, Act.put, List.setIfInBounds_toArray, List.set_cons_zero, List.set_cons_succ]
  refine wpAnyH_take (i := 10) (oi := _) (v := ?_) rfl (by kernel_rfl) (by kernel_rfl) (by kernel_rfl) (fun _ _ _ h => h) (Or.inl ⟨by rfl, ?_⟩) (by assumption) ?_
  rotate_left
  focus
    intro w hSw
    obtain ⟨qs0, qs1, qs2⟩ := Blk.three hSw
    go_simp
    try with_reducible rfl
  try simp only [List.getElem_toArray, List.getElem_cons_succ, List.getElem_cons_zero, Act.put, List.setIfInBounds_toArray, List.set_cons_zero, List.set_cons_succ]
  refine wpAnyH_ready (rs := [4]) (by kernel_rfl) (by simp) ?_
  refine AllReadyH.cons (o := _) rfl (fun K hK => ?_) ?_
  · go_simp
    obtain ⟨v1, ev1⟩ : ∃ x, x = Xd.alloc (.cells #[.int .u8 (IntKind.u8.wrap k)] 5) := ⟨_, rfl⟩
    rw [← ev1]
    have Hv1O : Hid (OwnT v1 W.heap.size (.slice A0 l.length c0) l) := Lib.hid (ev1 ▸ HXdO.out.alloc _)
    have hKv1 : Blk v1 gv 43 #[.int .i64 k, .int .i64 n, .int .i64 g] := ev1 ▸ HXdK.out.alloc _
    have Hv1K := Lib.hid hKv1
    have Hv1Y : Hid (Say W.heap.size X v1) := Lib.hid (ev1 ▸ HXdY.out.alloc hsXd _)
    have hzv1 : v1.heap.size = Xd.heap.size + 1 := by rw [ev1]; simp
    have hsv1 : W.heap.size ≤ v1.heap.size := by omega
    have gv1_4 : Hid (Blk v1 Xd.heap.size 5 #[.int .u8 (IntKind.u8.wrap k)]) := Lib.hid (ev1 ▸ Blk.new Xd _ _)
    clear ev1
    refine hK.out _ _ ?_ (fun hHeld => ?_)
    · exact hKv1
    · clear hK K
      try simp only [List.getElem_toArray, List.getElem_cons_succ, List.getElem_cons_zero, Act.put, List.setIfInBounds_toArray, List.set_cons_zero, List.set_cons_succ]
      refine wpAnyH_ready (rs := [5]) (by kernel_rfl) (by simp) ?_
      refine AllReadyH.cons (o := _) rfl (fun K hK => ?_) ?_
      · refine wp_litK (r := r1) (.tmp 5) (.tmp 9) rfl Hv1O.out gv1_4.out Hr1c.out Hr1l.out Hy1.out (by have := Hr1l.out; omega) (by omega) (by simp [Act.eval, Act.put]) (by simp [Act.eval, Act.put]) ?_
        intro Av2 cv2 v2 hO hY hkp
        have Hv2O := Lib.hid hO
        have hKv2 := Hv1K.out.say hY (by decide)
        have Hv2K := Lib.hid hKv2
        have hsv2 : W.heap.size ≤ v2.heap.size := Nat.le_trans hsv1 hY.size
        have hzv2 := hY.size
        have Hv2Y := Lib.hid (Hv1Y.out.trans hY)
        clear hO hY hkp
        refine hK.out _ _ ?_ (fun hHeld => ?_)
        · exact hKv2
        · clear hK K
          try simp only [List.getElem_toArray, List.getElem_cons_succ, List.getElem_cons_zero, Act.put, List.setIfInBounds_toArray, List.set_cons_zero, List.set_cons_succ]
          refine wpAnyH_ready (rs := [8]) (by kernel_rfl) (by simp) ?_
          refine AllReadyH.cons (o := _) rfl (fun K hK => ?_) ?_
          · go_simp
            refine Calls.mono (l8num_h y1 _ n W.heap.size _ (by omega) hsv2 (by omega) Hv2O.out) ?_
            rintro e v3 ⟨Av3, cv3, rfl, hO, hY⟩
            rw [Hy2.out] at hO
            rw [Hy2.out]
            have Hv3O := Lib.hid hO
            have hKv3 := Hv2K.out.say hY (by decide)
            have Hv3K := Lib.hid hKv3
            have hsv3 : W.heap.size ≤ v3.heap.size := Nat.le_trans hsv2 hY.size
            have hzv3 := hY.size
            have Hv3Y := Lib.hid (Hv2Y.out.trans hY)
            clear hO hY
            refine hK.out _ _ ?_ (fun hHeld => ?_)
            · exact hKv3
            · clear hK K
              try simp only [List.getElem_toArray, List.getElem_cons_succ, List.getElem_cons_zero, Act.put, List.setIfInBounds_toArray, List.set_cons_zero, List.set_cons_succ]
              refine wpAnyH_ready (rs := [11]) (by kernel_rfl) (by simp) ?_
              refine AllReadyH.cons (o := _) rfl (fun K hK => ?_) ?_
              · go_simp
                refine Calls.mono (l8num_h y2 _ g W.heap.size _ (by omega) hsv3 (by omega) Hv3O.out) ?_
                rintro e v4 ⟨Av4, cv4, rfl, hO, hY⟩
                rw [Hy3.out] at hO
                rw [Hy3.out]
                have Hv4O := Lib.hid hO
                have hKv4 := Hv3K.out.say hY (by decide)
                have Hv4K := Lib.hid hKv4
                have hsv4 : W.heap.size ≤ v4.heap.size := Nat.le_trans hsv3 hY.size
                have hzv4 := hY.size
                have Hv4Y := Lib.hid (Hv3Y.out.trans hY)
                clear hO hY
                refine hK.out _ _ ?_ (fun hHeld => ?_)
                · exact hKv4
                · clear hK K
                  try simp only [List.getElem_toArray, List.getElem_cons_succ, List.getElem_cons_zero, Act.put, List.setIfInBounds_toArray, List.set_cons_zero, List.set_cons_succ]
                  refine wpAnyH_take (i := 12) (oi := _) (v := ?_) rfl (by kernel_rfl) (by kernel_rfl) (by kernel_rfl) (fun _ _ _ h => h) (Or.inl ⟨by rfl, ?_⟩) (by assumption) ?_
                  rotate_left
                  focus
                    intro w hSw
                    obtain ⟨qs0, qs1, qs2⟩ := Blk.three hSw
                    go_simp
                    try with_reducible rfl
                  try simp only [List.getElem_toArray, List.getElem_cons_succ, List.getElem_cons_zero, Act.put, List.setIfInBounds_toArray, List.set_cons_zero, List.set_cons_succ]
                  refine wpAnyH_done (by kernel_rfl) ?_ _
                  refine NoPanic.normal ?_
                  try go_wp2_with fail
                  go_ret
                  exact ⟨_, _, rfl, Hv4O.out, HX0.out.trans Hv4Y.out⟩
              exact AllReadyH.nil
          exact AllReadyH.nil
      exact AllReadyH.nil
  exact AllReadyH.nil
end
section
variable (l : List UInt8) (v : Value) (xs : List Int) (A : Option Addr) (c L0 B0 : Nat) (W w : World)
set_option maxRecDepth 100000 in
set_option maxHeartbeats 4000000 in
theorem l8list_c (hB : W.heap.size ≤ w.heap.size) (hB0 : B0 ≤ W.heap.size) (hl : l.length ≤ 140737400000000) (hx : xs.length ≤ 1050000) (hI : IL w L0 B0 A xs) (h : OwnT w W.heap.size v l) :
    Calls Try.prog 71 #[v, .slice A xs.length c] w fun e w' => ∃ A c, e = .returned (.slice A (l ++ lstB xs).length c) ∧ OwnT w' W.heap.size (.slice A (l ++ lstB xs).length c) (l ++ lstB xs) ∧ Say W.heap.size w w' := by
  obtain ⟨Av, cv, rfl, _⟩ := h.form
  obtain ⟨y, hy⟩ : ∃ y, l ++ by8 xs.length = y := ⟨_, rfl⟩
  have Hn := Lib.hid (l8num_c l (.slice Av l.length cv) xs.length W.heap.size w hB (by omega) h)
  have Hend := Lib.hid (show l ++ lstB xs = y ++ catTo by8 xs xs.length by unfold lstB; rw [← hy, List.append_assoc])
  have hyl : y.length ≤ 140737400000008 := by rw [← hy, List.length_append, by8_len]; omega
  rw [hy] at Hn
  have HI := Lib.hid hI
  clear h hI hy
  go_enter Try.func71, Try.ntmps71
  go_wp2_with fail
  refine Hn.out.mono ?_
  rintro e w1 ⟨A1, c1, rfl, hO1, hY1⟩
  have HO1 := Lib.hid hO1
  have HY1 := Lib.hid hY1
  have hs1 := hY1.size
  clear hO1 hY1 Hn
  go_wp2_with fail
  go_loopw [0, 5] (fun t i wr => ∃ (j : Nat) (x : List UInt8) (At : Option Addr) (ct : Nat), j ≤ xs.length ∧ i = .int .i64 j ∧ t = .slice At x.length ct ∧ Hid (x = y ++ catTo by8 xs j) ∧ Hid (OwnT wr W.heap.size (.slice At x.length ct) x) ∧ Hid (Say W.heap.size w wr)) (fun _ i _ => xs.length - (intOf i).toNat)
  case atStart => exact ⟨0, y, A1, c1, Nat.zero_le _, rfl, rfl, Lib.hid (by simp [catTo_zero]), HO1, HY1⟩
  case round =>
    obtain ⟨j, x, At, ct, hj, rfl, rfl, hxe, hO, hY⟩ := hrel
    have hsz := hY.out.size
    by_cases hlt : j < xs.length
    · obtain ⟨ad, rfl, _, hbk, hat⟩ := (HI.out.below (hY.out.below.mono hB0)).2 (by omega)
      have q0 := hat j hlt
      have hxl : x.length ≤ 140737400000008 + 8 * j := by rw [hxe.out, List.length_append]; have := lst_len xs (k := j) (by omega); omega
      have Hc := Lib.hid (l8num_c x (.slice At x.length ct) xs[j] W.heap.size wr (by omega) (by omega) hO.out)
      have Hnx := Lib.hid (show x ++ by8 xs[j] = y ++ catTo by8 xs (j + 1) by rw [catTo_succ hlt, hxe.out, List.append_assoc])
      obtain ⟨z, hz⟩ : ∃ z, x ++ by8 xs[j] = z := ⟨_, rfl⟩
      rw [hz] at Hc Hnx
      obtain ⟨m, hm⟩ : ∃ m, m = xs[j] := ⟨_, rfl⟩
      rw [← hm] at q0 Hc
      have Hz := Lib.hid hz
      clear hat hz hm hO hxe
      go_wp2_with fail
      refine Hc.out.mono ?_
      rintro e w2 ⟨A2, c2, rfl, hO2, hY2⟩
      have HO2 := Lib.hid hO2
      have HY2 := Lib.hid (hY.out.trans hY2)
      clear hO2 hY2 Hc q0 hY
      go_wp2_with fail
      go_roundw
      case rel => exact ⟨j + 1, z, A2, c2, by omega, by go_num, rfl, Hnx, HO2, HY2⟩
      case measure => simp [intOf]; omega
    · obtain rfl : j = xs.length := by omega
      go_wp2
      go_ret
      rw [Hend.out, ← hxe.out]
      exact ⟨_, _, rfl, hO.out, hY.out⟩
end
end Frz
end Go.Proofs.Ytfmlgpnjckamjaa
