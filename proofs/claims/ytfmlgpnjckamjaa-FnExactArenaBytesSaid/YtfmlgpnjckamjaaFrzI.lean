/-
  The program's numbers, values, fields, slots and arenas in bytes behind a row.
-/
import Derived.Test.YtfmlgpnjckamjaaEachI
import Derived.Test.YtfmlgpnjckamjaaEachF
import Derived.Test.YtfmlgpnjckamjaaEachS
import Derived.Test.YtfmlgpnjckamjaaFrzV
import Derived.Test.YtfmlgpnjckamjaaLitD
import Derived.Deep.DeepCutAuto
import Derived.Deep.RegionHeld3
namespace Go.Proofs.Ytfmlgpnjckamjaa
open Go.RowKit
set_option linter.unusedVariables false
set_option linter.unusedSimpArgs false
namespace Frz
theorem row_two {w : World} {g : Nat} {a b : Int} (h : Blk w g 3 #[.int .i64 a, .int .i64 b]) : RowI w g [a, b] := ⟨_, h, fun k hk => by
  match k, hk with
  | 0, _ => rfl
  | 1, _ => rfl⟩
section
variable (l : List UInt8) (v : Value) (xs : List Int) (gr c B : Nat) (w : World)
set_option maxRecDepth 100000 in
set_option maxHeartbeats 2000000 in
theorem appendNumbers_c (hB : B ≤ w.heap.size) (hl : l.length ≤ 140737300000000) (hm : xs.length ≤ 1050000) (hI : RowI w gr xs) (hO : OwnT w B v l) :
    Calls Try.prog 101 #[v, .slice (some ⟨gr, 0, none⟩) xs.length c] w fun e w' => ∃ A c, e = .returned (.slice A (l ++ catTo by8 xs xs.length).length c) ∧ OwnT w' B (.slice A (l ++ catTo by8 xs xs.length).length c) (l ++ catTo by8 xs xs.length) ∧ Say B w w' := by
  obtain ⟨Av, cv, rfl, _⟩ := hO.form
  have Hc := Lib.hid (eachInt2_c l (.slice Av l.length cv) xs gr c B 140737400000000 w hB hm hI hO (Nat.le_refl _) (fun k hk => by have := lst_len xs hk; omega) (fun k hk u x v W h1 h2 hel hO => by
    obtain rfl : u = .int .i64 xs[k] := hel
    exact appendNumber_c x v xs[k] B W h1 (by omega) hO))
  obtain ⟨z, hz⟩ : ∃ z, l ++ catTo by8 xs xs.length = z := ⟨_, rfl⟩
  rw [hz] at Hc ⊢
  clear hI hO hz
  go_enter Try.func101, Try.ntmps101
  go_wp2_with fail
  refine Hc.out.mono ?_
  rintro e w1 ⟨A1, c1, rfl, hO1, hY1⟩
  have HO1 := Lib.hid hO1
  have HY1 := Lib.hid hY1
  clear hO1 hY1 Hc
  go_wp2
  go_ret
  exact ⟨A1, c1, rfl, HO1.out, HY1.out⟩
end
section
variable (l : List UInt8) (v : Value) (k n g : Int) (W w : World)
set_option maxRecDepth 100000 in
set_option maxHeartbeats 4000000 in
theorem appendVal_c (hB : W.heap.size ≤ w.heap.size) (hl : l.length ≤ 140737200000000) (h : OwnT w W.heap.size v l) :
    Calls Try.prog 130 #[v, .agg #[.int .i64 k, .int .i64 n, .int .i64 g]] w fun e w' => ∃ A c, e = .returned (.slice A (l ++ valB k n g).length c) ∧ OwnT w' W.heap.size (.slice A (l ++ valB k n g).length c) (l ++ valB k n g) ∧ Say W.heap.size w w' := by
  obtain ⟨A0, c0, rfl, _⟩ := h.form
  obtain ⟨r1, hr1⟩ : ∃ r, r = b1 k := ⟨_, rfl⟩
  obtain ⟨y1, hy1⟩ : ∃ y, l ++ r1 = y := ⟨_, rfl⟩
  obtain ⟨y3, hy3⟩ : ∃ y, y1 ++ catTo by8 [n, g] [n, g].length = y := ⟨_, rfl⟩
  have hr1l : r1.length = 1 := by rw [hr1]; rfl
  rw [show l ++ valB k n g = y3 by unfold valB; rw [← hy3, ← hy1, hr1]; simp [catTo]]
  have hl1 : y1.length ≤ 140737200000001 := by rw [← hy1, List.length_append]; omega
  have Hy1 := Lib.hid hy1
  have Hy3 := Lib.hid hy3
  have Hr1l := Lib.hid hr1l
  have Hr1c := Lib.hid (show (#[.int .u8 (IntKind.u8.wrap k)] : Array Value).toList = vb r1 from by rw [hr1]; exact b1_cell k)
  obtain ⟨X, hX⟩ : ∃ X, X = w.alloc (.cells #[.int .i64 k, .int .i64 n, .int .i64 g] 43) := ⟨_, rfl⟩
  obtain ⟨gv, hgv⟩ : ∃ x, x = w.heap.size := ⟨_, rfl⟩
  have HXO : Hid (OwnT X W.heap.size (.slice A0 l.length c0) l) := Lib.hid (hX ▸ h.alloc _)
  have HXK : Hid (Blk X gv 43 #[.int .i64 k, .int .i64 n, .int .i64 g]) := Lib.hid (by rw [hX, hgv]; exact Blk.new w _ _)
  have HX0 : Hid (Say W.heap.size w X) := Lib.hid (hX ▸ (Say.refl W.heap.size w).alloc hB _)
  have hsX : W.heap.size ≤ X.heap.size := Nat.le_trans hB HX0.out.size
  have HX := Lib.hid hX
  have Hgv := Lib.hid hgv
  clear h hX hgv hy1 hy3 hr1 hr1l
  go_enter Try.func130, Try.ntmps130
  go_upto_region 1 with fail
  rw [← HX.out, ← Hgv.out]
  clear HX Hgv
  obtain ⟨Xd, eXd⟩ : ∃ x, x = X.drew := ⟨_, rfl⟩
  have HXdO : Hid (OwnT Xd W.heap.size (.slice A0 l.length c0) l) := Lib.hid (eXd ▸ (show OwnT X.drew _ _ _ from HXO.out))
  have HXdK : Hid (Blk Xd gv 43 #[.int .i64 k, .int .i64 n, .int .i64 g]) := Lib.hid (eXd ▸ HXK.out.drew)
  have HXdY : Hid (Say W.heap.size X Xd) := Lib.hid (eXd ▸ (Say.refl W.heap.size X).drew)
  have hsX0 := hsX
  have hsXd : W.heap.size ≤ Xd.heap.size := Nat.le_trans hsX0 HXdY.out.size
  refine wp_region_noPanic ?_
  refine wp_region_held_drew (S := (fun W => Blk W gv 43 #[.int .i64 k, .int .i64 n, .int .i64 g])) (by kernel_rfl) ?_ (fun hHeld => ?_)
  · exact eXd ▸ HXdK.out
  rw [← eXd]
  have hSS := HXdK.out
  clear eXd
  refine wpAnyH_take (i := 0) (oi := _) (v := ?_) rfl (by kernel_rfl) (by kernel_rfl) (by kernel_rfl) (fun _ _ _ h => h) (Or.inl ⟨by rfl, ?_⟩) (by assumption) ?_
  rotate_left
  focus
    intro w hSw
    obtain ⟨qs0, qs1, qs2⟩ := Blk.three hSw
    go_simp
    try with_reducible rfl
  try simp only [List.getElem_toArray, List.getElem_cons_succ, List.getElem_cons_zero, Act.put, List.setIfInBounds_toArray, List.set_cons_zero, List.set_cons_succ]
  refine wpAnyH_take (i := 1) (oi := _) (v := ?_) rfl (by kernel_rfl) (by kernel_rfl) (by kernel_rfl) (fun _ _ _ h => h) (Or.inl ⟨by rfl, ?_⟩) (by assumption) ?_
  rotate_left
  focus
    intro w hSw
    obtain ⟨qs0, qs1, qs2⟩ := Blk.three hSw
    go_simp
    try with_reducible rfl
  try simp only [List.getElem_toArray, List.getElem_cons_succ, List.getElem_cons_zero, Act.put, List.setIfInBounds_toArray, List.set_cons_zero, List.set_cons_succ]
  refine wpAnyH_take (i := 2) (oi := _) (v := ?_) rfl (by kernel_rfl) (by kernel_rfl) (by kernel_rfl) (fun _ _ _ h => h) (Or.inl ⟨by rfl, ?_⟩) (by assumption) ?_
  rotate_left
  focus
    intro w hSw
    obtain ⟨qs0, qs1, qs2⟩ := Blk.three hSw
    go_simp
    try with_reducible rfl
  try simp only [List.getElem_toArray, List.getElem_cons_succ, List.getElem_cons_zero, Act.put, List.setIfInBounds_toArray, List.set_cons_zero, List.set_cons_succ]
  refine wpAnyH_take (i := 3) (oi := _) (v := ?_) rfl (by kernel_rfl) (by kernel_rfl) (by kernel_rfl) (fun _ _ _ h => h) (Or.inl ⟨by rfl, ?_⟩) (by assumption) ?_
  rotate_left
  focus
    intro w hSw
    obtain ⟨qs0, qs1, qs2⟩ := Blk.three hSw
    go_simp
    try with_reducible rfl
  try simp only [List.getElem_toArray, List.getElem_cons_succ, List.getElem_cons_zero, Act.put, List.setIfInBounds_toArray, List.set_cons_zero, List.set_cons_succ]
  refine wpAnyH_take (i := 6) (oi := _) (v := ?_) rfl (by kernel_rfl) (by kernel_rfl) (by kernel_rfl) (fun _ _ _ h => h) (Or.inl ⟨by rfl, ?_⟩) (by assumption) ?_
  rotate_left
  focus
    intro w hSw
    obtain ⟨qs0, qs1, qs2⟩ := Blk.three hSw
    go_simp
    try with_reducible rfl
  try simp only [List.getElem_toArray, List.getElem_cons_succ, List.getElem_cons_zero, Act.put, List.setIfInBounds_toArray, List.set_cons_zero, List.set_cons_succ]
  refine wpAnyH_take (i := 7) (oi := _) (v := ?_) rfl (by kernel_rfl) (by kernel_rfl) (by kernel_rfl) (fun _ _ _ h => h) (Or.inl ⟨by rfl, ?_⟩) (by assumption) ?_
  rotate_left
  focus
    intro w hSw
    obtain ⟨qs0, qs1, qs2⟩ := Blk.three hSw
    go_simp
    try with_reducible rfl
  try simp only [List.getElem_toArray, List.getElem_cons_succ, List.getElem_cons_zero, Act.put, List.setIfInBounds_toArray, List.set_cons_zero, List.set_cons_succ]
  refine wpAnyH_take (i := 8) (oi := _) (v := ?_) rfl (by kernel_rfl) (by kernel_rfl) (by kernel_rfl) (fun _ _ _ h => h) (Or.inl ⟨by rfl, ?_⟩) (by assumption) ?_
  rotate_left
  focus
    intro w hSw
    obtain ⟨qs0, qs1, qs2⟩ := Blk.three hSw
    go_simp
    try with_reducible rfl
  try simp only [List.getElem_toArray, List.getElem_cons_succ, List.getElem_cons_zero, Act.put, List.setIfInBounds_toArray, List.set_cons_zero, List.set_cons_succ]
  refine wpAnyH_take (i := 9) (oi := _) (v := ?_) rfl (by kernel_rfl) (by kernel_rfl) (by kernel_rfl) (fun _ _ _ h => h) (Or.inl ⟨by rfl, ?_⟩) (by assumption) ?_
  rotate_left
  focus
    intro w hSw
    obtain ⟨qs0, qs1, qs2⟩ := Blk.three hSw
    go_simp
    try with_reducible rfl
  try simp only [List.getElem_toArray, List.getElem_cons_succ, List.getElem_cons_zero, Act.put, List.setIfInBounds_toArray, List.set_cons_zero, List.set_cons_succ]
  refine wpAnyH_ready (rs := [4, 10]) (by kernel_rfl) (by simp) ?_
  refine AllReadyH.cons (o := _) rfl (fun K hK => ?_) ?_
  · go_simp
    obtain ⟨p1, ep1⟩ : ∃ x, x = Xd.alloc (.cells #[.int .u8 (IntKind.u8.wrap k)] 5) := ⟨_, rfl⟩
    rw [← ep1]
    have Hp1K : Hid (Blk p1 gv 43 #[.int .i64 k, .int .i64 n, .int .i64 g]) := Lib.hid (ep1 ▸ HXdK.out.alloc _)
    have Hp1O : Hid (OwnT p1 W.heap.size (.slice A0 l.length c0) l) := Lib.hid (ep1 ▸ HXdO.out.alloc _)
    have Hp1Y : Hid (Say W.heap.size X p1) := Lib.hid (ep1 ▸ HXdY.out.alloc hsXd _)
    have hsp1 : W.heap.size ≤ p1.heap.size := Nat.le_trans hsX0 Hp1Y.out.size
    have Hp1G : Hid (Blk p1 Xd.heap.size 5 #[.int .u8 (IntKind.u8.wrap k)]) := Lib.hid (ep1 ▸ Blk.new Xd _ _)
    clear ep1
    refine hK.out _ _ ?_ (fun hHeld => ?_)
    · exact Hp1K.out
    · clear hK K
      try simp only [List.getElem_toArray, List.getElem_cons_succ, List.getElem_cons_zero, Act.put, List.setIfInBounds_toArray, List.set_cons_zero, List.set_cons_succ]
      refine wpAnyH_ready (rs := [5, 10]) (by kernel_rfl) (by simp) ?_
      refine AllReadyH.cons (o := _) rfl (fun K hK => ?_) ?_
      · refine wp_litK (r := r1) (.tmp 5) (.tmp 9) rfl Hp1O.out Hp1G.out Hr1c.out Hr1l.out Hy1.out (by have := Hr1l.out; omega) (by omega) (by simp [Act.eval, Act.put]) (by simp [Act.eval, Act.put]) ?_
        intro Ap2 cp2 p2 hO hY hkp
        have Hp2O := Lib.hid hO
        have Hp2K := Lib.hid (Hp1K.out.say hY (by decide))
        have hsp2 : W.heap.size ≤ p2.heap.size := Nat.le_trans hsp1 hY.size
        have Hp2Y := Lib.hid (Hp1Y.out.trans hY)
        clear hO hY hkp
        refine hK.out _ _ ?_ (fun hHeld => ?_)
        · exact Hp2K.out
        · clear hK K
          try simp only [List.getElem_toArray, List.getElem_cons_succ, List.getElem_cons_zero, Act.put, List.setIfInBounds_toArray, List.set_cons_zero, List.set_cons_succ]
          refine wpAnyH_ready (rs := [10]) (by kernel_rfl) (by simp) ?_
          refine AllReadyH.cons (o := _) rfl (fun K hK => ?_) ?_
          · go_simp
            obtain ⟨p3, ep3⟩ : ∃ x, x = p2.alloc (.cells #[.int .i64 n, .int .i64 g] 3) := ⟨_, rfl⟩
            rw [← ep3]
            have Hp3K : Hid (Blk p3 gv 43 #[.int .i64 k, .int .i64 n, .int .i64 g]) := Lib.hid (ep3 ▸ Hp2K.out.alloc _)
            have Hp3O : Hid (OwnT p3 W.heap.size (.slice Ap2 y1.length cp2) y1) := Lib.hid (ep3 ▸ Hp2O.out.alloc _)
            have Hp3Y : Hid (Say W.heap.size X p3) := Lib.hid (ep3 ▸ Hp2Y.out.alloc hsp2 _)
            have hsp3 : W.heap.size ≤ p3.heap.size := Nat.le_trans hsX0 Hp3Y.out.size
            have Hp3I : Hid (Blk p3 p2.heap.size 3 #[.int .i64 n, .int .i64 g]) := Lib.hid (ep3 ▸ Blk.new p2 _ _)
            clear ep3
            refine hK.out _ _ ?_ (fun hHeld => ?_)
            · exact Hp3K.out
            · clear hK K
              try simp only [List.getElem_toArray, List.getElem_cons_succ, List.getElem_cons_zero, Act.put, List.setIfInBounds_toArray, List.set_cons_zero, List.set_cons_succ]
              refine wpAnyH_ready (rs := [11]) (by kernel_rfl) (by simp) ?_
              refine AllReadyH.cons (o := _) rfl (fun K hK => ?_) ?_
              · go_simp
                refine Calls.mono (appendNumbers_c y1 _ [n, g] (p2.heap.size) 2 W.heap.size p3 hsp3 (by omega) (by simp) (row_two Hp3I.out) Hp3O.out) ?_
                rintro e p4 ⟨Ap4, cp4, rfl, hO, hY⟩
                rw [show y1 ++ catTo by8 [n, g] [n, g].length = y3 from Hy3.out] at hO
                rw [show y1 ++ catTo by8 [n, g] [n, g].length = y3 from Hy3.out]
                have Hp4O := Lib.hid hO
                have Hp4K := Lib.hid (Hp3K.out.say hY (by decide))
                have hsp4 : W.heap.size ≤ p4.heap.size := Nat.le_trans hsp3 hY.size
                have Hp4Y := Lib.hid (Hp3Y.out.trans hY)
                clear hO hY
                refine hK.out _ _ ?_ (fun hHeld => ?_)
                · exact Hp4K.out
                · clear hK K
                  try simp only [List.getElem_toArray, List.getElem_cons_succ, List.getElem_cons_zero, Act.put, List.setIfInBounds_toArray, List.set_cons_zero, List.set_cons_succ]
                  refine wpAnyH_take (i := 12) (oi := _) (v := ?_) rfl (by kernel_rfl) (by kernel_rfl) (by kernel_rfl) (fun _ _ _ h => h) (Or.inl ⟨by rfl, ?_⟩) (by assumption) ?_
                  rotate_left
                  focus
                    intro w hSw
                    obtain ⟨qs0, qs1, qs2⟩ := Blk.three hSw
                    go_simp
                    try with_reducible rfl
                  try simp only [List.getElem_toArray, List.getElem_cons_succ, List.getElem_cons_zero, Act.put, List.setIfInBounds_toArray, List.set_cons_zero, List.set_cons_succ]
                  refine wpAnyH_done (by kernel_rfl) ?_ _
                  refine NoPanic.normal ?_
                  try go_wp2_with fail
                  go_ret
                  exact ⟨_, _, rfl, Hp4O.out, HX0.out.trans Hp4Y.out⟩
              exact AllReadyH.nil
          exact AllReadyH.nil
      refine AllReadyH.cons (o := _) rfl (fun K hK => ?_) ?_
      · go_simp
        obtain ⟨p5, ep5⟩ : ∃ x, x = p1.alloc (.cells #[.int .i64 n, .int .i64 g] 3) := ⟨_, rfl⟩
        rw [← ep5]
        have Hp5K : Hid (Blk p5 gv 43 #[.int .i64 k, .int .i64 n, .int .i64 g]) := Lib.hid (ep5 ▸ Hp1K.out.alloc _)
        have Hp5O : Hid (OwnT p5 W.heap.size (.slice A0 l.length c0) l) := Lib.hid (ep5 ▸ Hp1O.out.alloc _)
        have Hp5Y : Hid (Say W.heap.size X p5) := Lib.hid (ep5 ▸ Hp1Y.out.alloc hsp1 _)
        have hsp5 : W.heap.size ≤ p5.heap.size := Nat.le_trans hsX0 Hp5Y.out.size
        have Hp5G : Hid (Blk p5 (Xd.heap.size) 5 #[.int .u8 (IntKind.u8.wrap k)]) := Lib.hid (ep5 ▸ Hp1G.out.alloc _)
        have Hp5I : Hid (Blk p5 p1.heap.size 3 #[.int .i64 n, .int .i64 g]) := Lib.hid (ep5 ▸ Blk.new p1 _ _)
        clear ep5
        refine hK.out _ _ ?_ (fun hHeld => ?_)
        · exact Hp5K.out
        · clear hK K
          try simp only [List.getElem_toArray, List.getElem_cons_succ, List.getElem_cons_zero, Act.put, List.setIfInBounds_toArray, List.set_cons_zero, List.set_cons_succ]
          refine wpAnyH_ready (rs := [5]) (by kernel_rfl) (by simp) ?_
          refine AllReadyH.cons (o := _) rfl (fun K hK => ?_) ?_
          · refine wp_litK (r := r1) (.tmp 5) (.tmp 9) rfl Hp5O.out Hp5G.out Hr1c.out Hr1l.out Hy1.out (by have := Hr1l.out; omega) (by omega) (by simp [Act.eval, Act.put]) (by simp [Act.eval, Act.put]) ?_
            intro Ap6 cp6 p6 hO hY hkp
            have Hp6O := Lib.hid hO
            have Hp6K := Lib.hid (Hp5K.out.say hY (by decide))
            have hsp6 : W.heap.size ≤ p6.heap.size := Nat.le_trans hsp5 hY.size
            have Hp6Y := Lib.hid (Hp5Y.out.trans hY)
            have Hp6I := Lib.hid (Hp5I.out.say hY (by decide))
            clear hO hY hkp
            refine hK.out _ _ ?_ (fun hHeld => ?_)
            · exact Hp6K.out
            · clear hK K
              try simp only [List.getElem_toArray, List.getElem_cons_succ, List.getElem_cons_zero, Act.put, List.setIfInBounds_toArray, List.set_cons_zero, List.set_cons_succ]
              refine wpAnyH_ready (rs := [11]) (by kernel_rfl) (by simp) ?_
              refine AllReadyH.cons (o := _) rfl (fun K hK => ?_) ?_
              · go_simp
                refine Calls.mono (appendNumbers_c y1 _ [n, g] (p1.heap.size) 2 W.heap.size p6 hsp6 (by omega) (by simp) (row_two Hp6I.out) Hp6O.out) ?_
                rintro e p7 ⟨Ap7, cp7, rfl, hO, hY⟩
                rw [show y1 ++ catTo by8 [n, g] [n, g].length = y3 from Hy3.out] at hO
                rw [show y1 ++ catTo by8 [n, g] [n, g].length = y3 from Hy3.out]
                have Hp7O := Lib.hid hO
                have Hp7K := Lib.hid (Hp6K.out.say hY (by decide))
                have hsp7 : W.heap.size ≤ p7.heap.size := Nat.le_trans hsp6 hY.size
                have Hp7Y := Lib.hid (Hp6Y.out.trans hY)
                clear hO hY
                refine hK.out _ _ ?_ (fun hHeld => ?_)
                · exact Hp7K.out
                · clear hK K
                  try simp only [List.getElem_toArray, List.getElem_cons_succ, List.getElem_cons_zero, Act.put, List.setIfInBounds_toArray, List.set_cons_zero, List.set_cons_succ]
                  refine wpAnyH_take (i := 12) (oi := _) (v := ?_) rfl (by kernel_rfl) (by kernel_rfl) (by kernel_rfl) (fun _ _ _ h => h) (Or.inl ⟨by rfl, ?_⟩) (by assumption) ?_
                  rotate_left
                  focus
                    intro w hSw
                    obtain ⟨qs0, qs1, qs2⟩ := Blk.three hSw
                    go_simp
                    try with_reducible rfl
                  try simp only [List.getElem_toArray, List.getElem_cons_succ, List.getElem_cons_zero, Act.put, List.setIfInBounds_toArray, List.set_cons_zero, List.set_cons_succ]
                  refine wpAnyH_done (by kernel_rfl) ?_ _
                  refine NoPanic.normal ?_
                  try go_wp2_with fail
                  go_ret
                  exact ⟨_, _, rfl, Hp7O.out, HX0.out.trans Hp7Y.out⟩
              exact AllReadyH.nil
          exact AllReadyH.nil
      exact AllReadyH.nil
  refine AllReadyH.cons (o := _) rfl (fun K hK => ?_) ?_
  · go_simp
    obtain ⟨p8, ep8⟩ : ∃ x, x = Xd.alloc (.cells #[.int .i64 n, .int .i64 g] 3) := ⟨_, rfl⟩
    rw [← ep8]
    have Hp8K : Hid (Blk p8 gv 43 #[.int .i64 k, .int .i64 n, .int .i64 g]) := Lib.hid (ep8 ▸ HXdK.out.alloc _)
    have Hp8O : Hid (OwnT p8 W.heap.size (.slice A0 l.length c0) l) := Lib.hid (ep8 ▸ HXdO.out.alloc _)
    have Hp8Y : Hid (Say W.heap.size X p8) := Lib.hid (ep8 ▸ HXdY.out.alloc hsXd _)
    have hsp8 : W.heap.size ≤ p8.heap.size := Nat.le_trans hsX0 Hp8Y.out.size
    have Hp8I : Hid (Blk p8 Xd.heap.size 3 #[.int .i64 n, .int .i64 g]) := Lib.hid (ep8 ▸ Blk.new Xd _ _)
    clear ep8
    refine hK.out _ _ ?_ (fun hHeld => ?_)
    · exact Hp8K.out
    · clear hK K
      try simp only [List.getElem_toArray, List.getElem_cons_succ, List.getElem_cons_zero, Act.put, List.setIfInBounds_toArray, List.set_cons_zero, List.set_cons_succ]
      refine wpAnyH_ready (rs := [4]) (by kernel_rfl) (by simp) ?_
      refine AllReadyH.cons (o := _) rfl (fun K hK => ?_) ?_
      · go_simp
        obtain ⟨p9, ep9⟩ : ∃ x, x = p8.alloc (.cells #[.int .u8 (IntKind.u8.wrap k)] 5) := ⟨_, rfl⟩
        rw [← ep9]
        have Hp9K : Hid (Blk p9 gv 43 #[.int .i64 k, .int .i64 n, .int .i64 g]) := Lib.hid (ep9 ▸ Hp8K.out.alloc _)
        have Hp9O : Hid (OwnT p9 W.heap.size (.slice A0 l.length c0) l) := Lib.hid (ep9 ▸ Hp8O.out.alloc _)
        have Hp9Y : Hid (Say W.heap.size X p9) := Lib.hid (ep9 ▸ Hp8Y.out.alloc hsp8 _)
        have hsp9 : W.heap.size ≤ p9.heap.size := Nat.le_trans hsX0 Hp9Y.out.size
        have Hp9G : Hid (Blk p9 p8.heap.size 5 #[.int .u8 (IntKind.u8.wrap k)]) := Lib.hid (ep9 ▸ Blk.new p8 _ _)
        have Hp9I : Hid (Blk p9 (Xd.heap.size) 3 #[.int .i64 n, .int .i64 g]) := Lib.hid (ep9 ▸ Hp8I.out.alloc _)
        clear ep9
        refine hK.out _ _ ?_ (fun hHeld => ?_)
        · exact Hp9K.out
        · clear hK K
          try simp only [List.getElem_toArray, List.getElem_cons_succ, List.getElem_cons_zero, Act.put, List.setIfInBounds_toArray, List.set_cons_zero, List.set_cons_succ]
          refine wpAnyH_ready (rs := [5]) (by kernel_rfl) (by simp) ?_
          refine AllReadyH.cons (o := _) rfl (fun K hK => ?_) ?_
          · refine wp_litK (r := r1) (.tmp 5) (.tmp 9) rfl Hp9O.out Hp9G.out Hr1c.out Hr1l.out Hy1.out (by have := Hr1l.out; omega) (by omega) (by simp [Act.eval, Act.put]) (by simp [Act.eval, Act.put]) ?_
            intro Ap10 cp10 p10 hO hY hkp
            have Hp10O := Lib.hid hO
            have Hp10K := Lib.hid (Hp9K.out.say hY (by decide))
            have hsp10 : W.heap.size ≤ p10.heap.size := Nat.le_trans hsp9 hY.size
            have Hp10Y := Lib.hid (Hp9Y.out.trans hY)
            have Hp10I := Lib.hid (Hp9I.out.say hY (by decide))
            clear hO hY hkp
            refine hK.out _ _ ?_ (fun hHeld => ?_)
            · exact Hp10K.out
            · clear hK K
              try simp only [List.getElem_toArray, List.getElem_cons_succ, List.getElem_cons_zero, Act.put, List.setIfInBounds_toArray, List.set_cons_zero, List.set_cons_succ]
              refine wpAnyH_ready (rs := [11]) (by kernel_rfl) (by simp) ?_
              refine AllReadyH.cons (o := _) rfl (fun K hK => ?_) ?_
              · go_simp
                refine Calls.mono (appendNumbers_c y1 _ [n, g] (Xd.heap.size) 2 W.heap.size p10 hsp10 (by omega) (by simp) (row_two Hp10I.out) Hp10O.out) ?_
                rintro e p11 ⟨Ap11, cp11, rfl, hO, hY⟩
                rw [show y1 ++ catTo by8 [n, g] [n, g].length = y3 from Hy3.out] at hO
                rw [show y1 ++ catTo by8 [n, g] [n, g].length = y3 from Hy3.out]
                have Hp11O := Lib.hid hO
                have Hp11K := Lib.hid (Hp10K.out.say hY (by decide))
                have hsp11 : W.heap.size ≤ p11.heap.size := Nat.le_trans hsp10 hY.size
                have Hp11Y := Lib.hid (Hp10Y.out.trans hY)
                clear hO hY
                refine hK.out _ _ ?_ (fun hHeld => ?_)
                · exact Hp11K.out
                · clear hK K
                  try simp only [List.getElem_toArray, List.getElem_cons_succ, List.getElem_cons_zero, Act.put, List.setIfInBounds_toArray, List.set_cons_zero, List.set_cons_succ]
                  refine wpAnyH_take (i := 12) (oi := _) (v := ?_) rfl (by kernel_rfl) (by kernel_rfl) (by kernel_rfl) (fun _ _ _ h => h) (Or.inl ⟨by rfl, ?_⟩) (by assumption) ?_
                  rotate_left
                  focus
                    intro w hSw
                    obtain ⟨qs0, qs1, qs2⟩ := Blk.three hSw
                    go_simp
                    try with_reducible rfl
                  try simp only [List.getElem_toArray, List.getElem_cons_succ, List.getElem_cons_zero, Act.put, List.setIfInBounds_toArray, List.set_cons_zero, List.set_cons_succ]
                  refine wpAnyH_done (by kernel_rfl) ?_ _
                  refine NoPanic.normal ?_
                  try go_wp2_with fail
                  go_ret
                  exact ⟨_, _, rfl, Hp11O.out, HX0.out.trans Hp11Y.out⟩
              exact AllReadyH.nil
          exact AllReadyH.nil
      exact AllReadyH.nil
  exact AllReadyH.nil
end
section
variable (l nm : List UInt8) (v : Value) (B BN : Nat) (NA : Option Addr) (nc : Nat) (w : World)
set_option maxRecDepth 100000 in
set_option maxHeartbeats 2000000 in
theorem appendName_c (hn : nm.length ≤ 6) (hB : B ≤ w.heap.size) (hBN : BN ≤ B) (hl : l.length ≤ 140737488350000) (h : OwnT w B v l) (hN : RB w BN NA nm) :
    Calls Try.prog 131 #[v, .slice NA nm.length nc] w fun e w' => ∃ A c, e = .returned (.slice A (l ++ nmB nm).length c) ∧ OwnT w' B (.slice A (l ++ nmB nm).length c) (l ++ nmB nm) ∧ Say B w w' := by
  obtain ⟨A0, c0, rfl, _⟩ := h.form
  obtain ⟨r, hr⟩ : ∃ r, r = b1 (nm.length : Int) := ⟨_, rfl⟩
  obtain ⟨y, hy⟩ : ∃ y, l ++ r = y := ⟨_, rfl⟩
  obtain ⟨z, hz⟩ : ∃ z, y ++ nm = z := ⟨_, rfl⟩
  have hrl : r.length = 1 := by rw [hr]; rfl
  have hyl : y.length ≤ 140737488350001 := by rw [← hy, List.length_append]; omega
  rw [show l ++ nmB nm = z by unfold nmB; rw [← hr, ← hz, ← hy]; simp]
  have Hy := Lib.hid hy
  have Hz := Lib.hid hz
  have Hr := Lib.hid hr
  have Hrl := Lib.hid hrl
  have HO := Lib.hid h
  have HN := Lib.hid hN
  clear h hy hz hr hrl hN
  go_enter Try.func131, Try.ntmps131
  go_wp2_with (first
    | (at_builtin; refine wpList_litT (r := r) rfl (.tmp 5) (.tmp 9) rfl rfl HO.out (by rw [Hr.out]; first | exact b1_cell _ | exact b1_cell' (by omega) (by omega)) rfl Hrl.out rfl Hy.out (by have := Hrl.out; omega) hB ?_; intro A1 c1 w1 hO1 hS1; have HO1 := Lib.hid hO1; have HN1 := Lib.hid (HN.out.below (hS1.below.mono hBN)); have hs1 : B ≤ w1.heap.size := Nat.le_trans hB hS1.size; have HS1 := Lib.hid hS1; clear hO1 hS1)
    | (at_builtin; refine wpList_rowT (r := nm) rfl (.tmp 11) (.tmp 12) rfl rfl HO1.out rfl HN1.out Hz.out (by omega) hs1 ?_; intro A2 c2 w2 hO2 hS2; have HO2 := Lib.hid hO2; have HS2 := Lib.hid (HS1.out.trans hS2); clear hO2 hS2))
  go_ret
  exact ⟨A2, c2, rfl, HO2.out, HS2.out⟩
end
section
variable (l : List UInt8) (v : Value) (nm : List UInt8) (k n g : Int) (NA : Option Addr) (nc B : Nat) (W w : World)
set_option maxRecDepth 100000 in
set_option maxHeartbeats 4000000 in
theorem appendField_c (hn : nm.length ≤ 6) (hB : W.heap.size ≤ w.heap.size) (hBW : B ≤ W.heap.size) (hl : l.length ≤ 140737190000000) (hN : RB w B NA nm) (h : OwnT w W.heap.size v l) :
    Calls Try.prog 102 #[v, .agg #[.slice NA nm.length nc, .int .i64 k, .int .i64 n, .int .i64 g]] w fun e w' => ∃ A c, e = .returned (.slice A (l ++ fdB ⟨nm, k, n, g⟩).length c) ∧ OwnT w' W.heap.size (.slice A (l ++ fdB ⟨nm, k, n, g⟩).length c) (l ++ fdB ⟨nm, k, n, g⟩) ∧ Say W.heap.size w w' := by
  obtain ⟨A0, c0, rfl, _⟩ := h.form
  obtain ⟨y1, hy1⟩ : ∃ y, l ++ nmB nm = y := ⟨_, rfl⟩
  obtain ⟨y2, hy2⟩ : ∃ y, y1 ++ valB k n g = y := ⟨_, rfl⟩
  rw [show l ++ fdB ⟨nm, k, n, g⟩ = y2 by unfold fdB; rw [← hy2, ← hy1]; simp]
  have hl1 : y1.length ≤ 140737190000007 := by rw [← hy1, List.length_append]; unfold nmB; rw [List.length_append]; show _ + (1 + _) ≤ _; omega
  have Hy1 := Lib.hid hy1
  have Hy2 := Lib.hid hy2
  obtain ⟨X, hX⟩ : ∃ X, X = w.alloc (.cells #[.slice NA nm.length nc, .int .i64 k, .int .i64 n, .int .i64 g] 92) := ⟨_, rfl⟩
  obtain ⟨gf, hgf⟩ : ∃ x, x = w.heap.size := ⟨_, rfl⟩
  have HXO : Hid (OwnT X W.heap.size (.slice A0 l.length c0) l) := Lib.hid (hX ▸ h.alloc _)
  have HXK : Hid (Blk X gf 92 #[.slice NA nm.length nc, .int .i64 k, .int .i64 n, .int .i64 g]) := Lib.hid (by rw [hX, hgf]; exact Blk.new w _ _)
  have HX0 : Hid (Say W.heap.size w X) := Lib.hid (hX ▸ (Say.refl W.heap.size w).alloc hB _)
  have HXN : Hid (RB X B NA nm) := Lib.hid (hN.below (HX0.out.below.mono hBW))
  have hsX : W.heap.size ≤ X.heap.size := Nat.le_trans hB HX0.out.size
  have HX := Lib.hid hX
  have Hgf := Lib.hid hgf
  clear h hX hgf hy1 hy2 hN
  go_enter Try.func102, Try.ntmps102
  go_upto_region 1 with fail
  rw [← HX.out, ← Hgf.out]
  clear HX Hgf
  obtain ⟨Xd, eXd⟩ : ∃ x, x = X.drew := ⟨_, rfl⟩
  have HXdO : Hid (OwnT Xd W.heap.size (.slice A0 l.length c0) l) := Lib.hid (eXd ▸ (show OwnT X.drew _ _ _ from HXO.out))
  have hKXd : Blk Xd gf 92 #[.slice NA nm.length nc, .int .i64 k, .int .i64 n, .int .i64 g] := eXd ▸ HXK.out.drew
  have HXdK := Lib.hid hKXd
  have HXdY : Hid (Say W.heap.size X Xd) := Lib.hid (eXd ▸ (Say.refl W.heap.size X).drew)
  have hzXd : Xd.heap.size = X.heap.size := by rw [eXd]; rfl
  have hsXd : W.heap.size ≤ Xd.heap.size := by omega
  have HXdN := Lib.hid (HXN.out.below (eXd ▸ (Below.refl B X).drew))
  refine wp_region_noPanic ?_
  refine wp_region_held_drew (S := (fun W => Blk W gf 92 #[.slice NA nm.length nc, .int .i64 k, .int .i64 n, .int .i64 g])) (by kernel_rfl) ?_ (fun hHeld => ?_)
  · exact eXd ▸ hKXd
  rw [← eXd]
  clear eXd
  refine wpAnyH_take (i := 0) (oi := _) (v := ?_) rfl (by kernel_rfl) (by kernel_rfl) (by kernel_rfl) (fun _ _ _ h => h) (Or.inl ⟨by rfl, ?_⟩) (by assumption) ?_
  rotate_left
  focus
    intro w hSw
    obtain ⟨qs0, qs1, qs2, qs3⟩ := Blk.four hSw
    go_simp
    try with_reducible rfl
  try simp only [List.getElem_toArray, List.getElem_cons_succ, List.getElem_cons_zero, Act.put, List.setIfInBounds_toArray, List.set_cons_zero, List.set_cons_succ]
  refine wpAnyH_take (i := 1) (oi := _) (v := ?_) rfl (by kernel_rfl) (by kernel_rfl) (by kernel_rfl) (fun _ _ _ h => h) (Or.inl ⟨by rfl, ?_⟩) (by assumption) ?_
  rotate_left
  focus
    intro w hSw
    obtain ⟨qs0, qs1, qs2, qs3⟩ := Blk.four hSw
    go_simp
    try with_reducible rfl
  try simp only [List.getElem_toArray, List.getElem_cons_succ, List.getElem_cons_zero, Act.put, List.setIfInBounds_toArray, List.set_cons_zero, List.set_cons_succ]
  refine wpAnyH_take (i := 2) (oi := _) (v := ?_) rfl (by kernel_rfl) (by kernel_rfl) (by kernel_rfl) (fun _ _ _ h => h) (Or.inl ⟨by rfl, ?_⟩) (by assumption) ?_
  rotate_left
  focus
    intro w hSw
    obtain ⟨qs0, qs1, qs2, qs3⟩ := Blk.four hSw
    go_simp
    try with_reducible rfl
  try simp only [List.getElem_toArray, List.getElem_cons_succ, List.getElem_cons_zero, Act.put, List.setIfInBounds_toArray, List.set_cons_zero, List.set_cons_succ]
  refine wpAnyH_take (i := 4) (oi := _) (v := ?_) rfl (by kernel_rfl) (by kernel_rfl) (by kernel_rfl) (fun _ _ _ h => h) (Or.inl ⟨by rfl, ?_⟩) (by assumption) ?_
  rotate_left
  focus
    intro w hSw
    obtain ⟨qs0, qs1, qs2, qs3⟩ := Blk.four hSw
    go_simp
    try with_reducible rfl
  try simp only [List.getElem_toArray, List.getElem_cons_succ, List.getElem_cons_zero, Act.put, List.setIfInBounds_toArray, List.set_cons_zero, List.set_cons_succ]
  refine wpAnyH_take (i := 5) (oi := _) (v := ?_) rfl (by kernel_rfl) (by kernel_rfl) (by kernel_rfl) (fun _ _ _ h => h) (Or.inl ⟨by rfl, ?_⟩) (by assumption) ?_
  rotate_left
  focus
    intro w hSw
    obtain ⟨qs0, qs1, qs2, qs3⟩ := Blk.four hSw
    go_simp
    try with_reducible rfl
  try simp only [List.getElem_toArray, List.getElem_cons_succ, List.getElem_cons_zero, Act.put, List.setIfInBounds_toArray, List.set_cons_zero, List.set_cons_succ]
  refine wpAnyH_ready (rs := [3]) (by kernel_rfl) (by simp) ?_
  refine AllReadyH.cons (o := _) rfl (fun K hK => ?_) ?_
  · go_simp
    refine Calls.mono (appendName_c l nm _ W.heap.size B NA nc Xd hn hsXd hBW (by omega) HXdO.out HXdN.out) ?_
    rintro e v1 ⟨Av1, cv1, rfl, hO, hY⟩
    rw [Hy1.out] at hO
    rw [Hy1.out]
    have Hv1O := Lib.hid hO
    have hKv1 := HXdK.out.say hY (by decide)
    have Hv1K := Lib.hid hKv1
    have hsv1 : W.heap.size ≤ v1.heap.size := Nat.le_trans hsXd hY.size
    have hzv1 := hY.size
    have Hv1N := Lib.hid (HXdN.out.below (hY.below.mono hBW))
    have Hv1Y := Lib.hid (HXdY.out.trans hY)
    clear hO hY
    refine hK.out _ _ ?_ (fun hHeld => ?_)
    · exact hKv1
    · clear hK K
      try simp only [List.getElem_toArray, List.getElem_cons_succ, List.getElem_cons_zero, Act.put, List.setIfInBounds_toArray, List.set_cons_zero, List.set_cons_succ]
      refine wpAnyH_ready (rs := [6]) (by kernel_rfl) (by simp) ?_
      refine AllReadyH.cons (o := _) rfl (fun K hK => ?_) ?_
      · go_simp
        refine Calls.mono (appendVal_c y1 _ k n g W v1 hsv1 (by omega) Hv1O.out) ?_
        rintro e v2 ⟨Av2, cv2, rfl, hO, hY⟩
        rw [Hy2.out] at hO
        rw [Hy2.out]
        have Hv2O := Lib.hid hO
        have hKv2 := Hv1K.out.say hY (by decide)
        have Hv2K := Lib.hid hKv2
        have hsv2 : W.heap.size ≤ v2.heap.size := Nat.le_trans hsv1 hY.size
        have hzv2 := hY.size
        have Hv2N := Lib.hid (Hv1N.out.below (hY.below.mono hBW))
        have Hv2Y := Lib.hid (Hv1Y.out.trans hY)
        clear hO hY
        refine hK.out _ _ ?_ (fun hHeld => ?_)
        · exact hKv2
        · clear hK K
          try simp only [List.getElem_toArray, List.getElem_cons_succ, List.getElem_cons_zero, Act.put, List.setIfInBounds_toArray, List.set_cons_zero, List.set_cons_succ]
          refine wpAnyH_take (i := 7) (oi := _) (v := ?_) rfl (by kernel_rfl) (by kernel_rfl) (by kernel_rfl) (fun _ _ _ h => h) (Or.inl ⟨by rfl, ?_⟩) (by assumption) ?_
          rotate_left
          focus
            intro w hSw
            obtain ⟨qs0, qs1, qs2, qs3⟩ := Blk.four hSw
            go_simp
            try with_reducible rfl
          try simp only [List.getElem_toArray, List.getElem_cons_succ, List.getElem_cons_zero, Act.put, List.setIfInBounds_toArray, List.set_cons_zero, List.set_cons_succ]
          refine wpAnyH_done (by kernel_rfl) ?_ _
          refine NoPanic.normal ?_
          try go_wp2_with fail
          go_ret
          exact ⟨_, _, rfl, Hv2O.out, HX0.out.trans Hv2Y.out⟩
      exact AllReadyH.nil
  exact AllReadyH.nil
end
section
variable (l : List UInt8) (v : Value) (xs : List Int) (A : Option Addr) (c L0 B0 B M : Nat) (w : World)
set_option maxRecDepth 100000 in
set_option maxHeartbeats 2000000 in
theorem listInt_c (hB : B ≤ w.heap.size) (hB0 : B0 ≤ B) (hm : xs.length ≤ 1050000) (hI : IL w L0 B0 A xs) (hO : OwnT w B v l) (hl : l.length ≤ 140737300000000)
    (hM : M ≤ 140737400000000) (hlen : ∀ k, k ≤ xs.length → l.length + 8 + (catTo by8 xs k).length ≤ M)
    (hcall : ∀ k (hk : k < xs.length) (u : Value) (x : List UInt8) (v : Value) (W : World), B ≤ W.heap.size → x.length ≤ M → ElInt W L0 B u xs[k] → OwnT W B v x →
      Calls Try.prog 74 #[v, u] W fun e w' => ∃ A c, e = .returned (.slice A (x ++ by8 xs[k]).length c) ∧ OwnT w' B (.slice A (x ++ by8 xs[k]).length c) (x ++ by8 xs[k]) ∧ Say B W w') :
    Calls Try.prog 77 #[.func (.func 74) #[] #[], v, .slice A xs.length c] w fun e w' => ∃ A c, e = .returned (.slice A (l ++ (by8 xs.length ++ catTo by8 xs xs.length)).length c) ∧ OwnT w' B (.slice A (l ++ (by8 xs.length ++ catTo by8 xs xs.length)).length c) (l ++ (by8 xs.length ++ catTo by8 xs xs.length)) ∧ Say B w w' := by
  obtain ⟨A0, c0, rfl, _⟩ := hO.form
  obtain ⟨y, hy⟩ : ∃ y, l ++ by8 xs.length = y := ⟨_, rfl⟩
  obtain ⟨z, hz⟩ : ∃ z, y ++ catTo by8 xs xs.length = z := ⟨_, rfl⟩
  rw [show l ++ (by8 xs.length ++ catTo by8 xs xs.length) = z by rw [← hz, ← hy, List.append_assoc]]
  have hyl : y.length ≤ l.length + 8 := by rw [← hy, List.length_append, by8_len]; omega
  have Hn := Lib.hid (appendNumber_c l (.slice A0 l.length c0) xs.length B w hB (by omega) hO)
  rw [hy] at Hn
  have hew : ∀ (v : Value) (W : World), Say B w W → OwnT W B v y → Calls Try.prog 105 #[.func (.func 74) #[] #[], v, .slice A xs.length c] W fun e w' => ∃ A c, e = .returned (.slice A z.length c) ∧ OwnT w' B (.slice A z.length c) z ∧ Say B W w' := fun v W hW hO => by
    have h1 := eachInt_c y v xs A c L0 B0 B M W (Nat.le_trans hB hW.size) hB0 hm (hI.below (hW.below.mono hB0)) hO hM (fun k hk => by have := hlen k hk; omega) hcall
    rw [hz] at h1
    exact h1
  have He := Lib.hid hew
  clear hI hO hlen hcall hew hy hz hyl
  go_enter Try.func77, Try.ntmps77
  go_wp2_with fail
  refine Hn.out.mono ?_
  rintro e w1 ⟨A1, c1, rfl, hO1, hY1⟩
  have Hc := Lib.hid (He.out _ w1 hY1 hO1)
  have HY1 := Lib.hid hY1
  clear hO1 hY1 Hn He
  go_wp2_with fail
  refine Hc.out.mono ?_
  rintro e w2 ⟨A2, c2, rfl, hO2, hY2⟩
  have HO2 := Lib.hid hO2
  have HY2 := Lib.hid (HY1.out.trans hY2)
  clear hO2 hY2 Hc
  go_wp2
  go_ret
  exact ⟨A2, c2, rfl, HO2.out, HY2.out⟩
end
section
variable (l : List UInt8) (v : Value) (xs : List Fd) (A : Option Addr) (c L0 B0 B M : Nat) (w : World)
set_option maxRecDepth 100000 in
set_option maxHeartbeats 2000000 in
theorem listFd_c (hB : B ≤ w.heap.size) (hB0 : B0 ≤ B) (hm : xs.length ≤ 1050000) (hI : FdL w L0 B0 A xs) (hO : OwnT w B v l) (hl : l.length ≤ 140737300000000)
    (hM : M ≤ 140737400000000) (hlen : ∀ k, k ≤ xs.length → l.length + 8 + (catTo fdB xs k).length ≤ M)
    (hcall : ∀ k (hk : k < xs.length) (u : Value) (x : List UInt8) (v : Value) (W : World), B ≤ W.heap.size → x.length ≤ M → ElFd W L0 B u xs[k] → OwnT W B v x →
      Calls Try.prog 102 #[v, u] W fun e w' => ∃ A c, e = .returned (.slice A (x ++ fdB xs[k]).length c) ∧ OwnT w' B (.slice A (x ++ fdB xs[k]).length c) (x ++ fdB xs[k]) ∧ Say B W w') :
    Calls Try.prog 103 #[.func (.func 102) #[] #[], v, .slice A xs.length c] w fun e w' => ∃ A c, e = .returned (.slice A (l ++ (by8 xs.length ++ catTo fdB xs xs.length)).length c) ∧ OwnT w' B (.slice A (l ++ (by8 xs.length ++ catTo fdB xs xs.length)).length c) (l ++ (by8 xs.length ++ catTo fdB xs xs.length)) ∧ Say B w w' := by
  obtain ⟨A0, c0, rfl, _⟩ := hO.form
  obtain ⟨y, hy⟩ : ∃ y, l ++ by8 xs.length = y := ⟨_, rfl⟩
  obtain ⟨z, hz⟩ : ∃ z, y ++ catTo fdB xs xs.length = z := ⟨_, rfl⟩
  rw [show l ++ (by8 xs.length ++ catTo fdB xs xs.length) = z by rw [← hz, ← hy, List.append_assoc]]
  have hyl : y.length ≤ l.length + 8 := by rw [← hy, List.length_append, by8_len]; omega
  have Hn := Lib.hid (appendNumber_c l (.slice A0 l.length c0) xs.length B w hB (by omega) hO)
  rw [hy] at Hn
  have hew : ∀ (v : Value) (W : World), Say B w W → OwnT W B v y → Calls Try.prog 132 #[.func (.func 102) #[] #[], v, .slice A xs.length c] W fun e w' => ∃ A c, e = .returned (.slice A z.length c) ∧ OwnT w' B (.slice A z.length c) z ∧ Say B W w' := fun v W hW hO => by
    have h1 := eachFd_c y v xs A c L0 B0 B M W (Nat.le_trans hB hW.size) hB0 hm (hI.below (hW.below.mono hB0)) hO hM (fun k hk => by have := hlen k hk; omega) hcall
    rw [hz] at h1
    exact h1
  have He := Lib.hid hew
  clear hI hO hlen hcall hew hy hz hyl
  go_enter Try.func103, Try.ntmps103
  go_wp2_with fail
  refine Hn.out.mono ?_
  rintro e w1 ⟨A1, c1, rfl, hO1, hY1⟩
  have Hc := Lib.hid (He.out _ w1 hY1 hO1)
  have HY1 := Lib.hid hY1
  clear hO1 hY1 Hn He
  go_wp2_with fail
  refine Hc.out.mono ?_
  rintro e w2 ⟨A2, c2, rfl, hO2, hY2⟩
  have HO2 := Lib.hid hO2
  have HY2 := Lib.hid (HY1.out.trans hY2)
  clear hO2 hY2 Hc
  go_wp2
  go_ret
  exact ⟨A2, c2, rfl, HO2.out, HY2.out⟩
end
section
variable (l : List UInt8) (v : Value) (xs : List Sl) (A : Option Addr) (c L0 B0 B M : Nat) (w : World)
set_option maxRecDepth 100000 in
set_option maxHeartbeats 2000000 in
theorem listSl_c (hB : B ≤ w.heap.size) (hB0 : B0 ≤ B) (hm : xs.length ≤ 1050000) (hI : SlL w L0 B0 A xs) (hO : OwnT w B v l) (hl : l.length ≤ 140737300000000)
    (hM : M ≤ 140737400000000) (hlen : ∀ k, k ≤ xs.length → l.length + 8 + (catTo slB xs k).length ≤ M)
    (hcall : ∀ k (hk : k < xs.length) (u : Value) (x : List UInt8) (v : Value) (W : World), B ≤ W.heap.size → x.length ≤ M → ElSl W L0 B u xs[k] → OwnT W B v x →
      Calls Try.prog 75 #[v, u] W fun e w' => ∃ A c, e = .returned (.slice A (x ++ slB xs[k]).length c) ∧ OwnT w' B (.slice A (x ++ slB xs[k]).length c) (x ++ slB xs[k]) ∧ Say B W w') :
    Calls Try.prog 76 #[.func (.func 75) #[] #[], v, .slice A xs.length c] w fun e w' => ∃ A c, e = .returned (.slice A (l ++ (by8 xs.length ++ catTo slB xs xs.length)).length c) ∧ OwnT w' B (.slice A (l ++ (by8 xs.length ++ catTo slB xs xs.length)).length c) (l ++ (by8 xs.length ++ catTo slB xs xs.length)) ∧ Say B w w' := by
  obtain ⟨A0, c0, rfl, _⟩ := hO.form
  obtain ⟨y, hy⟩ : ∃ y, l ++ by8 xs.length = y := ⟨_, rfl⟩
  obtain ⟨z, hz⟩ : ∃ z, y ++ catTo slB xs xs.length = z := ⟨_, rfl⟩
  rw [show l ++ (by8 xs.length ++ catTo slB xs xs.length) = z by rw [← hz, ← hy, List.append_assoc]]
  have hyl : y.length ≤ l.length + 8 := by rw [← hy, List.length_append, by8_len]; omega
  have Hn := Lib.hid (appendNumber_c l (.slice A0 l.length c0) xs.length B w hB (by omega) hO)
  rw [hy] at Hn
  have hew : ∀ (v : Value) (W : World), Say B w W → OwnT W B v y → Calls Try.prog 104 #[.func (.func 75) #[] #[], v, .slice A xs.length c] W fun e w' => ∃ A c, e = .returned (.slice A z.length c) ∧ OwnT w' B (.slice A z.length c) z ∧ Say B W w' := fun v W hW hO => by
    have h1 := eachSl_c y v xs A c L0 B0 B M W (Nat.le_trans hB hW.size) hB0 hm (hI.below (hW.below.mono hB0)) hO hM (fun k hk => by have := hlen k hk; omega) hcall
    rw [hz] at h1
    exact h1
  have He := Lib.hid hew
  clear hI hO hlen hcall hew hy hz hyl
  go_enter Try.func76, Try.ntmps76
  go_wp2_with fail
  refine Hn.out.mono ?_
  rintro e w1 ⟨A1, c1, rfl, hO1, hY1⟩
  have Hc := Lib.hid (He.out _ w1 hY1 hO1)
  have HY1 := Lib.hid hY1
  clear hO1 hY1 Hn He
  go_wp2_with fail
  refine Hc.out.mono ?_
  rintro e w2 ⟨A2, c2, rfl, hO2, hY2⟩
  have HO2 := Lib.hid hO2
  have HY2 := Lib.hid (HY1.out.trans hY2)
  clear hO2 hY2 Hc
  go_wp2
  go_ret
  exact ⟨A2, c2, rfl, HO2.out, HY2.out⟩
end
section
variable (l : List UInt8) (v : Value) (lv : Bool) (gn ct : Int) (fs : List Fd) (FA : Option Addr) (fc L0 B : Nat) (W w : World)
set_option maxRecDepth 100000 in
set_option maxHeartbeats 8000000 in
theorem appendSlot_c (hfl : fs.length ≤ 1050000) (hn : ∀ j (hj : j < fs.length), fs[j].name.length ≤ 6) (hB : W.heap.size ≤ w.heap.size) (hBW : B ≤ W.heap.size) (hl : l.length ≤ 140737100000000) (hF : FdL w L0 B FA fs) (h : OwnT w W.heap.size v l) :
    Calls Try.prog 75 #[v, .agg #[.bool lv, .int .i64 gn, .int .i64 ct, .slice FA fs.length fc]] w fun e w' => ∃ A c, e = .returned (.slice A (l ++ slB ⟨lv, gn, ct, fs⟩).length c) ∧ OwnT w' W.heap.size (.slice A (l ++ slB ⟨lv, gn, ct, fs⟩).length c) (l ++ slB ⟨lv, gn, ct, fs⟩) ∧ Say W.heap.size w w' := by
  obtain ⟨A0, c0, rfl, _⟩ := h.form
  obtain ⟨r1, hr1⟩ : ∃ r, r = b1 (if lv then 1 else 0) := ⟨_, rfl⟩
  obtain ⟨y1, hy1⟩ : ∃ y, l ++ r1 = y := ⟨_, rfl⟩
  obtain ⟨y3, hy3⟩ : ∃ y, y1 ++ catTo by8 [gn, ct] [gn, ct].length = y := ⟨_, rfl⟩
  obtain ⟨y4, hy4⟩ : ∃ y, y3 ++ (by8 fs.length ++ catTo fdB fs fs.length) = y := ⟨_, rfl⟩
  have hr1l : r1.length = 1 := by rw [hr1]; rfl
  rw [show l ++ slB ⟨lv, gn, ct, fs⟩ = y4 by unfold slB slH; rw [← hy4, ← hy3, ← hy1, hr1]; simp [catTo]]
  have hl1 : y1.length ≤ 140737100000001 := by rw [← hy1, List.length_append]; omega
  have hl3 : y3.length ≤ 140737100000017 := by rw [← hy3, List.length_append]; have := lst_len [gn, ct] (Nat.le_refl _); simp at this; simp; omega
  have Hfb := Lib.hid (fun m hm => catTo_len (f := fdB) (l := fs) (fun j hj => fdB_len (hn j hj)) m hm)
  have Hnl := Lib.hid hn
  have Hy1 := Lib.hid hy1
  have Hy3 := Lib.hid hy3
  have Hy4 := Lib.hid hy4
  have Hr1l := Lib.hid hr1l
  have Hr1 := Lib.hid hr1
  obtain ⟨X, hX⟩ : ∃ X, X = w.alloc (.cells #[.bool lv, .int .i64 gn, .int .i64 ct, .slice FA fs.length fc] 90) := ⟨_, rfl⟩
  obtain ⟨gs, hgs⟩ : ∃ x, x = w.heap.size := ⟨_, rfl⟩
  have HXO : Hid (OwnT X W.heap.size (.slice A0 l.length c0) l) := Lib.hid (hX ▸ h.alloc _)
  have HXK : Hid (Blk X gs 90 #[.bool lv, .int .i64 gn, .int .i64 ct, .slice FA fs.length fc]) := Lib.hid (by rw [hX, hgs]; exact Blk.new w _ _)
  have HX0 : Hid (Say W.heap.size w X) := Lib.hid (hX ▸ (Say.refl W.heap.size w).alloc hB _)
  have HXF : Hid (FdL X L0 B FA fs) := Lib.hid (hF.below (HX0.out.below.mono hBW))
  have hsX : W.heap.size ≤ X.heap.size := Nat.le_trans hB HX0.out.size
  have HX := Lib.hid hX
  have Hgs := Lib.hid hgs
  clear h hX hgs hy1 hy3 hy4 hr1 hr1l hF hn
  go_enter Try.func75, Try.ntmps75
  go_upto_region 1 with fail
  rw [← HX.out, ← Hgs.out]
  clear HX Hgs
  have s0 := HXK.out.cel 0 (v := .bool lv) rfl
  cases lv
  · have Hr1c := Lib.hid (show (#[.int .u8 0] : Array Value).toList = vb r1 from by rw [Hr1.out]; exact b1_cell' (by decide) (by decide))
    go_upto_region 4 with fail
    go_cut [0] (fun t wx => ∃ A c, t = .slice A y3.length c ∧ Hid (OwnT wx W.heap.size (.slice A y3.length c) y3) ∧ Hid (Say W.heap.size X wx))
    case first =>
      obtain ⟨Xd, eXd⟩ : ∃ x, x = X.drew := ⟨_, rfl⟩
      have HXdO : Hid (OwnT Xd W.heap.size (.slice A0 l.length c0) l) := Lib.hid (eXd ▸ (show OwnT X.drew _ _ _ from HXO.out))
      have HXdK : Hid (Blk Xd gs 90 #[.bool false, .int .i64 gn, .int .i64 ct, .slice FA fs.length fc]) := Lib.hid (eXd ▸ HXK.out.drew)
      have HXdY : Hid (Say W.heap.size X Xd) := Lib.hid (eXd ▸ (Say.refl W.heap.size X).drew)
      have hsX0 := hsX
      have hsXd : W.heap.size ≤ Xd.heap.size := Nat.le_trans hsX0 HXdY.out.size
      refine wp_region_noPanic ?_
      refine wp_region_held_drew (S := (fun W => Blk W gs 90 #[.bool false, .int .i64 gn, .int .i64 ct, .slice FA fs.length fc])) (by kernel_rfl) ?_ (fun hHeld => ?_)
      · exact eXd ▸ HXdK.out
      rw [← eXd]
      have hSS := HXdK.out
      clear eXd
      refine wpAnyH_take (i := 0) (oi := _) (v := ?_) rfl (by kernel_rfl) (by kernel_rfl) (by kernel_rfl) (fun _ _ _ h => h) (Or.inl ⟨by rfl, ?_⟩) (by assumption) ?_
      rotate_left
      focus
        intro w hSw
        obtain ⟨qs0, qs1, qs2, qs3⟩ := Blk.four hSw
        go_simp
        try with_reducible rfl
      try simp only [List.getElem_toArray, List.getElem_cons_succ, List.getElem_cons_zero, Act.put, List.setIfInBounds_toArray, List.set_cons_zero, List.set_cons_succ]
      refine wpAnyH_take (i := 1) (oi := _) (v := ?_) rfl (by kernel_rfl) (by kernel_rfl) (by kernel_rfl) (fun _ _ _ h => h) (Or.inl ⟨by rfl, ?_⟩) (by assumption) ?_
      rotate_left
      focus
        intro w hSw
        obtain ⟨qs0, qs1, qs2, qs3⟩ := Blk.four hSw
        go_simp
        try with_reducible rfl
      try simp only [List.getElem_toArray, List.getElem_cons_succ, List.getElem_cons_zero, Act.put, List.setIfInBounds_toArray, List.set_cons_zero, List.set_cons_succ]
      refine wpAnyH_take (i := 4) (oi := _) (v := ?_) rfl (by kernel_rfl) (by kernel_rfl) (by kernel_rfl) (fun _ _ _ h => h) (Or.inl ⟨by rfl, ?_⟩) (by assumption) ?_
      rotate_left
      focus
        intro w hSw
        obtain ⟨qs0, qs1, qs2, qs3⟩ := Blk.four hSw
        go_simp
        try with_reducible rfl
      try simp only [List.getElem_toArray, List.getElem_cons_succ, List.getElem_cons_zero, Act.put, List.setIfInBounds_toArray, List.set_cons_zero, List.set_cons_succ]
      refine wpAnyH_take (i := 5) (oi := _) (v := ?_) rfl (by kernel_rfl) (by kernel_rfl) (by kernel_rfl) (fun _ _ _ h => h) (Or.inl ⟨by rfl, ?_⟩) (by assumption) ?_
      rotate_left
      focus
        intro w hSw
        obtain ⟨qs0, qs1, qs2, qs3⟩ := Blk.four hSw
        go_simp
        try with_reducible rfl
      try simp only [List.getElem_toArray, List.getElem_cons_succ, List.getElem_cons_zero, Act.put, List.setIfInBounds_toArray, List.set_cons_zero, List.set_cons_succ]
      refine wpAnyH_take (i := 6) (oi := _) (v := ?_) rfl (by kernel_rfl) (by kernel_rfl) (by kernel_rfl) (fun _ _ _ h => h) (Or.inl ⟨by rfl, ?_⟩) (by assumption) ?_
      rotate_left
      focus
        intro w hSw
        obtain ⟨qs0, qs1, qs2, qs3⟩ := Blk.four hSw
        go_simp
        try with_reducible rfl
      try simp only [List.getElem_toArray, List.getElem_cons_succ, List.getElem_cons_zero, Act.put, List.setIfInBounds_toArray, List.set_cons_zero, List.set_cons_succ]
      refine wpAnyH_take (i := 7) (oi := _) (v := ?_) rfl (by kernel_rfl) (by kernel_rfl) (by kernel_rfl) (fun _ _ _ h => h) (Or.inl ⟨by rfl, ?_⟩) (by assumption) ?_
      rotate_left
      focus
        intro w hSw
        obtain ⟨qs0, qs1, qs2, qs3⟩ := Blk.four hSw
        go_simp
        try with_reducible rfl
      try simp only [List.getElem_toArray, List.getElem_cons_succ, List.getElem_cons_zero, Act.put, List.setIfInBounds_toArray, List.set_cons_zero, List.set_cons_succ]
      refine wpAnyH_ready (rs := [2, 8]) (by kernel_rfl) (by simp) ?_
      refine AllReadyH.cons (o := _) rfl (fun K hK => ?_) ?_
      · go_simp
        obtain ⟨p1, ep1⟩ : ∃ x, x = Xd.alloc (.cells #[.int .u8 0] 5) := ⟨_, rfl⟩
        rw [← ep1]
        have Hp1K : Hid (Blk p1 gs 90 #[.bool false, .int .i64 gn, .int .i64 ct, .slice FA fs.length fc]) := Lib.hid (ep1 ▸ HXdK.out.alloc _)
        have Hp1O : Hid (OwnT p1 W.heap.size (.slice A0 l.length c0) l) := Lib.hid (ep1 ▸ HXdO.out.alloc _)
        have Hp1Y : Hid (Say W.heap.size X p1) := Lib.hid (ep1 ▸ HXdY.out.alloc hsXd _)
        have hsp1 : W.heap.size ≤ p1.heap.size := Nat.le_trans hsX0 Hp1Y.out.size
        have Hp1G : Hid (Blk p1 Xd.heap.size 5 #[.int .u8 0]) := Lib.hid (ep1 ▸ Blk.new Xd _ _)
        clear ep1
        refine hK.out _ _ ?_ (fun hHeld => ?_)
        · exact Hp1K.out
        · clear hK K
          try simp only [List.getElem_toArray, List.getElem_cons_succ, List.getElem_cons_zero, Act.put, List.setIfInBounds_toArray, List.set_cons_zero, List.set_cons_succ]
          refine wpAnyH_ready (rs := [3, 8]) (by kernel_rfl) (by simp) ?_
          refine AllReadyH.cons (o := _) rfl (fun K hK => ?_) ?_
          · refine wp_litK (r := r1) (.tmp 8) (.tmp 10) rfl Hp1O.out Hp1G.out Hr1c.out Hr1l.out Hy1.out (by have := Hr1l.out; omega) (by omega) (by simp [Act.eval, Act.put]) (by simp [Act.eval, Act.put]) ?_
            intro Ap2 cp2 p2 hO hY hkp
            have Hp2O := Lib.hid hO
            have Hp2K := Lib.hid (Hp1K.out.say hY (by decide))
            have hsp2 : W.heap.size ≤ p2.heap.size := Nat.le_trans hsp1 hY.size
            have Hp2Y := Lib.hid (Hp1Y.out.trans hY)
            clear hO hY hkp
            refine hK.out _ _ ?_ (fun hHeld => ?_)
            · exact Hp2K.out
            · clear hK K
              try simp only [List.getElem_toArray, List.getElem_cons_succ, List.getElem_cons_zero, Act.put, List.setIfInBounds_toArray, List.set_cons_zero, List.set_cons_succ]
              refine wpAnyH_ready (rs := [8]) (by kernel_rfl) (by simp) ?_
              refine AllReadyH.cons (o := _) rfl (fun K hK => ?_) ?_
              · go_simp
                obtain ⟨p3, ep3⟩ : ∃ x, x = p2.alloc (.cells #[.int .i64 gn, .int .i64 ct] 3) := ⟨_, rfl⟩
                rw [← ep3]
                have Hp3K : Hid (Blk p3 gs 90 #[.bool false, .int .i64 gn, .int .i64 ct, .slice FA fs.length fc]) := Lib.hid (ep3 ▸ Hp2K.out.alloc _)
                have Hp3O : Hid (OwnT p3 W.heap.size (.slice Ap2 y1.length cp2) y1) := Lib.hid (ep3 ▸ Hp2O.out.alloc _)
                have Hp3Y : Hid (Say W.heap.size X p3) := Lib.hid (ep3 ▸ Hp2Y.out.alloc hsp2 _)
                have hsp3 : W.heap.size ≤ p3.heap.size := Nat.le_trans hsX0 Hp3Y.out.size
                have Hp3I : Hid (Blk p3 p2.heap.size 3 #[.int .i64 gn, .int .i64 ct]) := Lib.hid (ep3 ▸ Blk.new p2 _ _)
                clear ep3
                refine hK.out _ _ ?_ (fun hHeld => ?_)
                · exact Hp3K.out
                · clear hK K
                  try simp only [List.getElem_toArray, List.getElem_cons_succ, List.getElem_cons_zero, Act.put, List.setIfInBounds_toArray, List.set_cons_zero, List.set_cons_succ]
                  refine wpAnyH_ready (rs := [9]) (by kernel_rfl) (by simp) ?_
                  refine AllReadyH.cons (o := _) rfl (fun K hK => ?_) ?_
                  · go_simp
                    refine Calls.mono (appendNumbers_c y1 _ [gn, ct] (p2.heap.size) 2 W.heap.size p3 hsp3 (by omega) (by simp) (row_two Hp3I.out) Hp3O.out) ?_
                    rintro e p4 ⟨Ap4, cp4, rfl, hO, hY⟩
                    rw [show y1 ++ catTo by8 [gn, ct] [gn, ct].length = y3 from Hy3.out] at hO
                    rw [show y1 ++ catTo by8 [gn, ct] [gn, ct].length = y3 from Hy3.out]
                    have Hp4O := Lib.hid hO
                    have Hp4K := Lib.hid (Hp3K.out.say hY (by decide))
                    have hsp4 : W.heap.size ≤ p4.heap.size := Nat.le_trans hsp3 hY.size
                    have Hp4Y := Lib.hid (Hp3Y.out.trans hY)
                    clear hO hY
                    refine hK.out _ _ ?_ (fun hHeld => ?_)
                    · exact Hp4K.out
                    · clear hK K
                      try simp only [List.getElem_toArray, List.getElem_cons_succ, List.getElem_cons_zero, Act.put, List.setIfInBounds_toArray, List.set_cons_zero, List.set_cons_succ]
                      refine wpAnyH_take (i := 10) (oi := _) (v := ?_) rfl (by kernel_rfl) (by kernel_rfl) (by kernel_rfl) (fun _ _ _ h => h) (Or.inl ⟨by rfl, ?_⟩) (by assumption) ?_
                      rotate_left
                      focus
                        intro w hSw
                        obtain ⟨qs0, qs1, qs2, qs3⟩ := Blk.four hSw
                        go_simp
                        try with_reducible rfl
                      try simp only [List.getElem_toArray, List.getElem_cons_succ, List.getElem_cons_zero, Act.put, List.setIfInBounds_toArray, List.set_cons_zero, List.set_cons_succ]
                      refine wpAnyH_done (by kernel_rfl) ?_ _
                      refine NoPanic.normal ?_
                      try go_wp2_with fail
                      go_meet
                      case rel => exact ⟨_, _, rfl, Hp4O, Hp4Y⟩
                  exact AllReadyH.nil
              exact AllReadyH.nil
          refine AllReadyH.cons (o := _) rfl (fun K hK => ?_) ?_
          · go_simp
            obtain ⟨p5, ep5⟩ : ∃ x, x = p1.alloc (.cells #[.int .i64 gn, .int .i64 ct] 3) := ⟨_, rfl⟩
            rw [← ep5]
            have Hp5K : Hid (Blk p5 gs 90 #[.bool false, .int .i64 gn, .int .i64 ct, .slice FA fs.length fc]) := Lib.hid (ep5 ▸ Hp1K.out.alloc _)
            have Hp5O : Hid (OwnT p5 W.heap.size (.slice A0 l.length c0) l) := Lib.hid (ep5 ▸ Hp1O.out.alloc _)
            have Hp5Y : Hid (Say W.heap.size X p5) := Lib.hid (ep5 ▸ Hp1Y.out.alloc hsp1 _)
            have hsp5 : W.heap.size ≤ p5.heap.size := Nat.le_trans hsX0 Hp5Y.out.size
            have Hp5G : Hid (Blk p5 (Xd.heap.size) 5 #[.int .u8 0]) := Lib.hid (ep5 ▸ Hp1G.out.alloc _)
            have Hp5I : Hid (Blk p5 p1.heap.size 3 #[.int .i64 gn, .int .i64 ct]) := Lib.hid (ep5 ▸ Blk.new p1 _ _)
            clear ep5
            refine hK.out _ _ ?_ (fun hHeld => ?_)
            · exact Hp5K.out
            · clear hK K
              try simp only [List.getElem_toArray, List.getElem_cons_succ, List.getElem_cons_zero, Act.put, List.setIfInBounds_toArray, List.set_cons_zero, List.set_cons_succ]
              refine wpAnyH_ready (rs := [3]) (by kernel_rfl) (by simp) ?_
              refine AllReadyH.cons (o := _) rfl (fun K hK => ?_) ?_
              · refine wp_litK (r := r1) (.tmp 8) (.tmp 10) rfl Hp5O.out Hp5G.out Hr1c.out Hr1l.out Hy1.out (by have := Hr1l.out; omega) (by omega) (by simp [Act.eval, Act.put]) (by simp [Act.eval, Act.put]) ?_
                intro Ap6 cp6 p6 hO hY hkp
                have Hp6O := Lib.hid hO
                have Hp6K := Lib.hid (Hp5K.out.say hY (by decide))
                have hsp6 : W.heap.size ≤ p6.heap.size := Nat.le_trans hsp5 hY.size
                have Hp6Y := Lib.hid (Hp5Y.out.trans hY)
                have Hp6I := Lib.hid (Hp5I.out.say hY (by decide))
                clear hO hY hkp
                refine hK.out _ _ ?_ (fun hHeld => ?_)
                · exact Hp6K.out
                · clear hK K
                  try simp only [List.getElem_toArray, List.getElem_cons_succ, List.getElem_cons_zero, Act.put, List.setIfInBounds_toArray, List.set_cons_zero, List.set_cons_succ]
                  refine wpAnyH_ready (rs := [9]) (by kernel_rfl) (by simp) ?_
                  refine AllReadyH.cons (o := _) rfl (fun K hK => ?_) ?_
                  · go_simp
                    refine Calls.mono (appendNumbers_c y1 _ [gn, ct] (p1.heap.size) 2 W.heap.size p6 hsp6 (by omega) (by simp) (row_two Hp6I.out) Hp6O.out) ?_
                    rintro e p7 ⟨Ap7, cp7, rfl, hO, hY⟩
                    rw [show y1 ++ catTo by8 [gn, ct] [gn, ct].length = y3 from Hy3.out] at hO
                    rw [show y1 ++ catTo by8 [gn, ct] [gn, ct].length = y3 from Hy3.out]
                    have Hp7O := Lib.hid hO
                    have Hp7K := Lib.hid (Hp6K.out.say hY (by decide))
                    have hsp7 : W.heap.size ≤ p7.heap.size := Nat.le_trans hsp6 hY.size
                    have Hp7Y := Lib.hid (Hp6Y.out.trans hY)
                    clear hO hY
                    refine hK.out _ _ ?_ (fun hHeld => ?_)
                    · exact Hp7K.out
                    · clear hK K
                      try simp only [List.getElem_toArray, List.getElem_cons_succ, List.getElem_cons_zero, Act.put, List.setIfInBounds_toArray, List.set_cons_zero, List.set_cons_succ]
                      refine wpAnyH_take (i := 10) (oi := _) (v := ?_) rfl (by kernel_rfl) (by kernel_rfl) (by kernel_rfl) (fun _ _ _ h => h) (Or.inl ⟨by rfl, ?_⟩) (by assumption) ?_
                      rotate_left
                      focus
                        intro w hSw
                        obtain ⟨qs0, qs1, qs2, qs3⟩ := Blk.four hSw
                        go_simp
                        try with_reducible rfl
                      try simp only [List.getElem_toArray, List.getElem_cons_succ, List.getElem_cons_zero, Act.put, List.setIfInBounds_toArray, List.set_cons_zero, List.set_cons_succ]
                      refine wpAnyH_done (by kernel_rfl) ?_ _
                      refine NoPanic.normal ?_
                      try go_wp2_with fail
                      go_meet
                      case rel => exact ⟨_, _, rfl, Hp7O, Hp7Y⟩
                  exact AllReadyH.nil
              exact AllReadyH.nil
          exact AllReadyH.nil
      refine AllReadyH.cons (o := _) rfl (fun K hK => ?_) ?_
      · go_simp
        obtain ⟨p8, ep8⟩ : ∃ x, x = Xd.alloc (.cells #[.int .i64 gn, .int .i64 ct] 3) := ⟨_, rfl⟩
        rw [← ep8]
        have Hp8K : Hid (Blk p8 gs 90 #[.bool false, .int .i64 gn, .int .i64 ct, .slice FA fs.length fc]) := Lib.hid (ep8 ▸ HXdK.out.alloc _)
        have Hp8O : Hid (OwnT p8 W.heap.size (.slice A0 l.length c0) l) := Lib.hid (ep8 ▸ HXdO.out.alloc _)
        have Hp8Y : Hid (Say W.heap.size X p8) := Lib.hid (ep8 ▸ HXdY.out.alloc hsXd _)
        have hsp8 : W.heap.size ≤ p8.heap.size := Nat.le_trans hsX0 Hp8Y.out.size
        have Hp8I : Hid (Blk p8 Xd.heap.size 3 #[.int .i64 gn, .int .i64 ct]) := Lib.hid (ep8 ▸ Blk.new Xd _ _)
        clear ep8
        refine hK.out _ _ ?_ (fun hHeld => ?_)
        · exact Hp8K.out
        · clear hK K
          try simp only [List.getElem_toArray, List.getElem_cons_succ, List.getElem_cons_zero, Act.put, List.setIfInBounds_toArray, List.set_cons_zero, List.set_cons_succ]
          refine wpAnyH_ready (rs := [2]) (by kernel_rfl) (by simp) ?_
          refine AllReadyH.cons (o := _) rfl (fun K hK => ?_) ?_
          · go_simp
            obtain ⟨p9, ep9⟩ : ∃ x, x = p8.alloc (.cells #[.int .u8 0] 5) := ⟨_, rfl⟩
            rw [← ep9]
            have Hp9K : Hid (Blk p9 gs 90 #[.bool false, .int .i64 gn, .int .i64 ct, .slice FA fs.length fc]) := Lib.hid (ep9 ▸ Hp8K.out.alloc _)
            have Hp9O : Hid (OwnT p9 W.heap.size (.slice A0 l.length c0) l) := Lib.hid (ep9 ▸ Hp8O.out.alloc _)
            have Hp9Y : Hid (Say W.heap.size X p9) := Lib.hid (ep9 ▸ Hp8Y.out.alloc hsp8 _)
            have hsp9 : W.heap.size ≤ p9.heap.size := Nat.le_trans hsX0 Hp9Y.out.size
            have Hp9G : Hid (Blk p9 p8.heap.size 5 #[.int .u8 0]) := Lib.hid (ep9 ▸ Blk.new p8 _ _)
            have Hp9I : Hid (Blk p9 (Xd.heap.size) 3 #[.int .i64 gn, .int .i64 ct]) := Lib.hid (ep9 ▸ Hp8I.out.alloc _)
            clear ep9
            refine hK.out _ _ ?_ (fun hHeld => ?_)
            · exact Hp9K.out
            · clear hK K
              try simp only [List.getElem_toArray, List.getElem_cons_succ, List.getElem_cons_zero, Act.put, List.setIfInBounds_toArray, List.set_cons_zero, List.set_cons_succ]
              refine wpAnyH_ready (rs := [3]) (by kernel_rfl) (by simp) ?_
              refine AllReadyH.cons (o := _) rfl (fun K hK => ?_) ?_
              · refine wp_litK (r := r1) (.tmp 8) (.tmp 10) rfl Hp9O.out Hp9G.out Hr1c.out Hr1l.out Hy1.out (by have := Hr1l.out; omega) (by omega) (by simp [Act.eval, Act.put]) (by simp [Act.eval, Act.put]) ?_
                intro Ap10 cp10 p10 hO hY hkp
                have Hp10O := Lib.hid hO
                have Hp10K := Lib.hid (Hp9K.out.say hY (by decide))
                have hsp10 : W.heap.size ≤ p10.heap.size := Nat.le_trans hsp9 hY.size
                have Hp10Y := Lib.hid (Hp9Y.out.trans hY)
                have Hp10I := Lib.hid (Hp9I.out.say hY (by decide))
                clear hO hY hkp
                refine hK.out _ _ ?_ (fun hHeld => ?_)
                · exact Hp10K.out
                · clear hK K
                  try simp only [List.getElem_toArray, List.getElem_cons_succ, List.getElem_cons_zero, Act.put, List.setIfInBounds_toArray, List.set_cons_zero, List.set_cons_succ]
                  refine wpAnyH_ready (rs := [9]) (by kernel_rfl) (by simp) ?_
                  refine AllReadyH.cons (o := _) rfl (fun K hK => ?_) ?_
                  · go_simp
                    refine Calls.mono (appendNumbers_c y1 _ [gn, ct] (Xd.heap.size) 2 W.heap.size p10 hsp10 (by omega) (by simp) (row_two Hp10I.out) Hp10O.out) ?_
                    rintro e p11 ⟨Ap11, cp11, rfl, hO, hY⟩
                    rw [show y1 ++ catTo by8 [gn, ct] [gn, ct].length = y3 from Hy3.out] at hO
                    rw [show y1 ++ catTo by8 [gn, ct] [gn, ct].length = y3 from Hy3.out]
                    have Hp11O := Lib.hid hO
                    have Hp11K := Lib.hid (Hp10K.out.say hY (by decide))
                    have hsp11 : W.heap.size ≤ p11.heap.size := Nat.le_trans hsp10 hY.size
                    have Hp11Y := Lib.hid (Hp10Y.out.trans hY)
                    clear hO hY
                    refine hK.out _ _ ?_ (fun hHeld => ?_)
                    · exact Hp11K.out
                    · clear hK K
                      try simp only [List.getElem_toArray, List.getElem_cons_succ, List.getElem_cons_zero, Act.put, List.setIfInBounds_toArray, List.set_cons_zero, List.set_cons_succ]
                      refine wpAnyH_take (i := 10) (oi := _) (v := ?_) rfl (by kernel_rfl) (by kernel_rfl) (by kernel_rfl) (fun _ _ _ h => h) (Or.inl ⟨by rfl, ?_⟩) (by assumption) ?_
                      rotate_left
                      focus
                        intro w hSw
                        obtain ⟨qs0, qs1, qs2, qs3⟩ := Blk.four hSw
                        go_simp
                        try with_reducible rfl
                      try simp only [List.getElem_toArray, List.getElem_cons_succ, List.getElem_cons_zero, Act.put, List.setIfInBounds_toArray, List.set_cons_zero, List.set_cons_succ]
                      refine wpAnyH_done (by kernel_rfl) ?_ _
                      refine NoPanic.normal ?_
                      try go_wp2_with fail
                      go_meet
                      case rel => exact ⟨_, _, rfl, Hp11O, Hp11Y⟩
                  exact AllReadyH.nil
              exact AllReadyH.nil
          exact AllReadyH.nil
      exact AllReadyH.nil
    case rest =>
      obtain ⟨A5, c5, rfl, H5O, H5Y⟩ := hcut
      obtain ⟨Z, hZ⟩ : ∃ x, x = wc := ⟨_, rfl⟩
      subst hZ
      have hKz := HXK.out.say H5Y.out (by decide)
      have s3 := hKz.cel 3 (v := .slice FA fs.length fc) rfl
      have hsZ : W.heap.size ≤ Z.heap.size := Nat.le_trans hsX H5Y.out.size
      have Hls := Lib.hid (listFd_c y3 (.slice A5 y3.length c5) fs FA fc L0 B W.heap.size 140737150000000 Z hsZ hBW hfl (HXF.out.below (H5Y.out.below.mono hBW)) H5O.out (by omega) (by omega) (fun j hj => by have := Hfb.out j hj; omega) (fun j hj u x v W1 h1 h2 hel hO => by
        obtain ⟨NA, nc, rfl, hN⟩ := hel
        exact appendField_c x v fs[j].name fs[j].k fs[j].n fs[j].g NA nc W.heap.size W W1 (Hnl.out j hj) h1 (Nat.le_refl _) (by omega) hN.1 hO))
      rw [show y3 ++ (by8 fs.length ++ catTo fdB fs fs.length) = y4 from Hy4.out] at Hls
      clear hKz HXF HXO HXK
      go_wp2_with fail
      refine Hls.out.mono ?_
      rintro e w9 ⟨A9, c9, rfl, hO9, hY9⟩
      have HO9 := Lib.hid hO9
      have HY9 := Lib.hid (HX0.out.trans (H5Y.out.trans hY9))
      clear hO9 hY9 Hls s3
      go_wp2
      go_ret
      exact ⟨A9, c9, rfl, HO9.out, HY9.out⟩
  · have Hr1c := Lib.hid (show (#[.int .u8 1] : Array Value).toList = vb r1 from by rw [Hr1.out]; exact b1_cell' (by decide) (by decide))
    go_upto_region 4 with fail
    go_cut [0] (fun t wx => ∃ A c, t = .slice A y3.length c ∧ Hid (OwnT wx W.heap.size (.slice A y3.length c) y3) ∧ Hid (Say W.heap.size X wx))
    case first =>
      obtain ⟨Xd, eXd⟩ : ∃ x, x = X.drew := ⟨_, rfl⟩
      have HXdO : Hid (OwnT Xd W.heap.size (.slice A0 l.length c0) l) := Lib.hid (eXd ▸ (show OwnT X.drew _ _ _ from HXO.out))
      have HXdK : Hid (Blk Xd gs 90 #[.bool true, .int .i64 gn, .int .i64 ct, .slice FA fs.length fc]) := Lib.hid (eXd ▸ HXK.out.drew)
      have HXdY : Hid (Say W.heap.size X Xd) := Lib.hid (eXd ▸ (Say.refl W.heap.size X).drew)
      have hsX0 := hsX
      have hsXd : W.heap.size ≤ Xd.heap.size := Nat.le_trans hsX0 HXdY.out.size
      refine wp_region_noPanic ?_
      refine wp_region_held_drew (S := (fun W => Blk W gs 90 #[.bool true, .int .i64 gn, .int .i64 ct, .slice FA fs.length fc])) (by kernel_rfl) ?_ (fun hHeld => ?_)
      · exact eXd ▸ HXdK.out
      rw [← eXd]
      have hSS := HXdK.out
      clear eXd
      refine wpAnyH_take (i := 0) (oi := _) (v := ?_) rfl (by kernel_rfl) (by kernel_rfl) (by kernel_rfl) (fun _ _ _ h => h) (Or.inl ⟨by rfl, ?_⟩) (by assumption) ?_
      rotate_left
      focus
        intro w hSw
        obtain ⟨qs0, qs1, qs2, qs3⟩ := Blk.four hSw
        go_simp
        try with_reducible rfl
      try simp only [List.getElem_toArray, List.getElem_cons_succ, List.getElem_cons_zero, Act.put, List.setIfInBounds_toArray, List.set_cons_zero, List.set_cons_succ]
      refine wpAnyH_take (i := 1) (oi := _) (v := ?_) rfl (by kernel_rfl) (by kernel_rfl) (by kernel_rfl) (fun _ _ _ h => h) (Or.inl ⟨by rfl, ?_⟩) (by assumption) ?_
      rotate_left
      focus
        intro w hSw
        obtain ⟨qs0, qs1, qs2, qs3⟩ := Blk.four hSw
        go_simp
        try with_reducible rfl
      try simp only [List.getElem_toArray, List.getElem_cons_succ, List.getElem_cons_zero, Act.put, List.setIfInBounds_toArray, List.set_cons_zero, List.set_cons_succ]
      refine wpAnyH_take (i := 4) (oi := _) (v := ?_) rfl (by kernel_rfl) (by kernel_rfl) (by kernel_rfl) (fun _ _ _ h => h) (Or.inl ⟨by rfl, ?_⟩) (by assumption) ?_
      rotate_left
      focus
        intro w hSw
        obtain ⟨qs0, qs1, qs2, qs3⟩ := Blk.four hSw
        go_simp
        try with_reducible rfl
      try simp only [List.getElem_toArray, List.getElem_cons_succ, List.getElem_cons_zero, Act.put, List.setIfInBounds_toArray, List.set_cons_zero, List.set_cons_succ]
      refine wpAnyH_take (i := 5) (oi := _) (v := ?_) rfl (by kernel_rfl) (by kernel_rfl) (by kernel_rfl) (fun _ _ _ h => h) (Or.inl ⟨by rfl, ?_⟩) (by assumption) ?_
      rotate_left
      focus
        intro w hSw
        obtain ⟨qs0, qs1, qs2, qs3⟩ := Blk.four hSw
        go_simp
        try with_reducible rfl
      try simp only [List.getElem_toArray, List.getElem_cons_succ, List.getElem_cons_zero, Act.put, List.setIfInBounds_toArray, List.set_cons_zero, List.set_cons_succ]
      refine wpAnyH_take (i := 6) (oi := _) (v := ?_) rfl (by kernel_rfl) (by kernel_rfl) (by kernel_rfl) (fun _ _ _ h => h) (Or.inl ⟨by rfl, ?_⟩) (by assumption) ?_
      rotate_left
      focus
        intro w hSw
        obtain ⟨qs0, qs1, qs2, qs3⟩ := Blk.four hSw
        go_simp
        try with_reducible rfl
      try simp only [List.getElem_toArray, List.getElem_cons_succ, List.getElem_cons_zero, Act.put, List.setIfInBounds_toArray, List.set_cons_zero, List.set_cons_succ]
      refine wpAnyH_take (i := 7) (oi := _) (v := ?_) rfl (by kernel_rfl) (by kernel_rfl) (by kernel_rfl) (fun _ _ _ h => h) (Or.inl ⟨by rfl, ?_⟩) (by assumption) ?_
      rotate_left
      focus
        intro w hSw
        obtain ⟨qs0, qs1, qs2, qs3⟩ := Blk.four hSw
        go_simp
        try with_reducible rfl
      try simp only [List.getElem_toArray, List.getElem_cons_succ, List.getElem_cons_zero, Act.put, List.setIfInBounds_toArray, List.set_cons_zero, List.set_cons_succ]
      refine wpAnyH_ready (rs := [2, 8]) (by kernel_rfl) (by simp) ?_
      refine AllReadyH.cons (o := _) rfl (fun K hK => ?_) ?_
      · go_simp
        obtain ⟨p1, ep1⟩ : ∃ x, x = Xd.alloc (.cells #[.int .u8 1] 5) := ⟨_, rfl⟩
        rw [← ep1]
        have Hp1K : Hid (Blk p1 gs 90 #[.bool true, .int .i64 gn, .int .i64 ct, .slice FA fs.length fc]) := Lib.hid (ep1 ▸ HXdK.out.alloc _)
        have Hp1O : Hid (OwnT p1 W.heap.size (.slice A0 l.length c0) l) := Lib.hid (ep1 ▸ HXdO.out.alloc _)
        have Hp1Y : Hid (Say W.heap.size X p1) := Lib.hid (ep1 ▸ HXdY.out.alloc hsXd _)
        have hsp1 : W.heap.size ≤ p1.heap.size := Nat.le_trans hsX0 Hp1Y.out.size
        have Hp1G : Hid (Blk p1 Xd.heap.size 5 #[.int .u8 1]) := Lib.hid (ep1 ▸ Blk.new Xd _ _)
        clear ep1
        refine hK.out _ _ ?_ (fun hHeld => ?_)
        · exact Hp1K.out
        · clear hK K
          try simp only [List.getElem_toArray, List.getElem_cons_succ, List.getElem_cons_zero, Act.put, List.setIfInBounds_toArray, List.set_cons_zero, List.set_cons_succ]
          refine wpAnyH_ready (rs := [3, 8]) (by kernel_rfl) (by simp) ?_
          refine AllReadyH.cons (o := _) rfl (fun K hK => ?_) ?_
          · refine wp_litK (r := r1) (.tmp 8) (.tmp 10) rfl Hp1O.out Hp1G.out Hr1c.out Hr1l.out Hy1.out (by have := Hr1l.out; omega) (by omega) (by simp [Act.eval, Act.put]) (by simp [Act.eval, Act.put]) ?_
            intro Ap2 cp2 p2 hO hY hkp
            have Hp2O := Lib.hid hO
            have Hp2K := Lib.hid (Hp1K.out.say hY (by decide))
            have hsp2 : W.heap.size ≤ p2.heap.size := Nat.le_trans hsp1 hY.size
            have Hp2Y := Lib.hid (Hp1Y.out.trans hY)
            clear hO hY hkp
            refine hK.out _ _ ?_ (fun hHeld => ?_)
            · exact Hp2K.out
            · clear hK K
              try simp only [List.getElem_toArray, List.getElem_cons_succ, List.getElem_cons_zero, Act.put, List.setIfInBounds_toArray, List.set_cons_zero, List.set_cons_succ]
              refine wpAnyH_ready (rs := [8]) (by kernel_rfl) (by simp) ?_
              refine AllReadyH.cons (o := _) rfl (fun K hK => ?_) ?_
              · go_simp
                obtain ⟨p3, ep3⟩ : ∃ x, x = p2.alloc (.cells #[.int .i64 gn, .int .i64 ct] 3) := ⟨_, rfl⟩
                rw [← ep3]
                have Hp3K : Hid (Blk p3 gs 90 #[.bool true, .int .i64 gn, .int .i64 ct, .slice FA fs.length fc]) := Lib.hid (ep3 ▸ Hp2K.out.alloc _)
                have Hp3O : Hid (OwnT p3 W.heap.size (.slice Ap2 y1.length cp2) y1) := Lib.hid (ep3 ▸ Hp2O.out.alloc _)
                have Hp3Y : Hid (Say W.heap.size X p3) := Lib.hid (ep3 ▸ Hp2Y.out.alloc hsp2 _)
                have hsp3 : W.heap.size ≤ p3.heap.size := Nat.le_trans hsX0 Hp3Y.out.size
                have Hp3I : Hid (Blk p3 p2.heap.size 3 #[.int .i64 gn, .int .i64 ct]) := Lib.hid (ep3 ▸ Blk.new p2 _ _)
                clear ep3
                refine hK.out _ _ ?_ (fun hHeld => ?_)
                · exact Hp3K.out
                · clear hK K
                  try simp only [List.getElem_toArray, List.getElem_cons_succ, List.getElem_cons_zero, Act.put, List.setIfInBounds_toArray, List.set_cons_zero, List.set_cons_succ]
                  refine wpAnyH_ready (rs := [9]) (by kernel_rfl) (by simp) ?_
                  refine AllReadyH.cons (o := _) rfl (fun K hK => ?_) ?_
                  · go_simp
                    refine Calls.mono (appendNumbers_c y1 _ [gn, ct] (p2.heap.size) 2 W.heap.size p3 hsp3 (by omega) (by simp) (row_two Hp3I.out) Hp3O.out) ?_
                    rintro e p4 ⟨Ap4, cp4, rfl, hO, hY⟩
                    rw [show y1 ++ catTo by8 [gn, ct] [gn, ct].length = y3 from Hy3.out] at hO
                    rw [show y1 ++ catTo by8 [gn, ct] [gn, ct].length = y3 from Hy3.out]
                    have Hp4O := Lib.hid hO
                    have Hp4K := Lib.hid (Hp3K.out.say hY (by decide))
                    have hsp4 : W.heap.size ≤ p4.heap.size := Nat.le_trans hsp3 hY.size
                    have Hp4Y := Lib.hid (Hp3Y.out.trans hY)
                    clear hO hY
                    refine hK.out _ _ ?_ (fun hHeld => ?_)
                    · exact Hp4K.out
                    · clear hK K
                      try simp only [List.getElem_toArray, List.getElem_cons_succ, List.getElem_cons_zero, Act.put, List.setIfInBounds_toArray, List.set_cons_zero, List.set_cons_succ]
                      refine wpAnyH_take (i := 10) (oi := _) (v := ?_) rfl (by kernel_rfl) (by kernel_rfl) (by kernel_rfl) (fun _ _ _ h => h) (Or.inl ⟨by rfl, ?_⟩) (by assumption) ?_
                      rotate_left
                      focus
                        intro w hSw
                        obtain ⟨qs0, qs1, qs2, qs3⟩ := Blk.four hSw
                        go_simp
                        try with_reducible rfl
                      try simp only [List.getElem_toArray, List.getElem_cons_succ, List.getElem_cons_zero, Act.put, List.setIfInBounds_toArray, List.set_cons_zero, List.set_cons_succ]
                      refine wpAnyH_done (by kernel_rfl) ?_ _
                      refine NoPanic.normal ?_
                      try go_wp2_with fail
                      go_meet
                      case rel => exact ⟨_, _, rfl, Hp4O, Hp4Y⟩
                  exact AllReadyH.nil
              exact AllReadyH.nil
          refine AllReadyH.cons (o := _) rfl (fun K hK => ?_) ?_
          · go_simp
            obtain ⟨p5, ep5⟩ : ∃ x, x = p1.alloc (.cells #[.int .i64 gn, .int .i64 ct] 3) := ⟨_, rfl⟩
            rw [← ep5]
            have Hp5K : Hid (Blk p5 gs 90 #[.bool true, .int .i64 gn, .int .i64 ct, .slice FA fs.length fc]) := Lib.hid (ep5 ▸ Hp1K.out.alloc _)
            have Hp5O : Hid (OwnT p5 W.heap.size (.slice A0 l.length c0) l) := Lib.hid (ep5 ▸ Hp1O.out.alloc _)
            have Hp5Y : Hid (Say W.heap.size X p5) := Lib.hid (ep5 ▸ Hp1Y.out.alloc hsp1 _)
            have hsp5 : W.heap.size ≤ p5.heap.size := Nat.le_trans hsX0 Hp5Y.out.size
            have Hp5G : Hid (Blk p5 (Xd.heap.size) 5 #[.int .u8 1]) := Lib.hid (ep5 ▸ Hp1G.out.alloc _)
            have Hp5I : Hid (Blk p5 p1.heap.size 3 #[.int .i64 gn, .int .i64 ct]) := Lib.hid (ep5 ▸ Blk.new p1 _ _)
            clear ep5
            refine hK.out _ _ ?_ (fun hHeld => ?_)
            · exact Hp5K.out
            · clear hK K
              try simp only [List.getElem_toArray, List.getElem_cons_succ, List.getElem_cons_zero, Act.put, List.setIfInBounds_toArray, List.set_cons_zero, List.set_cons_succ]
              refine wpAnyH_ready (rs := [3]) (by kernel_rfl) (by simp) ?_
              refine AllReadyH.cons (o := _) rfl (fun K hK => ?_) ?_
              · refine wp_litK (r := r1) (.tmp 8) (.tmp 10) rfl Hp5O.out Hp5G.out Hr1c.out Hr1l.out Hy1.out (by have := Hr1l.out; omega) (by omega) (by simp [Act.eval, Act.put]) (by simp [Act.eval, Act.put]) ?_
                intro Ap6 cp6 p6 hO hY hkp
                have Hp6O := Lib.hid hO
                have Hp6K := Lib.hid (Hp5K.out.say hY (by decide))
                have hsp6 : W.heap.size ≤ p6.heap.size := Nat.le_trans hsp5 hY.size
                have Hp6Y := Lib.hid (Hp5Y.out.trans hY)
                have Hp6I := Lib.hid (Hp5I.out.say hY (by decide))
                clear hO hY hkp
                refine hK.out _ _ ?_ (fun hHeld => ?_)
                · exact Hp6K.out
                · clear hK K
                  try simp only [List.getElem_toArray, List.getElem_cons_succ, List.getElem_cons_zero, Act.put, List.setIfInBounds_toArray, List.set_cons_zero, List.set_cons_succ]
                  refine wpAnyH_ready (rs := [9]) (by kernel_rfl) (by simp) ?_
                  refine AllReadyH.cons (o := _) rfl (fun K hK => ?_) ?_
                  · go_simp
                    refine Calls.mono (appendNumbers_c y1 _ [gn, ct] (p1.heap.size) 2 W.heap.size p6 hsp6 (by omega) (by simp) (row_two Hp6I.out) Hp6O.out) ?_
                    rintro e p7 ⟨Ap7, cp7, rfl, hO, hY⟩
                    rw [show y1 ++ catTo by8 [gn, ct] [gn, ct].length = y3 from Hy3.out] at hO
                    rw [show y1 ++ catTo by8 [gn, ct] [gn, ct].length = y3 from Hy3.out]
                    have Hp7O := Lib.hid hO
                    have Hp7K := Lib.hid (Hp6K.out.say hY (by decide))
                    have hsp7 : W.heap.size ≤ p7.heap.size := Nat.le_trans hsp6 hY.size
                    have Hp7Y := Lib.hid (Hp6Y.out.trans hY)
                    clear hO hY
                    refine hK.out _ _ ?_ (fun hHeld => ?_)
                    · exact Hp7K.out
                    · clear hK K
                      try simp only [List.getElem_toArray, List.getElem_cons_succ, List.getElem_cons_zero, Act.put, List.setIfInBounds_toArray, List.set_cons_zero, List.set_cons_succ]
                      refine wpAnyH_take (i := 10) (oi := _) (v := ?_) rfl (by kernel_rfl) (by kernel_rfl) (by kernel_rfl) (fun _ _ _ h => h) (Or.inl ⟨by rfl, ?_⟩) (by assumption) ?_
                      rotate_left
                      focus
                        intro w hSw
                        obtain ⟨qs0, qs1, qs2, qs3⟩ := Blk.four hSw
                        go_simp
                        try with_reducible rfl
                      try simp only [List.getElem_toArray, List.getElem_cons_succ, List.getElem_cons_zero, Act.put, List.setIfInBounds_toArray, List.set_cons_zero, List.set_cons_succ]
                      refine wpAnyH_done (by kernel_rfl) ?_ _
                      refine NoPanic.normal ?_
                      try go_wp2_with fail
                      go_meet
                      case rel => exact ⟨_, _, rfl, Hp7O, Hp7Y⟩
                  exact AllReadyH.nil
              exact AllReadyH.nil
          exact AllReadyH.nil
      refine AllReadyH.cons (o := _) rfl (fun K hK => ?_) ?_
      · go_simp
        obtain ⟨p8, ep8⟩ : ∃ x, x = Xd.alloc (.cells #[.int .i64 gn, .int .i64 ct] 3) := ⟨_, rfl⟩
        rw [← ep8]
        have Hp8K : Hid (Blk p8 gs 90 #[.bool true, .int .i64 gn, .int .i64 ct, .slice FA fs.length fc]) := Lib.hid (ep8 ▸ HXdK.out.alloc _)
        have Hp8O : Hid (OwnT p8 W.heap.size (.slice A0 l.length c0) l) := Lib.hid (ep8 ▸ HXdO.out.alloc _)
        have Hp8Y : Hid (Say W.heap.size X p8) := Lib.hid (ep8 ▸ HXdY.out.alloc hsXd _)
        have hsp8 : W.heap.size ≤ p8.heap.size := Nat.le_trans hsX0 Hp8Y.out.size
        have Hp8I : Hid (Blk p8 Xd.heap.size 3 #[.int .i64 gn, .int .i64 ct]) := Lib.hid (ep8 ▸ Blk.new Xd _ _)
        clear ep8
        refine hK.out _ _ ?_ (fun hHeld => ?_)
        · exact Hp8K.out
        · clear hK K
          try simp only [List.getElem_toArray, List.getElem_cons_succ, List.getElem_cons_zero, Act.put, List.setIfInBounds_toArray, List.set_cons_zero, List.set_cons_succ]
          refine wpAnyH_ready (rs := [2]) (by kernel_rfl) (by simp) ?_
          refine AllReadyH.cons (o := _) rfl (fun K hK => ?_) ?_
          · go_simp
            obtain ⟨p9, ep9⟩ : ∃ x, x = p8.alloc (.cells #[.int .u8 1] 5) := ⟨_, rfl⟩
            rw [← ep9]
            have Hp9K : Hid (Blk p9 gs 90 #[.bool true, .int .i64 gn, .int .i64 ct, .slice FA fs.length fc]) := Lib.hid (ep9 ▸ Hp8K.out.alloc _)
            have Hp9O : Hid (OwnT p9 W.heap.size (.slice A0 l.length c0) l) := Lib.hid (ep9 ▸ Hp8O.out.alloc _)
            have Hp9Y : Hid (Say W.heap.size X p9) := Lib.hid (ep9 ▸ Hp8Y.out.alloc hsp8 _)
            have hsp9 : W.heap.size ≤ p9.heap.size := Nat.le_trans hsX0 Hp9Y.out.size
            have Hp9G : Hid (Blk p9 p8.heap.size 5 #[.int .u8 1]) := Lib.hid (ep9 ▸ Blk.new p8 _ _)
            have Hp9I : Hid (Blk p9 (Xd.heap.size) 3 #[.int .i64 gn, .int .i64 ct]) := Lib.hid (ep9 ▸ Hp8I.out.alloc _)
            clear ep9
            refine hK.out _ _ ?_ (fun hHeld => ?_)
            · exact Hp9K.out
            · clear hK K
              try simp only [List.getElem_toArray, List.getElem_cons_succ, List.getElem_cons_zero, Act.put, List.setIfInBounds_toArray, List.set_cons_zero, List.set_cons_succ]
              refine wpAnyH_ready (rs := [3]) (by kernel_rfl) (by simp) ?_
              refine AllReadyH.cons (o := _) rfl (fun K hK => ?_) ?_
              · refine wp_litK (r := r1) (.tmp 8) (.tmp 10) rfl Hp9O.out Hp9G.out Hr1c.out Hr1l.out Hy1.out (by have := Hr1l.out; omega) (by omega) (by simp [Act.eval, Act.put]) (by simp [Act.eval, Act.put]) ?_
                intro Ap10 cp10 p10 hO hY hkp
                have Hp10O := Lib.hid hO
                have Hp10K := Lib.hid (Hp9K.out.say hY (by decide))
                have hsp10 : W.heap.size ≤ p10.heap.size := Nat.le_trans hsp9 hY.size
                have Hp10Y := Lib.hid (Hp9Y.out.trans hY)
                have Hp10I := Lib.hid (Hp9I.out.say hY (by decide))
                clear hO hY hkp
                refine hK.out _ _ ?_ (fun hHeld => ?_)
                · exact Hp10K.out
                · clear hK K
                  try simp only [List.getElem_toArray, List.getElem_cons_succ, List.getElem_cons_zero, Act.put, List.setIfInBounds_toArray, List.set_cons_zero, List.set_cons_succ]
                  refine wpAnyH_ready (rs := [9]) (by kernel_rfl) (by simp) ?_
                  refine AllReadyH.cons (o := _) rfl (fun K hK => ?_) ?_
                  · go_simp
                    refine Calls.mono (appendNumbers_c y1 _ [gn, ct] (Xd.heap.size) 2 W.heap.size p10 hsp10 (by omega) (by simp) (row_two Hp10I.out) Hp10O.out) ?_
                    rintro e p11 ⟨Ap11, cp11, rfl, hO, hY⟩
                    rw [show y1 ++ catTo by8 [gn, ct] [gn, ct].length = y3 from Hy3.out] at hO
                    rw [show y1 ++ catTo by8 [gn, ct] [gn, ct].length = y3 from Hy3.out]
                    have Hp11O := Lib.hid hO
                    have Hp11K := Lib.hid (Hp10K.out.say hY (by decide))
                    have hsp11 : W.heap.size ≤ p11.heap.size := Nat.le_trans hsp10 hY.size
                    have Hp11Y := Lib.hid (Hp10Y.out.trans hY)
                    clear hO hY
                    refine hK.out _ _ ?_ (fun hHeld => ?_)
                    · exact Hp11K.out
                    · clear hK K
                      try simp only [List.getElem_toArray, List.getElem_cons_succ, List.getElem_cons_zero, Act.put, List.setIfInBounds_toArray, List.set_cons_zero, List.set_cons_succ]
                      refine wpAnyH_take (i := 10) (oi := _) (v := ?_) rfl (by kernel_rfl) (by kernel_rfl) (by kernel_rfl) (fun _ _ _ h => h) (Or.inl ⟨by rfl, ?_⟩) (by assumption) ?_
                      rotate_left
                      focus
                        intro w hSw
                        obtain ⟨qs0, qs1, qs2, qs3⟩ := Blk.four hSw
                        go_simp
                        try with_reducible rfl
                      try simp only [List.getElem_toArray, List.getElem_cons_succ, List.getElem_cons_zero, Act.put, List.setIfInBounds_toArray, List.set_cons_zero, List.set_cons_succ]
                      refine wpAnyH_done (by kernel_rfl) ?_ _
                      refine NoPanic.normal ?_
                      try go_wp2_with fail
                      go_meet
                      case rel => exact ⟨_, _, rfl, Hp11O, Hp11Y⟩
                  exact AllReadyH.nil
              exact AllReadyH.nil
          exact AllReadyH.nil
      exact AllReadyH.nil
    case rest =>
      obtain ⟨A5, c5, rfl, H5O, H5Y⟩ := hcut
      obtain ⟨Z, hZ⟩ : ∃ x, x = wc := ⟨_, rfl⟩
      subst hZ
      have hKz := HXK.out.say H5Y.out (by decide)
      have s3 := hKz.cel 3 (v := .slice FA fs.length fc) rfl
      have hsZ : W.heap.size ≤ Z.heap.size := Nat.le_trans hsX H5Y.out.size
      have Hls := Lib.hid (listFd_c y3 (.slice A5 y3.length c5) fs FA fc L0 B W.heap.size 140737150000000 Z hsZ hBW hfl (HXF.out.below (H5Y.out.below.mono hBW)) H5O.out (by omega) (by omega) (fun j hj => by have := Hfb.out j hj; omega) (fun j hj u x v W1 h1 h2 hel hO => by
        obtain ⟨NA, nc, rfl, hN⟩ := hel
        exact appendField_c x v fs[j].name fs[j].k fs[j].n fs[j].g NA nc W.heap.size W W1 (Hnl.out j hj) h1 (Nat.le_refl _) (by omega) hN.1 hO))
      rw [show y3 ++ (by8 fs.length ++ catTo fdB fs fs.length) = y4 from Hy4.out] at Hls
      clear hKz HXF HXO HXK
      go_wp2_with fail
      refine Hls.out.mono ?_
      rintro e w9 ⟨A9, c9, rfl, hO9, hY9⟩
      have HO9 := Lib.hid hO9
      have HY9 := Lib.hid (HX0.out.trans (H5Y.out.trans hY9))
      clear hO9 hY9 Hls s3
      go_wp2
      go_ret
      exact ⟨A9, c9, rfl, HO9.out, HY9.out⟩
end
end Frz
end Go.Proofs.Ytfmlgpnjckamjaa
