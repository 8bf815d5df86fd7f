/-
  The model's bytes of an arena.
-/
import Derived.Test.YtfmlgpnjckamjaaFrzV
namespace Go.Proofs.Ytfmlgpnjckamjaa
open Go.RowKit
set_option linter.unusedVariables false
set_option linter.unusedSimpArgs false
namespace Frz
/-- a slot's box and the field that is looked at, which lies below lo -/
def InF (W : World) (lo gs : Nat) (lv : Bool) (gn ct : Int) (FA : Option Addr) (n fc : Nat) (p : Addr) (NA : Option Addr) (nl nc : Nat) (fk fn fg : Int) : Prop :=
  Blk W gs 90 #[.bool lv, .int .i64 gn, .int .i64 ct, .slice FA n fc] ∧ C4 W p (.slice NA nl nc) (.int .i64 fk) (.int .i64 fn) (.int .i64 fg) ∧ p.block < lo ∧ lo ≤ W.heap.size
section
variable {W W' : World} {lo gs : Nat} {lv : Bool} {gn ct : Int} {FA : Option Addr} {n fc : Nat} {p : Addr} {NA : Option Addr} {nl nc : Nat} {fk fn fg : Int}
theorem InF.opn (h : InF W lo gs lv gn ct FA n fc p NA nl nc fk fn fg) :
    W.cell? ⟨gs, 3, none⟩ = some (.slice FA n fc) ∧ W.cell? p = some (.slice NA nl nc) ∧ W.cell? ⟨p.block, p.off + 1, none⟩ = some (.int .i64 fk) ∧ W.cell? ⟨p.block, p.off + 2, none⟩ = some (.int .i64 fn) ∧ W.cell? ⟨p.block, p.off + 3, none⟩ = some (.int .i64 fg) :=
  ⟨h.1.cel 3 rfl, h.2.1.1, h.2.1.2.1, h.2.1.2.2.1, h.2.1.2.2.2⟩
theorem InF.lt (h : InF W lo gs lv gn ct FA n fc p NA nl nc fk fn fg) : gs < W.heap.size := h.1.lt
theorem InF.below {B : Nat} (h : InF W lo gs lv gn ct FA n fc p NA nl nc fk fn fg) (hb : Below B W W') (hg : gs < B) (hlo : lo ≤ B) : InF W' lo gs lv gn ct FA n fc p NA nl nc fk fn fg :=
  ⟨h.1.below hb hg, h.2.1.keep (fun q hq => hb.cell (by rw [hq]; exact Nat.lt_of_lt_of_le h.2.2.1 hlo)), h.2.2.1, Nat.le_trans h.2.2.2 hb.size⟩
theorem InF.alloc (h : InF W lo gs lv gn ct FA n fc p NA nl nc fk fn fg) (o : Obj) : InF (W.alloc o) lo gs lv gn ct FA n fc p NA nl nc fk fn fg := h.below (blOne W o) h.1.lt h.2.2.2
theorem InF.drew (h : InF W lo gs lv gn ct FA n fc p NA nl nc fk fn fg) : InF W.drew lo gs lv gn ct FA n fc p NA nl nc fk fn fg := h
theorem InF.say (h : InF W lo gs lv gn ct FA n fc p NA nl nc fk fn fg) (hs : Say lo W W') (_ : 0 ≠ 1) : InF W' lo gs lv gn ct FA n fc p NA nl nc fk fn fg :=
  ⟨h.1.say hs (by decide), h.2.1.keep (fun q hq => hs.below.cell (by rw [hq]; exact h.2.2.1)), h.2.2.1, Nat.le_trans h.2.2.2 hs.size⟩
end
section
variable (S : List Sl) (Q P : List Int) (A0 A1 A2 : Option Addr) (c0 c1 c2 L B : Nat) (l : List UInt8) (v : Value) (W w : World)
set_option maxRecDepth 100000 in
set_option maxHeartbeats 16000000 in
theorem l8arena_c (hW : W.heap.size ≤ w.heap.size) (hBW : B ≤ W.heap.size) (hl : l.length ≤ 1000) (hm : Small ⟨S, Q, P⟩) (h : ArL w L B A0 A1 A2 ⟨S, Q, P⟩) (hO : OwnT w W.heap.size v l) :
    Calls Try.prog 35 #[v, .agg #[.slice A0 S.length c0, .slice A1 Q.length c1, .slice A2 P.length c2]] w fun e w' => ∃ A c, e = .returned (.slice A (l ++ arB ⟨S, Q, P⟩).length c) ∧ OwnT w' W.heap.size (.slice A (l ++ arB ⟨S, Q, P⟩).length c) (l ++ arB ⟨S, Q, P⟩) ∧ Say W.heap.size w w' := by
  obtain ⟨Av, cv, rfl, _⟩ := hO.form
  have hms := hm.s
  have hmf := hm.f
  have hmn := hm.n
  dsimp only at hms hmf hmn
  obtain ⟨y0, hy0⟩ : ∃ y, l ++ by8 S.length = y := ⟨_, rfl⟩
  obtain ⟨z0, hz0⟩ : ∃ y, y0 ++ catTo slB S S.length = y := ⟨_, rfl⟩
  obtain ⟨q1, hq1⟩ : ∃ y, z0 ++ lstB Q = y := ⟨_, rfl⟩
  obtain ⟨q2, hq2⟩ : ∃ y, q1 ++ lstB P = y := ⟨_, rfl⟩
  rw [show l ++ arB ⟨S, Q, P⟩ = q2 by unfold arB slsB; rw [← hq2, ← hq1, ← hz0, ← hy0]; simp]
  have hy0l : y0.length ≤ 1008 := by rw [← hy0, List.length_append, by8_len]; omega
  have Hslb := Lib.hid (fun k hk => catTo_len (f := slB) (fun j hj => slB_len (hmf j hj) (hmn j hj)) k hk)
  have hlq : (lstB Q).length ≤ 8 + 8 * Q.length := by unfold lstB; rw [List.length_append, by8_len]; have := lst_len Q (Nat.le_refl _); omega
  have hQ5 := hm.q
  have hP5 := hm.p
  dsimp only at hQ5 hP5
  have HlQ := Lib.hid (show Q.length ≤ 1050000 by omega)
  have HlP := Lib.hid (show P.length ≤ 1050000 by omega)
  have Hlq := Lib.hid hlq
  have Hy0 := Lib.hid hy0
  have Hz0 := Lib.hid hz0
  have Hq1 := Lib.hid hq1
  have Hq2 := Lib.hid hq2
  obtain ⟨ga, hga⟩ : ∃ g, g = w.heap.size := ⟨_, rfl⟩
  obtain ⟨w0, hw0⟩ : ∃ x, x = w.alloc (.cells #[.slice A0 S.length c0, .slice A1 Q.length c1, .slice A2 P.length c2] 32) := ⟨_, rfl⟩
  have HKA : Hid (Blk w0 ga 32 #[.slice A0 S.length c0, .slice A1 Q.length c1, .slice A2 P.length c2]) := Lib.hid (by rw [hw0, hga]; exact Blk.new w _ _)
  have Hw0 : Hid (Say W.heap.size w w0) := Lib.hid (hw0 ▸ (Say.refl W.heap.size w).alloc hW _)
  have HA := Lib.hid (h.below (hw0 ▸ (blOne w _).mono (Nat.le_trans hBW hW) : Below B w w0))
  have hs0 : W.heap.size ≤ w0.heap.size := Nat.le_trans hW Hw0.out.size
  have Hn := Lib.hid (l8num_c l (.slice Av l.length cv) S.length W.heap.size w0 hs0 (by omega) (hw0 ▸ hO.alloc _))
  have HW0 := Lib.hid hw0
  have Hga := Lib.hid hga
  have Hmf := Lib.hid hmf
  have Hmn := Lib.hid hmn
  rw [hy0] at Hn
  have p0 := HKA.out.cel 0 (v := .slice A0 S.length c0) rfl
  rw [hw0, hga] at p0
  clear h hO hm hy0 hz0 hq1 hq2 hw0 hga hlq hmf hmn
  go_enter Try.func35, Try.ntmps35
  go_upto_region 1 with fail
  rw [← HW0.out, ← Hga.out] at *
  go_wp2_with fail
  refine Hn.out.mono ?_
  rintro e w1 ⟨A3, c3, rfl, hO1, hY1⟩
  have HO1 := Lib.hid hO1
  have HY1 := Lib.hid hY1
  clear hO1 hY1 Hn p0
  go_wp2_with fail
  go_loopw [0, 5] (fun t i wr => ∃ (k : Nat) (x : List UInt8) (At : Option Addr) (ctt : Nat), k ≤ S.length ∧ i = .int .i64 k ∧ t = .slice At x.length ctt ∧ Hid (x = y0 ++ catTo slB S k) ∧ Hid (OwnT wr W.heap.size (.slice At x.length ctt) x) ∧ Hid (Say W.heap.size w0 wr)) (fun _ i _ => S.length - (intOf i).toNat)
  case atStart => exact ⟨0, y0, A3, c3, Nat.zero_le _, rfl, rfl, Lib.hid (by simp [catTo_zero]), HO1, HY1⟩
  case round =>
    obtain ⟨k, x, At, ctt, hk, rfl, rfl, hx, hO, hY⟩ := hrel
    have hxl : x.length ≤ 1008 + 30000000 * k := by rw [hx.out, List.length_append]; have := Hslb.out k hk; omega
    have hKa := HKA.out.say hY.out (by decide)
    have p0 := hKa.cel 0 (v := .slice A0 S.length c0) rfl
    have hsr : W.heap.size ≤ wr.heap.size := Nat.le_trans hs0 hY.out.size
    by_cases hlt : k < S.length
    · obtain ⟨ad, rfl, _, hbk, hat⟩ := ((HA.out.below (hY.out.below.mono hBW)).1).2 (by dsimp only; omega)
      obtain ⟨v0, v1, v2, v3, ⟨d0, d1, d2, d3⟩, rfl, rfl, rfl, FA, fc, rfl, hF⟩ := hat k hlt
      have hfl := Hmf.out k hlt
      have hnl := Hmn.out k hlt
      have hnext : y0 ++ catTo slB S (k + 1) = x ++ slB S[k] := by rw [catTo_succ hlt, hx.out, List.append_assoc]
      dsimp only at d0 d1 d2 d3 hF
      obtain ⟨s, hs⟩ : ∃ s, S[k] = s := ⟨_, rfl⟩
      have hnl' : ∀ j (hj : j < s.fs.length), s.fs[j].name.length ≤ 6 := by subst hs; exact hnl
      simp only [hs] at d0 d1 d2 d3 hF hfl hnext
      clear hnl hs hat
      obtain ⟨lv, gn, ct, fs⟩ := s
      dsimp only at d0 d1 d2 d3 hF hfl hnext hnl'
      obtain ⟨fl, hflen⟩ : ∃ n, n = fs.length := ⟨_, rfl⟩
      rw [← hflen] at d3 hfl
      obtain ⟨r1, hr1⟩ : ∃ r, r = b1 (if lv then 1 else 0) := ⟨_, rfl⟩
      obtain ⟨y1, hy1⟩ : ∃ y, x ++ r1 = y := ⟨_, rfl⟩
      obtain ⟨y2, hy2⟩ : ∃ y, y1 ++ by8 gn = y := ⟨_, rfl⟩
      obtain ⟨y3, hy3⟩ : ∃ y, y2 ++ by8 ct = y := ⟨_, rfl⟩
      obtain ⟨y4, hy4⟩ : ∃ y, y3 ++ by8 (fl : Int) = y := ⟨_, rfl⟩
      have hr1l : r1.length = 1 := by rw [hr1]; rfl
      have Hnext := Lib.hid (show y0 ++ catTo slB S (k + 1) = y4 ++ catTo fdB fs fs.length by rw [hnext]; unfold slB slH; dsimp only; rw [← hy4, ← hy3, ← hy2, ← hy1, ← hr1, hflen]; simp)
      have hl1 : y1.length ≤ 1009 + 30000000 * k := by rw [← hy1, List.length_append]; omega
      have hl2 : y2.length ≤ 1017 + 30000000 * k := by rw [← hy2, List.length_append, by8_len]; omega
      have hl3 : y3.length ≤ 1025 + 30000000 * k := by rw [← hy3, List.length_append, by8_len]; omega
      have hl4 : y4.length ≤ 1033 + 30000000 * k := by rw [← hy4, List.length_append, by8_len]; omega
      have Hfb := Lib.hid (fun m hm => catTo_len (f := fdB) (l := fs) (fun j hj => fdB_len (hnl' j hj)) m hm)
      have Hnl := Lib.hid hnl'
      have Hfl := Lib.hid hflen
      have Hy1 := Lib.hid hy1
      have Hy2 := Lib.hid hy2
      have Hy3 := Lib.hid hy3
      have Hy4 := Lib.hid hy4
      have Hr1l := Lib.hid hr1l
      have Hr1 := Lib.hid hr1
      have HXO := Lib.hid (hO.out.alloc (.cells #[.bool lv, .int .i64 gn, .int .i64 ct, .slice FA fl fc] 90))
      have HXY := Lib.hid (hY.out.alloc hsr (.cells #[.bool lv, .int .i64 gn, .int .i64 ct, .slice FA fl fc] 90))
      have HXK := Lib.hid (Blk.new wr 90 #[.bool lv, .int .i64 gn, .int .i64 ct, .slice FA fl fc])
      have HXF := Lib.hid (hF.below ((blOne wr (.cells #[.bool lv, .int .i64 gn, .int .i64 ct, .slice FA fl fc] 90)).mono (Nat.le_trans hBW hsr)))
      obtain ⟨X, hX⟩ : ∃ X, X = wr.alloc (.cells #[.bool lv, .int .i64 gn, .int .i64 ct, .slice FA fl fc] 90) := ⟨_, rfl⟩
      obtain ⟨gs, hgs⟩ : ∃ g, g = wr.heap.size := ⟨_, rfl⟩
      rw [← hX] at HXO HXY HXK HXF
      rw [← hgs] at HXK
      have hsX : W.heap.size ≤ X.heap.size := by rw [hX, World.size_alloc]; omega
      have HX := Lib.hid hX
      have Hgs := Lib.hid hgs
      clear hF hflen hnl' hnext hr1 hr1l hy1 hy2 hy3 hy4 hX hgs hO hY hx hKa
      go_upto_region 6 with fail
      rw [← HX.out, ← Hgs.out]
      clear HX Hgs p0 d0 d1 d2 d3
      have s0 := HXK.out.cel 0 (v := .bool lv) rfl
      cases lv
      · have Hr1c := Lib.hid (show (#[.int .u8 (IntKind.u8.wrap 0)] : Array Value).toList = vb r1 from by rw [Hr1.out]; exact b1_cell _)
        go_upto_region 9 with fail
        go_cut [0] (fun t wx => ∃ A c, t = .slice A y4.length c ∧ Hid (OwnT wx W.heap.size (.slice A y4.length c) y4) ∧ Hid (Say W.heap.size X wx))
        case first =>
          obtain ⟨Xd, eXd⟩ : ∃ x, x = X.drew := ⟨_, rfl⟩
          have HXdO : Hid (OwnT Xd W.heap.size (.slice At x.length ctt) x) := Lib.hid (eXd ▸ (show OwnT X.drew _ _ _ from HXO.out))
          have hKXd : Blk Xd gs 90 #[.bool false, .int .i64 gn, .int .i64 ct, .slice FA fl fc] := eXd ▸ HXK.out.drew
          have HXdK := Lib.hid hKXd
          have HXdY : Hid (Say W.heap.size X Xd) := Lib.hid (eXd ▸ (Say.refl W.heap.size X).drew)
          have hzXd : Xd.heap.size = X.heap.size := by rw [eXd]; rfl
          have hsXd : W.heap.size ≤ Xd.heap.size := by omega
          refine wp_region_noPanic ?_
          refine wp_region_held_drew (S := (fun W => Blk W gs 90 #[.bool false, .int .i64 gn, .int .i64 ct, .slice FA fl fc])) (by kernel_rfl) ?_ (fun hHeld => ?_)
          · exact eXd ▸ hKXd
          rw [← eXd]
          clear eXd
          refine wpAnyH_take (i := 0) (oi := _) (v := ?_) rfl (by kernel_rfl) (by kernel_rfl) (by kernel_rfl) (fun _ _ _ h => h) (Or.inl ⟨by rfl, ?_⟩) (by assumption) ?_
          rotate_left
          focus
            intro w hSw
            obtain ⟨qs0, qs1, qs2, qs3⟩ := Blk.four hSw
            go_simp
            try with_reducible rfl
          try simp only [List.getElem_toArray, List.getElem_cons_succ, List.getElem_cons_zero, Act.put, List.setIfInBounds_toArray, List.set_cons_zero, List.set_cons_succ]
          refine wpAnyH_take (i := 1) (oi := _) (v := ?_) rfl (by kernel_rfl) (by kernel_rfl) (by kernel_rfl) (fun _ _ _ h => h) (Or.inl ⟨by rfl, ?_⟩) (by assumption) ?_
          rotate_left
          focus
            intro w hSw
            obtain ⟨qs0, qs1, qs2, qs3⟩ := Blk.four hSw
            go_simp
            try with_reducible rfl
          try simp only [List.getElem_toArray, List.getElem_cons_succ, List.getElem_cons_zero, Act.put, List.setIfInBounds_toArray, List.set_cons_zero, List.set_cons_succ]
          refine wpAnyH_take (i := 2) (oi := _) (v := ?_) rfl (by kernel_rfl) (by kernel_rfl) (by kernel_rfl) (fun _ _ _ h => h) (Or.inl ⟨by rfl, ?_⟩) (by assumption) ?_
          rotate_left
          focus
            intro w hSw
            obtain ⟨qs0, qs1, qs2, qs3⟩ := Blk.four hSw
            go_simp
            try with_reducible rfl
          try simp only [List.getElem_toArray, List.getElem_cons_succ, List.getElem_cons_zero, Act.put, List.setIfInBounds_toArray, List.set_cons_zero, List.set_cons_succ]
          refine wpAnyH_take (i := 5) (oi := _) (v := ?_) rfl (by kernel_rfl) (by kernel_rfl) (by kernel_rfl) (fun _ _ _ h => h) (Or.inl ⟨by rfl, ?_⟩) (by assumption) ?_
          rotate_left
          focus
            intro w hSw
            obtain ⟨qs0, qs1, qs2, qs3⟩ := Blk.four hSw
            go_simp
            try with_reducible rfl
          try simp only [List.getElem_toArray, List.getElem_cons_succ, List.getElem_cons_zero, Act.put, List.setIfInBounds_toArray, List.set_cons_zero, List.set_cons_succ]
          refine wpAnyH_take (i := 6) (oi := _) (v := ?_) rfl (by kernel_rfl) (by kernel_rfl) (by kernel_rfl) (fun _ _ _ h => h) (Or.inl ⟨by rfl, ?_⟩) (by assumption) ?_
          rotate_left
          focus
            intro w hSw
            obtain ⟨qs0, qs1, qs2, qs3⟩ := Blk.four hSw
            go_simp
            try with_reducible rfl
          try simp only [List.getElem_toArray, List.getElem_cons_succ, List.getElem_cons_zero, Act.put, List.setIfInBounds_toArray, List.set_cons_zero, List.set_cons_succ]
          refine wpAnyH_take (i := 8) (oi := _) (v := ?_) rfl (by kernel_rfl) (by kernel_rfl) (by kernel_rfl) (fun _ _ _ h => h) (Or.inl ⟨by rfl, ?_⟩) (by assumption) ?_
          rotate_left
          focus
            intro w hSw
            obtain ⟨qs0, qs1, qs2, qs3⟩ := Blk.four hSw
            go_simp
            try with_reducible rfl
          try simp only [List.getElem_toArray, List.getElem_cons_succ, List.getElem_cons_zero, Act.put, List.setIfInBounds_toArray, List.set_cons_zero, List.set_cons_succ]
          refine wpAnyH_take (i := 9) (oi := _) (v := ?_) rfl (by kernel_rfl) (by kernel_rfl) (by kernel_rfl) (fun _ _ _ h => h) (Or.inl ⟨by rfl, ?_⟩) (by assumption) ?_
          rotate_left
          focus
            intro w hSw
            obtain ⟨qs0, qs1, qs2, qs3⟩ := Blk.four hSw
            go_simp
            try with_reducible rfl
          try simp only [List.getElem_toArray, List.getElem_cons_succ, List.getElem_cons_zero, Act.put, List.setIfInBounds_toArray, List.set_cons_zero, List.set_cons_succ]
          refine wpAnyH_take (i := 11) (oi := _) (v := ?_) rfl (by kernel_rfl) (by kernel_rfl) (by kernel_rfl) (fun _ _ _ h => h) (Or.inl ⟨by rfl, ?_⟩) (by assumption) ?_
          rotate_left
          focus
            intro w hSw
            obtain ⟨qs0, qs1, qs2, qs3⟩ := Blk.four hSw
            go_simp
            try with_reducible rfl
          try simp only [List.getElem_toArray, List.getElem_cons_succ, List.getElem_cons_zero, Act.put, List.setIfInBounds_toArray, List.set_cons_zero, List.set_cons_succ]
          refine wpAnyH_take (i := 12) (oi := _) (v := ?_) rfl (by kernel_rfl) (by kernel_rfl) (by kernel_rfl) (fun _ _ _ h => h) (Or.inl ⟨by rfl, ?_⟩) (by assumption) ?_
          rotate_left
          focus
            intro w hSw
            obtain ⟨qs0, qs1, qs2, qs3⟩ := Blk.four hSw
            go_simp
            try with_reducible rfl
          try simp only [List.getElem_toArray, List.getElem_cons_succ, List.getElem_cons_zero, Act.put, List.setIfInBounds_toArray, List.set_cons_zero, List.set_cons_succ]
          refine wpAnyH_take (i := 13) (oi := _) (v := ?_) rfl (by kernel_rfl) (by kernel_rfl) (by kernel_rfl) (fun _ _ _ h => h) (Or.inl ⟨by rfl, ?_⟩) (by assumption) ?_
          rotate_left
          focus
            intro w hSw
            obtain ⟨qs0, qs1, qs2, qs3⟩ := Blk.four hSw
            go_simp
            try with_reducible rfl
          try simp only [List.getElem_toArray, List.getElem_cons_succ, List.getElem_cons_zero, Act.put, List.setIfInBounds_toArray, List.set_cons_zero, List.set_cons_succ]
          refine wpAnyH_ready (rs := [3]) (by kernel_rfl) (by simp) ?_
          refine AllReadyH.cons (o := _) rfl (fun K hK => ?_) ?_
          · go_simp
            obtain ⟨v1, ev1⟩ : ∃ x, x = Xd.alloc (.cells #[.int .u8 (IntKind.u8.wrap 0)] 5) := ⟨_, rfl⟩
            rw [← ev1]
            have Hv1O : Hid (OwnT v1 W.heap.size (.slice At x.length ctt) x) := Lib.hid (ev1 ▸ HXdO.out.alloc _)
            have hKv1 : Blk v1 gs 90 #[.bool false, .int .i64 gn, .int .i64 ct, .slice FA fl fc] := ev1 ▸ HXdK.out.alloc _
            have Hv1K := Lib.hid hKv1
            have Hv1Y : Hid (Say W.heap.size X v1) := Lib.hid (ev1 ▸ HXdY.out.alloc hsXd _)
            have hzv1 : v1.heap.size = Xd.heap.size + 1 := by rw [ev1]; simp
            have hsv1 : W.heap.size ≤ v1.heap.size := by omega
            have gv1_3 : Hid (Blk v1 Xd.heap.size 5 #[.int .u8 (IntKind.u8.wrap 0)]) := Lib.hid (ev1 ▸ Blk.new Xd _ _)
            clear ev1
            refine hK.out _ _ ?_ (fun hHeld => ?_)
            · exact hKv1
            · clear hK K
              try simp only [List.getElem_toArray, List.getElem_cons_succ, List.getElem_cons_zero, Act.put, List.setIfInBounds_toArray, List.set_cons_zero, List.set_cons_succ]
              refine wpAnyH_ready (rs := [4]) (by kernel_rfl) (by simp) ?_
              refine AllReadyH.cons (o := _) rfl (fun K hK => ?_) ?_
              · refine wp_litK (r := r1) (.tmp 28) (.tmp 31) rfl Hv1O.out gv1_3.out Hr1c.out Hr1l.out Hy1.out (by have := Hr1l.out; omega) (by omega) (by simp [Act.eval, Act.put]) (by simp [Act.eval, Act.put]) ?_
                intro Av2 cv2 v2 hO hY hkp
                have Hv2O := Lib.hid hO
                have hKv2 := Hv1K.out.say hY (by decide)
                have Hv2K := Lib.hid hKv2
                have hsv2 : W.heap.size ≤ v2.heap.size := Nat.le_trans hsv1 hY.size
                have hzv2 := hY.size
                have Hv2Y := Lib.hid (Hv1Y.out.trans hY)
                clear hO hY hkp
                refine hK.out _ _ ?_ (fun hHeld => ?_)
                · exact hKv2
                · clear hK K
                  try simp only [List.getElem_toArray, List.getElem_cons_succ, List.getElem_cons_zero, Act.put, List.setIfInBounds_toArray, List.set_cons_zero, List.set_cons_succ]
                  refine wpAnyH_ready (rs := [7]) (by kernel_rfl) (by simp) ?_
                  refine AllReadyH.cons (o := _) rfl (fun K hK => ?_) ?_
                  · go_simp
                    refine Calls.mono (l8num_h y1 _ gn W.heap.size _ (by omega) hsv2 (by omega) Hv2O.out) ?_
                    rintro e v3 ⟨Av3, cv3, rfl, hO, hY⟩
                    rw [Hy2.out] at hO
                    rw [Hy2.out]
                    have Hv3O := Lib.hid hO
                    have hKv3 := Hv2K.out.say hY (by decide)
                    have Hv3K := Lib.hid hKv3
                    have hsv3 : W.heap.size ≤ v3.heap.size := Nat.le_trans hsv2 hY.size
                    have hzv3 := hY.size
                    have Hv3Y := Lib.hid (Hv2Y.out.trans hY)
                    clear hO hY
                    refine hK.out _ _ ?_ (fun hHeld => ?_)
                    · exact hKv3
                    · clear hK K
                      try simp only [List.getElem_toArray, List.getElem_cons_succ, List.getElem_cons_zero, Act.put, List.setIfInBounds_toArray, List.set_cons_zero, List.set_cons_succ]
                      refine wpAnyH_ready (rs := [10]) (by kernel_rfl) (by simp) ?_
                      refine AllReadyH.cons (o := _) rfl (fun K hK => ?_) ?_
                      · go_simp
                        refine Calls.mono (l8num_h y2 _ ct W.heap.size _ (by omega) hsv3 (by omega) Hv3O.out) ?_
                        rintro e v4 ⟨Av4, cv4, rfl, hO, hY⟩
                        rw [Hy3.out] at hO
                        rw [Hy3.out]
                        have Hv4O := Lib.hid hO
                        have hKv4 := Hv3K.out.say hY (by decide)
                        have Hv4K := Lib.hid hKv4
                        have hsv4 : W.heap.size ≤ v4.heap.size := Nat.le_trans hsv3 hY.size
                        have hzv4 := hY.size
                        have Hv4Y := Lib.hid (Hv3Y.out.trans hY)
                        clear hO hY
                        refine hK.out _ _ ?_ (fun hHeld => ?_)
                        · exact hKv4
                        · clear hK K
                          try simp only [List.getElem_toArray, List.getElem_cons_succ, List.getElem_cons_zero, Act.put, List.setIfInBounds_toArray, List.set_cons_zero, List.set_cons_succ]
                          refine wpAnyH_ready (rs := [14]) (by kernel_rfl) (by simp) ?_
                          refine AllReadyH.cons (o := _) rfl (fun K hK => ?_) ?_
                          · go_simp
                            refine Calls.mono (l8num_h y3 _ (fl : Int) W.heap.size _ (by omega) hsv4 (by omega) Hv4O.out) ?_
                            rintro e v5 ⟨Av5, cv5, rfl, hO, hY⟩
                            rw [Hy4.out] at hO
                            rw [Hy4.out]
                            have Hv5O := Lib.hid hO
                            have hKv5 := Hv4K.out.say hY (by decide)
                            have Hv5K := Lib.hid hKv5
                            have hsv5 : W.heap.size ≤ v5.heap.size := Nat.le_trans hsv4 hY.size
                            have hzv5 := hY.size
                            have Hv5Y := Lib.hid (Hv4Y.out.trans hY)
                            clear hO hY
                            refine hK.out _ _ ?_ (fun hHeld => ?_)
                            · exact hKv5
                            · clear hK K
                              try simp only [List.getElem_toArray, List.getElem_cons_succ, List.getElem_cons_zero, Act.put, List.setIfInBounds_toArray, List.set_cons_zero, List.set_cons_succ]
                              refine wpAnyH_take (i := 15) (oi := _) (v := ?_) rfl (by kernel_rfl) (by kernel_rfl) (by kernel_rfl) (fun _ _ _ h => h) (Or.inl ⟨by rfl, ?_⟩) (by assumption) ?_
                              rotate_left
                              focus
                                intro w hSw
                                obtain ⟨qs0, qs1, qs2, qs3⟩ := Blk.four hSw
                                go_simp
                                try with_reducible rfl
                              try simp only [List.getElem_toArray, List.getElem_cons_succ, List.getElem_cons_zero, Act.put, List.setIfInBounds_toArray, List.set_cons_zero, List.set_cons_succ]
                              refine wpAnyH_done (by kernel_rfl) ?_ _
                              refine NoPanic.normal ?_
                              try go_wp2_with fail
                              go_meet
                              case rel => exact ⟨_, _, rfl, Hv5O, Hv5Y⟩
                          exact AllReadyH.nil
                      exact AllReadyH.nil
                  exact AllReadyH.nil
              exact AllReadyH.nil
          exact AllReadyH.nil
        case rest =>
          obtain ⟨A5, c5, rfl, HX1O, HX1S⟩ := hcut
          obtain ⟨X1, hX1⟩ : ∃ x, x = wc := ⟨_, rfl⟩
          subst hX1
          have HX1K := Lib.hid (HXK.out.say HX1S.out (by decide))
          have hsX1 : W.heap.size ≤ X1.heap.size := Nat.le_trans hsX HX1S.out.size
          have HX1Y := Lib.hid (HXY.out.trans HX1S.out)
          have HX1F := Lib.hid (HXF.out.below (HX1S.out.below.mono hBW))
          clear HXO HXY HXK HXF
          go_wp2_with fail
          go_loopw [0, 8] (fun t i wx => ∃ (j : Nat) (z : List UInt8) (Aj : Option Addr) (cj : Nat), j ≤ fl ∧ i = .int .i64 j ∧ t = .slice Aj z.length cj ∧ Hid (z = y4 ++ catTo fdB fs j) ∧ Hid (OwnT wx W.heap.size (.slice Aj z.length cj) z) ∧ Hid (Say W.heap.size X1 wx)) (fun _ i _ => fl - (intOf i).toNat)
          case atStart => exact ⟨0, y4, A5, c5, Nat.zero_le _, rfl, rfl, Lib.hid (by simp [catTo_zero]), HX1O, Lib.hid (Say.refl _ _)⟩
          case round =>
            obtain ⟨V, hV⟩ : ∃ x, x = wr := ⟨_, rfl⟩
            subst hV
            obtain ⟨j, z, Aj, cj, hj, rfl, rfl, hz, hO, hY⟩ := hrel
            have hzl : z.length ≤ 1033 + 30000000 * k + 24 * j := by rw [hz.out, List.length_append]; have := Hfb.out j (by rw [← Hfl.out]; exact hj); omega
            have hKs := HX1K.out.say hY.out (by decide)
            have s3 := hKs.cel 3 (v := .slice FA fl fc) rfl
            have hsV : W.heap.size ≤ V.heap.size := Nat.le_trans hsX1 hY.out.size
            by_cases hltj : j < fl
            · have hltf : j < fs.length := by rw [← Hfl.out]; exact hltj
              obtain ⟨fd, rfl, _, hfdb, hfat⟩ := (HX1F.out.below (hY.out.below.mono hBW)).2 (by omega)
              obtain ⟨v0, v1, v2, v3, hC, NA, nc, rfl, hN, hnm, rfl, rfl, rfl⟩ := hfat j hltf
              have hn6 := Hnl.out j hltf
              have hnx : y4 ++ catTo fdB fs (j + 1) = z ++ fdB fs[j] := by rw [catTo_succ hltf, hz.out, List.append_assoc]
              obtain ⟨f, hf⟩ : ∃ f, fs[j] = f := ⟨_, rfl⟩
              simp only [hf] at hC hN hn6 hnx
              clear hf hfat hnm
              obtain ⟨nm, fk, fn, fg⟩ := f
              dsimp only at hC hN hn6 hnx
              obtain ⟨r3, hr3⟩ : ∃ r, r = b1 (nm.length : Int) := ⟨_, rfl⟩
              obtain ⟨u1, hu1⟩ : ∃ y, z ++ r3 = y := ⟨_, rfl⟩
              obtain ⟨u2, hu2⟩ : ∃ y, u1 ++ nm = y := ⟨_, rfl⟩
              obtain ⟨u3, hu3⟩ : ∃ y, u2 ++ valB fk fn fg = y := ⟨_, rfl⟩
              have hr3l : r3.length = 1 := by rw [hr3]; rfl
              have Hnx := Lib.hid (show y4 ++ catTo fdB fs (j + 1) = u3 by rw [hnx]; unfold fdB nmB; dsimp only; rw [← hu3, ← hu2, ← hu1, ← hr3]; simp)
              have hul1 : u1.length ≤ 1034 + 30000000 * k + 24 * j := by rw [← hu1, List.length_append]; omega
              have hul2 : u2.length ≤ 1040 + 30000000 * k + 24 * j := by rw [← hu2, List.length_append]; omega
              have Hu1 := Lib.hid hu1
              have Hu2 := Lib.hid hu2
              have Hu3 := Lib.hid hu3
              have Hr3l := Lib.hid hr3l
              have Hr3c := Lib.hid (show (#[.int .u8 (IntKind.u8.wrap (nm.length : Int))] : Array Value).toList = vb r3 from by rw [hr3]; exact b1_cell _)
              have HVO := hO
              have HVK : Hid (InF V W.heap.size gs false gn ct (some fd) fl fc (fd.add (j * 4)) NA nm.length nc fk fn fg) := Lib.hid ⟨hKs, hC, by rw [block_of_add]; omega, hsV⟩
              have HVY := hY
              have HVN := Lib.hid hN.1
              have HVG := Lib.hid (HX1F.out.below (hY.out.below.mono hBW))
              clear hC hN hnx hr3 hr3l hu1 hu2 hu3 hO hY hKs hz
              go_upto_region 13 with fail
              go_cut [0] (fun t wx => ∃ A c, t = .slice A u2.length c ∧ Hid (OwnT wx W.heap.size (.slice A u2.length c) u2) ∧ Hid (Say W.heap.size V wx))
              case first =>
                obtain ⟨Vd, eVd⟩ : ∃ x, x = V.drew := ⟨_, rfl⟩
                have HVdO : Hid (OwnT Vd W.heap.size (.slice Aj z.length cj) z) := Lib.hid (eVd ▸ (show OwnT V.drew _ _ _ from HVO.out))
                have hKVd : InF Vd W.heap.size gs false gn ct (some fd) fl fc (fd.add (j * 4)) NA nm.length nc fk fn fg := eVd ▸ HVK.out.drew
                have HVdK := Lib.hid hKVd
                have HVdY : Hid (Say W.heap.size V Vd) := Lib.hid (eVd ▸ (Say.refl W.heap.size V).drew)
                have hzVd : Vd.heap.size = V.heap.size := by rw [eVd]; rfl
                have hsVd : W.heap.size ≤ Vd.heap.size := by omega
                have HVdN := Lib.hid (HVN.out.below (eVd ▸ (Below.refl B V).drew))
                refine wp_region_noPanic ?_
                refine wp_region_held_drew (S := (fun Wq => InF Wq W.heap.size gs false gn ct (some fd) fl fc (fd.add (j * 4)) NA nm.length nc fk fn fg)) (by kernel_rfl) ?_ (fun hHeld => ?_)
                · exact eVd ▸ hKVd
                rw [← eVd]
                clear eVd
                refine wpAnyH_take (i := 0) (oi := _) (v := ?_) rfl (by kernel_rfl) (by kernel_rfl) (by kernel_rfl) (fun _ _ _ h => h) (Or.inl ⟨by rfl, ?_⟩) (by assumption) ?_
                rotate_left
                focus
                  intro w hSw
                  obtain ⟨qs0, qs1, qs2, qs3, qs4⟩ := InF.opn hSw
                  go_simp
                  try with_reducible rfl
                try simp only [List.getElem_toArray, List.getElem_cons_succ, List.getElem_cons_zero, Act.put, List.setIfInBounds_toArray, List.set_cons_zero, List.set_cons_succ]
                refine wpAnyH_take (i := 1) (oi := _) (v := ?_) rfl (by kernel_rfl) (by kernel_rfl) (by kernel_rfl) (fun _ _ _ h => h) (Or.inl ⟨by rfl, ?_⟩) (by assumption) ?_
                rotate_left
                focus
                  intro w hSw
                  obtain ⟨qs0, qs1, qs2, qs3, qs4⟩ := InF.opn hSw
                  go_simp
                  try with_reducible rfl
                try simp only [List.getElem_toArray, List.getElem_cons_succ, List.getElem_cons_zero, Act.put, List.setIfInBounds_toArray, List.set_cons_zero, List.set_cons_succ]
                refine wpAnyH_take (i := 2) (oi := _) (v := ?_) rfl (by kernel_rfl) (by kernel_rfl) (by kernel_rfl) (fun _ _ _ h => h) (Or.inl ⟨by rfl, ?_⟩) (by assumption) ?_
                rotate_left
                focus
                  intro w hSw
                  obtain ⟨qs0, qs1, qs2, qs3, qs4⟩ := InF.opn hSw
                  go_simp
                  try with_reducible rfl
                try simp only [List.getElem_toArray, List.getElem_cons_succ, List.getElem_cons_zero, Act.put, List.setIfInBounds_toArray, List.set_cons_zero, List.set_cons_succ]
                refine wpAnyH_take (i := 3) (oi := _) (v := ?_) rfl (by kernel_rfl) (by kernel_rfl) (by kernel_rfl) (fun _ _ _ h => h) (Or.inl ⟨by rfl, ?_⟩) (by assumption) ?_
                rotate_left
                focus
                  intro w hSw
                  obtain ⟨qs0, qs1, qs2, qs3, qs4⟩ := InF.opn hSw
                  go_simp
                  try with_reducible rfl
                try simp only [List.getElem_toArray, List.getElem_cons_succ, List.getElem_cons_zero, Act.put, List.setIfInBounds_toArray, List.set_cons_zero, List.set_cons_succ]
                refine wpAnyH_take (i := 4) (oi := _) (v := ?_) rfl (by kernel_rfl) (by kernel_rfl) (by kernel_rfl) (fun _ _ _ h => h) (Or.inl ⟨by rfl, ?_⟩) (by assumption) ?_
                rotate_left
                focus
                  intro w hSw
                  obtain ⟨qs0, qs1, qs2, qs3, qs4⟩ := InF.opn hSw
                  go_simp
                  try with_reducible rfl
                try simp only [List.getElem_toArray, List.getElem_cons_succ, List.getElem_cons_zero, Act.put, List.setIfInBounds_toArray, List.set_cons_zero, List.set_cons_succ]
                refine wpAnyH_take (i := 5) (oi := _) (v := ?_) rfl (by kernel_rfl) (by kernel_rfl) (by kernel_rfl) (fun _ _ _ h => h) (Or.inl ⟨by rfl, ?_⟩) (by assumption) ?_
                rotate_left
                focus
                  intro w hSw
                  obtain ⟨qs0, qs1, qs2, qs3, qs4⟩ := InF.opn hSw
                  go_simp
                  try with_reducible rfl
                try simp only [List.getElem_toArray, List.getElem_cons_succ, List.getElem_cons_zero, Act.put, List.setIfInBounds_toArray, List.set_cons_zero, List.set_cons_succ]
                refine wpAnyH_take (i := 6) (oi := _) (v := ?_) rfl (by kernel_rfl) (by kernel_rfl) (by kernel_rfl) (fun _ _ _ h => h) (Or.inl ⟨by rfl, ?_⟩) (by assumption) ?_
                rotate_left
                focus
                  intro w hSw
                  obtain ⟨qs0, qs1, qs2, qs3, qs4⟩ := InF.opn hSw
                  go_simp
                  try with_reducible rfl
                try simp only [List.getElem_toArray, List.getElem_cons_succ, List.getElem_cons_zero, Act.put, List.setIfInBounds_toArray, List.set_cons_zero, List.set_cons_succ]
                refine wpAnyH_take (i := 7) (oi := _) (v := ?_) rfl (by kernel_rfl) (by kernel_rfl) (by kernel_rfl) (fun _ _ _ h => h) (Or.inl ⟨by rfl, ?_⟩) (by assumption) ?_
                rotate_left
                focus
                  intro w hSw
                  obtain ⟨qs0, qs1, qs2, qs3, qs4⟩ := InF.opn hSw
                  go_simp
                  try with_reducible rfl
                try simp only [List.getElem_toArray, List.getElem_cons_succ, List.getElem_cons_zero, Act.put, List.setIfInBounds_toArray, List.set_cons_zero, List.set_cons_succ]
                refine wpAnyH_take (i := 8) (oi := _) (v := ?_) rfl (by kernel_rfl) (by kernel_rfl) (by kernel_rfl) (fun _ _ _ h => h) (Or.inl ⟨by rfl, ?_⟩) (by assumption) ?_
                rotate_left
                focus
                  intro w hSw
                  obtain ⟨qs0, qs1, qs2, qs3, qs4⟩ := InF.opn hSw
                  go_simp
                  try with_reducible rfl
                try simp only [List.getElem_toArray, List.getElem_cons_succ, List.getElem_cons_zero, Act.put, List.setIfInBounds_toArray, List.set_cons_zero, List.set_cons_succ]
                refine wpAnyH_take (i := 11) (oi := _) (v := ?_) rfl (by kernel_rfl) (by kernel_rfl) (by kernel_rfl) (fun _ _ _ h => h) (Or.inl ⟨by rfl, ?_⟩) (by assumption) ?_
                rotate_left
                focus
                  intro w hSw
                  obtain ⟨qs0, qs1, qs2, qs3, qs4⟩ := InF.opn hSw
                  go_simp
                  try with_reducible rfl
                try simp only [List.getElem_toArray, List.getElem_cons_succ, List.getElem_cons_zero, Act.put, List.setIfInBounds_toArray, List.set_cons_zero, List.set_cons_succ]
                refine wpAnyH_take (i := 12) (oi := _) (v := ?_) rfl (by kernel_rfl) (by kernel_rfl) (by kernel_rfl) (fun _ _ _ h => h) (Or.inl ⟨by rfl, ?_⟩) (by assumption) ?_
                rotate_left
                focus
                  intro w hSw
                  obtain ⟨qs0, qs1, qs2, qs3, qs4⟩ := InF.opn hSw
                  go_simp
                  try with_reducible rfl
                try simp only [List.getElem_toArray, List.getElem_cons_succ, List.getElem_cons_zero, Act.put, List.setIfInBounds_toArray, List.set_cons_zero, List.set_cons_succ]
                refine wpAnyH_take (i := 13) (oi := _) (v := ?_) rfl (by kernel_rfl) (by kernel_rfl) (by kernel_rfl) (fun _ _ _ h => h) (Or.inl ⟨by rfl, ?_⟩) (by assumption) ?_
                rotate_left
                focus
                  intro w hSw
                  obtain ⟨qs0, qs1, qs2, qs3, qs4⟩ := InF.opn hSw
                  go_simp
                  try with_reducible rfl
                try simp only [List.getElem_toArray, List.getElem_cons_succ, List.getElem_cons_zero, Act.put, List.setIfInBounds_toArray, List.set_cons_zero, List.set_cons_succ]
                refine wpAnyH_take (i := 14) (oi := _) (v := ?_) rfl (by kernel_rfl) (by kernel_rfl) (by kernel_rfl) (fun _ _ _ h => h) (Or.inl ⟨by rfl, ?_⟩) (by assumption) ?_
                rotate_left
                focus
                  intro w hSw
                  obtain ⟨qs0, qs1, qs2, qs3, qs4⟩ := InF.opn hSw
                  go_simp
                  try with_reducible rfl
                try simp only [List.getElem_toArray, List.getElem_cons_succ, List.getElem_cons_zero, Act.put, List.setIfInBounds_toArray, List.set_cons_zero, List.set_cons_succ]
                refine wpAnyH_take (i := 15) (oi := _) (v := ?_) rfl (by kernel_rfl) (by kernel_rfl) (by kernel_rfl) (fun _ _ _ h => h) (Or.inl ⟨by rfl, ?_⟩) (by assumption) ?_
                rotate_left
                focus
                  intro w hSw
                  obtain ⟨qs0, qs1, qs2, qs3, qs4⟩ := InF.opn hSw
                  go_simp
                  try with_reducible rfl
                try simp only [List.getElem_toArray, List.getElem_cons_succ, List.getElem_cons_zero, Act.put, List.setIfInBounds_toArray, List.set_cons_zero, List.set_cons_succ]
                refine wpAnyH_take (i := 16) (oi := _) (v := ?_) rfl (by kernel_rfl) (by kernel_rfl) (by kernel_rfl) (fun _ _ _ h => h) (Or.inl ⟨by rfl, ?_⟩) (by assumption) ?_
                rotate_left
                focus
                  intro w hSw
                  obtain ⟨qs0, qs1, qs2, qs3, qs4⟩ := InF.opn hSw
                  go_simp
                  try with_reducible rfl
                try simp only [List.getElem_toArray, List.getElem_cons_succ, List.getElem_cons_zero, Act.put, List.setIfInBounds_toArray, List.set_cons_zero, List.set_cons_succ]
                refine wpAnyH_ready (rs := [9]) (by kernel_rfl) (by simp) ?_
                refine AllReadyH.cons (o := _) rfl (fun K hK => ?_) ?_
                · go_simp
                  obtain ⟨v1, ev1⟩ : ∃ x, x = Vd.alloc (.cells #[.int .u8 (IntKind.u8.wrap (nm.length : Int))] 5) := ⟨_, rfl⟩
                  rw [← ev1]
                  have Hv1O : Hid (OwnT v1 W.heap.size (.slice Aj z.length cj) z) := Lib.hid (ev1 ▸ HVdO.out.alloc _)
                  have hKv1 : InF v1 W.heap.size gs false gn ct (some fd) fl fc (fd.add (j * 4)) NA nm.length nc fk fn fg := ev1 ▸ HVdK.out.alloc _
                  have Hv1K := Lib.hid hKv1
                  have Hv1Y : Hid (Say W.heap.size V v1) := Lib.hid (ev1 ▸ HVdY.out.alloc hsVd _)
                  have hzv1 : v1.heap.size = Vd.heap.size + 1 := by rw [ev1]; simp
                  have hsv1 : W.heap.size ≤ v1.heap.size := by omega
                  have gv1_9 : Hid (Blk v1 Vd.heap.size 5 #[.int .u8 (IntKind.u8.wrap (nm.length : Int))]) := Lib.hid (ev1 ▸ Blk.new Vd _ _)
                  have Hv1N := Lib.hid (HVdN.out.below ((ev1 ▸ blOne Vd (.cells #[.int .u8 (IntKind.u8.wrap (nm.length : Int))] 5) : Below Vd.heap.size Vd v1).mono (by omega)))
                  clear ev1
                  refine hK.out _ _ ?_ (fun hHeld => ?_)
                  · exact hKv1
                  · clear hK K
                    try simp only [List.getElem_toArray, List.getElem_cons_succ, List.getElem_cons_zero, Act.put, List.setIfInBounds_toArray, List.set_cons_zero, List.set_cons_succ]
                    refine wpAnyH_ready (rs := [10]) (by kernel_rfl) (by simp) ?_
                    refine AllReadyH.cons (o := _) rfl (fun K hK => ?_) ?_
                    · refine wp_litK (r := r3) (.tmp 50) (.tmp 59) rfl Hv1O.out gv1_9.out Hr3c.out Hr3l.out Hu1.out (by have := Hr3l.out; omega) (by omega) (by simp [Act.eval, Act.put]) (by simp [Act.eval, Act.put]) ?_
                      intro Av2 cv2 v2 hO hY hkp
                      have Hv2O := Lib.hid hO
                      have hKv2 := Hv1K.out.say hY (by decide)
                      have Hv2K := Lib.hid hKv2
                      have hsv2 : W.heap.size ≤ v2.heap.size := Nat.le_trans hsv1 hY.size
                      have hzv2 := hY.size
                      have Hv2N := Lib.hid (Hv1N.out.below (hY.below.mono hBW))
                      have Hv2Y := Lib.hid (Hv1Y.out.trans hY)
                      clear hO hY hkp
                      refine hK.out _ _ ?_ (fun hHeld => ?_)
                      · exact hKv2
                      · clear hK K
                        try simp only [List.getElem_toArray, List.getElem_cons_succ, List.getElem_cons_zero, Act.put, List.setIfInBounds_toArray, List.set_cons_zero, List.set_cons_succ]
                        refine wpAnyH_ready (rs := [17]) (by kernel_rfl) (by simp) ?_
                        refine AllReadyH.cons (o := _) rfl (fun K hK => ?_) ?_
                        · refine wp_rowK (c0 := nc) (.tmp 60) (.tmp 66) rfl Hv2O.out Hv2N.out Hu2.out (by omega) (by omega) (by simp [Act.eval, Act.put]) (by simp [Act.eval, Act.put]) ?_
                          intro Av3 cv3 v3 hO hY hkp
                          have Hv3O := Lib.hid hO
                          have hKv3 := Hv2K.out.say hY (by decide)
                          have Hv3K := Lib.hid hKv3
                          have hsv3 : W.heap.size ≤ v3.heap.size := Nat.le_trans hsv2 hY.size
                          have hzv3 := hY.size
                          have Hv3N := Lib.hid (Hv2N.out.below (hY.below.mono hBW))
                          have Hv3Y := Lib.hid (Hv2Y.out.trans hY)
                          clear hO hY hkp
                          refine hK.out _ _ ?_ (fun hHeld => ?_)
                          · exact hKv3
                          · clear hK K
                            try simp only [List.getElem_toArray, List.getElem_cons_succ, List.getElem_cons_zero, Act.put, List.setIfInBounds_toArray, List.set_cons_zero, List.set_cons_succ]
                            refine wpAnyH_take (i := 18) (oi := _) (v := ?_) rfl (by kernel_rfl) (by kernel_rfl) (by kernel_rfl) (fun _ _ _ h => h) (Or.inl ⟨by rfl, ?_⟩) (by assumption) ?_
                            rotate_left
                            focus
                              intro w hSw
                              obtain ⟨qs0, qs1, qs2, qs3, qs4⟩ := InF.opn hSw
                              go_simp
                              try with_reducible rfl
                            try simp only [List.getElem_toArray, List.getElem_cons_succ, List.getElem_cons_zero, Act.put, List.setIfInBounds_toArray, List.set_cons_zero, List.set_cons_succ]
                            refine wpAnyH_done (by kernel_rfl) ?_ _
                            refine NoPanic.normal ?_
                            try go_wp2_with fail
                            go_meet
                            case rel => exact ⟨_, _, rfl, Hv3O, Hv3Y⟩
                        exact AllReadyH.nil
                    exact AllReadyH.nil
                exact AllReadyH.nil
              case rest =>
                obtain ⟨A6, c6, rfl, HV1O, HV1S⟩ := hcut
                obtain ⟨V1, hV1⟩ : ∃ x, x = wc := ⟨_, rfl⟩
                subst hV1
                have HV1K := Lib.hid (HVK.out.say HV1S.out (by decide))
                have hsV1 : W.heap.size ≤ V1.heap.size := Nat.le_trans hsV HV1S.out.size
                have HV1Y := Lib.hid (HVY.out.trans HV1S.out)
                have HV1G := Lib.hid (HVG.out.below (HV1S.out.below.mono hBW))
                clear HVO HVK HVY HVN HVG s3
                have hl8 := l8val_c u2 (.slice A6 u2.length c6) fk fn fg W V1 hsV1 (by omega) HV1O.out
                rw [Hu3.out] at hl8
                have Hl8 := Lib.hid hl8
                obtain ⟨t0, t1, t2, t3, t4⟩ := InF.opn HV1K.out
                clear hl8
                go_wp2_with fail
                refine Hl8.out.mono ?_
                rintro e wz ⟨A7, c7, rfl, hO7, hY7⟩
                have HO7 := Lib.hid hO7
                have HY7 := Lib.hid (HV1Y.out.trans hY7)
                clear hO7 hY7 Hl8 t0 t1 t2 t3 t4
                go_wp2_with fail
                go_roundw
                case rel => exact ⟨j + 1, u3, A7, c7, by omega, by go_num, rfl, Lib.hid Hnx.out.symm, HO7, HY7⟩
                case measure => simp [intOf]; omega
            · obtain rfl : j = fl := by omega
              go_wp2
              go_roundw
              case rel => exact ⟨k + 1, z, Aj, cj, by omega, by go_num, rfl, Lib.hid (by rw [Hnext.out, hz.out, ← Hfl.out]), hO, Lib.hid (HX1Y.out.trans hY.out)⟩
              case measure => simp [intOf]; omega
      · have Hr1c := Lib.hid (show (#[.int .u8 (IntKind.u8.wrap 1)] : Array Value).toList = vb r1 from by rw [Hr1.out]; exact b1_cell _)
        go_upto_region 9 with fail
        go_cut [0] (fun t wx => ∃ A c, t = .slice A y4.length c ∧ Hid (OwnT wx W.heap.size (.slice A y4.length c) y4) ∧ Hid (Say W.heap.size X wx))
        case first =>
          obtain ⟨Xd, eXd⟩ : ∃ x, x = X.drew := ⟨_, rfl⟩
          have HXdO : Hid (OwnT Xd W.heap.size (.slice At x.length ctt) x) := Lib.hid (eXd ▸ (show OwnT X.drew _ _ _ from HXO.out))
          have hKXd : Blk Xd gs 90 #[.bool true, .int .i64 gn, .int .i64 ct, .slice FA fl fc] := eXd ▸ HXK.out.drew
          have HXdK := Lib.hid hKXd
          have HXdY : Hid (Say W.heap.size X Xd) := Lib.hid (eXd ▸ (Say.refl W.heap.size X).drew)
          have hzXd : Xd.heap.size = X.heap.size := by rw [eXd]; rfl
          have hsXd : W.heap.size ≤ Xd.heap.size := by omega
          refine wp_region_noPanic ?_
          refine wp_region_held_drew (S := (fun W => Blk W gs 90 #[.bool true, .int .i64 gn, .int .i64 ct, .slice FA fl fc])) (by kernel_rfl) ?_ (fun hHeld => ?_)
          · exact eXd ▸ hKXd
          rw [← eXd]
          clear eXd
          refine wpAnyH_take (i := 0) (oi := _) (v := ?_) rfl (by kernel_rfl) (by kernel_rfl) (by kernel_rfl) (fun _ _ _ h => h) (Or.inl ⟨by rfl, ?_⟩) (by assumption) ?_
          rotate_left
          focus
            intro w hSw
            obtain ⟨qs0, qs1, qs2, qs3⟩ := Blk.four hSw
            go_simp
            try with_reducible rfl
          try simp only [List.getElem_toArray, List.getElem_cons_succ, List.getElem_cons_zero, Act.put, List.setIfInBounds_toArray, List.set_cons_zero, List.set_cons_succ]
          refine wpAnyH_take (i := 1) (oi := _) (v := ?_) rfl (by kernel_rfl) (by kernel_rfl) (by kernel_rfl) (fun _ _ _ h => h) (Or.inl ⟨by rfl, ?_⟩) (by assumption) ?_
          rotate_left
          focus
            intro w hSw
            obtain ⟨qs0, qs1, qs2, qs3⟩ := Blk.four hSw
            go_simp
            try with_reducible rfl
          try simp only [List.getElem_toArray, List.getElem_cons_succ, List.getElem_cons_zero, Act.put, List.setIfInBounds_toArray, List.set_cons_zero, List.set_cons_succ]
          refine wpAnyH_take (i := 2) (oi := _) (v := ?_) rfl (by kernel_rfl) (by kernel_rfl) (by kernel_rfl) (fun _ _ _ h => h) (Or.inl ⟨by rfl, ?_⟩) (by assumption) ?_
          rotate_left
          focus
            intro w hSw
            obtain ⟨qs0, qs1, qs2, qs3⟩ := Blk.four hSw
            go_simp
            try with_reducible rfl
          try simp only [List.getElem_toArray, List.getElem_cons_succ, List.getElem_cons_zero, Act.put, List.setIfInBounds_toArray, List.set_cons_zero, List.set_cons_succ]
          refine wpAnyH_take (i := 5) (oi := _) (v := ?_) rfl (by kernel_rfl) (by kernel_rfl) (by kernel_rfl) (fun _ _ _ h => h) (Or.inl ⟨by rfl, ?_⟩) (by assumption) ?_
          rotate_left
          focus
            intro w hSw
            obtain ⟨qs0, qs1, qs2, qs3⟩ := Blk.four hSw
            go_simp
            try with_reducible rfl
          try simp only [List.getElem_toArray, List.getElem_cons_succ, List.getElem_cons_zero, Act.put, List.setIfInBounds_toArray, List.set_cons_zero, List.set_cons_succ]
          refine wpAnyH_take (i := 6) (oi := _) (v := ?_) rfl (by kernel_rfl) (by kernel_rfl) (by kernel_rfl) (fun _ _ _ h => h) (Or.inl ⟨by rfl, ?_⟩) (by assumption) ?_
          rotate_left
          focus
            intro w hSw
            obtain ⟨qs0, qs1, qs2, qs3⟩ := Blk.four hSw
            go_simp
            try with_reducible rfl
          try simp only [List.getElem_toArray, List.getElem_cons_succ, List.getElem_cons_zero, Act.put, List.setIfInBounds_toArray, List.set_cons_zero, List.set_cons_succ]
          refine wpAnyH_take (i := 8) (oi := _) (v := ?_) rfl (by kernel_rfl) (by kernel_rfl) (by kernel_rfl) (fun _ _ _ h => h) (Or.inl ⟨by rfl, ?_⟩) (by assumption) ?_
          rotate_left
          focus
            intro w hSw
            obtain ⟨qs0, qs1, qs2, qs3⟩ := Blk.four hSw
            go_simp
            try with_reducible rfl
          try simp only [List.getElem_toArray, List.getElem_cons_succ, List.getElem_cons_zero, Act.put, List.setIfInBounds_toArray, List.set_cons_zero, List.set_cons_succ]
          refine wpAnyH_take (i := 9) (oi := _) (v := ?_) rfl (by kernel_rfl) (by kernel_rfl) (by kernel_rfl) (fun _ _ _ h => h) (Or.inl ⟨by rfl, ?_⟩) (by assumption) ?_
          rotate_left
          focus
            intro w hSw
            obtain ⟨qs0, qs1, qs2, qs3⟩ := Blk.four hSw
            go_simp
            try with_reducible rfl
          try simp only [List.getElem_toArray, List.getElem_cons_succ, List.getElem_cons_zero, Act.put, List.setIfInBounds_toArray, List.set_cons_zero, List.set_cons_succ]
          refine wpAnyH_take (i := 11) (oi := _) (v := ?_) rfl (by kernel_rfl) (by kernel_rfl) (by kernel_rfl) (fun _ _ _ h => h) (Or.inl ⟨by rfl, ?_⟩) (by assumption) ?_
          rotate_left
          focus
            intro w hSw
            obtain ⟨qs0, qs1, qs2, qs3⟩ := Blk.four hSw
            go_simp
            try with_reducible rfl
          try simp only [List.getElem_toArray, List.getElem_cons_succ, List.getElem_cons_zero, Act.put, List.setIfInBounds_toArray, List.set_cons_zero, List.set_cons_succ]
          refine wpAnyH_take (i := 12) (oi := _) (v := ?_) rfl (by kernel_rfl) (by kernel_rfl) (by kernel_rfl) (fun _ _ _ h => h) (Or.inl ⟨by rfl, ?_⟩) (by assumption) ?_
          rotate_left
          focus
            intro w hSw
            obtain ⟨qs0, qs1, qs2, qs3⟩ := Blk.four hSw
            go_simp
            try with_reducible rfl
          try simp only [List.getElem_toArray, List.getElem_cons_succ, List.getElem_cons_zero, Act.put, List.setIfInBounds_toArray, List.set_cons_zero, List.set_cons_succ]
          refine wpAnyH_take (i := 13) (oi := _) (v := ?_) rfl (by kernel_rfl) (by kernel_rfl) (by kernel_rfl) (fun _ _ _ h => h) (Or.inl ⟨by rfl, ?_⟩) (by assumption) ?_
          rotate_left
          focus
            intro w hSw
            obtain ⟨qs0, qs1, qs2, qs3⟩ := Blk.four hSw
            go_simp
            try with_reducible rfl
          try simp only [List.getElem_toArray, List.getElem_cons_succ, List.getElem_cons_zero, Act.put, List.setIfInBounds_toArray, List.set_cons_zero, List.set_cons_succ]
          refine wpAnyH_ready (rs := [3]) (by kernel_rfl) (by simp) ?_
          refine AllReadyH.cons (o := _) rfl (fun K hK => ?_) ?_
          · go_simp
            obtain ⟨v1, ev1⟩ : ∃ x, x = Xd.alloc (.cells #[.int .u8 (IntKind.u8.wrap 1)] 5) := ⟨_, rfl⟩
            rw [← ev1]
            have Hv1O : Hid (OwnT v1 W.heap.size (.slice At x.length ctt) x) := Lib.hid (ev1 ▸ HXdO.out.alloc _)
            have hKv1 : Blk v1 gs 90 #[.bool true, .int .i64 gn, .int .i64 ct, .slice FA fl fc] := ev1 ▸ HXdK.out.alloc _
            have Hv1K := Lib.hid hKv1
            have Hv1Y : Hid (Say W.heap.size X v1) := Lib.hid (ev1 ▸ HXdY.out.alloc hsXd _)
            have hzv1 : v1.heap.size = Xd.heap.size + 1 := by rw [ev1]; simp
            have hsv1 : W.heap.size ≤ v1.heap.size := by omega
            have gv1_3 : Hid (Blk v1 Xd.heap.size 5 #[.int .u8 (IntKind.u8.wrap 1)]) := Lib.hid (ev1 ▸ Blk.new Xd _ _)
            clear ev1
            refine hK.out _ _ ?_ (fun hHeld => ?_)
            · exact hKv1
            · clear hK K
              try simp only [List.getElem_toArray, List.getElem_cons_succ, List.getElem_cons_zero, Act.put, List.setIfInBounds_toArray, List.set_cons_zero, List.set_cons_succ]
              refine wpAnyH_ready (rs := [4]) (by kernel_rfl) (by simp) ?_
              refine AllReadyH.cons (o := _) rfl (fun K hK => ?_) ?_
              · refine wp_litK (r := r1) (.tmp 28) (.tmp 31) rfl Hv1O.out gv1_3.out Hr1c.out Hr1l.out Hy1.out (by have := Hr1l.out; omega) (by omega) (by simp [Act.eval, Act.put]) (by simp [Act.eval, Act.put]) ?_
                intro Av2 cv2 v2 hO hY hkp
                have Hv2O := Lib.hid hO
                have hKv2 := Hv1K.out.say hY (by decide)
                have Hv2K := Lib.hid hKv2
                have hsv2 : W.heap.size ≤ v2.heap.size := Nat.le_trans hsv1 hY.size
                have hzv2 := hY.size
                have Hv2Y := Lib.hid (Hv1Y.out.trans hY)
                clear hO hY hkp
                refine hK.out _ _ ?_ (fun hHeld => ?_)
                · exact hKv2
                · clear hK K
                  try simp only [List.getElem_toArray, List.getElem_cons_succ, List.getElem_cons_zero, Act.put, List.setIfInBounds_toArray, List.set_cons_zero, List.set_cons_succ]
                  refine wpAnyH_ready (rs := [7]) (by kernel_rfl) (by simp) ?_
                  refine AllReadyH.cons (o := _) rfl (fun K hK => ?_) ?_
                  · go_simp
                    refine Calls.mono (l8num_h y1 _ gn W.heap.size _ (by omega) hsv2 (by omega) Hv2O.out) ?_
                    rintro e v3 ⟨Av3, cv3, rfl, hO, hY⟩
                    rw [Hy2.out] at hO
                    rw [Hy2.out]
                    have Hv3O := Lib.hid hO
                    have hKv3 := Hv2K.out.say hY (by decide)
                    have Hv3K := Lib.hid hKv3
                    have hsv3 : W.heap.size ≤ v3.heap.size := Nat.le_trans hsv2 hY.size
                    have hzv3 := hY.size
                    have Hv3Y := Lib.hid (Hv2Y.out.trans hY)
                    clear hO hY
                    refine hK.out _ _ ?_ (fun hHeld => ?_)
                    · exact hKv3
                    · clear hK K
                      try simp only [List.getElem_toArray, List.getElem_cons_succ, List.getElem_cons_zero, Act.put, List.setIfInBounds_toArray, List.set_cons_zero, List.set_cons_succ]
                      refine wpAnyH_ready (rs := [10]) (by kernel_rfl) (by simp) ?_
                      refine AllReadyH.cons (o := _) rfl (fun K hK => ?_) ?_
                      · go_simp
                        refine Calls.mono (l8num_h y2 _ ct W.heap.size _ (by omega) hsv3 (by omega) Hv3O.out) ?_
                        rintro e v4 ⟨Av4, cv4, rfl, hO, hY⟩
                        rw [Hy3.out] at hO
                        rw [Hy3.out]
                        have Hv4O := Lib.hid hO
                        have hKv4 := Hv3K.out.say hY (by decide)
                        have Hv4K := Lib.hid hKv4
                        have hsv4 : W.heap.size ≤ v4.heap.size := Nat.le_trans hsv3 hY.size
                        have hzv4 := hY.size
                        have Hv4Y := Lib.hid (Hv3Y.out.trans hY)
                        clear hO hY
                        refine hK.out _ _ ?_ (fun hHeld => ?_)
                        · exact hKv4
                        · clear hK K
                          try simp only [List.getElem_toArray, List.getElem_cons_succ, List.getElem_cons_zero, Act.put, List.setIfInBounds_toArray, List.set_cons_zero, List.set_cons_succ]
                          refine wpAnyH_ready (rs := [14]) (by kernel_rfl) (by simp) ?_
                          refine AllReadyH.cons (o := _) rfl (fun K hK => ?_) ?_
                          · go_simp
                            refine Calls.mono (l8num_h y3 _ (fl : Int) W.heap.size _ (by omega) hsv4 (by omega) Hv4O.out) ?_
                            rintro e v5 ⟨Av5, cv5, rfl, hO, hY⟩
                            rw [Hy4.out] at hO
                            rw [Hy4.out]
                            have Hv5O := Lib.hid hO
                            have hKv5 := Hv4K.out.say hY (by decide)
                            have Hv5K := Lib.hid hKv5
                            have hsv5 : W.heap.size ≤ v5.heap.size := Nat.le_trans hsv4 hY.size
                            have hzv5 := hY.size
                            have Hv5Y := Lib.hid (Hv4Y.out.trans hY)
                            clear hO hY
                            refine hK.out _ _ ?_ (fun hHeld => ?_)
                            · exact hKv5
                            · clear hK K
                              try simp only [List.getElem_toArray, List.getElem_cons_succ, List.getElem_cons_zero, Act.put, List.setIfInBounds_toArray, List.set_cons_zero, List.set_cons_succ]
                              refine wpAnyH_take (i := 15) (oi := _) (v := ?_) rfl (by kernel_rfl) (by kernel_rfl) (by kernel_rfl) (fun _ _ _ h => h) (Or.inl ⟨by rfl, ?_⟩) (by assumption) ?_
                              rotate_left
                              focus
                                intro w hSw
                                obtain ⟨qs0, qs1, qs2, qs3⟩ := Blk.four hSw
                                go_simp
                                try with_reducible rfl
                              try simp only [List.getElem_toArray, List.getElem_cons_succ, List.getElem_cons_zero, Act.put, List.setIfInBounds_toArray, List.set_cons_zero, List.set_cons_succ]
                              refine wpAnyH_done (by kernel_rfl) ?_ _
                              refine NoPanic.normal ?_
                              try go_wp2_with fail
                              go_meet
                              case rel => exact ⟨_, _, rfl, Hv5O, Hv5Y⟩
                          exact AllReadyH.nil
                      exact AllReadyH.nil
                  exact AllReadyH.nil
              exact AllReadyH.nil
          exact AllReadyH.nil
        case rest =>
          obtain ⟨A5, c5, rfl, HX1O, HX1S⟩ := hcut
          obtain ⟨X1, hX1⟩ : ∃ x, x = wc := ⟨_, rfl⟩
          subst hX1
          have HX1K := Lib.hid (HXK.out.say HX1S.out (by decide))
          have hsX1 : W.heap.size ≤ X1.heap.size := Nat.le_trans hsX HX1S.out.size
          have HX1Y := Lib.hid (HXY.out.trans HX1S.out)
          have HX1F := Lib.hid (HXF.out.below (HX1S.out.below.mono hBW))
          clear HXO HXY HXK HXF
          go_wp2_with fail
          go_loopw [0, 8] (fun t i wx => ∃ (j : Nat) (z : List UInt8) (Aj : Option Addr) (cj : Nat), j ≤ fl ∧ i = .int .i64 j ∧ t = .slice Aj z.length cj ∧ Hid (z = y4 ++ catTo fdB fs j) ∧ Hid (OwnT wx W.heap.size (.slice Aj z.length cj) z) ∧ Hid (Say W.heap.size X1 wx)) (fun _ i _ => fl - (intOf i).toNat)
          case atStart => exact ⟨0, y4, A5, c5, Nat.zero_le _, rfl, rfl, Lib.hid (by simp [catTo_zero]), HX1O, Lib.hid (Say.refl _ _)⟩
          case round =>
            obtain ⟨V, hV⟩ : ∃ x, x = wr := ⟨_, rfl⟩
            subst hV
            obtain ⟨j, z, Aj, cj, hj, rfl, rfl, hz, hO, hY⟩ := hrel
            have hzl : z.length ≤ 1033 + 30000000 * k + 24 * j := by rw [hz.out, List.length_append]; have := Hfb.out j (by rw [← Hfl.out]; exact hj); omega
            have hKs := HX1K.out.say hY.out (by decide)
            have s3 := hKs.cel 3 (v := .slice FA fl fc) rfl
            have hsV : W.heap.size ≤ V.heap.size := Nat.le_trans hsX1 hY.out.size
            by_cases hltj : j < fl
            · have hltf : j < fs.length := by rw [← Hfl.out]; exact hltj
              obtain ⟨fd, rfl, _, hfdb, hfat⟩ := (HX1F.out.below (hY.out.below.mono hBW)).2 (by omega)
              obtain ⟨v0, v1, v2, v3, hC, NA, nc, rfl, hN, hnm, rfl, rfl, rfl⟩ := hfat j hltf
              have hn6 := Hnl.out j hltf
              have hnx : y4 ++ catTo fdB fs (j + 1) = z ++ fdB fs[j] := by rw [catTo_succ hltf, hz.out, List.append_assoc]
              obtain ⟨f, hf⟩ : ∃ f, fs[j] = f := ⟨_, rfl⟩
              simp only [hf] at hC hN hn6 hnx
              clear hf hfat hnm
              obtain ⟨nm, fk, fn, fg⟩ := f
              dsimp only at hC hN hn6 hnx
              obtain ⟨r3, hr3⟩ : ∃ r, r = b1 (nm.length : Int) := ⟨_, rfl⟩
              obtain ⟨u1, hu1⟩ : ∃ y, z ++ r3 = y := ⟨_, rfl⟩
              obtain ⟨u2, hu2⟩ : ∃ y, u1 ++ nm = y := ⟨_, rfl⟩
              obtain ⟨u3, hu3⟩ : ∃ y, u2 ++ valB fk fn fg = y := ⟨_, rfl⟩
              have hr3l : r3.length = 1 := by rw [hr3]; rfl
              have Hnx := Lib.hid (show y4 ++ catTo fdB fs (j + 1) = u3 by rw [hnx]; unfold fdB nmB; dsimp only; rw [← hu3, ← hu2, ← hu1, ← hr3]; simp)
              have hul1 : u1.length ≤ 1034 + 30000000 * k + 24 * j := by rw [← hu1, List.length_append]; omega
              have hul2 : u2.length ≤ 1040 + 30000000 * k + 24 * j := by rw [← hu2, List.length_append]; omega
              have Hu1 := Lib.hid hu1
              have Hu2 := Lib.hid hu2
              have Hu3 := Lib.hid hu3
              have Hr3l := Lib.hid hr3l
              have Hr3c := Lib.hid (show (#[.int .u8 (IntKind.u8.wrap (nm.length : Int))] : Array Value).toList = vb r3 from by rw [hr3]; exact b1_cell _)
              have HVO := hO
              have HVK : Hid (InF V W.heap.size gs true gn ct (some fd) fl fc (fd.add (j * 4)) NA nm.length nc fk fn fg) := Lib.hid ⟨hKs, hC, by rw [block_of_add]; omega, hsV⟩
              have HVY := hY
              have HVN := Lib.hid hN.1
              have HVG := Lib.hid (HX1F.out.below (hY.out.below.mono hBW))
              clear hC hN hnx hr3 hr3l hu1 hu2 hu3 hO hY hKs hz
              go_upto_region 13 with fail
              go_cut [0] (fun t wx => ∃ A c, t = .slice A u2.length c ∧ Hid (OwnT wx W.heap.size (.slice A u2.length c) u2) ∧ Hid (Say W.heap.size V wx))
              case first =>
                obtain ⟨Vd, eVd⟩ : ∃ x, x = V.drew := ⟨_, rfl⟩
                have HVdO : Hid (OwnT Vd W.heap.size (.slice Aj z.length cj) z) := Lib.hid (eVd ▸ (show OwnT V.drew _ _ _ from HVO.out))
                have hKVd : InF Vd W.heap.size gs true gn ct (some fd) fl fc (fd.add (j * 4)) NA nm.length nc fk fn fg := eVd ▸ HVK.out.drew
                have HVdK := Lib.hid hKVd
                have HVdY : Hid (Say W.heap.size V Vd) := Lib.hid (eVd ▸ (Say.refl W.heap.size V).drew)
                have hzVd : Vd.heap.size = V.heap.size := by rw [eVd]; rfl
                have hsVd : W.heap.size ≤ Vd.heap.size := by omega
                have HVdN := Lib.hid (HVN.out.below (eVd ▸ (Below.refl B V).drew))
                refine wp_region_noPanic ?_
                refine wp_region_held_drew (S := (fun Wq => InF Wq W.heap.size gs true gn ct (some fd) fl fc (fd.add (j * 4)) NA nm.length nc fk fn fg)) (by kernel_rfl) ?_ (fun hHeld => ?_)
                · exact eVd ▸ hKVd
                rw [← eVd]
                clear eVd
                refine wpAnyH_take (i := 0) (oi := _) (v := ?_) rfl (by kernel_rfl) (by kernel_rfl) (by kernel_rfl) (fun _ _ _ h => h) (Or.inl ⟨by rfl, ?_⟩) (by assumption) ?_
                rotate_left
                focus
                  intro w hSw
                  obtain ⟨qs0, qs1, qs2, qs3, qs4⟩ := InF.opn hSw
                  go_simp
                  try with_reducible rfl
                try simp only [List.getElem_toArray, List.getElem_cons_succ, List.getElem_cons_zero, Act.put, List.setIfInBounds_toArray, List.set_cons_zero, List.set_cons_succ]
                refine wpAnyH_take (i := 1) (oi := _) (v := ?_) rfl (by kernel_rfl) (by kernel_rfl) (by kernel_rfl) (fun _ _ _ h => h) (Or.inl ⟨by rfl, ?_⟩) (by assumption) ?_
                rotate_left
                focus
                  intro w hSw
                  obtain ⟨qs0, qs1, qs2, qs3, qs4⟩ := InF.opn hSw
                  go_simp
                  try with_reducible rfl
                try simp only [List.getElem_toArray, List.getElem_cons_succ, List.getElem_cons_zero, Act.put, List.setIfInBounds_toArray, List.set_cons_zero, List.set_cons_succ]
                refine wpAnyH_take (i := 2) (oi := _) (v := ?_) rfl (by kernel_rfl) (by kernel_rfl) (by kernel_rfl) (fun _ _ _ h => h) (Or.inl ⟨by rfl, ?_⟩) (by assumption) ?_
                rotate_left
                focus
                  intro w hSw
                  obtain ⟨qs0, qs1, qs2, qs3, qs4⟩ := InF.opn hSw
                  go_simp
                  try with_reducible rfl
                try simp only [List.getElem_toArray, List.getElem_cons_succ, List.getElem_cons_zero, Act.put, List.setIfInBounds_toArray, List.set_cons_zero, List.set_cons_succ]
                refine wpAnyH_take (i := 3) (oi := _) (v := ?_) rfl (by kernel_rfl) (by kernel_rfl) (by kernel_rfl) (fun _ _ _ h => h) (Or.inl ⟨by rfl, ?_⟩) (by assumption) ?_
                rotate_left
                focus
                  intro w hSw
                  obtain ⟨qs0, qs1, qs2, qs3, qs4⟩ := InF.opn hSw
                  go_simp
                  try with_reducible rfl
                try simp only [List.getElem_toArray, List.getElem_cons_succ, List.getElem_cons_zero, Act.put, List.setIfInBounds_toArray, List.set_cons_zero, List.set_cons_succ]
                refine wpAnyH_take (i := 4) (oi := _) (v := ?_) rfl (by kernel_rfl) (by kernel_rfl) (by kernel_rfl) (fun _ _ _ h => h) (Or.inl ⟨by rfl, ?_⟩) (by assumption) ?_
                rotate_left
                focus
                  intro w hSw
                  obtain ⟨qs0, qs1, qs2, qs3, qs4⟩ := InF.opn hSw
                  go_simp
                  try with_reducible rfl
                try simp only [List.getElem_toArray, List.getElem_cons_succ, List.getElem_cons_zero, Act.put, List.setIfInBounds_toArray, List.set_cons_zero, List.set_cons_succ]
                refine wpAnyH_take (i := 5) (oi := _) (v := ?_) rfl (by kernel_rfl) (by kernel_rfl) (by kernel_rfl) (fun _ _ _ h => h) (Or.inl ⟨by rfl, ?_⟩) (by assumption) ?_
                rotate_left
                focus
                  intro w hSw
                  obtain ⟨qs0, qs1, qs2, qs3, qs4⟩ := InF.opn hSw
                  go_simp
                  try with_reducible rfl
                try simp only [List.getElem_toArray, List.getElem_cons_succ, List.getElem_cons_zero, Act.put, List.setIfInBounds_toArray, List.set_cons_zero, List.set_cons_succ]
                refine wpAnyH_take (i := 6) (oi := _) (v := ?_) rfl (by kernel_rfl) (by kernel_rfl) (by kernel_rfl) (fun _ _ _ h => h) (Or.inl ⟨by rfl, ?_⟩) (by assumption) ?_
                rotate_left
                focus
                  intro w hSw
                  obtain ⟨qs0, qs1, qs2, qs3, qs4⟩ := InF.opn hSw
                  go_simp
                  try with_reducible rfl
                try simp only [List.getElem_toArray, List.getElem_cons_succ, List.getElem_cons_zero, Act.put, List.setIfInBounds_toArray, List.set_cons_zero, List.set_cons_succ]
                refine wpAnyH_take (i := 7) (oi := _) (v := ?_) rfl (by kernel_rfl) (by kernel_rfl) (by kernel_rfl) (fun _ _ _ h => h) (Or.inl ⟨by rfl, ?_⟩) (by assumption) ?_
                rotate_left
                focus
                  intro w hSw
                  obtain ⟨qs0, qs1, qs2, qs3, qs4⟩ := InF.opn hSw
                  go_simp
                  try with_reducible rfl
                try simp only [List.getElem_toArray, List.getElem_cons_succ, List.getElem_cons_zero, Act.put, List.setIfInBounds_toArray, List.set_cons_zero, List.set_cons_succ]
                refine wpAnyH_take (i := 8) (oi := _) (v := ?_) rfl (by kernel_rfl) (by kernel_rfl) (by kernel_rfl) (fun _ _ _ h => h) (Or.inl ⟨by rfl, ?_⟩) (by assumption) ?_
                rotate_left
                focus
                  intro w hSw
                  obtain ⟨qs0, qs1, qs2, qs3, qs4⟩ := InF.opn hSw
                  go_simp
                  try with_reducible rfl
                try simp only [List.getElem_toArray, List.getElem_cons_succ, List.getElem_cons_zero, Act.put, List.setIfInBounds_toArray, List.set_cons_zero, List.set_cons_succ]
                refine wpAnyH_take (i := 11) (oi := _) (v := ?_) rfl (by kernel_rfl) (by kernel_rfl) (by kernel_rfl) (fun _ _ _ h => h) (Or.inl ⟨by rfl, ?_⟩) (by assumption) ?_
                rotate_left
                focus
                  intro w hSw
                  obtain ⟨qs0, qs1, qs2, qs3, qs4⟩ := InF.opn hSw
                  go_simp
                  try with_reducible rfl
                try simp only [List.getElem_toArray, List.getElem_cons_succ, List.getElem_cons_zero, Act.put, List.setIfInBounds_toArray, List.set_cons_zero, List.set_cons_succ]
                refine wpAnyH_take (i := 12) (oi := _) (v := ?_) rfl (by kernel_rfl) (by kernel_rfl) (by kernel_rfl) (fun _ _ _ h => h) (Or.inl ⟨by rfl, ?_⟩) (by assumption) ?_
                rotate_left
                focus
                  intro w hSw
                  obtain ⟨qs0, qs1, qs2, qs3, qs4⟩ := InF.opn hSw
                  go_simp
                  try with_reducible rfl
                try simp only [List.getElem_toArray, List.getElem_cons_succ, List.getElem_cons_zero, Act.put, List.setIfInBounds_toArray, List.set_cons_zero, List.set_cons_succ]
                refine wpAnyH_take (i := 13) (oi := _) (v := ?_) rfl (by kernel_rfl) (by kernel_rfl) (by kernel_rfl) (fun _ _ _ h => h) (Or.inl ⟨by rfl, ?_⟩) (by assumption) ?_
                rotate_left
                focus
                  intro w hSw
                  obtain ⟨qs0, qs1, qs2, qs3, qs4⟩ := InF.opn hSw
                  go_simp
                  try with_reducible rfl
                try simp only [List.getElem_toArray, List.getElem_cons_succ, List.getElem_cons_zero, Act.put, List.setIfInBounds_toArray, List.set_cons_zero, List.set_cons_succ]
                refine wpAnyH_take (i := 14) (oi := _) (v := ?_) rfl (by kernel_rfl) (by kernel_rfl) (by kernel_rfl) (fun _ _ _ h => h) (Or.inl ⟨by rfl, ?_⟩) (by assumption) ?_
                rotate_left
                focus
                  intro w hSw
                  obtain ⟨qs0, qs1, qs2, qs3, qs4⟩ := InF.opn hSw
                  go_simp
                  try with_reducible rfl
                try simp only [List.getElem_toArray, List.getElem_cons_succ, List.getElem_cons_zero, Act.put, List.setIfInBounds_toArray, List.set_cons_zero, List.set_cons_succ]
                refine wpAnyH_take (i := 15) (oi := _) (v := ?_) rfl (by kernel_rfl) (by kernel_rfl) (by kernel_rfl) (fun _ _ _ h => h) (Or.inl ⟨by rfl, ?_⟩) (by assumption) ?_
                rotate_left
                focus
                  intro w hSw
                  obtain ⟨qs0, qs1, qs2, qs3, qs4⟩ := InF.opn hSw
                  go_simp
                  try with_reducible rfl
                try simp only [List.getElem_toArray, List.getElem_cons_succ, List.getElem_cons_zero, Act.put, List.setIfInBounds_toArray, List.set_cons_zero, List.set_cons_succ]
                refine wpAnyH_take (i := 16) (oi := _) (v := ?_) rfl (by kernel_rfl) (by kernel_rfl) (by kernel_rfl) (fun _ _ _ h => h) (Or.inl ⟨by rfl, ?_⟩) (by assumption) ?_
                rotate_left
                focus
                  intro w hSw
                  obtain ⟨qs0, qs1, qs2, qs3, qs4⟩ := InF.opn hSw
                  go_simp
                  try with_reducible rfl
                try simp only [List.getElem_toArray, List.getElem_cons_succ, List.getElem_cons_zero, Act.put, List.setIfInBounds_toArray, List.set_cons_zero, List.set_cons_succ]
                refine wpAnyH_ready (rs := [9]) (by kernel_rfl) (by simp) ?_
                refine AllReadyH.cons (o := _) rfl (fun K hK => ?_) ?_
                · go_simp
                  obtain ⟨v1, ev1⟩ : ∃ x, x = Vd.alloc (.cells #[.int .u8 (IntKind.u8.wrap (nm.length : Int))] 5) := ⟨_, rfl⟩
                  rw [← ev1]
                  have Hv1O : Hid (OwnT v1 W.heap.size (.slice Aj z.length cj) z) := Lib.hid (ev1 ▸ HVdO.out.alloc _)
                  have hKv1 : InF v1 W.heap.size gs true gn ct (some fd) fl fc (fd.add (j * 4)) NA nm.length nc fk fn fg := ev1 ▸ HVdK.out.alloc _
                  have Hv1K := Lib.hid hKv1
                  have Hv1Y : Hid (Say W.heap.size V v1) := Lib.hid (ev1 ▸ HVdY.out.alloc hsVd _)
                  have hzv1 : v1.heap.size = Vd.heap.size + 1 := by rw [ev1]; simp
                  have hsv1 : W.heap.size ≤ v1.heap.size := by omega
                  have gv1_9 : Hid (Blk v1 Vd.heap.size 5 #[.int .u8 (IntKind.u8.wrap (nm.length : Int))]) := Lib.hid (ev1 ▸ Blk.new Vd _ _)
                  have Hv1N := Lib.hid (HVdN.out.below ((ev1 ▸ blOne Vd (.cells #[.int .u8 (IntKind.u8.wrap (nm.length : Int))] 5) : Below Vd.heap.size Vd v1).mono (by omega)))
                  clear ev1
                  refine hK.out _ _ ?_ (fun hHeld => ?_)
                  · exact hKv1
                  · clear hK K
                    try simp only [List.getElem_toArray, List.getElem_cons_succ, List.getElem_cons_zero, Act.put, List.setIfInBounds_toArray, List.set_cons_zero, List.set_cons_succ]
                    refine wpAnyH_ready (rs := [10]) (by kernel_rfl) (by simp) ?_
                    refine AllReadyH.cons (o := _) rfl (fun K hK => ?_) ?_
                    · refine wp_litK (r := r3) (.tmp 50) (.tmp 59) rfl Hv1O.out gv1_9.out Hr3c.out Hr3l.out Hu1.out (by have := Hr3l.out; omega) (by omega) (by simp [Act.eval, Act.put]) (by simp [Act.eval, Act.put]) ?_
                      intro Av2 cv2 v2 hO hY hkp
                      have Hv2O := Lib.hid hO
                      have hKv2 := Hv1K.out.say hY (by decide)
                      have Hv2K := Lib.hid hKv2
                      have hsv2 : W.heap.size ≤ v2.heap.size := Nat.le_trans hsv1 hY.size
                      have hzv2 := hY.size
                      have Hv2N := Lib.hid (Hv1N.out.below (hY.below.mono hBW))
                      have Hv2Y := Lib.hid (Hv1Y.out.trans hY)
                      clear hO hY hkp
                      refine hK.out _ _ ?_ (fun hHeld => ?_)
                      · exact hKv2
                      · clear hK K
                        try simp only [List.getElem_toArray, List.getElem_cons_succ, List.getElem_cons_zero, Act.put, List.setIfInBounds_toArray, List.set_cons_zero, List.set_cons_succ]
                        refine wpAnyH_ready (rs := [17]) (by kernel_rfl) (by simp) ?_
                        refine AllReadyH.cons (o := _) rfl (fun K hK => ?_) ?_
                        · refine wp_rowK (c0 := nc) (.tmp 60) (.tmp 66) rfl Hv2O.out Hv2N.out Hu2.out (by omega) (by omega) (by simp [Act.eval, Act.put]) (by simp [Act.eval, Act.put]) ?_
                          intro Av3 cv3 v3 hO hY hkp
                          have Hv3O := Lib.hid hO
                          have hKv3 := Hv2K.out.say hY (by decide)
                          have Hv3K := Lib.hid hKv3
                          have hsv3 : W.heap.size ≤ v3.heap.size := Nat.le_trans hsv2 hY.size
                          have hzv3 := hY.size
                          have Hv3N := Lib.hid (Hv2N.out.below (hY.below.mono hBW))
                          have Hv3Y := Lib.hid (Hv2Y.out.trans hY)
                          clear hO hY hkp
                          refine hK.out _ _ ?_ (fun hHeld => ?_)
                          · exact hKv3
                          · clear hK K
                            try simp only [List.getElem_toArray, List.getElem_cons_succ, List.getElem_cons_zero, Act.put, List.setIfInBounds_toArray, List.set_cons_zero, List.set_cons_succ]
                            refine wpAnyH_take (i := 18) (oi := _) (v := ?_) rfl (by kernel_rfl) (by kernel_rfl) (by kernel_rfl) (fun _ _ _ h => h) (Or.inl ⟨by rfl, ?_⟩) (by assumption) ?_
                            rotate_left
                            focus
                              intro w hSw
                              obtain ⟨qs0, qs1, qs2, qs3, qs4⟩ := InF.opn hSw
                              go_simp
                              try with_reducible rfl
                            try simp only [List.getElem_toArray, List.getElem_cons_succ, List.getElem_cons_zero, Act.put, List.setIfInBounds_toArray, List.set_cons_zero, List.set_cons_succ]
                            refine wpAnyH_done (by kernel_rfl) ?_ _
                            refine NoPanic.normal ?_
                            try go_wp2_with fail
                            go_meet
                            case rel => exact ⟨_, _, rfl, Hv3O, Hv3Y⟩
                        exact AllReadyH.nil
                    exact AllReadyH.nil
                exact AllReadyH.nil
              case rest =>
                obtain ⟨A6, c6, rfl, HV1O, HV1S⟩ := hcut
                obtain ⟨V1, hV1⟩ : ∃ x, x = wc := ⟨_, rfl⟩
                subst hV1
                have HV1K := Lib.hid (HVK.out.say HV1S.out (by decide))
                have hsV1 : W.heap.size ≤ V1.heap.size := Nat.le_trans hsV HV1S.out.size
                have HV1Y := Lib.hid (HVY.out.trans HV1S.out)
                have HV1G := Lib.hid (HVG.out.below (HV1S.out.below.mono hBW))
                clear HVO HVK HVY HVN HVG s3
                have hl8 := l8val_c u2 (.slice A6 u2.length c6) fk fn fg W V1 hsV1 (by omega) HV1O.out
                rw [Hu3.out] at hl8
                have Hl8 := Lib.hid hl8
                obtain ⟨t0, t1, t2, t3, t4⟩ := InF.opn HV1K.out
                clear hl8
                go_wp2_with fail
                refine Hl8.out.mono ?_
                rintro e wz ⟨A7, c7, rfl, hO7, hY7⟩
                have HO7 := Lib.hid hO7
                have HY7 := Lib.hid (HV1Y.out.trans hY7)
                clear hO7 hY7 Hl8 t0 t1 t2 t3 t4
                go_wp2_with fail
                go_roundw
                case rel => exact ⟨j + 1, u3, A7, c7, by omega, by go_num, rfl, Lib.hid Hnx.out.symm, HO7, HY7⟩
                case measure => simp [intOf]; omega
            · obtain rfl : j = fl := by omega
              go_wp2
              go_roundw
              case rel => exact ⟨k + 1, z, Aj, cj, by omega, by go_num, rfl, Lib.hid (by rw [Hnext.out, hz.out, ← Hfl.out]), hO, Lib.hid (HX1Y.out.trans hY.out)⟩
              case measure => simp [intOf]; omega
    · obtain rfl : k = S.length := by omega
      have hxz : x = z0 := by rw [hx.out, Hz0.out]
      subst hxz
      have p1 := hKa.cel 1 (v := .slice A1 Q.length c1) rfl
      have p2 := hKa.cel 2 (v := .slice A2 P.length c2) rfl
      have hq1l : q1.length ≤ 1008 + 30000000 * S.length + 8 + 8 * Q.length := by rw [← Hq1.out, List.length_append]; have := Hlq.out; omega
      have HwrO := hO
      have HwrK := Lib.hid hKa
      have HwrY := Lib.hid (Say.refl W.heap.size wr)
      have HwY := Lib.hid (Hw0.out.trans hY.out)
      have HIQ := Lib.hid (fun ww (hs : Say W.heap.size wr ww) => ((HA.out.below (hY.out.below.mono hBW)).2.1).below (hs.below.mono hBW))
      have HIP := Lib.hid (fun ww (hs : Say W.heap.size wr ww) => ((HA.out.below (hY.out.below.mono hBW)).2.2).below (hs.below.mono hBW))
      have hswr := hsr
      clear hKa hO hY hx
      go_upto_region 15 with fail
      obtain ⟨wrd, ewrd⟩ : ∃ x, x = wr.drew := ⟨_, rfl⟩
      have HwrdO : Hid (OwnT wrd W.heap.size (.slice At x.length ctt) x) := Lib.hid (ewrd ▸ (show OwnT wr.drew _ _ _ from HwrO.out))
      have hKwrd : Blk wrd ga 32 #[.slice A0 S.length c0, .slice A1 Q.length c1, .slice A2 P.length c2] := ewrd ▸ HwrK.out.drew
      have HwrdK := Lib.hid hKwrd
      have HwrdY : Hid (Say W.heap.size wr wrd) := Lib.hid (ewrd ▸ (Say.refl W.heap.size wr).drew)
      have hzwrd : wrd.heap.size = wr.heap.size := by rw [ewrd]; rfl
      have hswrd : W.heap.size ≤ wrd.heap.size := by omega
      refine wp_region_noPanic ?_
      refine wp_region_held_drew (S := (fun W => Blk W ga 32 #[.slice A0 S.length c0, .slice A1 Q.length c1, .slice A2 P.length c2])) (by kernel_rfl) ?_ (fun hHeld => ?_)
      · exact ewrd ▸ hKwrd
      rw [← ewrd]
      clear ewrd
      refine wpAnyH_take (i := 0) (oi := _) (v := ?_) rfl (by kernel_rfl) (by kernel_rfl) (by kernel_rfl) (fun _ _ _ h => h) (Or.inl ⟨by rfl, ?_⟩) (by assumption) ?_
      rotate_left
      focus
        intro w hSw
        obtain ⟨qs0, qs1, qs2⟩ := Blk.three hSw
        go_simp
        try with_reducible rfl
      try simp only [List.getElem_toArray, List.getElem_cons_succ, List.getElem_cons_zero, Act.put, List.setIfInBounds_toArray, List.set_cons_zero, List.set_cons_succ]
      refine wpAnyH_take (i := 1) (oi := _) (v := ?_) rfl (by kernel_rfl) (by kernel_rfl) (by kernel_rfl) (fun _ _ _ h => h) (Or.inl ⟨by rfl, ?_⟩) (by assumption) ?_
      rotate_left
      focus
        intro w hSw
        obtain ⟨qs0, qs1, qs2⟩ := Blk.three hSw
        go_simp
        try with_reducible rfl
      try simp only [List.getElem_toArray, List.getElem_cons_succ, List.getElem_cons_zero, Act.put, List.setIfInBounds_toArray, List.set_cons_zero, List.set_cons_succ]
      refine wpAnyH_take (i := 2) (oi := _) (v := ?_) rfl (by kernel_rfl) (by kernel_rfl) (by kernel_rfl) (fun _ _ _ h => h) (Or.inl ⟨by rfl, ?_⟩) (by assumption) ?_
      rotate_left
      focus
        intro w hSw
        obtain ⟨qs0, qs1, qs2⟩ := Blk.three hSw
        go_simp
        try with_reducible rfl
      try simp only [List.getElem_toArray, List.getElem_cons_succ, List.getElem_cons_zero, Act.put, List.setIfInBounds_toArray, List.set_cons_zero, List.set_cons_succ]
      refine wpAnyH_take (i := 4) (oi := _) (v := ?_) rfl (by kernel_rfl) (by kernel_rfl) (by kernel_rfl) (fun _ _ _ h => h) (Or.inl ⟨by rfl, ?_⟩) (by assumption) ?_
      rotate_left
      focus
        intro w hSw
        obtain ⟨qs0, qs1, qs2⟩ := Blk.three hSw
        go_simp
        try with_reducible rfl
      try simp only [List.getElem_toArray, List.getElem_cons_succ, List.getElem_cons_zero, Act.put, List.setIfInBounds_toArray, List.set_cons_zero, List.set_cons_succ]
      refine wpAnyH_take (i := 5) (oi := _) (v := ?_) rfl (by kernel_rfl) (by kernel_rfl) (by kernel_rfl) (fun _ _ _ h => h) (Or.inl ⟨by rfl, ?_⟩) (by assumption) ?_
      rotate_left
      focus
        intro w hSw
        obtain ⟨qs0, qs1, qs2⟩ := Blk.three hSw
        go_simp
        try with_reducible rfl
      try simp only [List.getElem_toArray, List.getElem_cons_succ, List.getElem_cons_zero, Act.put, List.setIfInBounds_toArray, List.set_cons_zero, List.set_cons_succ]
      refine wpAnyH_ready (rs := [3]) (by kernel_rfl) (by simp) ?_
      refine AllReadyH.cons (o := _) rfl (fun K hK => ?_) ?_
      · go_simp
        refine Calls.mono (l8list_c x _ Q A1 c1 L B W wrd hswrd hBW (by omega) HlQ.out (HIQ.out wrd HwrdY.out) HwrdO.out) ?_
        rintro e v1 ⟨Av1, cv1, rfl, hO, hY⟩
        rw [Hq1.out] at hO
        rw [Hq1.out]
        have Hv1O := Lib.hid hO
        have hKv1 := HwrdK.out.say hY (by decide)
        have Hv1K := Lib.hid hKv1
        have hsv1 : W.heap.size ≤ v1.heap.size := Nat.le_trans hswrd hY.size
        have hzv1 := hY.size
        have Hv1Y := Lib.hid (HwrdY.out.trans hY)
        clear hO hY
        refine hK.out _ _ ?_ (fun hHeld => ?_)
        · exact hKv1
        · clear hK K
          try simp only [List.getElem_toArray, List.getElem_cons_succ, List.getElem_cons_zero, Act.put, List.setIfInBounds_toArray, List.set_cons_zero, List.set_cons_succ]
          refine wpAnyH_ready (rs := [6]) (by kernel_rfl) (by simp) ?_
          refine AllReadyH.cons (o := _) rfl (fun K hK => ?_) ?_
          · go_simp
            refine Calls.mono (l8list_c q1 _ P A2 c2 L B W v1 hsv1 hBW (by omega) HlP.out (HIP.out v1 Hv1Y.out) Hv1O.out) ?_
            rintro e v2 ⟨Av2, cv2, rfl, hO, hY⟩
            rw [Hq2.out] at hO
            rw [Hq2.out]
            have Hv2O := Lib.hid hO
            have hKv2 := Hv1K.out.say hY (by decide)
            have Hv2K := Lib.hid hKv2
            have hsv2 : W.heap.size ≤ v2.heap.size := Nat.le_trans hsv1 hY.size
            have hzv2 := hY.size
            have Hv2Y := Lib.hid (Hv1Y.out.trans hY)
            clear hO hY
            refine hK.out _ _ ?_ (fun hHeld => ?_)
            · exact hKv2
            · clear hK K
              try simp only [List.getElem_toArray, List.getElem_cons_succ, List.getElem_cons_zero, Act.put, List.setIfInBounds_toArray, List.set_cons_zero, List.set_cons_succ]
              refine wpAnyH_take (i := 7) (oi := _) (v := ?_) rfl (by kernel_rfl) (by kernel_rfl) (by kernel_rfl) (fun _ _ _ h => h) (Or.inl ⟨by rfl, ?_⟩) (by assumption) ?_
              rotate_left
              focus
                intro w hSw
                obtain ⟨qs0, qs1, qs2⟩ := Blk.three hSw
                go_simp
                try with_reducible rfl
              try simp only [List.getElem_toArray, List.getElem_cons_succ, List.getElem_cons_zero, Act.put, List.setIfInBounds_toArray, List.set_cons_zero, List.set_cons_succ]
              refine wpAnyH_done (by kernel_rfl) ?_ _
              refine NoPanic.normal ?_
              try go_wp2_with fail
              go_ret
              exact ⟨_, _, rfl, Hv2O.out, HwY.out.trans Hv2Y.out⟩
          exact AllReadyH.nil
      exact AllReadyH.nil
end
end Frz
end Go.Proofs.Ytfmlgpnjckamjaa
