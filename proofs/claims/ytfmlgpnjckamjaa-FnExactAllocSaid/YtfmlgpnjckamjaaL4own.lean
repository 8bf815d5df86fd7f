/-
  The model's copy of an arena: each row, each name in a block of its own.
-/
import Derived.Test.YtfmlgpnjckamjaaOwnD
import Derived.Test.YtfmlgpnjckamjaaTallyR
import Derived.Deep.DeepCutAuto
import Derived.Deep.RegionHeld3
namespace Go.Proofs.Ytfmlgpnjckamjaa
open Go.RowKit
set_option linter.unusedVariables false
set_option linter.unusedSimpArgs false
namespace ArnG
open ArnM

theorem Blk.three {w : World} {g : Nat} {t : TypeId} {a b c : Value} (h : Blk w g t #[a, b, c]) : w.cell? ⟨g, 0, none⟩ = some a ∧ w.cell? ⟨g, 1, none⟩ = some b ∧ w.cell? ⟨g, 2, none⟩ = some c := ⟨h.cel 0 rfl, h.cel 1 rfl, h.cel 2 rfl⟩
theorem three_two {w0 w : World} {lo g : Nat} {v1 v2 : Value} {l1 l2 : List Int} {cs : Array Value} (h : Two w0 w lo v1 l1 v2 l2) (hK : Blk w g 32 cs) (hg : lo ≤ g) (x y z : Value) : Two w0 (((w.setCell ⟨g, 0, none⟩ x).setCell ⟨g, 1, none⟩ y).setCell ⟨g, 2, none⟩ z) lo v1 l1 v2 l2 :=
  ((h.far hK (by decide) hg 0 x).far (hK.set_ 0 x) (by decide) hg 1 y).far ((hK.set_ 0 x).set_ 1 y) (by decide) hg 2 z
theorem three_blk {w : World} {g : Nat} {x y z : Value} (hK : Blk w g 32 #[x, y, z]) (b c : Value) : Blk (((w.setCell ⟨g, 0, none⟩ x).setCell ⟨g, 1, none⟩ b).setCell ⟨g, 2, none⟩ c) g 32 #[x, b, c] := ((hK.set_ 0 x).set_ 1 b).set_ 2 c
theorem three_far {w : World} {g g' : Nat} {t : TypeId} {cs : Array Value} (hK : Blk w g' t cs) (h : g' ≠ g) (x y z : Value) : Blk (((w.setCell ⟨g, 0, none⟩ x).setCell ⟨g, 1, none⟩ y).setCell ⟨g, 2, none⟩ z) g' t cs := ((hK.far (p := ⟨g, 0, none⟩) h x).far (p := ⟨g, 1, none⟩) h y).far (p := ⟨g, 2, none⟩) h z
/-- a slot's box and the field that is looked at -/
def InF (W : World) (gs : Nat) (lv : Bool) (gn ct : Int) (FA : Option Addr) (n fc : Nat) (p : Addr) (NA : Option Addr) (nl nc : Nat) (fk fn fg : Int) : Prop :=
  Blk W gs 90 #[.bool lv, .int .i64 gn, .int .i64 ct, .slice FA n fc] ∧ C4 W p (.slice NA nl nc) (.int .i64 fk) (.int .i64 fn) (.int .i64 fg)
theorem InF.opn {W : World} {gs : Nat} {lv : Bool} {gn ct : Int} {FA : Option Addr} {n fc : Nat} {p : Addr} {NA : Option Addr} {nl nc : Nat} {fk fn fg : Int} (h : InF W gs lv gn ct FA n fc p NA nl nc fk fn fg) :
    W.cell? ⟨gs, 3, none⟩ = some (.slice FA n fc) ∧ W.cell? p = some (.slice NA nl nc) ∧ W.cell? ⟨p.block, p.off + 1, none⟩ = some (.int .i64 fk) ∧ W.cell? ⟨p.block, p.off + 2, none⟩ = some (.int .i64 fn) ∧ W.cell? ⟨p.block, p.off + 3, none⟩ = some (.int .i64 fg) :=
  ⟨h.1.cel 3 rfl, h.2.1, h.2.2.1, h.2.2.2.1, h.2.2.2.2⟩
theorem own_cells {w : World} {base base' : Nat} {e : TypeId} {size : Nat} {v : Value} {n : Nat} {xs ys : List Value} (h : w.ownsRow base e size v n xs) (h' : w.ownsRow base' e size v n ys) : xs = ys := by
  rcases h.2 with ⟨hv, h0⟩ | ⟨g, cap, cur, hv, _, hh, _, _, _, h4⟩
  · have h1 := h.1
    have h2 := h'.1
    rw [h0, Nat.zero_mul] at h1 h2
    rw [List.length_eq_zero_iff.1 h1, List.length_eq_zero_iff.1 h2]
  · rcases h'.2 with ⟨hv', h0⟩ | ⟨g', cap', cur', hv', _, hh', _, _, _, h4'⟩
    · rw [hv] at hv'; cases hv'
    · rw [hv] at hv'
      injection hv' with e1 e2 e3
      injection e1 with e1
      injection e1 with e1
      subst e1
      rw [hh] at hh'
      injection hh' with hh'
      injection hh' with hh' _
      rw [← h4, ← h4', hh']
theorem names_le {S : List Sl} (hn : ∀ i (hi : i < S.length) j (hj : j < S[i].fs.length), S[i].fs[j].name.length ≤ 1050000) {k : Nat} (hk : k < S.length) {s : Sl} (hs : S[k] = s) : ∀ j (hj : j < s.fs.length), s.fs[j].name.length ≤ 1050000 := by subst hs; exact hn k hk
/-- four cells in a block of their own, as what is appended -/
theorem src4 {P : Program} {w : World} {g : Nat} {t tx e' : TypeId} {a b c d : Value} (hk : P.underlying tx = some (.slice e')) (hK : Blk w g t #[a, b, c, d]) (ha : a.oneCell' = true) (hb : b.oneCell' = true) (hc : c.oneCell' = true) (hd : d.oneCell' = true) : Src P 4 tx (.slice (some ⟨g, 0, none⟩) 1 1) 1 [a, b, c, d] w := by
  refine Src.ofSlice w hk _ 1 1 _ rfl (fun j u hu => ?_) (fun u hu => ?_)
  · rw [add_zero_, hK.cell]
    rw [← hu]
    simp
  · simp at hu
    rcases hu with rfl | rfl | rfl | rfl <;> assumption

section
variable (S : List Sl) (Q P : List Int) (A0 A1 A2 : Option Addr) (c0 c1 c2 L B : Nat) (w : World)
set_option maxRecDepth 100000 in
set_option maxHeartbeats 16000000 in
theorem l4own_c (hB : B ≤ w.heap.size) (hsz : arSz ⟨S, Q, P⟩ ≤ 1050000) (h : ArL w L B A0 A1 A2 ⟨S, Q, P⟩) :
    Calls Try.prog 45 #[.agg #[.slice A0 S.length c0, .slice A1 Q.length c1, .slice A2 P.length c2]] w fun e w' => ∃ v, e = .returned v ∧ ArAnsJ w' w.heap.size ⟨S, Q, P⟩ v ∧ Below w.heap.size w w' := by
  obtain ⟨iF, hiF, hz0, hz1, hz2⟩ := info_parts infoFd
  obtain ⟨iS, hiS, ky0, ky1, ky2⟩ := info_parts infoSl
  have HiF := Lib.hid hiF
  have HiS := Lib.hid hiS
  replace hz0 := Lib.hid hz0
  replace hz1 := Lib.hid hz1
  replace hz2 := Lib.hid hz2
  replace ky0 := Lib.hid ky0
  replace ky1 := Lib.hid ky1
  replace ky2 := Lib.hid ky2
  clear hiF hiS
  have hbW : Below w.heap.size w ((w.alloc (.cells #[.slice A0 S.length c0, .slice A1 Q.length c1, .slice A2 P.length c2] 32)).alloc (.cells #[.slice none 0 0, .slice none 0 0, .slice none 0 0] 32)) := ((Below.refl _ _).alloc (Nat.le_refl _) _).alloc (by simp) _
  have HKA := Lib.hid ((Blk.new w 32 #[.slice A0 S.length c0, .slice A1 Q.length c1, .slice A2 P.length c2]).alloc (.cells #[.slice none 0 0, .slice none 0 0, .slice none 0 0] 32))
  have HKR : Hid (Blk ((w.alloc (.cells #[.slice A0 S.length c0, .slice A1 Q.length c1, .slice A2 P.length c2] 32)).alloc (.cells #[.slice none 0 0, .slice none 0 0, .slice none 0 0] 32)) (w.heap.size + 1) 32 #[.slice none 0 0, .slice none 0 0, .slice none 0 0]) := Lib.hid (by
    have := Blk.new (w.alloc (.cells #[.slice A0 S.length c0, .slice A1 Q.length c1, .slice A2 P.length c2] 32)) 32 #[.slice none 0 0, .slice none 0 0, .slice none 0 0]
    rwa [World.size_alloc] at this)
  have hsz2 : ((w.alloc (.cells #[.slice A0 S.length c0, .slice A1 Q.length c1, .slice A2 P.length c2] 32)).alloc (.cells #[.slice none 0 0, .slice none 0 0, .slice none 0 0] 32)).heap.size = w.heap.size + 2 := by simp
  generalize hW2 : (w.alloc (.cells #[.slice A0 S.length c0, .slice A1 Q.length c1, .slice A2 P.length c2] 32)).alloc (.cells #[.slice none 0 0, .slice none 0 0, .slice none 0 0] 32) = w2 at HKA HKR hbW hsz2
  obtain ⟨⟨hS1, hQ1, hP1⟩, hf1, hn1⟩ := arSz_len hsz
  have HA := Lib.hid (h.below (hbW.mono hB))
  have HbW := Lib.hid hbW
  have Hlq := Lib.hid hQ1
  have Hlp := Lib.hid hP1
  have Hf1 := Lib.hid hf1
  have Hn1 := Lib.hid hn1
  have hB2 : B ≤ w2.heap.size := by omega
  have hlt2 : w.heap.size < w2.heap.size := by omega
  have hlt3 : w.heap.size + 1 < w2.heap.size := by omega
  have HW2 := Lib.hid hW2
  dsimp only at hS1
  clear h hsz hbW hQ1 hP1 hf1 hn1 hsz2 hW2
  go_enter Try.func45, Try.ntmps45
  go_upto_region 1 with fail
  rw [HW2.out]
  go_cut [3] (fun t wx => ∃ gO A1' c1' A2' c2', t = .pointer (some ⟨gO, 0, none⟩) ∧ w2.heap.size ≤ gO ∧ Hid (Two w2 wx w2.heap.size (.slice A1' Q.length c1') Q (.slice A2' P.length c2') P) ∧ Hid (Blk wx gO 32 #[.slice none 0 0, .slice A1' Q.length c1', .slice A2' P.length c2']))
  case first =>
    obtain ⟨w3, ew3⟩ : ∃ x, x = w2.drew := ⟨_, rfl⟩
    have HTw3 : Hid (Two w2 w3 w2.heap.size (.slice none 0 0) [] (.slice none 0 0) []) := Lib.hid (ew3 ▸ (Two.start w2 (Nat.le_refl _)).drew)
    have HKw3 : Hid (Blk w3 w.heap.size 32 #[.slice A0 S.length c0, .slice A1 Q.length c1, .slice A2 P.length c2]) := Lib.hid (ew3 ▸ HKA.out.drew)
    refine wp_region_noPanic ?_
    refine wp_region_held_drew (S := (fun W => Blk W w.heap.size 32 #[.slice A0 S.length c0, .slice A1 Q.length c1, .slice A2 P.length c2])) (by kernel_rfl) ?_ (fun hHeld => ?_)
    · exact ew3 ▸ HKw3.out
    rw [← ew3]
    clear ew3
    refine wpAnyH_take (i := 1) (oi := _) (v := ?_) rfl (by kernel_rfl) (by kernel_rfl) (by kernel_rfl) (fun _ _ _ h => h) (Or.inl ⟨by rfl, ?_⟩) (by assumption) ?_
    rotate_left
    focus
      intro w hSw
      obtain ⟨qs0, qs1, qs2⟩ := Blk.three hSw
      go_simp
      try with_reducible rfl
    try simp only [List.getElem_toArray, List.getElem_cons_succ, List.getElem_cons_zero, Act.put, List.setIfInBounds_toArray, List.set_cons_zero, List.set_cons_succ]
    refine wpAnyH_take (i := 2) (oi := _) (v := ?_) rfl (by kernel_rfl) (by kernel_rfl) (by kernel_rfl) (fun _ _ _ h => h) (Or.inl ⟨by rfl, ?_⟩) (by assumption) ?_
    rotate_left
    focus
      intro w hSw
      obtain ⟨qs0, qs1, qs2⟩ := Blk.three hSw
      go_simp
      try with_reducible rfl
    try simp only [List.getElem_toArray, List.getElem_cons_succ, List.getElem_cons_zero, Act.put, List.setIfInBounds_toArray, List.set_cons_zero, List.set_cons_succ]
    refine wpAnyH_take (i := 5) (oi := _) (v := ?_) rfl (by kernel_rfl) (by kernel_rfl) (by kernel_rfl) (fun _ _ _ h => h) (Or.inl ⟨by rfl, ?_⟩) (by assumption) ?_
    rotate_left
    focus
      intro w hSw
      obtain ⟨qs0, qs1, qs2⟩ := Blk.three hSw
      go_simp
      try with_reducible rfl
    try simp only [List.getElem_toArray, List.getElem_cons_succ, List.getElem_cons_zero, Act.put, List.setIfInBounds_toArray, List.set_cons_zero, List.set_cons_succ]
    refine wpAnyH_take (i := 6) (oi := _) (v := ?_) rfl (by kernel_rfl) (by kernel_rfl) (by kernel_rfl) (fun _ _ _ h => h) (Or.inl ⟨by rfl, ?_⟩) (by assumption) ?_
    rotate_left
    focus
      intro w hSw
      obtain ⟨qs0, qs1, qs2⟩ := Blk.three hSw
      go_simp
      try with_reducible rfl
    try simp only [List.getElem_toArray, List.getElem_cons_succ, List.getElem_cons_zero, Act.put, List.setIfInBounds_toArray, List.set_cons_zero, List.set_cons_succ]
    refine wpAnyH_ready (rs := [0, 4, 9]) (by kernel_rfl) (by simp) ?_
    refine AllReadyH.cons (o := _) rfl (fun K hK => ?_) ?_
    · go_simp
      obtain ⟨w11, ew11⟩ : ∃ x, x = w3.alloc (.cells #[] 3) := ⟨_, rfl⟩
      rw [← ew11]
      have HTw11 := Lib.hid (HTw3.out.make1)
      rw [← ew11] at HTw11
      have HKw11 := Lib.hid (HKw3.out.alloc (.cells #[] 3))
      rw [← ew11] at HKw11
      clear ew11
      refine hK.out _ _ ?_ (fun hHeld => ?_)
      · exact HKw11.out
      · clear hK K
        try simp only [List.getElem_toArray, List.getElem_cons_succ, List.getElem_cons_zero, Act.put, List.setIfInBounds_toArray, List.set_cons_zero, List.set_cons_succ]
        refine wpAnyH_ready (rs := [3, 4, 9]) (by kernel_rfl) (by simp) ?_
        refine AllReadyH.cons (o := _) rfl (fun K hK => ?_) ?_
        · refine ArnG.wp_two1 (c := c1) (.tmp 8) (.tmp 10) rfl HTw11.out (HA.out.below (HTw11.out.below.mono hB2)).2.1 Hlq.out (by go_simp) (by go_simp) ?_
          intro Aw12 cw12 w12 hT hkp hsN
          have HTw12 := Lib.hid hT
          have HKw12 := Lib.hid (hkp _ _ _ HKw11.out (by decide))
          clear hT hkp hsN
          refine hK.out _ _ ?_ (fun hHeld => ?_)
          · exact HKw12.out
          · clear hK K
            try simp only [List.getElem_toArray, List.getElem_cons_succ, List.getElem_cons_zero, Act.put, List.setIfInBounds_toArray, List.set_cons_zero, List.set_cons_succ]
            refine wpAnyH_ready (rs := [4, 9]) (by kernel_rfl) (by simp) ?_
            refine AllReadyH.cons (o := _) rfl (fun K hK => ?_) ?_
            · go_simp
              obtain ⟨w13, ew13⟩ : ∃ x, x = w12.alloc (.cells #[] 3) := ⟨_, rfl⟩
              rw [← ew13]
              have HTw13 := Lib.hid (HTw12.out.make2)
              rw [← ew13] at HTw13
              have HKw13 := Lib.hid (HKw12.out.alloc (.cells #[] 3))
              rw [← ew13] at HKw13
              clear ew13
              refine hK.out _ _ ?_ (fun hHeld => ?_)
              · exact HKw13.out
              · clear hK K
                try simp only [List.getElem_toArray, List.getElem_cons_succ, List.getElem_cons_zero, Act.put, List.setIfInBounds_toArray, List.set_cons_zero, List.set_cons_succ]
                refine wpAnyH_ready (rs := [7, 9]) (by kernel_rfl) (by simp) ?_
                refine AllReadyH.cons (o := _) rfl (fun K hK => ?_) ?_
                · refine ArnG.wp_two2 (c := c2) (.tmp 12) (.tmp 14) rfl HTw13.out (HA.out.below (HTw13.out.below.mono hB2)).2.2 Hlp.out (by go_simp) (by go_simp) ?_
                  intro Aw14 cw14 w14 hT hkp hsN
                  have HTw14 := Lib.hid hT
                  have HKw14 := Lib.hid (hkp _ _ _ HKw13.out (by decide))
                  clear hT hkp hsN
                  refine hK.out _ _ ?_ (fun hHeld => ?_)
                  · exact HKw14.out
                  · clear hK K
                    try simp only [List.getElem_toArray, List.getElem_cons_succ, List.getElem_cons_zero, Act.put, List.setIfInBounds_toArray, List.set_cons_zero, List.set_cons_succ]
                    refine wpAnyH_take (i := 8) (oi := _) (v := ?_) rfl (by kernel_rfl) (by kernel_rfl) (by kernel_rfl) (fun _ _ _ h => h) (Or.inl ⟨by rfl, ?_⟩) (by assumption) ?_
                    rotate_left
                    focus
                      intro w hSw
                      obtain ⟨qs0, qs1, qs2⟩ := Blk.three hSw
                      go_simp
                      try with_reducible rfl
                    try simp only [List.getElem_toArray, List.getElem_cons_succ, List.getElem_cons_zero, Act.put, List.setIfInBounds_toArray, List.set_cons_zero, List.set_cons_succ]
                    refine wpAnyH_ready (rs := [9]) (by kernel_rfl) (by simp) ?_
                    refine AllReadyH.cons (o := _) rfl (fun K hK => ?_) ?_
                    · go_simp
                      obtain ⟨w15, ew15⟩ : ∃ x, x = w14.alloc (.cells #[.slice none 0 0, .slice none 0 0, .slice none 0 0] 32) := ⟨_, rfl⟩
                      rw [← ew15]
                      have HTw15 := Lib.hid (HTw14.out.alloc (.cells #[.slice none 0 0, .slice none 0 0, .slice none 0 0] 32))
                      rw [← ew15] at HTw15
                      have HKw15 := Lib.hid (HKw14.out.alloc (.cells #[.slice none 0 0, .slice none 0 0, .slice none 0 0] 32))
                      rw [← ew15] at HKw15
                      have HBw15 := Lib.hid (Blk.new w14 32 #[.slice none 0 0, .slice none 0 0, .slice none 0 0])
                      rw [← ew15] at HBw15
                      have HLw15 := Lib.hid HTw14.out.low
                      clear ew15
                      refine hK.out _ _ ?_ (fun hHeld => ?_)
                      · exact HKw15.out
                      · clear hK K
                        try simp only [List.getElem_toArray, List.getElem_cons_succ, List.getElem_cons_zero, Act.put, List.setIfInBounds_toArray, List.set_cons_zero, List.set_cons_succ]
                        refine wpAnyH_ready (rs := [10]) (by kernel_rfl) (by simp) ?_
                        refine AllReadyH.cons (o := _) rfl (fun K hK => ?_) ?_
                        · have m0 := HBw15.out.cel 0 rfl
                          have m1 := HBw15.out.cel 1 rfl
                          have m2 := HBw15.out.cel 2 rfl
                          have y0 := HBw15.out.frozen 0
                          have y1 := HBw15.out.frozen 1
                          have y2 := HBw15.out.frozen 2
                          go_simp
                          obtain ⟨w16, ew16⟩ : ∃ x, x = (((w15.setCell ⟨w14.heap.size, 0, none⟩ (.slice none 0 0)).setCell ⟨w14.heap.size, 1, none⟩ (.slice Aw12 Q.length cw12)).setCell ⟨w14.heap.size, 2, none⟩ (.slice Aw14 P.length cw14)) := ⟨_, rfl⟩
                          rw [← ew16]
                          have HTw16 : Hid (Two w2 w16 w2.heap.size (.slice Aw12 Q.length cw12) Q (.slice Aw14 P.length cw14) P) := Lib.hid (ew16 ▸ three_two HTw15.out HBw15.out HLw15.out _ _ _)
                          have HBw16 : Hid (Blk w16 w14.heap.size 32 #[.slice none 0 0, (.slice Aw12 Q.length cw12), (.slice Aw14 P.length cw14)]) := Lib.hid (ew16 ▸ three_blk HBw15.out _ _)
                          have HKw16 : Hid (Blk w16 w.heap.size 32 #[.slice A0 S.length c0, .slice A1 Q.length c1, .slice A2 P.length c2]) := Lib.hid (ew16 ▸ three_far HKw15.out (by have := HLw15.out; omega) _ _ _)
                          have HLw16 := HLw15
                          clear ew16 m0 m1 m2 y0 y1 y2
                          refine hK.out _ _ ?_ (fun hHeld => ?_)
                          · exact HKw16.out
                          · clear hK K
                            try simp only [List.getElem_toArray, List.getElem_cons_succ, List.getElem_cons_zero, Act.put, List.setIfInBounds_toArray, List.set_cons_zero, List.set_cons_succ]
                            refine wpAnyH_done (by kernel_rfl) ?_ _
                            refine NoPanic.normal ?_
                            try go_wp2_with fail
                            go_meet
                            case rel => exact ⟨_, _, _, _, _, rfl, HLw16.out, HTw16, HBw16⟩
                        exact AllReadyH.nil
                    exact AllReadyH.nil
                refine AllReadyH.cons (o := _) rfl (fun K hK => ?_) ?_
                · go_simp
                  obtain ⟨w17, ew17⟩ : ∃ x, x = w13.alloc (.cells #[.slice none 0 0, .slice none 0 0, .slice none 0 0] 32) := ⟨_, rfl⟩
                  rw [← ew17]
                  have HTw17 := Lib.hid (HTw13.out.alloc (.cells #[.slice none 0 0, .slice none 0 0, .slice none 0 0] 32))
                  rw [← ew17] at HTw17
                  have HKw17 := Lib.hid (HKw13.out.alloc (.cells #[.slice none 0 0, .slice none 0 0, .slice none 0 0] 32))
                  rw [← ew17] at HKw17
                  have HBw17 := Lib.hid (Blk.new w13 32 #[.slice none 0 0, .slice none 0 0, .slice none 0 0])
                  rw [← ew17] at HBw17
                  have HLw17 := Lib.hid HTw13.out.low
                  clear ew17
                  refine hK.out _ _ ?_ (fun hHeld => ?_)
                  · exact HKw17.out
                  · clear hK K
                    try simp only [List.getElem_toArray, List.getElem_cons_succ, List.getElem_cons_zero, Act.put, List.setIfInBounds_toArray, List.set_cons_zero, List.set_cons_succ]
                    refine wpAnyH_ready (rs := [7]) (by kernel_rfl) (by simp) ?_
                    refine AllReadyH.cons (o := _) rfl (fun K hK => ?_) ?_
                    · refine ArnG.wp_two2 (c := c2) (.tmp 12) (.tmp 14) rfl HTw17.out (HA.out.below (HTw17.out.below.mono hB2)).2.2 Hlp.out (by go_simp) (by go_simp) ?_
                      intro Aw18 cw18 w18 hT hkp hsN
                      have HTw18 := Lib.hid hT
                      have HKw18 := Lib.hid (hkp _ _ _ HKw17.out (by decide))
                      have HBw18 := Lib.hid (hkp _ _ _ HBw17.out (by decide))
                      have HLw18 := HLw17
                      clear hT hkp hsN
                      refine hK.out _ _ ?_ (fun hHeld => ?_)
                      · exact HKw18.out
                      · clear hK K
                        try simp only [List.getElem_toArray, List.getElem_cons_succ, List.getElem_cons_zero, Act.put, List.setIfInBounds_toArray, List.set_cons_zero, List.set_cons_succ]
                        refine wpAnyH_take (i := 8) (oi := _) (v := ?_) rfl (by kernel_rfl) (by kernel_rfl) (by kernel_rfl) (fun _ _ _ h => h) (Or.inl ⟨by rfl, ?_⟩) (by assumption) ?_
                        rotate_left
                        focus
                          intro w hSw
                          obtain ⟨qs0, qs1, qs2⟩ := Blk.three hSw
                          go_simp
                          try with_reducible rfl
                        try simp only [List.getElem_toArray, List.getElem_cons_succ, List.getElem_cons_zero, Act.put, List.setIfInBounds_toArray, List.set_cons_zero, List.set_cons_succ]
                        refine wpAnyH_ready (rs := [10]) (by kernel_rfl) (by simp) ?_
                        refine AllReadyH.cons (o := _) rfl (fun K hK => ?_) ?_
                        · have m0 := HBw18.out.cel 0 rfl
                          have m1 := HBw18.out.cel 1 rfl
                          have m2 := HBw18.out.cel 2 rfl
                          have y0 := HBw18.out.frozen 0
                          have y1 := HBw18.out.frozen 1
                          have y2 := HBw18.out.frozen 2
                          go_simp
                          obtain ⟨w19, ew19⟩ : ∃ x, x = (((w18.setCell ⟨w13.heap.size, 0, none⟩ (.slice none 0 0)).setCell ⟨w13.heap.size, 1, none⟩ (.slice Aw12 Q.length cw12)).setCell ⟨w13.heap.size, 2, none⟩ (.slice Aw18 P.length cw18)) := ⟨_, rfl⟩
                          rw [← ew19]
                          have HTw19 : Hid (Two w2 w19 w2.heap.size (.slice Aw12 Q.length cw12) Q (.slice Aw18 P.length cw18) P) := Lib.hid (ew19 ▸ three_two HTw18.out HBw18.out HLw18.out _ _ _)
                          have HBw19 : Hid (Blk w19 w13.heap.size 32 #[.slice none 0 0, (.slice Aw12 Q.length cw12), (.slice Aw18 P.length cw18)]) := Lib.hid (ew19 ▸ three_blk HBw18.out _ _)
                          have HKw19 : Hid (Blk w19 w.heap.size 32 #[.slice A0 S.length c0, .slice A1 Q.length c1, .slice A2 P.length c2]) := Lib.hid (ew19 ▸ three_far HKw18.out (by have := HLw18.out; omega) _ _ _)
                          have HLw19 := HLw18
                          clear ew19 m0 m1 m2 y0 y1 y2
                          refine hK.out _ _ ?_ (fun hHeld => ?_)
                          · exact HKw19.out
                          · clear hK K
                            try simp only [List.getElem_toArray, List.getElem_cons_succ, List.getElem_cons_zero, Act.put, List.setIfInBounds_toArray, List.set_cons_zero, List.set_cons_succ]
                            refine wpAnyH_done (by kernel_rfl) ?_ _
                            refine NoPanic.normal ?_
                            try go_wp2_with fail
                            go_meet
                            case rel => exact ⟨_, _, _, _, _, rfl, HLw19.out, HTw19, HBw19⟩
                        exact AllReadyH.nil
                    exact AllReadyH.nil
                exact AllReadyH.nil
            refine AllReadyH.cons (o := _) rfl (fun K hK => ?_) ?_
            · go_simp
              obtain ⟨w20, ew20⟩ : ∃ x, x = w12.alloc (.cells #[.slice none 0 0, .slice none 0 0, .slice none 0 0] 32) := ⟨_, rfl⟩
              rw [← ew20]
              have HTw20 := Lib.hid (HTw12.out.alloc (.cells #[.slice none 0 0, .slice none 0 0, .slice none 0 0] 32))
              rw [← ew20] at HTw20
              have HKw20 := Lib.hid (HKw12.out.alloc (.cells #[.slice none 0 0, .slice none 0 0, .slice none 0 0] 32))
              rw [← ew20] at HKw20
              have HBw20 := Lib.hid (Blk.new w12 32 #[.slice none 0 0, .slice none 0 0, .slice none 0 0])
              rw [← ew20] at HBw20
              have HLw20 := Lib.hid HTw12.out.low
              clear ew20
              refine hK.out _ _ ?_ (fun hHeld => ?_)
              · exact HKw20.out
              · clear hK K
                try simp only [List.getElem_toArray, List.getElem_cons_succ, List.getElem_cons_zero, Act.put, List.setIfInBounds_toArray, List.set_cons_zero, List.set_cons_succ]
                refine wpAnyH_ready (rs := [4]) (by kernel_rfl) (by simp) ?_
                refine AllReadyH.cons (o := _) rfl (fun K hK => ?_) ?_
                · go_simp
                  obtain ⟨w21, ew21⟩ : ∃ x, x = w20.alloc (.cells #[] 3) := ⟨_, rfl⟩
                  rw [← ew21]
                  have HTw21 := Lib.hid (HTw20.out.make2)
                  rw [← ew21] at HTw21
                  have HKw21 := Lib.hid (HKw20.out.alloc (.cells #[] 3))
                  rw [← ew21] at HKw21
                  have HBw21 := Lib.hid (HBw20.out.alloc (.cells #[] 3))
                  rw [← ew21] at HBw21
                  have HLw21 := HLw20
                  clear ew21
                  refine hK.out _ _ ?_ (fun hHeld => ?_)
                  · exact HKw21.out
                  · clear hK K
                    try simp only [List.getElem_toArray, List.getElem_cons_succ, List.getElem_cons_zero, Act.put, List.setIfInBounds_toArray, List.set_cons_zero, List.set_cons_succ]
                    refine wpAnyH_ready (rs := [7]) (by kernel_rfl) (by simp) ?_
                    refine AllReadyH.cons (o := _) rfl (fun K hK => ?_) ?_
                    · refine ArnG.wp_two2 (c := c2) (.tmp 12) (.tmp 14) rfl HTw21.out (HA.out.below (HTw21.out.below.mono hB2)).2.2 Hlp.out (by go_simp) (by go_simp) ?_
                      intro Aw22 cw22 w22 hT hkp hsN
                      have HTw22 := Lib.hid hT
                      have HKw22 := Lib.hid (hkp _ _ _ HKw21.out (by decide))
                      have HBw22 := Lib.hid (hkp _ _ _ HBw21.out (by decide))
                      have HLw22 := HLw21
                      clear hT hkp hsN
                      refine hK.out _ _ ?_ (fun hHeld => ?_)
                      · exact HKw22.out
                      · clear hK K
                        try simp only [List.getElem_toArray, List.getElem_cons_succ, List.getElem_cons_zero, Act.put, List.setIfInBounds_toArray, List.set_cons_zero, List.set_cons_succ]
                        refine wpAnyH_take (i := 8) (oi := _) (v := ?_) rfl (by kernel_rfl) (by kernel_rfl) (by kernel_rfl) (fun _ _ _ h => h) (Or.inl ⟨by rfl, ?_⟩) (by assumption) ?_
                        rotate_left
                        focus
                          intro w hSw
                          obtain ⟨qs0, qs1, qs2⟩ := Blk.three hSw
                          go_simp
                          try with_reducible rfl
                        try simp only [List.getElem_toArray, List.getElem_cons_succ, List.getElem_cons_zero, Act.put, List.setIfInBounds_toArray, List.set_cons_zero, List.set_cons_succ]
                        refine wpAnyH_ready (rs := [10]) (by kernel_rfl) (by simp) ?_
                        refine AllReadyH.cons (o := _) rfl (fun K hK => ?_) ?_
                        · have m0 := HBw22.out.cel 0 rfl
                          have m1 := HBw22.out.cel 1 rfl
                          have m2 := HBw22.out.cel 2 rfl
                          have y0 := HBw22.out.frozen 0
                          have y1 := HBw22.out.frozen 1
                          have y2 := HBw22.out.frozen 2
                          go_simp
                          obtain ⟨w23, ew23⟩ : ∃ x, x = (((w22.setCell ⟨w12.heap.size, 0, none⟩ (.slice none 0 0)).setCell ⟨w12.heap.size, 1, none⟩ (.slice Aw12 Q.length cw12)).setCell ⟨w12.heap.size, 2, none⟩ (.slice Aw22 P.length cw22)) := ⟨_, rfl⟩
                          rw [← ew23]
                          have HTw23 : Hid (Two w2 w23 w2.heap.size (.slice Aw12 Q.length cw12) Q (.slice Aw22 P.length cw22) P) := Lib.hid (ew23 ▸ three_two HTw22.out HBw22.out HLw22.out _ _ _)
                          have HBw23 : Hid (Blk w23 w12.heap.size 32 #[.slice none 0 0, (.slice Aw12 Q.length cw12), (.slice Aw22 P.length cw22)]) := Lib.hid (ew23 ▸ three_blk HBw22.out _ _)
                          have HKw23 : Hid (Blk w23 w.heap.size 32 #[.slice A0 S.length c0, .slice A1 Q.length c1, .slice A2 P.length c2]) := Lib.hid (ew23 ▸ three_far HKw22.out (by have := HLw22.out; omega) _ _ _)
                          have HLw23 := HLw22
                          clear ew23 m0 m1 m2 y0 y1 y2
                          refine hK.out _ _ ?_ (fun hHeld => ?_)
                          · exact HKw23.out
                          · clear hK K
                            try simp only [List.getElem_toArray, List.getElem_cons_succ, List.getElem_cons_zero, Act.put, List.setIfInBounds_toArray, List.set_cons_zero, List.set_cons_succ]
                            refine wpAnyH_done (by kernel_rfl) ?_ _
                            refine NoPanic.normal ?_
                            try go_wp2_with fail
                            go_meet
                            case rel => exact ⟨_, _, _, _, _, rfl, HLw23.out, HTw23, HBw23⟩
                        exact AllReadyH.nil
                    exact AllReadyH.nil
                exact AllReadyH.nil
            exact AllReadyH.nil
        refine AllReadyH.cons (o := _) rfl (fun K hK => ?_) ?_
        · go_simp
          obtain ⟨w24, ew24⟩ : ∃ x, x = w11.alloc (.cells #[] 3) := ⟨_, rfl⟩
          rw [← ew24]
          have HTw24 := Lib.hid (HTw11.out.make2)
          rw [← ew24] at HTw24
          have HKw24 := Lib.hid (HKw11.out.alloc (.cells #[] 3))
          rw [← ew24] at HKw24
          clear ew24
          refine hK.out _ _ ?_ (fun hHeld => ?_)
          · exact HKw24.out
          · clear hK K
            try simp only [List.getElem_toArray, List.getElem_cons_succ, List.getElem_cons_zero, Act.put, List.setIfInBounds_toArray, List.set_cons_zero, List.set_cons_succ]
            refine wpAnyH_ready (rs := [3, 9]) (by kernel_rfl) (by simp) ?_
            refine AllReadyH.cons (o := _) rfl (fun K hK => ?_) ?_
            · refine ArnG.wp_two1 (c := c1) (.tmp 8) (.tmp 10) rfl HTw24.out (HA.out.below (HTw24.out.below.mono hB2)).2.1 Hlq.out (by go_simp) (by go_simp) ?_
              intro Aw25 cw25 w25 hT hkp hsN
              have HTw25 := Lib.hid hT
              have HKw25 := Lib.hid (hkp _ _ _ HKw24.out (by decide))
              clear hT hkp hsN
              refine hK.out _ _ ?_ (fun hHeld => ?_)
              · exact HKw25.out
              · clear hK K
                try simp only [List.getElem_toArray, List.getElem_cons_succ, List.getElem_cons_zero, Act.put, List.setIfInBounds_toArray, List.set_cons_zero, List.set_cons_succ]
                refine wpAnyH_ready (rs := [7, 9]) (by kernel_rfl) (by simp) ?_
                refine AllReadyH.cons (o := _) rfl (fun K hK => ?_) ?_
                · refine ArnG.wp_two2 (c := c2) (.tmp 12) (.tmp 14) rfl HTw25.out (HA.out.below (HTw25.out.below.mono hB2)).2.2 Hlp.out (by go_simp) (by go_simp) ?_
                  intro Aw26 cw26 w26 hT hkp hsN
                  have HTw26 := Lib.hid hT
                  have HKw26 := Lib.hid (hkp _ _ _ HKw25.out (by decide))
                  clear hT hkp hsN
                  refine hK.out _ _ ?_ (fun hHeld => ?_)
                  · exact HKw26.out
                  · clear hK K
                    try simp only [List.getElem_toArray, List.getElem_cons_succ, List.getElem_cons_zero, Act.put, List.setIfInBounds_toArray, List.set_cons_zero, List.set_cons_succ]
                    refine wpAnyH_take (i := 8) (oi := _) (v := ?_) rfl (by kernel_rfl) (by kernel_rfl) (by kernel_rfl) (fun _ _ _ h => h) (Or.inl ⟨by rfl, ?_⟩) (by assumption) ?_
                    rotate_left
                    focus
                      intro w hSw
                      obtain ⟨qs0, qs1, qs2⟩ := Blk.three hSw
                      go_simp
                      try with_reducible rfl
                    try simp only [List.getElem_toArray, List.getElem_cons_succ, List.getElem_cons_zero, Act.put, List.setIfInBounds_toArray, List.set_cons_zero, List.set_cons_succ]
                    refine wpAnyH_ready (rs := [9]) (by kernel_rfl) (by simp) ?_
                    refine AllReadyH.cons (o := _) rfl (fun K hK => ?_) ?_
                    · go_simp
                      obtain ⟨w27, ew27⟩ : ∃ x, x = w26.alloc (.cells #[.slice none 0 0, .slice none 0 0, .slice none 0 0] 32) := ⟨_, rfl⟩
                      rw [← ew27]
                      have HTw27 := Lib.hid (HTw26.out.alloc (.cells #[.slice none 0 0, .slice none 0 0, .slice none 0 0] 32))
                      rw [← ew27] at HTw27
                      have HKw27 := Lib.hid (HKw26.out.alloc (.cells #[.slice none 0 0, .slice none 0 0, .slice none 0 0] 32))
                      rw [← ew27] at HKw27
                      have HBw27 := Lib.hid (Blk.new w26 32 #[.slice none 0 0, .slice none 0 0, .slice none 0 0])
                      rw [← ew27] at HBw27
                      have HLw27 := Lib.hid HTw26.out.low
                      clear ew27
                      refine hK.out _ _ ?_ (fun hHeld => ?_)
                      · exact HKw27.out
                      · clear hK K
                        try simp only [List.getElem_toArray, List.getElem_cons_succ, List.getElem_cons_zero, Act.put, List.setIfInBounds_toArray, List.set_cons_zero, List.set_cons_succ]
                        refine wpAnyH_ready (rs := [10]) (by kernel_rfl) (by simp) ?_
                        refine AllReadyH.cons (o := _) rfl (fun K hK => ?_) ?_
                        · have m0 := HBw27.out.cel 0 rfl
                          have m1 := HBw27.out.cel 1 rfl
                          have m2 := HBw27.out.cel 2 rfl
                          have y0 := HBw27.out.frozen 0
                          have y1 := HBw27.out.frozen 1
                          have y2 := HBw27.out.frozen 2
                          go_simp
                          obtain ⟨w28, ew28⟩ : ∃ x, x = (((w27.setCell ⟨w26.heap.size, 0, none⟩ (.slice none 0 0)).setCell ⟨w26.heap.size, 1, none⟩ (.slice Aw25 Q.length cw25)).setCell ⟨w26.heap.size, 2, none⟩ (.slice Aw26 P.length cw26)) := ⟨_, rfl⟩
                          rw [← ew28]
                          have HTw28 : Hid (Two w2 w28 w2.heap.size (.slice Aw25 Q.length cw25) Q (.slice Aw26 P.length cw26) P) := Lib.hid (ew28 ▸ three_two HTw27.out HBw27.out HLw27.out _ _ _)
                          have HBw28 : Hid (Blk w28 w26.heap.size 32 #[.slice none 0 0, (.slice Aw25 Q.length cw25), (.slice Aw26 P.length cw26)]) := Lib.hid (ew28 ▸ three_blk HBw27.out _ _)
                          have HKw28 : Hid (Blk w28 w.heap.size 32 #[.slice A0 S.length c0, .slice A1 Q.length c1, .slice A2 P.length c2]) := Lib.hid (ew28 ▸ three_far HKw27.out (by have := HLw27.out; omega) _ _ _)
                          have HLw28 := HLw27
                          clear ew28 m0 m1 m2 y0 y1 y2
                          refine hK.out _ _ ?_ (fun hHeld => ?_)
                          · exact HKw28.out
                          · clear hK K
                            try simp only [List.getElem_toArray, List.getElem_cons_succ, List.getElem_cons_zero, Act.put, List.setIfInBounds_toArray, List.set_cons_zero, List.set_cons_succ]
                            refine wpAnyH_done (by kernel_rfl) ?_ _
                            refine NoPanic.normal ?_
                            try go_wp2_with fail
                            go_meet
                            case rel => exact ⟨_, _, _, _, _, rfl, HLw28.out, HTw28, HBw28⟩
                        exact AllReadyH.nil
                    exact AllReadyH.nil
                refine AllReadyH.cons (o := _) rfl (fun K hK => ?_) ?_
                · go_simp
                  obtain ⟨w29, ew29⟩ : ∃ x, x = w25.alloc (.cells #[.slice none 0 0, .slice none 0 0, .slice none 0 0] 32) := ⟨_, rfl⟩
                  rw [← ew29]
                  have HTw29 := Lib.hid (HTw25.out.alloc (.cells #[.slice none 0 0, .slice none 0 0, .slice none 0 0] 32))
                  rw [← ew29] at HTw29
                  have HKw29 := Lib.hid (HKw25.out.alloc (.cells #[.slice none 0 0, .slice none 0 0, .slice none 0 0] 32))
                  rw [← ew29] at HKw29
                  have HBw29 := Lib.hid (Blk.new w25 32 #[.slice none 0 0, .slice none 0 0, .slice none 0 0])
                  rw [← ew29] at HBw29
                  have HLw29 := Lib.hid HTw25.out.low
                  clear ew29
                  refine hK.out _ _ ?_ (fun hHeld => ?_)
                  · exact HKw29.out
                  · clear hK K
                    try simp only [List.getElem_toArray, List.getElem_cons_succ, List.getElem_cons_zero, Act.put, List.setIfInBounds_toArray, List.set_cons_zero, List.set_cons_succ]
                    refine wpAnyH_ready (rs := [7]) (by kernel_rfl) (by simp) ?_
                    refine AllReadyH.cons (o := _) rfl (fun K hK => ?_) ?_
                    · refine ArnG.wp_two2 (c := c2) (.tmp 12) (.tmp 14) rfl HTw29.out (HA.out.below (HTw29.out.below.mono hB2)).2.2 Hlp.out (by go_simp) (by go_simp) ?_
                      intro Aw30 cw30 w30 hT hkp hsN
                      have HTw30 := Lib.hid hT
                      have HKw30 := Lib.hid (hkp _ _ _ HKw29.out (by decide))
                      have HBw30 := Lib.hid (hkp _ _ _ HBw29.out (by decide))
                      have HLw30 := HLw29
                      clear hT hkp hsN
                      refine hK.out _ _ ?_ (fun hHeld => ?_)
                      · exact HKw30.out
                      · clear hK K
                        try simp only [List.getElem_toArray, List.getElem_cons_succ, List.getElem_cons_zero, Act.put, List.setIfInBounds_toArray, List.set_cons_zero, List.set_cons_succ]
                        refine wpAnyH_take (i := 8) (oi := _) (v := ?_) rfl (by kernel_rfl) (by kernel_rfl) (by kernel_rfl) (fun _ _ _ h => h) (Or.inl ⟨by rfl, ?_⟩) (by assumption) ?_
                        rotate_left
                        focus
                          intro w hSw
                          obtain ⟨qs0, qs1, qs2⟩ := Blk.three hSw
                          go_simp
                          try with_reducible rfl
                        try simp only [List.getElem_toArray, List.getElem_cons_succ, List.getElem_cons_zero, Act.put, List.setIfInBounds_toArray, List.set_cons_zero, List.set_cons_succ]
                        refine wpAnyH_ready (rs := [10]) (by kernel_rfl) (by simp) ?_
                        refine AllReadyH.cons (o := _) rfl (fun K hK => ?_) ?_
                        · have m0 := HBw30.out.cel 0 rfl
                          have m1 := HBw30.out.cel 1 rfl
                          have m2 := HBw30.out.cel 2 rfl
                          have y0 := HBw30.out.frozen 0
                          have y1 := HBw30.out.frozen 1
                          have y2 := HBw30.out.frozen 2
                          go_simp
                          obtain ⟨w31, ew31⟩ : ∃ x, x = (((w30.setCell ⟨w25.heap.size, 0, none⟩ (.slice none 0 0)).setCell ⟨w25.heap.size, 1, none⟩ (.slice Aw25 Q.length cw25)).setCell ⟨w25.heap.size, 2, none⟩ (.slice Aw30 P.length cw30)) := ⟨_, rfl⟩
                          rw [← ew31]
                          have HTw31 : Hid (Two w2 w31 w2.heap.size (.slice Aw25 Q.length cw25) Q (.slice Aw30 P.length cw30) P) := Lib.hid (ew31 ▸ three_two HTw30.out HBw30.out HLw30.out _ _ _)
                          have HBw31 : Hid (Blk w31 w25.heap.size 32 #[.slice none 0 0, (.slice Aw25 Q.length cw25), (.slice Aw30 P.length cw30)]) := Lib.hid (ew31 ▸ three_blk HBw30.out _ _)
                          have HKw31 : Hid (Blk w31 w.heap.size 32 #[.slice A0 S.length c0, .slice A1 Q.length c1, .slice A2 P.length c2]) := Lib.hid (ew31 ▸ three_far HKw30.out (by have := HLw30.out; omega) _ _ _)
                          have HLw31 := HLw30
                          clear ew31 m0 m1 m2 y0 y1 y2
                          refine hK.out _ _ ?_ (fun hHeld => ?_)
                          · exact HKw31.out
                          · clear hK K
                            try simp only [List.getElem_toArray, List.getElem_cons_succ, List.getElem_cons_zero, Act.put, List.setIfInBounds_toArray, List.set_cons_zero, List.set_cons_succ]
                            refine wpAnyH_done (by kernel_rfl) ?_ _
                            refine NoPanic.normal ?_
                            try go_wp2_with fail
                            go_meet
                            case rel => exact ⟨_, _, _, _, _, rfl, HLw31.out, HTw31, HBw31⟩
                        exact AllReadyH.nil
                    exact AllReadyH.nil
                exact AllReadyH.nil
            refine AllReadyH.cons (o := _) rfl (fun K hK => ?_) ?_
            · go_simp
              obtain ⟨w32, ew32⟩ : ∃ x, x = w24.alloc (.cells #[.slice none 0 0, .slice none 0 0, .slice none 0 0] 32) := ⟨_, rfl⟩
              rw [← ew32]
              have HTw32 := Lib.hid (HTw24.out.alloc (.cells #[.slice none 0 0, .slice none 0 0, .slice none 0 0] 32))
              rw [← ew32] at HTw32
              have HKw32 := Lib.hid (HKw24.out.alloc (.cells #[.slice none 0 0, .slice none 0 0, .slice none 0 0] 32))
              rw [← ew32] at HKw32
              have HBw32 := Lib.hid (Blk.new w24 32 #[.slice none 0 0, .slice none 0 0, .slice none 0 0])
              rw [← ew32] at HBw32
              have HLw32 := Lib.hid HTw24.out.low
              clear ew32
              refine hK.out _ _ ?_ (fun hHeld => ?_)
              · exact HKw32.out
              · clear hK K
                try simp only [List.getElem_toArray, List.getElem_cons_succ, List.getElem_cons_zero, Act.put, List.setIfInBounds_toArray, List.set_cons_zero, List.set_cons_succ]
                refine wpAnyH_ready (rs := [3]) (by kernel_rfl) (by simp) ?_
                refine AllReadyH.cons (o := _) rfl (fun K hK => ?_) ?_
                · refine ArnG.wp_two1 (c := c1) (.tmp 8) (.tmp 10) rfl HTw32.out (HA.out.below (HTw32.out.below.mono hB2)).2.1 Hlq.out (by go_simp) (by go_simp) ?_
                  intro Aw33 cw33 w33 hT hkp hsN
                  have HTw33 := Lib.hid hT
                  have HKw33 := Lib.hid (hkp _ _ _ HKw32.out (by decide))
                  have HBw33 := Lib.hid (hkp _ _ _ HBw32.out (by decide))
                  have HLw33 := HLw32
                  clear hT hkp hsN
                  refine hK.out _ _ ?_ (fun hHeld => ?_)
                  · exact HKw33.out
                  · clear hK K
                    try simp only [List.getElem_toArray, List.getElem_cons_succ, List.getElem_cons_zero, Act.put, List.setIfInBounds_toArray, List.set_cons_zero, List.set_cons_succ]
                    refine wpAnyH_ready (rs := [7]) (by kernel_rfl) (by simp) ?_
                    refine AllReadyH.cons (o := _) rfl (fun K hK => ?_) ?_
                    · refine ArnG.wp_two2 (c := c2) (.tmp 12) (.tmp 14) rfl HTw33.out (HA.out.below (HTw33.out.below.mono hB2)).2.2 Hlp.out (by go_simp) (by go_simp) ?_
                      intro Aw34 cw34 w34 hT hkp hsN
                      have HTw34 := Lib.hid hT
                      have HKw34 := Lib.hid (hkp _ _ _ HKw33.out (by decide))
                      have HBw34 := Lib.hid (hkp _ _ _ HBw33.out (by decide))
                      have HLw34 := HLw33
                      clear hT hkp hsN
                      refine hK.out _ _ ?_ (fun hHeld => ?_)
                      · exact HKw34.out
                      · clear hK K
                        try simp only [List.getElem_toArray, List.getElem_cons_succ, List.getElem_cons_zero, Act.put, List.setIfInBounds_toArray, List.set_cons_zero, List.set_cons_succ]
                        refine wpAnyH_take (i := 8) (oi := _) (v := ?_) rfl (by kernel_rfl) (by kernel_rfl) (by kernel_rfl) (fun _ _ _ h => h) (Or.inl ⟨by rfl, ?_⟩) (by assumption) ?_
                        rotate_left
                        focus
                          intro w hSw
                          obtain ⟨qs0, qs1, qs2⟩ := Blk.three hSw
                          go_simp
                          try with_reducible rfl
                        try simp only [List.getElem_toArray, List.getElem_cons_succ, List.getElem_cons_zero, Act.put, List.setIfInBounds_toArray, List.set_cons_zero, List.set_cons_succ]
                        refine wpAnyH_ready (rs := [10]) (by kernel_rfl) (by simp) ?_
                        refine AllReadyH.cons (o := _) rfl (fun K hK => ?_) ?_
                        · have m0 := HBw34.out.cel 0 rfl
                          have m1 := HBw34.out.cel 1 rfl
                          have m2 := HBw34.out.cel 2 rfl
                          have y0 := HBw34.out.frozen 0
                          have y1 := HBw34.out.frozen 1
                          have y2 := HBw34.out.frozen 2
                          go_simp
                          obtain ⟨w35, ew35⟩ : ∃ x, x = (((w34.setCell ⟨w24.heap.size, 0, none⟩ (.slice none 0 0)).setCell ⟨w24.heap.size, 1, none⟩ (.slice Aw33 Q.length cw33)).setCell ⟨w24.heap.size, 2, none⟩ (.slice Aw34 P.length cw34)) := ⟨_, rfl⟩
                          rw [← ew35]
                          have HTw35 : Hid (Two w2 w35 w2.heap.size (.slice Aw33 Q.length cw33) Q (.slice Aw34 P.length cw34) P) := Lib.hid (ew35 ▸ three_two HTw34.out HBw34.out HLw34.out _ _ _)
                          have HBw35 : Hid (Blk w35 w24.heap.size 32 #[.slice none 0 0, (.slice Aw33 Q.length cw33), (.slice Aw34 P.length cw34)]) := Lib.hid (ew35 ▸ three_blk HBw34.out _ _)
                          have HKw35 : Hid (Blk w35 w.heap.size 32 #[.slice A0 S.length c0, .slice A1 Q.length c1, .slice A2 P.length c2]) := Lib.hid (ew35 ▸ three_far HKw34.out (by have := HLw34.out; omega) _ _ _)
                          have HLw35 := HLw34
                          clear ew35 m0 m1 m2 y0 y1 y2
                          refine hK.out _ _ ?_ (fun hHeld => ?_)
                          · exact HKw35.out
                          · clear hK K
                            try simp only [List.getElem_toArray, List.getElem_cons_succ, List.getElem_cons_zero, Act.put, List.setIfInBounds_toArray, List.set_cons_zero, List.set_cons_succ]
                            refine wpAnyH_done (by kernel_rfl) ?_ _
                            refine NoPanic.normal ?_
                            try go_wp2_with fail
                            go_meet
                            case rel => exact ⟨_, _, _, _, _, rfl, HLw35.out, HTw35, HBw35⟩
                        exact AllReadyH.nil
                    exact AllReadyH.nil
                exact AllReadyH.nil
            exact AllReadyH.nil
        refine AllReadyH.cons (o := _) rfl (fun K hK => ?_) ?_
        · go_simp
          obtain ⟨w36, ew36⟩ : ∃ x, x = w11.alloc (.cells #[.slice none 0 0, .slice none 0 0, .slice none 0 0] 32) := ⟨_, rfl⟩
          rw [← ew36]
          have HTw36 := Lib.hid (HTw11.out.alloc (.cells #[.slice none 0 0, .slice none 0 0, .slice none 0 0] 32))
          rw [← ew36] at HTw36
          have HKw36 := Lib.hid (HKw11.out.alloc (.cells #[.slice none 0 0, .slice none 0 0, .slice none 0 0] 32))
          rw [← ew36] at HKw36
          have HBw36 := Lib.hid (Blk.new w11 32 #[.slice none 0 0, .slice none 0 0, .slice none 0 0])
          rw [← ew36] at HBw36
          have HLw36 := Lib.hid HTw11.out.low
          clear ew36
          refine hK.out _ _ ?_ (fun hHeld => ?_)
          · exact HKw36.out
          · clear hK K
            try simp only [List.getElem_toArray, List.getElem_cons_succ, List.getElem_cons_zero, Act.put, List.setIfInBounds_toArray, List.set_cons_zero, List.set_cons_succ]
            refine wpAnyH_ready (rs := [3, 4]) (by kernel_rfl) (by simp) ?_
            refine AllReadyH.cons (o := _) rfl (fun K hK => ?_) ?_
            · refine ArnG.wp_two1 (c := c1) (.tmp 8) (.tmp 10) rfl HTw36.out (HA.out.below (HTw36.out.below.mono hB2)).2.1 Hlq.out (by go_simp) (by go_simp) ?_
              intro Aw37 cw37 w37 hT hkp hsN
              have HTw37 := Lib.hid hT
              have HKw37 := Lib.hid (hkp _ _ _ HKw36.out (by decide))
              have HBw37 := Lib.hid (hkp _ _ _ HBw36.out (by decide))
              have HLw37 := HLw36
              clear hT hkp hsN
              refine hK.out _ _ ?_ (fun hHeld => ?_)
              · exact HKw37.out
              · clear hK K
                try simp only [List.getElem_toArray, List.getElem_cons_succ, List.getElem_cons_zero, Act.put, List.setIfInBounds_toArray, List.set_cons_zero, List.set_cons_succ]
                refine wpAnyH_ready (rs := [4]) (by kernel_rfl) (by simp) ?_
                refine AllReadyH.cons (o := _) rfl (fun K hK => ?_) ?_
                · go_simp
                  obtain ⟨w38, ew38⟩ : ∃ x, x = w37.alloc (.cells #[] 3) := ⟨_, rfl⟩
                  rw [← ew38]
                  have HTw38 := Lib.hid (HTw37.out.make2)
                  rw [← ew38] at HTw38
                  have HKw38 := Lib.hid (HKw37.out.alloc (.cells #[] 3))
                  rw [← ew38] at HKw38
                  have HBw38 := Lib.hid (HBw37.out.alloc (.cells #[] 3))
                  rw [← ew38] at HBw38
                  have HLw38 := HLw37
                  clear ew38
                  refine hK.out _ _ ?_ (fun hHeld => ?_)
                  · exact HKw38.out
                  · clear hK K
                    try simp only [List.getElem_toArray, List.getElem_cons_succ, List.getElem_cons_zero, Act.put, List.setIfInBounds_toArray, List.set_cons_zero, List.set_cons_succ]
                    refine wpAnyH_ready (rs := [7]) (by kernel_rfl) (by simp) ?_
                    refine AllReadyH.cons (o := _) rfl (fun K hK => ?_) ?_
                    · refine ArnG.wp_two2 (c := c2) (.tmp 12) (.tmp 14) rfl HTw38.out (HA.out.below (HTw38.out.below.mono hB2)).2.2 Hlp.out (by go_simp) (by go_simp) ?_
                      intro Aw39 cw39 w39 hT hkp hsN
                      have HTw39 := Lib.hid hT
                      have HKw39 := Lib.hid (hkp _ _ _ HKw38.out (by decide))
                      have HBw39 := Lib.hid (hkp _ _ _ HBw38.out (by decide))
                      have HLw39 := HLw38
                      clear hT hkp hsN
                      refine hK.out _ _ ?_ (fun hHeld => ?_)
                      · exact HKw39.out
                      · clear hK K
                        try simp only [List.getElem_toArray, List.getElem_cons_succ, List.getElem_cons_zero, Act.put, List.setIfInBounds_toArray, List.set_cons_zero, List.set_cons_succ]
                        refine wpAnyH_take (i := 8) (oi := _) (v := ?_) rfl (by kernel_rfl) (by kernel_rfl) (by kernel_rfl) (fun _ _ _ h => h) (Or.inl ⟨by rfl, ?_⟩) (by assumption) ?_
                        rotate_left
                        focus
                          intro w hSw
                          obtain ⟨qs0, qs1, qs2⟩ := Blk.three hSw
                          go_simp
                          try with_reducible rfl
                        try simp only [List.getElem_toArray, List.getElem_cons_succ, List.getElem_cons_zero, Act.put, List.setIfInBounds_toArray, List.set_cons_zero, List.set_cons_succ]
                        refine wpAnyH_ready (rs := [10]) (by kernel_rfl) (by simp) ?_
                        refine AllReadyH.cons (o := _) rfl (fun K hK => ?_) ?_
                        · have m0 := HBw39.out.cel 0 rfl
                          have m1 := HBw39.out.cel 1 rfl
                          have m2 := HBw39.out.cel 2 rfl
                          have y0 := HBw39.out.frozen 0
                          have y1 := HBw39.out.frozen 1
                          have y2 := HBw39.out.frozen 2
                          go_simp
                          obtain ⟨w40, ew40⟩ : ∃ x, x = (((w39.setCell ⟨w11.heap.size, 0, none⟩ (.slice none 0 0)).setCell ⟨w11.heap.size, 1, none⟩ (.slice Aw37 Q.length cw37)).setCell ⟨w11.heap.size, 2, none⟩ (.slice Aw39 P.length cw39)) := ⟨_, rfl⟩
                          rw [← ew40]
                          have HTw40 : Hid (Two w2 w40 w2.heap.size (.slice Aw37 Q.length cw37) Q (.slice Aw39 P.length cw39) P) := Lib.hid (ew40 ▸ three_two HTw39.out HBw39.out HLw39.out _ _ _)
                          have HBw40 : Hid (Blk w40 w11.heap.size 32 #[.slice none 0 0, (.slice Aw37 Q.length cw37), (.slice Aw39 P.length cw39)]) := Lib.hid (ew40 ▸ three_blk HBw39.out _ _)
                          have HKw40 : Hid (Blk w40 w.heap.size 32 #[.slice A0 S.length c0, .slice A1 Q.length c1, .slice A2 P.length c2]) := Lib.hid (ew40 ▸ three_far HKw39.out (by have := HLw39.out; omega) _ _ _)
                          have HLw40 := HLw39
                          clear ew40 m0 m1 m2 y0 y1 y2
                          refine hK.out _ _ ?_ (fun hHeld => ?_)
                          · exact HKw40.out
                          · clear hK K
                            try simp only [List.getElem_toArray, List.getElem_cons_succ, List.getElem_cons_zero, Act.put, List.setIfInBounds_toArray, List.set_cons_zero, List.set_cons_succ]
                            refine wpAnyH_done (by kernel_rfl) ?_ _
                            refine NoPanic.normal ?_
                            try go_wp2_with fail
                            go_meet
                            case rel => exact ⟨_, _, _, _, _, rfl, HLw40.out, HTw40, HBw40⟩
                        exact AllReadyH.nil
                    exact AllReadyH.nil
                exact AllReadyH.nil
            refine AllReadyH.cons (o := _) rfl (fun K hK => ?_) ?_
            · go_simp
              obtain ⟨w41, ew41⟩ : ∃ x, x = w36.alloc (.cells #[] 3) := ⟨_, rfl⟩
              rw [← ew41]
              have HTw41 := Lib.hid (HTw36.out.make2)
              rw [← ew41] at HTw41
              have HKw41 := Lib.hid (HKw36.out.alloc (.cells #[] 3))
              rw [← ew41] at HKw41
              have HBw41 := Lib.hid (HBw36.out.alloc (.cells #[] 3))
              rw [← ew41] at HBw41
              have HLw41 := HLw36
              clear ew41
              refine hK.out _ _ ?_ (fun hHeld => ?_)
              · exact HKw41.out
              · clear hK K
                try simp only [List.getElem_toArray, List.getElem_cons_succ, List.getElem_cons_zero, Act.put, List.setIfInBounds_toArray, List.set_cons_zero, List.set_cons_succ]
                refine wpAnyH_ready (rs := [3]) (by kernel_rfl) (by simp) ?_
                refine AllReadyH.cons (o := _) rfl (fun K hK => ?_) ?_
                · refine ArnG.wp_two1 (c := c1) (.tmp 8) (.tmp 10) rfl HTw41.out (HA.out.below (HTw41.out.below.mono hB2)).2.1 Hlq.out (by go_simp) (by go_simp) ?_
                  intro Aw42 cw42 w42 hT hkp hsN
                  have HTw42 := Lib.hid hT
                  have HKw42 := Lib.hid (hkp _ _ _ HKw41.out (by decide))
                  have HBw42 := Lib.hid (hkp _ _ _ HBw41.out (by decide))
                  have HLw42 := HLw41
                  clear hT hkp hsN
                  refine hK.out _ _ ?_ (fun hHeld => ?_)
                  · exact HKw42.out
                  · clear hK K
                    try simp only [List.getElem_toArray, List.getElem_cons_succ, List.getElem_cons_zero, Act.put, List.setIfInBounds_toArray, List.set_cons_zero, List.set_cons_succ]
                    refine wpAnyH_ready (rs := [7]) (by kernel_rfl) (by simp) ?_
                    refine AllReadyH.cons (o := _) rfl (fun K hK => ?_) ?_
                    · refine ArnG.wp_two2 (c := c2) (.tmp 12) (.tmp 14) rfl HTw42.out (HA.out.below (HTw42.out.below.mono hB2)).2.2 Hlp.out (by go_simp) (by go_simp) ?_
                      intro Aw43 cw43 w43 hT hkp hsN
                      have HTw43 := Lib.hid hT
                      have HKw43 := Lib.hid (hkp _ _ _ HKw42.out (by decide))
                      have HBw43 := Lib.hid (hkp _ _ _ HBw42.out (by decide))
                      have HLw43 := HLw42
                      clear hT hkp hsN
                      refine hK.out _ _ ?_ (fun hHeld => ?_)
                      · exact HKw43.out
                      · clear hK K
                        try simp only [List.getElem_toArray, List.getElem_cons_succ, List.getElem_cons_zero, Act.put, List.setIfInBounds_toArray, List.set_cons_zero, List.set_cons_succ]
                        refine wpAnyH_take (i := 8) (oi := _) (v := ?_) rfl (by kernel_rfl) (by kernel_rfl) (by kernel_rfl) (fun _ _ _ h => h) (Or.inl ⟨by rfl, ?_⟩) (by assumption) ?_
                        rotate_left
                        focus
                          intro w hSw
                          obtain ⟨qs0, qs1, qs2⟩ := Blk.three hSw
                          go_simp
                          try with_reducible rfl
                        try simp only [List.getElem_toArray, List.getElem_cons_succ, List.getElem_cons_zero, Act.put, List.setIfInBounds_toArray, List.set_cons_zero, List.set_cons_succ]
                        refine wpAnyH_ready (rs := [10]) (by kernel_rfl) (by simp) ?_
                        refine AllReadyH.cons (o := _) rfl (fun K hK => ?_) ?_
                        · have m0 := HBw43.out.cel 0 rfl
                          have m1 := HBw43.out.cel 1 rfl
                          have m2 := HBw43.out.cel 2 rfl
                          have y0 := HBw43.out.frozen 0
                          have y1 := HBw43.out.frozen 1
                          have y2 := HBw43.out.frozen 2
                          go_simp
                          obtain ⟨w44, ew44⟩ : ∃ x, x = (((w43.setCell ⟨w11.heap.size, 0, none⟩ (.slice none 0 0)).setCell ⟨w11.heap.size, 1, none⟩ (.slice Aw42 Q.length cw42)).setCell ⟨w11.heap.size, 2, none⟩ (.slice Aw43 P.length cw43)) := ⟨_, rfl⟩
                          rw [← ew44]
                          have HTw44 : Hid (Two w2 w44 w2.heap.size (.slice Aw42 Q.length cw42) Q (.slice Aw43 P.length cw43) P) := Lib.hid (ew44 ▸ three_two HTw43.out HBw43.out HLw43.out _ _ _)
                          have HBw44 : Hid (Blk w44 w11.heap.size 32 #[.slice none 0 0, (.slice Aw42 Q.length cw42), (.slice Aw43 P.length cw43)]) := Lib.hid (ew44 ▸ three_blk HBw43.out _ _)
                          have HKw44 : Hid (Blk w44 w.heap.size 32 #[.slice A0 S.length c0, .slice A1 Q.length c1, .slice A2 P.length c2]) := Lib.hid (ew44 ▸ three_far HKw43.out (by have := HLw43.out; omega) _ _ _)
                          have HLw44 := HLw43
                          clear ew44 m0 m1 m2 y0 y1 y2
                          refine hK.out _ _ ?_ (fun hHeld => ?_)
                          · exact HKw44.out
                          · clear hK K
                            try simp only [List.getElem_toArray, List.getElem_cons_succ, List.getElem_cons_zero, Act.put, List.setIfInBounds_toArray, List.set_cons_zero, List.set_cons_succ]
                            refine wpAnyH_done (by kernel_rfl) ?_ _
                            refine NoPanic.normal ?_
                            try go_wp2_with fail
                            go_meet
                            case rel => exact ⟨_, _, _, _, _, rfl, HLw44.out, HTw44, HBw44⟩
                        exact AllReadyH.nil
                    exact AllReadyH.nil
                exact AllReadyH.nil
            exact AllReadyH.nil
        exact AllReadyH.nil
    refine AllReadyH.cons (o := _) rfl (fun K hK => ?_) ?_
    · go_simp
      obtain ⟨w45, ew45⟩ : ∃ x, x = w3.alloc (.cells #[] 3) := ⟨_, rfl⟩
      rw [← ew45]
      have HTw45 := Lib.hid (HTw3.out.make2)
      rw [← ew45] at HTw45
      have HKw45 := Lib.hid (HKw3.out.alloc (.cells #[] 3))
      rw [← ew45] at HKw45
      clear ew45
      refine hK.out _ _ ?_ (fun hHeld => ?_)
      · exact HKw45.out
      · clear hK K
        try simp only [List.getElem_toArray, List.getElem_cons_succ, List.getElem_cons_zero, Act.put, List.setIfInBounds_toArray, List.set_cons_zero, List.set_cons_succ]
        refine wpAnyH_ready (rs := [0, 9]) (by kernel_rfl) (by simp) ?_
        refine AllReadyH.cons (o := _) rfl (fun K hK => ?_) ?_
        · go_simp
          obtain ⟨w46, ew46⟩ : ∃ x, x = w45.alloc (.cells #[] 3) := ⟨_, rfl⟩
          rw [← ew46]
          have HTw46 := Lib.hid (HTw45.out.make1)
          rw [← ew46] at HTw46
          have HKw46 := Lib.hid (HKw45.out.alloc (.cells #[] 3))
          rw [← ew46] at HKw46
          clear ew46
          refine hK.out _ _ ?_ (fun hHeld => ?_)
          · exact HKw46.out
          · clear hK K
            try simp only [List.getElem_toArray, List.getElem_cons_succ, List.getElem_cons_zero, Act.put, List.setIfInBounds_toArray, List.set_cons_zero, List.set_cons_succ]
            refine wpAnyH_ready (rs := [3, 9]) (by kernel_rfl) (by simp) ?_
            refine AllReadyH.cons (o := _) rfl (fun K hK => ?_) ?_
            · refine ArnG.wp_two1 (c := c1) (.tmp 8) (.tmp 10) rfl HTw46.out (HA.out.below (HTw46.out.below.mono hB2)).2.1 Hlq.out (by go_simp) (by go_simp) ?_
              intro Aw47 cw47 w47 hT hkp hsN
              have HTw47 := Lib.hid hT
              have HKw47 := Lib.hid (hkp _ _ _ HKw46.out (by decide))
              clear hT hkp hsN
              refine hK.out _ _ ?_ (fun hHeld => ?_)
              · exact HKw47.out
              · clear hK K
                try simp only [List.getElem_toArray, List.getElem_cons_succ, List.getElem_cons_zero, Act.put, List.setIfInBounds_toArray, List.set_cons_zero, List.set_cons_succ]
                refine wpAnyH_ready (rs := [7, 9]) (by kernel_rfl) (by simp) ?_
                refine AllReadyH.cons (o := _) rfl (fun K hK => ?_) ?_
                · refine ArnG.wp_two2 (c := c2) (.tmp 12) (.tmp 14) rfl HTw47.out (HA.out.below (HTw47.out.below.mono hB2)).2.2 Hlp.out (by go_simp) (by go_simp) ?_
                  intro Aw48 cw48 w48 hT hkp hsN
                  have HTw48 := Lib.hid hT
                  have HKw48 := Lib.hid (hkp _ _ _ HKw47.out (by decide))
                  clear hT hkp hsN
                  refine hK.out _ _ ?_ (fun hHeld => ?_)
                  · exact HKw48.out
                  · clear hK K
                    try simp only [List.getElem_toArray, List.getElem_cons_succ, List.getElem_cons_zero, Act.put, List.setIfInBounds_toArray, List.set_cons_zero, List.set_cons_succ]
                    refine wpAnyH_take (i := 8) (oi := _) (v := ?_) rfl (by kernel_rfl) (by kernel_rfl) (by kernel_rfl) (fun _ _ _ h => h) (Or.inl ⟨by rfl, ?_⟩) (by assumption) ?_
                    rotate_left
                    focus
                      intro w hSw
                      obtain ⟨qs0, qs1, qs2⟩ := Blk.three hSw
                      go_simp
                      try with_reducible rfl
                    try simp only [List.getElem_toArray, List.getElem_cons_succ, List.getElem_cons_zero, Act.put, List.setIfInBounds_toArray, List.set_cons_zero, List.set_cons_succ]
                    refine wpAnyH_ready (rs := [9]) (by kernel_rfl) (by simp) ?_
                    refine AllReadyH.cons (o := _) rfl (fun K hK => ?_) ?_
                    · go_simp
                      obtain ⟨w49, ew49⟩ : ∃ x, x = w48.alloc (.cells #[.slice none 0 0, .slice none 0 0, .slice none 0 0] 32) := ⟨_, rfl⟩
                      rw [← ew49]
                      have HTw49 := Lib.hid (HTw48.out.alloc (.cells #[.slice none 0 0, .slice none 0 0, .slice none 0 0] 32))
                      rw [← ew49] at HTw49
                      have HKw49 := Lib.hid (HKw48.out.alloc (.cells #[.slice none 0 0, .slice none 0 0, .slice none 0 0] 32))
                      rw [← ew49] at HKw49
                      have HBw49 := Lib.hid (Blk.new w48 32 #[.slice none 0 0, .slice none 0 0, .slice none 0 0])
                      rw [← ew49] at HBw49
                      have HLw49 := Lib.hid HTw48.out.low
                      clear ew49
                      refine hK.out _ _ ?_ (fun hHeld => ?_)
                      · exact HKw49.out
                      · clear hK K
                        try simp only [List.getElem_toArray, List.getElem_cons_succ, List.getElem_cons_zero, Act.put, List.setIfInBounds_toArray, List.set_cons_zero, List.set_cons_succ]
                        refine wpAnyH_ready (rs := [10]) (by kernel_rfl) (by simp) ?_
                        refine AllReadyH.cons (o := _) rfl (fun K hK => ?_) ?_
                        · have m0 := HBw49.out.cel 0 rfl
                          have m1 := HBw49.out.cel 1 rfl
                          have m2 := HBw49.out.cel 2 rfl
                          have y0 := HBw49.out.frozen 0
                          have y1 := HBw49.out.frozen 1
                          have y2 := HBw49.out.frozen 2
                          go_simp
                          obtain ⟨w50, ew50⟩ : ∃ x, x = (((w49.setCell ⟨w48.heap.size, 0, none⟩ (.slice none 0 0)).setCell ⟨w48.heap.size, 1, none⟩ (.slice Aw47 Q.length cw47)).setCell ⟨w48.heap.size, 2, none⟩ (.slice Aw48 P.length cw48)) := ⟨_, rfl⟩
                          rw [← ew50]
                          have HTw50 : Hid (Two w2 w50 w2.heap.size (.slice Aw47 Q.length cw47) Q (.slice Aw48 P.length cw48) P) := Lib.hid (ew50 ▸ three_two HTw49.out HBw49.out HLw49.out _ _ _)
                          have HBw50 : Hid (Blk w50 w48.heap.size 32 #[.slice none 0 0, (.slice Aw47 Q.length cw47), (.slice Aw48 P.length cw48)]) := Lib.hid (ew50 ▸ three_blk HBw49.out _ _)
                          have HKw50 : Hid (Blk w50 w.heap.size 32 #[.slice A0 S.length c0, .slice A1 Q.length c1, .slice A2 P.length c2]) := Lib.hid (ew50 ▸ three_far HKw49.out (by have := HLw49.out; omega) _ _ _)
                          have HLw50 := HLw49
                          clear ew50 m0 m1 m2 y0 y1 y2
                          refine hK.out _ _ ?_ (fun hHeld => ?_)
                          · exact HKw50.out
                          · clear hK K
                            try simp only [List.getElem_toArray, List.getElem_cons_succ, List.getElem_cons_zero, Act.put, List.setIfInBounds_toArray, List.set_cons_zero, List.set_cons_succ]
                            refine wpAnyH_done (by kernel_rfl) ?_ _
                            refine NoPanic.normal ?_
                            try go_wp2_with fail
                            go_meet
                            case rel => exact ⟨_, _, _, _, _, rfl, HLw50.out, HTw50, HBw50⟩
                        exact AllReadyH.nil
                    exact AllReadyH.nil
                refine AllReadyH.cons (o := _) rfl (fun K hK => ?_) ?_
                · go_simp
                  obtain ⟨w51, ew51⟩ : ∃ x, x = w47.alloc (.cells #[.slice none 0 0, .slice none 0 0, .slice none 0 0] 32) := ⟨_, rfl⟩
                  rw [← ew51]
                  have HTw51 := Lib.hid (HTw47.out.alloc (.cells #[.slice none 0 0, .slice none 0 0, .slice none 0 0] 32))
                  rw [← ew51] at HTw51
                  have HKw51 := Lib.hid (HKw47.out.alloc (.cells #[.slice none 0 0, .slice none 0 0, .slice none 0 0] 32))
                  rw [← ew51] at HKw51
                  have HBw51 := Lib.hid (Blk.new w47 32 #[.slice none 0 0, .slice none 0 0, .slice none 0 0])
                  rw [← ew51] at HBw51
                  have HLw51 := Lib.hid HTw47.out.low
                  clear ew51
                  refine hK.out _ _ ?_ (fun hHeld => ?_)
                  · exact HKw51.out
                  · clear hK K
                    try simp only [List.getElem_toArray, List.getElem_cons_succ, List.getElem_cons_zero, Act.put, List.setIfInBounds_toArray, List.set_cons_zero, List.set_cons_succ]
                    refine wpAnyH_ready (rs := [7]) (by kernel_rfl) (by simp) ?_
                    refine AllReadyH.cons (o := _) rfl (fun K hK => ?_) ?_
                    · refine ArnG.wp_two2 (c := c2) (.tmp 12) (.tmp 14) rfl HTw51.out (HA.out.below (HTw51.out.below.mono hB2)).2.2 Hlp.out (by go_simp) (by go_simp) ?_
                      intro Aw52 cw52 w52 hT hkp hsN
                      have HTw52 := Lib.hid hT
                      have HKw52 := Lib.hid (hkp _ _ _ HKw51.out (by decide))
                      have HBw52 := Lib.hid (hkp _ _ _ HBw51.out (by decide))
                      have HLw52 := HLw51
                      clear hT hkp hsN
                      refine hK.out _ _ ?_ (fun hHeld => ?_)
                      · exact HKw52.out
                      · clear hK K
                        try simp only [List.getElem_toArray, List.getElem_cons_succ, List.getElem_cons_zero, Act.put, List.setIfInBounds_toArray, List.set_cons_zero, List.set_cons_succ]
                        refine wpAnyH_take (i := 8) (oi := _) (v := ?_) rfl (by kernel_rfl) (by kernel_rfl) (by kernel_rfl) (fun _ _ _ h => h) (Or.inl ⟨by rfl, ?_⟩) (by assumption) ?_
                        rotate_left
                        focus
                          intro w hSw
                          obtain ⟨qs0, qs1, qs2⟩ := Blk.three hSw
                          go_simp
                          try with_reducible rfl
                        try simp only [List.getElem_toArray, List.getElem_cons_succ, List.getElem_cons_zero, Act.put, List.setIfInBounds_toArray, List.set_cons_zero, List.set_cons_succ]
                        refine wpAnyH_ready (rs := [10]) (by kernel_rfl) (by simp) ?_
                        refine AllReadyH.cons (o := _) rfl (fun K hK => ?_) ?_
                        · have m0 := HBw52.out.cel 0 rfl
                          have m1 := HBw52.out.cel 1 rfl
                          have m2 := HBw52.out.cel 2 rfl
                          have y0 := HBw52.out.frozen 0
                          have y1 := HBw52.out.frozen 1
                          have y2 := HBw52.out.frozen 2
                          go_simp
                          obtain ⟨w53, ew53⟩ : ∃ x, x = (((w52.setCell ⟨w47.heap.size, 0, none⟩ (.slice none 0 0)).setCell ⟨w47.heap.size, 1, none⟩ (.slice Aw47 Q.length cw47)).setCell ⟨w47.heap.size, 2, none⟩ (.slice Aw52 P.length cw52)) := ⟨_, rfl⟩
                          rw [← ew53]
                          have HTw53 : Hid (Two w2 w53 w2.heap.size (.slice Aw47 Q.length cw47) Q (.slice Aw52 P.length cw52) P) := Lib.hid (ew53 ▸ three_two HTw52.out HBw52.out HLw52.out _ _ _)
                          have HBw53 : Hid (Blk w53 w47.heap.size 32 #[.slice none 0 0, (.slice Aw47 Q.length cw47), (.slice Aw52 P.length cw52)]) := Lib.hid (ew53 ▸ three_blk HBw52.out _ _)
                          have HKw53 : Hid (Blk w53 w.heap.size 32 #[.slice A0 S.length c0, .slice A1 Q.length c1, .slice A2 P.length c2]) := Lib.hid (ew53 ▸ three_far HKw52.out (by have := HLw52.out; omega) _ _ _)
                          have HLw53 := HLw52
                          clear ew53 m0 m1 m2 y0 y1 y2
                          refine hK.out _ _ ?_ (fun hHeld => ?_)
                          · exact HKw53.out
                          · clear hK K
                            try simp only [List.getElem_toArray, List.getElem_cons_succ, List.getElem_cons_zero, Act.put, List.setIfInBounds_toArray, List.set_cons_zero, List.set_cons_succ]
                            refine wpAnyH_done (by kernel_rfl) ?_ _
                            refine NoPanic.normal ?_
                            try go_wp2_with fail
                            go_meet
                            case rel => exact ⟨_, _, _, _, _, rfl, HLw53.out, HTw53, HBw53⟩
                        exact AllReadyH.nil
                    exact AllReadyH.nil
                exact AllReadyH.nil
            refine AllReadyH.cons (o := _) rfl (fun K hK => ?_) ?_
            · go_simp
              obtain ⟨w54, ew54⟩ : ∃ x, x = w46.alloc (.cells #[.slice none 0 0, .slice none 0 0, .slice none 0 0] 32) := ⟨_, rfl⟩
              rw [← ew54]
              have HTw54 := Lib.hid (HTw46.out.alloc (.cells #[.slice none 0 0, .slice none 0 0, .slice none 0 0] 32))
              rw [← ew54] at HTw54
              have HKw54 := Lib.hid (HKw46.out.alloc (.cells #[.slice none 0 0, .slice none 0 0, .slice none 0 0] 32))
              rw [← ew54] at HKw54
              have HBw54 := Lib.hid (Blk.new w46 32 #[.slice none 0 0, .slice none 0 0, .slice none 0 0])
              rw [← ew54] at HBw54
              have HLw54 := Lib.hid HTw46.out.low
              clear ew54
              refine hK.out _ _ ?_ (fun hHeld => ?_)
              · exact HKw54.out
              · clear hK K
                try simp only [List.getElem_toArray, List.getElem_cons_succ, List.getElem_cons_zero, Act.put, List.setIfInBounds_toArray, List.set_cons_zero, List.set_cons_succ]
                refine wpAnyH_ready (rs := [3]) (by kernel_rfl) (by simp) ?_
                refine AllReadyH.cons (o := _) rfl (fun K hK => ?_) ?_
                · refine ArnG.wp_two1 (c := c1) (.tmp 8) (.tmp 10) rfl HTw54.out (HA.out.below (HTw54.out.below.mono hB2)).2.1 Hlq.out (by go_simp) (by go_simp) ?_
                  intro Aw55 cw55 w55 hT hkp hsN
                  have HTw55 := Lib.hid hT
                  have HKw55 := Lib.hid (hkp _ _ _ HKw54.out (by decide))
                  have HBw55 := Lib.hid (hkp _ _ _ HBw54.out (by decide))
                  have HLw55 := HLw54
                  clear hT hkp hsN
                  refine hK.out _ _ ?_ (fun hHeld => ?_)
                  · exact HKw55.out
                  · clear hK K
                    try simp only [List.getElem_toArray, List.getElem_cons_succ, List.getElem_cons_zero, Act.put, List.setIfInBounds_toArray, List.set_cons_zero, List.set_cons_succ]
                    refine wpAnyH_ready (rs := [7]) (by kernel_rfl) (by simp) ?_
                    refine AllReadyH.cons (o := _) rfl (fun K hK => ?_) ?_
                    · refine ArnG.wp_two2 (c := c2) (.tmp 12) (.tmp 14) rfl HTw55.out (HA.out.below (HTw55.out.below.mono hB2)).2.2 Hlp.out (by go_simp) (by go_simp) ?_
                      intro Aw56 cw56 w56 hT hkp hsN
                      have HTw56 := Lib.hid hT
                      have HKw56 := Lib.hid (hkp _ _ _ HKw55.out (by decide))
                      have HBw56 := Lib.hid (hkp _ _ _ HBw55.out (by decide))
                      have HLw56 := HLw55
                      clear hT hkp hsN
                      refine hK.out _ _ ?_ (fun hHeld => ?_)
                      · exact HKw56.out
                      · clear hK K
                        try simp only [List.getElem_toArray, List.getElem_cons_succ, List.getElem_cons_zero, Act.put, List.setIfInBounds_toArray, List.set_cons_zero, List.set_cons_succ]
                        refine wpAnyH_take (i := 8) (oi := _) (v := ?_) rfl (by kernel_rfl) (by kernel_rfl) (by kernel_rfl) (fun _ _ _ h => h) (Or.inl ⟨by rfl, ?_⟩) (by assumption) ?_
                        rotate_left
                        focus
                          intro w hSw
                          obtain ⟨qs0, qs1, qs2⟩ := Blk.three hSw
                          go_simp
                          try with_reducible rfl
                        try simp only [List.getElem_toArray, List.getElem_cons_succ, List.getElem_cons_zero, Act.put, List.setIfInBounds_toArray, List.set_cons_zero, List.set_cons_succ]
                        refine wpAnyH_ready (rs := [10]) (by kernel_rfl) (by simp) ?_
                        refine AllReadyH.cons (o := _) rfl (fun K hK => ?_) ?_
                        · have m0 := HBw56.out.cel 0 rfl
                          have m1 := HBw56.out.cel 1 rfl
                          have m2 := HBw56.out.cel 2 rfl
                          have y0 := HBw56.out.frozen 0
                          have y1 := HBw56.out.frozen 1
                          have y2 := HBw56.out.frozen 2
                          go_simp
                          obtain ⟨w57, ew57⟩ : ∃ x, x = (((w56.setCell ⟨w46.heap.size, 0, none⟩ (.slice none 0 0)).setCell ⟨w46.heap.size, 1, none⟩ (.slice Aw55 Q.length cw55)).setCell ⟨w46.heap.size, 2, none⟩ (.slice Aw56 P.length cw56)) := ⟨_, rfl⟩
                          rw [← ew57]
                          have HTw57 : Hid (Two w2 w57 w2.heap.size (.slice Aw55 Q.length cw55) Q (.slice Aw56 P.length cw56) P) := Lib.hid (ew57 ▸ three_two HTw56.out HBw56.out HLw56.out _ _ _)
                          have HBw57 : Hid (Blk w57 w46.heap.size 32 #[.slice none 0 0, (.slice Aw55 Q.length cw55), (.slice Aw56 P.length cw56)]) := Lib.hid (ew57 ▸ three_blk HBw56.out _ _)
                          have HKw57 : Hid (Blk w57 w.heap.size 32 #[.slice A0 S.length c0, .slice A1 Q.length c1, .slice A2 P.length c2]) := Lib.hid (ew57 ▸ three_far HKw56.out (by have := HLw56.out; omega) _ _ _)
                          have HLw57 := HLw56
                          clear ew57 m0 m1 m2 y0 y1 y2
                          refine hK.out _ _ ?_ (fun hHeld => ?_)
                          · exact HKw57.out
                          · clear hK K
                            try simp only [List.getElem_toArray, List.getElem_cons_succ, List.getElem_cons_zero, Act.put, List.setIfInBounds_toArray, List.set_cons_zero, List.set_cons_succ]
                            refine wpAnyH_done (by kernel_rfl) ?_ _
                            refine NoPanic.normal ?_
                            try go_wp2_with fail
                            go_meet
                            case rel => exact ⟨_, _, _, _, _, rfl, HLw57.out, HTw57, HBw57⟩
                        exact AllReadyH.nil
                    exact AllReadyH.nil
                exact AllReadyH.nil
            exact AllReadyH.nil
        refine AllReadyH.cons (o := _) rfl (fun K hK => ?_) ?_
        · go_simp
          obtain ⟨w58, ew58⟩ : ∃ x, x = w45.alloc (.cells #[.slice none 0 0, .slice none 0 0, .slice none 0 0] 32) := ⟨_, rfl⟩
          rw [← ew58]
          have HTw58 := Lib.hid (HTw45.out.alloc (.cells #[.slice none 0 0, .slice none 0 0, .slice none 0 0] 32))
          rw [← ew58] at HTw58
          have HKw58 := Lib.hid (HKw45.out.alloc (.cells #[.slice none 0 0, .slice none 0 0, .slice none 0 0] 32))
          rw [← ew58] at HKw58
          have HBw58 := Lib.hid (Blk.new w45 32 #[.slice none 0 0, .slice none 0 0, .slice none 0 0])
          rw [← ew58] at HBw58
          have HLw58 := Lib.hid HTw45.out.low
          clear ew58
          refine hK.out _ _ ?_ (fun hHeld => ?_)
          · exact HKw58.out
          · clear hK K
            try simp only [List.getElem_toArray, List.getElem_cons_succ, List.getElem_cons_zero, Act.put, List.setIfInBounds_toArray, List.set_cons_zero, List.set_cons_succ]
            refine wpAnyH_ready (rs := [0]) (by kernel_rfl) (by simp) ?_
            refine AllReadyH.cons (o := _) rfl (fun K hK => ?_) ?_
            · go_simp
              obtain ⟨w59, ew59⟩ : ∃ x, x = w58.alloc (.cells #[] 3) := ⟨_, rfl⟩
              rw [← ew59]
              have HTw59 := Lib.hid (HTw58.out.make1)
              rw [← ew59] at HTw59
              have HKw59 := Lib.hid (HKw58.out.alloc (.cells #[] 3))
              rw [← ew59] at HKw59
              have HBw59 := Lib.hid (HBw58.out.alloc (.cells #[] 3))
              rw [← ew59] at HBw59
              have HLw59 := HLw58
              clear ew59
              refine hK.out _ _ ?_ (fun hHeld => ?_)
              · exact HKw59.out
              · clear hK K
                try simp only [List.getElem_toArray, List.getElem_cons_succ, List.getElem_cons_zero, Act.put, List.setIfInBounds_toArray, List.set_cons_zero, List.set_cons_succ]
                refine wpAnyH_ready (rs := [3]) (by kernel_rfl) (by simp) ?_
                refine AllReadyH.cons (o := _) rfl (fun K hK => ?_) ?_
                · refine ArnG.wp_two1 (c := c1) (.tmp 8) (.tmp 10) rfl HTw59.out (HA.out.below (HTw59.out.below.mono hB2)).2.1 Hlq.out (by go_simp) (by go_simp) ?_
                  intro Aw60 cw60 w60 hT hkp hsN
                  have HTw60 := Lib.hid hT
                  have HKw60 := Lib.hid (hkp _ _ _ HKw59.out (by decide))
                  have HBw60 := Lib.hid (hkp _ _ _ HBw59.out (by decide))
                  have HLw60 := HLw59
                  clear hT hkp hsN
                  refine hK.out _ _ ?_ (fun hHeld => ?_)
                  · exact HKw60.out
                  · clear hK K
                    try simp only [List.getElem_toArray, List.getElem_cons_succ, List.getElem_cons_zero, Act.put, List.setIfInBounds_toArray, List.set_cons_zero, List.set_cons_succ]
                    refine wpAnyH_ready (rs := [7]) (by kernel_rfl) (by simp) ?_
                    refine AllReadyH.cons (o := _) rfl (fun K hK => ?_) ?_
                    · refine ArnG.wp_two2 (c := c2) (.tmp 12) (.tmp 14) rfl HTw60.out (HA.out.below (HTw60.out.below.mono hB2)).2.2 Hlp.out (by go_simp) (by go_simp) ?_
                      intro Aw61 cw61 w61 hT hkp hsN
                      have HTw61 := Lib.hid hT
                      have HKw61 := Lib.hid (hkp _ _ _ HKw60.out (by decide))
                      have HBw61 := Lib.hid (hkp _ _ _ HBw60.out (by decide))
                      have HLw61 := HLw60
                      clear hT hkp hsN
                      refine hK.out _ _ ?_ (fun hHeld => ?_)
                      · exact HKw61.out
                      · clear hK K
                        try simp only [List.getElem_toArray, List.getElem_cons_succ, List.getElem_cons_zero, Act.put, List.setIfInBounds_toArray, List.set_cons_zero, List.set_cons_succ]
                        refine wpAnyH_take (i := 8) (oi := _) (v := ?_) rfl (by kernel_rfl) (by kernel_rfl) (by kernel_rfl) (fun _ _ _ h => h) (Or.inl ⟨by rfl, ?_⟩) (by assumption) ?_
                        rotate_left
                        focus
                          intro w hSw
                          obtain ⟨qs0, qs1, qs2⟩ := Blk.three hSw
                          go_simp
                          try with_reducible rfl
                        try simp only [List.getElem_toArray, List.getElem_cons_succ, List.getElem_cons_zero, Act.put, List.setIfInBounds_toArray, List.set_cons_zero, List.set_cons_succ]
                        refine wpAnyH_ready (rs := [10]) (by kernel_rfl) (by simp) ?_
                        refine AllReadyH.cons (o := _) rfl (fun K hK => ?_) ?_
                        · have m0 := HBw61.out.cel 0 rfl
                          have m1 := HBw61.out.cel 1 rfl
                          have m2 := HBw61.out.cel 2 rfl
                          have y0 := HBw61.out.frozen 0
                          have y1 := HBw61.out.frozen 1
                          have y2 := HBw61.out.frozen 2
                          go_simp
                          obtain ⟨w62, ew62⟩ : ∃ x, x = (((w61.setCell ⟨w45.heap.size, 0, none⟩ (.slice none 0 0)).setCell ⟨w45.heap.size, 1, none⟩ (.slice Aw60 Q.length cw60)).setCell ⟨w45.heap.size, 2, none⟩ (.slice Aw61 P.length cw61)) := ⟨_, rfl⟩
                          rw [← ew62]
                          have HTw62 : Hid (Two w2 w62 w2.heap.size (.slice Aw60 Q.length cw60) Q (.slice Aw61 P.length cw61) P) := Lib.hid (ew62 ▸ three_two HTw61.out HBw61.out HLw61.out _ _ _)
                          have HBw62 : Hid (Blk w62 w45.heap.size 32 #[.slice none 0 0, (.slice Aw60 Q.length cw60), (.slice Aw61 P.length cw61)]) := Lib.hid (ew62 ▸ three_blk HBw61.out _ _)
                          have HKw62 : Hid (Blk w62 w.heap.size 32 #[.slice A0 S.length c0, .slice A1 Q.length c1, .slice A2 P.length c2]) := Lib.hid (ew62 ▸ three_far HKw61.out (by have := HLw61.out; omega) _ _ _)
                          have HLw62 := HLw61
                          clear ew62 m0 m1 m2 y0 y1 y2
                          refine hK.out _ _ ?_ (fun hHeld => ?_)
                          · exact HKw62.out
                          · clear hK K
                            try simp only [List.getElem_toArray, List.getElem_cons_succ, List.getElem_cons_zero, Act.put, List.setIfInBounds_toArray, List.set_cons_zero, List.set_cons_succ]
                            refine wpAnyH_done (by kernel_rfl) ?_ _
                            refine NoPanic.normal ?_
                            try go_wp2_with fail
                            go_meet
                            case rel => exact ⟨_, _, _, _, _, rfl, HLw62.out, HTw62, HBw62⟩
                        exact AllReadyH.nil
                    exact AllReadyH.nil
                exact AllReadyH.nil
            exact AllReadyH.nil
        exact AllReadyH.nil
    refine AllReadyH.cons (o := _) rfl (fun K hK => ?_) ?_
    · go_simp
      obtain ⟨w63, ew63⟩ : ∃ x, x = w3.alloc (.cells #[.slice none 0 0, .slice none 0 0, .slice none 0 0] 32) := ⟨_, rfl⟩
      rw [← ew63]
      have HTw63 := Lib.hid (HTw3.out.alloc (.cells #[.slice none 0 0, .slice none 0 0, .slice none 0 0] 32))
      rw [← ew63] at HTw63
      have HKw63 := Lib.hid (HKw3.out.alloc (.cells #[.slice none 0 0, .slice none 0 0, .slice none 0 0] 32))
      rw [← ew63] at HKw63
      have HBw63 := Lib.hid (Blk.new w3 32 #[.slice none 0 0, .slice none 0 0, .slice none 0 0])
      rw [← ew63] at HBw63
      have HLw63 := Lib.hid HTw3.out.low
      clear ew63
      refine hK.out _ _ ?_ (fun hHeld => ?_)
      · exact HKw63.out
      · clear hK K
        try simp only [List.getElem_toArray, List.getElem_cons_succ, List.getElem_cons_zero, Act.put, List.setIfInBounds_toArray, List.set_cons_zero, List.set_cons_succ]
        refine wpAnyH_ready (rs := [0, 4]) (by kernel_rfl) (by simp) ?_
        refine AllReadyH.cons (o := _) rfl (fun K hK => ?_) ?_
        · go_simp
          obtain ⟨w64, ew64⟩ : ∃ x, x = w63.alloc (.cells #[] 3) := ⟨_, rfl⟩
          rw [← ew64]
          have HTw64 := Lib.hid (HTw63.out.make1)
          rw [← ew64] at HTw64
          have HKw64 := Lib.hid (HKw63.out.alloc (.cells #[] 3))
          rw [← ew64] at HKw64
          have HBw64 := Lib.hid (HBw63.out.alloc (.cells #[] 3))
          rw [← ew64] at HBw64
          have HLw64 := HLw63
          clear ew64
          refine hK.out _ _ ?_ (fun hHeld => ?_)
          · exact HKw64.out
          · clear hK K
            try simp only [List.getElem_toArray, List.getElem_cons_succ, List.getElem_cons_zero, Act.put, List.setIfInBounds_toArray, List.set_cons_zero, List.set_cons_succ]
            refine wpAnyH_ready (rs := [3, 4]) (by kernel_rfl) (by simp) ?_
            refine AllReadyH.cons (o := _) rfl (fun K hK => ?_) ?_
            · refine ArnG.wp_two1 (c := c1) (.tmp 8) (.tmp 10) rfl HTw64.out (HA.out.below (HTw64.out.below.mono hB2)).2.1 Hlq.out (by go_simp) (by go_simp) ?_
              intro Aw65 cw65 w65 hT hkp hsN
              have HTw65 := Lib.hid hT
              have HKw65 := Lib.hid (hkp _ _ _ HKw64.out (by decide))
              have HBw65 := Lib.hid (hkp _ _ _ HBw64.out (by decide))
              have HLw65 := HLw64
              clear hT hkp hsN
              refine hK.out _ _ ?_ (fun hHeld => ?_)
              · exact HKw65.out
              · clear hK K
                try simp only [List.getElem_toArray, List.getElem_cons_succ, List.getElem_cons_zero, Act.put, List.setIfInBounds_toArray, List.set_cons_zero, List.set_cons_succ]
                refine wpAnyH_ready (rs := [4]) (by kernel_rfl) (by simp) ?_
                refine AllReadyH.cons (o := _) rfl (fun K hK => ?_) ?_
                · go_simp
                  obtain ⟨w66, ew66⟩ : ∃ x, x = w65.alloc (.cells #[] 3) := ⟨_, rfl⟩
                  rw [← ew66]
                  have HTw66 := Lib.hid (HTw65.out.make2)
                  rw [← ew66] at HTw66
                  have HKw66 := Lib.hid (HKw65.out.alloc (.cells #[] 3))
                  rw [← ew66] at HKw66
                  have HBw66 := Lib.hid (HBw65.out.alloc (.cells #[] 3))
                  rw [← ew66] at HBw66
                  have HLw66 := HLw65
                  clear ew66
                  refine hK.out _ _ ?_ (fun hHeld => ?_)
                  · exact HKw66.out
                  · clear hK K
                    try simp only [List.getElem_toArray, List.getElem_cons_succ, List.getElem_cons_zero, Act.put, List.setIfInBounds_toArray, List.set_cons_zero, List.set_cons_succ]
                    refine wpAnyH_ready (rs := [7]) (by kernel_rfl) (by simp) ?_
                    refine AllReadyH.cons (o := _) rfl (fun K hK => ?_) ?_
                    · refine ArnG.wp_two2 (c := c2) (.tmp 12) (.tmp 14) rfl HTw66.out (HA.out.below (HTw66.out.below.mono hB2)).2.2 Hlp.out (by go_simp) (by go_simp) ?_
                      intro Aw67 cw67 w67 hT hkp hsN
                      have HTw67 := Lib.hid hT
                      have HKw67 := Lib.hid (hkp _ _ _ HKw66.out (by decide))
                      have HBw67 := Lib.hid (hkp _ _ _ HBw66.out (by decide))
                      have HLw67 := HLw66
                      clear hT hkp hsN
                      refine hK.out _ _ ?_ (fun hHeld => ?_)
                      · exact HKw67.out
                      · clear hK K
                        try simp only [List.getElem_toArray, List.getElem_cons_succ, List.getElem_cons_zero, Act.put, List.setIfInBounds_toArray, List.set_cons_zero, List.set_cons_succ]
                        refine wpAnyH_take (i := 8) (oi := _) (v := ?_) rfl (by kernel_rfl) (by kernel_rfl) (by kernel_rfl) (fun _ _ _ h => h) (Or.inl ⟨by rfl, ?_⟩) (by assumption) ?_
                        rotate_left
                        focus
                          intro w hSw
                          obtain ⟨qs0, qs1, qs2⟩ := Blk.three hSw
                          go_simp
                          try with_reducible rfl
                        try simp only [List.getElem_toArray, List.getElem_cons_succ, List.getElem_cons_zero, Act.put, List.setIfInBounds_toArray, List.set_cons_zero, List.set_cons_succ]
                        refine wpAnyH_ready (rs := [10]) (by kernel_rfl) (by simp) ?_
                        refine AllReadyH.cons (o := _) rfl (fun K hK => ?_) ?_
                        · have m0 := HBw67.out.cel 0 rfl
                          have m1 := HBw67.out.cel 1 rfl
                          have m2 := HBw67.out.cel 2 rfl
                          have y0 := HBw67.out.frozen 0
                          have y1 := HBw67.out.frozen 1
                          have y2 := HBw67.out.frozen 2
                          go_simp
                          obtain ⟨w68, ew68⟩ : ∃ x, x = (((w67.setCell ⟨w3.heap.size, 0, none⟩ (.slice none 0 0)).setCell ⟨w3.heap.size, 1, none⟩ (.slice Aw65 Q.length cw65)).setCell ⟨w3.heap.size, 2, none⟩ (.slice Aw67 P.length cw67)) := ⟨_, rfl⟩
                          rw [← ew68]
                          have HTw68 : Hid (Two w2 w68 w2.heap.size (.slice Aw65 Q.length cw65) Q (.slice Aw67 P.length cw67) P) := Lib.hid (ew68 ▸ three_two HTw67.out HBw67.out HLw67.out _ _ _)
                          have HBw68 : Hid (Blk w68 w3.heap.size 32 #[.slice none 0 0, (.slice Aw65 Q.length cw65), (.slice Aw67 P.length cw67)]) := Lib.hid (ew68 ▸ three_blk HBw67.out _ _)
                          have HKw68 : Hid (Blk w68 w.heap.size 32 #[.slice A0 S.length c0, .slice A1 Q.length c1, .slice A2 P.length c2]) := Lib.hid (ew68 ▸ three_far HKw67.out (by have := HLw67.out; omega) _ _ _)
                          have HLw68 := HLw67
                          clear ew68 m0 m1 m2 y0 y1 y2
                          refine hK.out _ _ ?_ (fun hHeld => ?_)
                          · exact HKw68.out
                          · clear hK K
                            try simp only [List.getElem_toArray, List.getElem_cons_succ, List.getElem_cons_zero, Act.put, List.setIfInBounds_toArray, List.set_cons_zero, List.set_cons_succ]
                            refine wpAnyH_done (by kernel_rfl) ?_ _
                            refine NoPanic.normal ?_
                            try go_wp2_with fail
                            go_meet
                            case rel => exact ⟨_, _, _, _, _, rfl, HLw68.out, HTw68, HBw68⟩
                        exact AllReadyH.nil
                    exact AllReadyH.nil
                exact AllReadyH.nil
            refine AllReadyH.cons (o := _) rfl (fun K hK => ?_) ?_
            · go_simp
              obtain ⟨w69, ew69⟩ : ∃ x, x = w64.alloc (.cells #[] 3) := ⟨_, rfl⟩
              rw [← ew69]
              have HTw69 := Lib.hid (HTw64.out.make2)
              rw [← ew69] at HTw69
              have HKw69 := Lib.hid (HKw64.out.alloc (.cells #[] 3))
              rw [← ew69] at HKw69
              have HBw69 := Lib.hid (HBw64.out.alloc (.cells #[] 3))
              rw [← ew69] at HBw69
              have HLw69 := HLw64
              clear ew69
              refine hK.out _ _ ?_ (fun hHeld => ?_)
              · exact HKw69.out
              · clear hK K
                try simp only [List.getElem_toArray, List.getElem_cons_succ, List.getElem_cons_zero, Act.put, List.setIfInBounds_toArray, List.set_cons_zero, List.set_cons_succ]
                refine wpAnyH_ready (rs := [3]) (by kernel_rfl) (by simp) ?_
                refine AllReadyH.cons (o := _) rfl (fun K hK => ?_) ?_
                · refine ArnG.wp_two1 (c := c1) (.tmp 8) (.tmp 10) rfl HTw69.out (HA.out.below (HTw69.out.below.mono hB2)).2.1 Hlq.out (by go_simp) (by go_simp) ?_
                  intro Aw70 cw70 w70 hT hkp hsN
                  have HTw70 := Lib.hid hT
                  have HKw70 := Lib.hid (hkp _ _ _ HKw69.out (by decide))
                  have HBw70 := Lib.hid (hkp _ _ _ HBw69.out (by decide))
                  have HLw70 := HLw69
                  clear hT hkp hsN
                  refine hK.out _ _ ?_ (fun hHeld => ?_)
                  · exact HKw70.out
                  · clear hK K
                    try simp only [List.getElem_toArray, List.getElem_cons_succ, List.getElem_cons_zero, Act.put, List.setIfInBounds_toArray, List.set_cons_zero, List.set_cons_succ]
                    refine wpAnyH_ready (rs := [7]) (by kernel_rfl) (by simp) ?_
                    refine AllReadyH.cons (o := _) rfl (fun K hK => ?_) ?_
                    · refine ArnG.wp_two2 (c := c2) (.tmp 12) (.tmp 14) rfl HTw70.out (HA.out.below (HTw70.out.below.mono hB2)).2.2 Hlp.out (by go_simp) (by go_simp) ?_
                      intro Aw71 cw71 w71 hT hkp hsN
                      have HTw71 := Lib.hid hT
                      have HKw71 := Lib.hid (hkp _ _ _ HKw70.out (by decide))
                      have HBw71 := Lib.hid (hkp _ _ _ HBw70.out (by decide))
                      have HLw71 := HLw70
                      clear hT hkp hsN
                      refine hK.out _ _ ?_ (fun hHeld => ?_)
                      · exact HKw71.out
                      · clear hK K
                        try simp only [List.getElem_toArray, List.getElem_cons_succ, List.getElem_cons_zero, Act.put, List.setIfInBounds_toArray, List.set_cons_zero, List.set_cons_succ]
                        refine wpAnyH_take (i := 8) (oi := _) (v := ?_) rfl (by kernel_rfl) (by kernel_rfl) (by kernel_rfl) (fun _ _ _ h => h) (Or.inl ⟨by rfl, ?_⟩) (by assumption) ?_
                        rotate_left
                        focus
                          intro w hSw
                          obtain ⟨qs0, qs1, qs2⟩ := Blk.three hSw
                          go_simp
                          try with_reducible rfl
                        try simp only [List.getElem_toArray, List.getElem_cons_succ, List.getElem_cons_zero, Act.put, List.setIfInBounds_toArray, List.set_cons_zero, List.set_cons_succ]
                        refine wpAnyH_ready (rs := [10]) (by kernel_rfl) (by simp) ?_
                        refine AllReadyH.cons (o := _) rfl (fun K hK => ?_) ?_
                        · have m0 := HBw71.out.cel 0 rfl
                          have m1 := HBw71.out.cel 1 rfl
                          have m2 := HBw71.out.cel 2 rfl
                          have y0 := HBw71.out.frozen 0
                          have y1 := HBw71.out.frozen 1
                          have y2 := HBw71.out.frozen 2
                          go_simp
                          obtain ⟨w72, ew72⟩ : ∃ x, x = (((w71.setCell ⟨w3.heap.size, 0, none⟩ (.slice none 0 0)).setCell ⟨w3.heap.size, 1, none⟩ (.slice Aw70 Q.length cw70)).setCell ⟨w3.heap.size, 2, none⟩ (.slice Aw71 P.length cw71)) := ⟨_, rfl⟩
                          rw [← ew72]
                          have HTw72 : Hid (Two w2 w72 w2.heap.size (.slice Aw70 Q.length cw70) Q (.slice Aw71 P.length cw71) P) := Lib.hid (ew72 ▸ three_two HTw71.out HBw71.out HLw71.out _ _ _)
                          have HBw72 : Hid (Blk w72 w3.heap.size 32 #[.slice none 0 0, (.slice Aw70 Q.length cw70), (.slice Aw71 P.length cw71)]) := Lib.hid (ew72 ▸ three_blk HBw71.out _ _)
                          have HKw72 : Hid (Blk w72 w.heap.size 32 #[.slice A0 S.length c0, .slice A1 Q.length c1, .slice A2 P.length c2]) := Lib.hid (ew72 ▸ three_far HKw71.out (by have := HLw71.out; omega) _ _ _)
                          have HLw72 := HLw71
                          clear ew72 m0 m1 m2 y0 y1 y2
                          refine hK.out _ _ ?_ (fun hHeld => ?_)
                          · exact HKw72.out
                          · clear hK K
                            try simp only [List.getElem_toArray, List.getElem_cons_succ, List.getElem_cons_zero, Act.put, List.setIfInBounds_toArray, List.set_cons_zero, List.set_cons_succ]
                            refine wpAnyH_done (by kernel_rfl) ?_ _
                            refine NoPanic.normal ?_
                            try go_wp2_with fail
                            go_meet
                            case rel => exact ⟨_, _, _, _, _, rfl, HLw72.out, HTw72, HBw72⟩
                        exact AllReadyH.nil
                    exact AllReadyH.nil
                exact AllReadyH.nil
            exact AllReadyH.nil
        refine AllReadyH.cons (o := _) rfl (fun K hK => ?_) ?_
        · go_simp
          obtain ⟨w73, ew73⟩ : ∃ x, x = w63.alloc (.cells #[] 3) := ⟨_, rfl⟩
          rw [← ew73]
          have HTw73 := Lib.hid (HTw63.out.make2)
          rw [← ew73] at HTw73
          have HKw73 := Lib.hid (HKw63.out.alloc (.cells #[] 3))
          rw [← ew73] at HKw73
          have HBw73 := Lib.hid (HBw63.out.alloc (.cells #[] 3))
          rw [← ew73] at HBw73
          have HLw73 := HLw63
          clear ew73
          refine hK.out _ _ ?_ (fun hHeld => ?_)
          · exact HKw73.out
          · clear hK K
            try simp only [List.getElem_toArray, List.getElem_cons_succ, List.getElem_cons_zero, Act.put, List.setIfInBounds_toArray, List.set_cons_zero, List.set_cons_succ]
            refine wpAnyH_ready (rs := [0]) (by kernel_rfl) (by simp) ?_
            refine AllReadyH.cons (o := _) rfl (fun K hK => ?_) ?_
            · go_simp
              obtain ⟨w74, ew74⟩ : ∃ x, x = w73.alloc (.cells #[] 3) := ⟨_, rfl⟩
              rw [← ew74]
              have HTw74 := Lib.hid (HTw73.out.make1)
              rw [← ew74] at HTw74
              have HKw74 := Lib.hid (HKw73.out.alloc (.cells #[] 3))
              rw [← ew74] at HKw74
              have HBw74 := Lib.hid (HBw73.out.alloc (.cells #[] 3))
              rw [← ew74] at HBw74
              have HLw74 := HLw73
              clear ew74
              refine hK.out _ _ ?_ (fun hHeld => ?_)
              · exact HKw74.out
              · clear hK K
                try simp only [List.getElem_toArray, List.getElem_cons_succ, List.getElem_cons_zero, Act.put, List.setIfInBounds_toArray, List.set_cons_zero, List.set_cons_succ]
                refine wpAnyH_ready (rs := [3]) (by kernel_rfl) (by simp) ?_
                refine AllReadyH.cons (o := _) rfl (fun K hK => ?_) ?_
                · refine ArnG.wp_two1 (c := c1) (.tmp 8) (.tmp 10) rfl HTw74.out (HA.out.below (HTw74.out.below.mono hB2)).2.1 Hlq.out (by go_simp) (by go_simp) ?_
                  intro Aw75 cw75 w75 hT hkp hsN
                  have HTw75 := Lib.hid hT
                  have HKw75 := Lib.hid (hkp _ _ _ HKw74.out (by decide))
                  have HBw75 := Lib.hid (hkp _ _ _ HBw74.out (by decide))
                  have HLw75 := HLw74
                  clear hT hkp hsN
                  refine hK.out _ _ ?_ (fun hHeld => ?_)
                  · exact HKw75.out
                  · clear hK K
                    try simp only [List.getElem_toArray, List.getElem_cons_succ, List.getElem_cons_zero, Act.put, List.setIfInBounds_toArray, List.set_cons_zero, List.set_cons_succ]
                    refine wpAnyH_ready (rs := [7]) (by kernel_rfl) (by simp) ?_
                    refine AllReadyH.cons (o := _) rfl (fun K hK => ?_) ?_
                    · refine ArnG.wp_two2 (c := c2) (.tmp 12) (.tmp 14) rfl HTw75.out (HA.out.below (HTw75.out.below.mono hB2)).2.2 Hlp.out (by go_simp) (by go_simp) ?_
                      intro Aw76 cw76 w76 hT hkp hsN
                      have HTw76 := Lib.hid hT
                      have HKw76 := Lib.hid (hkp _ _ _ HKw75.out (by decide))
                      have HBw76 := Lib.hid (hkp _ _ _ HBw75.out (by decide))
                      have HLw76 := HLw75
                      clear hT hkp hsN
                      refine hK.out _ _ ?_ (fun hHeld => ?_)
                      · exact HKw76.out
                      · clear hK K
                        try simp only [List.getElem_toArray, List.getElem_cons_succ, List.getElem_cons_zero, Act.put, List.setIfInBounds_toArray, List.set_cons_zero, List.set_cons_succ]
                        refine wpAnyH_take (i := 8) (oi := _) (v := ?_) rfl (by kernel_rfl) (by kernel_rfl) (by kernel_rfl) (fun _ _ _ h => h) (Or.inl ⟨by rfl, ?_⟩) (by assumption) ?_
                        rotate_left
                        focus
                          intro w hSw
                          obtain ⟨qs0, qs1, qs2⟩ := Blk.three hSw
                          go_simp
                          try with_reducible rfl
                        try simp only [List.getElem_toArray, List.getElem_cons_succ, List.getElem_cons_zero, Act.put, List.setIfInBounds_toArray, List.set_cons_zero, List.set_cons_succ]
                        refine wpAnyH_ready (rs := [10]) (by kernel_rfl) (by simp) ?_
                        refine AllReadyH.cons (o := _) rfl (fun K hK => ?_) ?_
                        · have m0 := HBw76.out.cel 0 rfl
                          have m1 := HBw76.out.cel 1 rfl
                          have m2 := HBw76.out.cel 2 rfl
                          have y0 := HBw76.out.frozen 0
                          have y1 := HBw76.out.frozen 1
                          have y2 := HBw76.out.frozen 2
                          go_simp
                          obtain ⟨w77, ew77⟩ : ∃ x, x = (((w76.setCell ⟨w3.heap.size, 0, none⟩ (.slice none 0 0)).setCell ⟨w3.heap.size, 1, none⟩ (.slice Aw75 Q.length cw75)).setCell ⟨w3.heap.size, 2, none⟩ (.slice Aw76 P.length cw76)) := ⟨_, rfl⟩
                          rw [← ew77]
                          have HTw77 : Hid (Two w2 w77 w2.heap.size (.slice Aw75 Q.length cw75) Q (.slice Aw76 P.length cw76) P) := Lib.hid (ew77 ▸ three_two HTw76.out HBw76.out HLw76.out _ _ _)
                          have HBw77 : Hid (Blk w77 w3.heap.size 32 #[.slice none 0 0, (.slice Aw75 Q.length cw75), (.slice Aw76 P.length cw76)]) := Lib.hid (ew77 ▸ three_blk HBw76.out _ _)
                          have HKw77 : Hid (Blk w77 w.heap.size 32 #[.slice A0 S.length c0, .slice A1 Q.length c1, .slice A2 P.length c2]) := Lib.hid (ew77 ▸ three_far HKw76.out (by have := HLw76.out; omega) _ _ _)
                          have HLw77 := HLw76
                          clear ew77 m0 m1 m2 y0 y1 y2
                          refine hK.out _ _ ?_ (fun hHeld => ?_)
                          · exact HKw77.out
                          · clear hK K
                            try simp only [List.getElem_toArray, List.getElem_cons_succ, List.getElem_cons_zero, Act.put, List.setIfInBounds_toArray, List.set_cons_zero, List.set_cons_succ]
                            refine wpAnyH_done (by kernel_rfl) ?_ _
                            refine NoPanic.normal ?_
                            try go_wp2_with fail
                            go_meet
                            case rel => exact ⟨_, _, _, _, _, rfl, HLw77.out, HTw77, HBw77⟩
                        exact AllReadyH.nil
                    exact AllReadyH.nil
                exact AllReadyH.nil
            exact AllReadyH.nil
        exact AllReadyH.nil
    exact AllReadyH.nil
  case rest =>
    obtain ⟨gO, B1, e1, B2, e2, rfl, hgO, HT0, HB0⟩ := hcut
    obtain ⟨W0, hW0⟩ : ∃ x, x = wc := ⟨_, rfl⟩
    subst hW0
    go_wp2_with fail
    go_loopw [4] (fun i wr => ∃ (k : Nat) (Sk : List Sl) (A0' : Option Addr) (c0' : Nat) (fb : Nat → Nat) (nb : Nat → Nat → Nat), k ≤ S.length ∧ i = .int .i64 k ∧ Hid (Sk = S.take k) ∧ Hid (SRowG wr w2.heap.size (.slice A0' Sk.length c0') Sk fb nb) ∧ Hid (Two w2 wr w2.heap.size (.slice B1 Q.length e1) Q (.slice B2 P.length e2) P) ∧ Hid (Blk wr gO 32 #[.slice A0' Sk.length c0', .slice B1 Q.length e1, .slice B2 P.length e2])) (fun i _ => S.length - (intOf i).toNat)
    case atStart => exact ⟨0, [], none, 0, fun _ => 0, fun _ _ => 0, Nat.zero_le _, rfl, Lib.hid (by simp), Lib.hid (SRowG.nil _ _ _ _), HT0, HB0⟩
    case round =>
      obtain ⟨k, Sk, A0', c0', fb, nb, hk, rfl, hSk, hS, hT, hK⟩ := hrel
      have q0 := (HKA.out.below hT.out.below hlt2).cel 0 (v := .slice A0 S.length c0) rfl
      by_cases hlt : k < S.length
      · have hSkl : Sk.length = k := by rw [hSk.out, List.length_take]; omega
        obtain ⟨ad, rfl, _, hbk, hat⟩ := ((HA.out.below (hT.out.below.mono hB2)).1).2 (by dsimp only; omega)
        obtain ⟨v0, v1, v2, v3, ⟨d0, d1, d2, d3⟩, rfl, rfl, rfl, FA, fc, rfl, hF⟩ := hat k hlt
        have hfl := Hf1.out k hlt
        dsimp only at d0 d1 d2 d3 hF hfl
        obtain ⟨s, hs⟩ : ∃ s, S[k] = s := ⟨_, rfl⟩
        simp only [hs] at d0 d1 d2 d3 hF hfl
        obtain ⟨lv, gn, ct, fs⟩ := s
        dsimp only at d0 d1 d2 d3 hF hfl
        have Hs := Lib.hid hs
        have Hnl : Hid (∀ j (hj : j < fs.length), fs[j].name.length ≤ 1050000) := Lib.hid (names_le Hn1.out hlt hs)
        have hlow := hT.out.low
        have hbX := CopyOf.blw1 wr (.cells #[.bool lv, .int .i64 gn, .int .i64 ct, .slice FA fs.length fc] 90)
        have HXK := Lib.hid (Blk.new wr 90 #[.bool lv, .int .i64 gn, .int .i64 ct, .slice FA fs.length fc])
        have HXS := Lib.hid (hS.out.below hbX)
        have HXT := Lib.hid (hT.out.step hbX)
        have HXB := Lib.hid (hK.out.below hbX hK.out.lt)
        have HXF := Lib.hid (hF.below (hbX.mono (by omega)))
        have Hold := Lib.hid hS.out.lt
        have HS0 := hS
        have HbX := Lib.hid hbX
        have HSk := Lib.hid hSkl
        obtain ⟨X, hX⟩ : ∃ X, X = wr.alloc (.cells #[.bool lv, .int .i64 gn, .int .i64 ct, .slice FA fs.length fc] 90) := ⟨_, rfl⟩
        obtain ⟨gs, hgs⟩ : ∃ g, g = wr.heap.size := ⟨_, rfl⟩
        rw [← hX] at HXK HXS HXT HXB HXF HbX
        rw [← hgs] at HXK Hold HbX
        have hXs : X.heap.size = gs + 1 := by rw [hX, World.size_alloc, hgs]
        have hBX : B ≤ X.heap.size := by omega
        have hgsl : w2.heap.size ≤ gs := by omega
        have HX := Lib.hid hX
        have Hgs := Lib.hid hgs
        clear hat hF hs hbX hS hT hK hX hgs hSkl
        go_upto_region 6 with fail
        rw [← HX.out, ← Hgs.out]
        clear HX q0 d0 d1 d2 d3
        go_wp2_with fail
        go_loopw [6, 7] (fun f i wx => ∃ (j : Nat) (fj : List Fd) (Af : Option Addr) (cf : Nat) (nbf : Nat → Nat), j ≤ fs.length ∧ i = .int .i64 j ∧ f = .slice Af fj.length cf ∧ Hid (fj = fs.take j) ∧ Hid (FRow wx X.heap.size (.slice Af fj.length cf) fj nbf) ∧ Hid (Below X.heap.size X wx)) (fun _ i _ => fs.length - (intOf i).toNat)
        case atStart => exact ⟨0, [], none, 0, fun _ => 0, Nat.zero_le _, rfl, rfl, Lib.hid (by simp), Lib.hid (FRow.nil _ _ _), Lib.hid (Below.refl _ _)⟩
        case round =>
          obtain ⟨wx, hwx⟩ : ∃ x, x = wr := ⟨_, rfl⟩
          subst hwx
          obtain ⟨j, fj, Af, cf, nbf, hj, rfl, rfl, Hfj, HFR, HY⟩ := hrel
          have hKs := HXK.out.below HY.out (by omega)
          have s3 := hKs.cel 3 (v := .slice FA fs.length fc) rfl
          have hsx : X.heap.size ≤ wx.heap.size := HY.out.size
          by_cases hltj : j < fs.length
          · have Hfjl := Lib.hid (show fj.length = j by rw [Hfj.out, List.length_take]; omega)
            obtain ⟨fd, rfl, _, hfdb, hfat⟩ := (HXF.out.below (HY.out.mono hBX)).2 (by omega)
            obtain ⟨v0, v1, v2, v3, hC, NA, nc, rfl, hN, hnm, rfl, rfl, rfl⟩ := hfat j hltj
            have hnl := Hnl.out j hltj
            obtain ⟨f, hf⟩ : ∃ f, fs[j] = f := ⟨_, rfl⟩
            simp only [hf] at hC hN hnl
            obtain ⟨nm, fk, fn, fg⟩ := f
            dsimp only at hC hN hnl
            have Hfe := Lib.hid hf
            have Hnl2 := Lib.hid hnl
            have HIG : Hid (∀ W, Below X.heap.size X W → InF W gs lv gn ct (some fd) fs.length fc (fd.add (j * 4)) NA nm.length nc fk fn fg) := Lib.hid (fun W hW => by
              obtain ⟨fd', e, -, -, hfat2⟩ := (HXF.out.below (hW.mono hBX)).2 (by omega)
              cases e
              obtain ⟨v0, v1, v2, v3, hC2, NA2, nc2, rfl, hN2, hnm2, rfl, rfl, rfl⟩ := hfat2 j hltj
              simp only [hf] at hC2
              have e0 := HXF
              have hsame : W.cell? (fd.add (j * 4)) = wx.cell? (fd.add (j * 4)) := ((hW.mono hBX).cell (by rw [block_of_add]; exact hfdb)).trans ((HY.out.mono hBX).cell (by rw [block_of_add]; exact hfdb)).symm
              rw [hC2.1, hC.1] at hsame
              injection hsame with hsame
              rw [hsame] at hC2
              exact ⟨HXK.out.below hW (by omega), hC2⟩)
            have HIF := Lib.hid (fun W (hW : Below wx.heap.size wx W) => HIG.out W (HY.out.trans (hW.mono hsx)))
            have HN := Lib.hid (fun W (hW : Below wx.heap.size wx W) => hN.1.below (hW.mono (by omega)))
            clear hfat hC hN hnm hnl hf hKs
            go_upto_region 10 with fail
            clear s3
            refine wp_region_noPanic ?_
            refine wp_region_held_drew (S := (fun W => InF W gs lv gn ct (some fd) fs.length fc (fd.add (j * 4)) NA nm.length nc fk fn fg)) (by kernel_rfl) ?_ (fun hHeld => ?_)
            · exact HIF.out _ ((Below.refl _ wx).drew)
            refine wpAnyH_take (i := 0) (oi := _) (v := ?_) rfl (by kernel_rfl) (by kernel_rfl) (by kernel_rfl) (fun _ _ _ h => h) (Or.inl ⟨by rfl, ?_⟩) (by assumption) ?_
            rotate_left
            focus
              intro w hSw
              obtain ⟨qs0, qs1, qs2, qs3, qs4⟩ := InF.opn hSw
              go_simp
              try with_reducible rfl
            try simp only [List.getElem_toArray, List.getElem_cons_succ, List.getElem_cons_zero, Act.put, List.setIfInBounds_toArray, List.set_cons_zero, List.set_cons_succ]
            refine wpAnyH_take (i := 2) (oi := _) (v := ?_) rfl (by kernel_rfl) (by kernel_rfl) (by kernel_rfl) (fun _ _ _ h => h) (Or.inl ⟨by rfl, ?_⟩) (by assumption) ?_
            rotate_left
            focus
              intro w hSw
              obtain ⟨qs0, qs1, qs2, qs3, qs4⟩ := InF.opn hSw
              go_simp
              try with_reducible rfl
            try simp only [List.getElem_toArray, List.getElem_cons_succ, List.getElem_cons_zero, Act.put, List.setIfInBounds_toArray, List.set_cons_zero, List.set_cons_succ]
            refine wpAnyH_take (i := 3) (oi := _) (v := ?_) rfl (by kernel_rfl) (by kernel_rfl) (by kernel_rfl) (fun _ _ _ h => h) (Or.inl ⟨by rfl, ?_⟩) (by assumption) ?_
            rotate_left
            focus
              intro w hSw
              obtain ⟨qs0, qs1, qs2, qs3, qs4⟩ := InF.opn hSw
              go_simp
              try with_reducible rfl
            try simp only [List.getElem_toArray, List.getElem_cons_succ, List.getElem_cons_zero, Act.put, List.setIfInBounds_toArray, List.set_cons_zero, List.set_cons_succ]
            refine wpAnyH_take (i := 4) (oi := _) (v := ?_) rfl (by kernel_rfl) (by kernel_rfl) (by kernel_rfl) (fun _ _ _ h => h) (Or.inl ⟨by rfl, ?_⟩) (by assumption) ?_
            rotate_left
            focus
              intro w hSw
              obtain ⟨qs0, qs1, qs2, qs3, qs4⟩ := InF.opn hSw
              go_simp
              try with_reducible rfl
            try simp only [List.getElem_toArray, List.getElem_cons_succ, List.getElem_cons_zero, Act.put, List.setIfInBounds_toArray, List.set_cons_zero, List.set_cons_succ]
            refine wpAnyH_take (i := 5) (oi := _) (v := ?_) rfl (by kernel_rfl) (by kernel_rfl) (by kernel_rfl) (fun _ _ _ h => h) (Or.inl ⟨by rfl, ?_⟩) (by assumption) ?_
            rotate_left
            focus
              intro w hSw
              obtain ⟨qs0, qs1, qs2, qs3, qs4⟩ := InF.opn hSw
              go_simp
              try with_reducible rfl
            try simp only [List.getElem_toArray, List.getElem_cons_succ, List.getElem_cons_zero, Act.put, List.setIfInBounds_toArray, List.set_cons_zero, List.set_cons_succ]
            refine wpAnyH_take (i := 6) (oi := _) (v := ?_) rfl (by kernel_rfl) (by kernel_rfl) (by kernel_rfl) (fun _ _ _ h => h) (Or.inl ⟨by rfl, ?_⟩) (by assumption) ?_
            rotate_left
            focus
              intro w hSw
              obtain ⟨qs0, qs1, qs2, qs3, qs4⟩ := InF.opn hSw
              go_simp
              try with_reducible rfl
            try simp only [List.getElem_toArray, List.getElem_cons_succ, List.getElem_cons_zero, Act.put, List.setIfInBounds_toArray, List.set_cons_zero, List.set_cons_succ]
            refine wpAnyH_take (i := 7) (oi := _) (v := ?_) rfl (by kernel_rfl) (by kernel_rfl) (by kernel_rfl) (fun _ _ _ h => h) (Or.inl ⟨by rfl, ?_⟩) (by assumption) ?_
            rotate_left
            focus
              intro w hSw
              obtain ⟨qs0, qs1, qs2, qs3, qs4⟩ := InF.opn hSw
              go_simp
              try with_reducible rfl
            try simp only [List.getElem_toArray, List.getElem_cons_succ, List.getElem_cons_zero, Act.put, List.setIfInBounds_toArray, List.set_cons_zero, List.set_cons_succ]
            refine wpAnyH_take (i := 9) (oi := _) (v := ?_) rfl (by kernel_rfl) (by kernel_rfl) (by kernel_rfl) (fun _ _ _ h => h) (Or.inl ⟨by rfl, ?_⟩) (by assumption) ?_
            rotate_left
            focus
              intro w hSw
              obtain ⟨qs0, qs1, qs2, qs3, qs4⟩ := InF.opn hSw
              go_simp
              try with_reducible rfl
            try simp only [List.getElem_toArray, List.getElem_cons_succ, List.getElem_cons_zero, Act.put, List.setIfInBounds_toArray, List.set_cons_zero, List.set_cons_succ]
            refine wpAnyH_take (i := 10) (oi := _) (v := ?_) rfl (by kernel_rfl) (by kernel_rfl) (by kernel_rfl) (fun _ _ _ h => h) (Or.inl ⟨by rfl, ?_⟩) (by assumption) ?_
            rotate_left
            focus
              intro w hSw
              obtain ⟨qs0, qs1, qs2, qs3, qs4⟩ := InF.opn hSw
              go_simp
              try with_reducible rfl
            try simp only [List.getElem_toArray, List.getElem_cons_succ, List.getElem_cons_zero, Act.put, List.setIfInBounds_toArray, List.set_cons_zero, List.set_cons_succ]
            refine wpAnyH_take (i := 11) (oi := _) (v := ?_) rfl (by kernel_rfl) (by kernel_rfl) (by kernel_rfl) (fun _ _ _ h => h) (Or.inl ⟨by rfl, ?_⟩) (by assumption) ?_
            rotate_left
            focus
              intro w hSw
              obtain ⟨qs0, qs1, qs2, qs3, qs4⟩ := InF.opn hSw
              go_simp
              try with_reducible rfl
            try simp only [List.getElem_toArray, List.getElem_cons_succ, List.getElem_cons_zero, Act.put, List.setIfInBounds_toArray, List.set_cons_zero, List.set_cons_succ]
            refine wpAnyH_take (i := 12) (oi := _) (v := ?_) rfl (by kernel_rfl) (by kernel_rfl) (by kernel_rfl) (fun _ _ _ h => h) (Or.inl ⟨by rfl, ?_⟩) (by assumption) ?_
            rotate_left
            focus
              intro w hSw
              obtain ⟨qs0, qs1, qs2, qs3, qs4⟩ := InF.opn hSw
              go_simp
              try with_reducible rfl
            try simp only [List.getElem_toArray, List.getElem_cons_succ, List.getElem_cons_zero, Act.put, List.setIfInBounds_toArray, List.set_cons_zero, List.set_cons_succ]
            refine wpAnyH_take (i := 13) (oi := _) (v := ?_) rfl (by kernel_rfl) (by kernel_rfl) (by kernel_rfl) (fun _ _ _ h => h) (Or.inl ⟨by rfl, ?_⟩) (by assumption) ?_
            rotate_left
            focus
              intro w hSw
              obtain ⟨qs0, qs1, qs2, qs3, qs4⟩ := InF.opn hSw
              go_simp
              try with_reducible rfl
            try simp only [List.getElem_toArray, List.getElem_cons_succ, List.getElem_cons_zero, Act.put, List.setIfInBounds_toArray, List.set_cons_zero, List.set_cons_succ]
            refine wpAnyH_take (i := 14) (oi := _) (v := ?_) rfl (by kernel_rfl) (by kernel_rfl) (by kernel_rfl) (fun _ _ _ h => h) (Or.inl ⟨by rfl, ?_⟩) (by assumption) ?_
            rotate_left
            focus
              intro w hSw
              obtain ⟨qs0, qs1, qs2, qs3, qs4⟩ := InF.opn hSw
              go_simp
              try with_reducible rfl
            try simp only [List.getElem_toArray, List.getElem_cons_succ, List.getElem_cons_zero, Act.put, List.setIfInBounds_toArray, List.set_cons_zero, List.set_cons_succ]
            refine wpAnyH_ready (rs := [1]) (by kernel_rfl) (by simp) ?_
            refine AllReadyH.cons (o := _) rfl (fun K hK => ?_) ?_
            · go_simp
              obtain ⟨z1, ez1⟩ : ∃ x, x = (wx.drew).alloc (.cells #[] 5) := ⟨_, rfl⟩
              have ez1' : (wx.alloc (.cells #[] 5)).drew = z1 := by rw [ez1]; rfl
              first | rw [← ez1] | rw [ez1']
              have Hz1b : Hid (Below wx.heap.size wx z1) := Lib.hid (ez1 ▸ ((Below.refl _ wx).drew.alloc (by show _ ≤ wx.heap.size; exact Nat.le_refl _) _))
              have Hz1k : Hid (Blk z1 wx.heap.size 5 #[]) := Lib.hid (ez1 ▸ (Blk.new wx.drew 5 #[]))
              clear ez1 ez1'
              refine hK.out _ _ ?_ (fun hHeld => ?_)
              · exact HIF.out _ Hz1b.out
              · clear hK K
                try simp only [List.getElem_toArray, List.getElem_cons_succ, List.getElem_cons_zero, Act.put, List.setIfInBounds_toArray, List.set_cons_zero, List.set_cons_succ]
                refine wpAnyH_ready (rs := [8]) (by kernel_rfl) (by simp) ?_
                refine AllReadyH.cons (o := _) rfl (fun K hK => ?_) ?_
                · refine wp_bytes (c := nc) (lo := X.heap.size) (.tmp 37) (.tmp 43) rfl hsx Hz1k.out (HN.out z1 Hz1b.out) Hnl2.out (by go_simp) (by go_simp) ?_
                  intro NA2 nc2 b z2 hB hb hbl hkp
                  have Hz2b := Lib.hid (Hz1b.out.trans hbl)
                  have HzB := Lib.hid hB
                  have Hzb := Lib.hid hb
                  have hz12 := Hz1b.out.size
                  have hz22 := Hz2b.out.size
                  have Hz1lt := Lib.hid Hz1k.out.lt
                  clear hB hb hbl hkp
                  refine hK.out _ _ ?_ (fun hHeld => ?_)
                  · exact HIF.out _ Hz2b.out
                  · clear hK K
                    try simp only [List.getElem_toArray, List.getElem_cons_succ, List.getElem_cons_zero, Act.put, List.setIfInBounds_toArray, List.set_cons_zero, List.set_cons_succ]
                    refine wpAnyH_take (i := 15) (oi := _) (v := ?_) rfl (by kernel_rfl) (by kernel_rfl) (by kernel_rfl) (fun _ _ _ h => h) (Or.inl ⟨by rfl, ?_⟩) (by assumption) ?_
                    rotate_left
                    focus
                      intro w hSw
                      obtain ⟨qs0, qs1, qs2, qs3, qs4⟩ := InF.opn hSw
                      go_simp
                      try with_reducible rfl
                    try simp only [List.getElem_toArray, List.getElem_cons_succ, List.getElem_cons_zero, Act.put, List.setIfInBounds_toArray, List.set_cons_zero, List.set_cons_succ]
                    refine wpAnyH_ready (rs := [16]) (by kernel_rfl) (by simp) ?_
                    refine AllReadyH.cons (o := _) rfl (fun K hK => ?_) ?_
                    · go_simp
                      obtain ⟨z3, ez3⟩ : ∃ x, x = z2.alloc (.cells #[.slice NA2 nm.length nc2, .int .i64 fk, .int .i64 fn, .int .i64 fg] 92) := ⟨_, rfl⟩
                      rw [← ez3]
                      have Hz3b : Hid (Below wx.heap.size wx z3) := Lib.hid (ez3 ▸ (Hz2b.out.alloc Hz2b.out.size _))
                      have Hz3k : Hid (Blk z3 z2.heap.size 92 #[.slice NA2 nm.length nc2, .int .i64 fk, .int .i64 fn, .int .i64 fg]) := Lib.hid (ez3 ▸ Blk.new z2 _ _)
                      have Hz3B : Hid (BkB z3 X.heap.size NA2 b nm) := Lib.hid (ez3 ▸ (HzB.out.apart (S := fun _ => False) (Apart.of_below ((Below.refl _ z2).alloc (Nat.le_refl _) _)) (fun _ h => h)))
                      have hz3s : z3.heap.size = z2.heap.size + 1 := by rw [ez3]; simp
                      have Hz3F := Lib.hid (HFR.out.below Hz3b.out)
                      clear ez3
                      refine hK.out _ _ ?_ (fun hHeld => ?_)
                      · exact HIF.out _ Hz3b.out
                      · clear hK K
                        try simp only [List.getElem_toArray, List.getElem_cons_succ, List.getElem_cons_zero, Act.put, List.setIfInBounds_toArray, List.set_cons_zero, List.set_cons_succ]
                        refine wpAnyH_ready (rs := [17]) (by kernel_rfl) (by simp) ?_
                        refine AllReadyH.cons (o := _) rfl (fun K hK => ?_) ?_
                        · obtain ⟨xs, hxs, hat⟩ := Hz3F.out.row
                          have hfjl := Hfjl.out
                          refine wp_grow (.tmp 36) (.tmp 52) 88 88 rfl X.heap.size 92 iF _ 4 48 Try.underlying88 HiF.out hz0.out hz1.out hz2.out rfl (.slice Af fj.length cf) fj.length xs hxs (.slice (some ⟨z2.heap.size, 0, none⟩) 1 1) 1 (fdCs ⟨nm, fk, fn, fg⟩ NA2 nc2) (src4 Try.underlying88 Hz3k.out rfl rfl rfl rfl) (by unfold maxLen; omega) (by omega) (by omega) (by go_simp) (by go_simp) ?_
                          intro v4 z4 hO4 hg4 _
                          have hF4 : FRow z4 X.heap.size v4 (fj ++ [⟨nm, fk, fn, fg⟩]) _ := Hz3F.out.snoc (f := ⟨nm, fk, fn, fg⟩) Hz3B.out (fun h0 => by obtain ⟨hor, hlt⟩ := Hzb.out h0; refine ⟨(by rcases hor with e | e <;> omega), by omega, fun i hi hn => ?_⟩; have := (HFR.out.lt i hi hn).2; rcases hor with e | e <;> omega) (fun xs' h1 h2 => by obtain rfl := own_cells hxs h1; exact hO4) hg4
                          have Hz4b := Lib.hid (HY.out.trans (Hz3b.out.mono hsx) |>.grown hg4 (by omega) (fun g hg => (hxs.lt g hg).1))
                          have Hz4k : Hid (Blk z4 gs 90 #[.bool lv, .int .i64 gn, .int .i64 ct, .slice (some fd) fs.length fc]) := Lib.hid (own_grown hxs (HIF.out _ Hz3b.out).1 (by decide) hg4)
                          have Hz4c : Hid (InF z4 gs lv gn ct (some fd) fs.length fc (fd.add (j * 4)) NA nm.length nc fk fn fg) := Lib.hid (HIG.out z4 Hz4b.out)
                          obtain ⟨A4, c4, rfl, -⟩ := hF4.form
                          obtain ⟨f4, hf4⟩ : ∃ l, l = fj ++ [⟨nm, fk, fn, fg⟩] := ⟨_, rfl⟩
                          rw [← hf4] at hF4
                          rw [← hf4]
                          have HF4 := Lib.hid hF4
                          have Hf4 := Lib.hid hf4
                          clear hF4 hf4 hO4 hg4 hat hxs Hz4k
                          refine hK.out _ _ ?_ (fun hHeld => ?_)
                          · exact Hz4c.out
                          · clear hK K
                            try simp only [List.getElem_toArray, List.getElem_cons_succ, List.getElem_cons_zero, Act.put, List.setIfInBounds_toArray, List.set_cons_zero, List.set_cons_succ]
                            refine wpAnyH_take (i := 18) (oi := _) (v := ?_) rfl (by kernel_rfl) (by kernel_rfl) (by kernel_rfl) (fun _ _ _ h => h) (Or.inl ⟨by rfl, ?_⟩) (by assumption) ?_
                            rotate_left
                            focus
                              intro w hSw
                              obtain ⟨qs0, qs1, qs2, qs3, qs4⟩ := InF.opn hSw
                              go_simp
                              try with_reducible rfl
                            try simp only [List.getElem_toArray, List.getElem_cons_succ, List.getElem_cons_zero, Act.put, List.setIfInBounds_toArray, List.set_cons_zero, List.set_cons_succ]
                            refine wpAnyH_done (by kernel_rfl) ?_ _
                            refine NoPanic.normal ?_
                            try go_wp2_with fail
                            go_roundw
                            case rel => exact ⟨j + 1, f4, A4, c4, _, by omega, by go_num, rfl, Lib.hid (by rw [Hf4.out, Hfj.out, List.take_succ_eq_append_getElem hltj, Hfe.out]), HF4, Hz4b⟩
                            case measure => simp [intOf]; omega
                        exact AllReadyH.nil
                    exact AllReadyH.nil
                exact AllReadyH.nil
            exact AllReadyH.nil
          · obtain rfl : j = fs.length := by omega
            obtain rfl : fj = fs := by rw [Hfj.out, List.take_length]
            obtain ⟨A5, c5, gf, e5, hOF, hbf⟩ := HFR.out.own
            cases e5
            have z3 : wx.frozen? ⟨gs, 3, none⟩ = false := hKs.frozen 3
            have hXBx := HXB.out.below HY.out HXB.out.lt
            have hne : gO ≠ gs := Blk.ne_ hXBx hKs (by decide)
            have hbZ := (HbX.out.trans (HY.out.mono (by omega))).setCell (p := ⟨gs, 3, none⟩) (Nat.le_refl _) (.slice Af fj.length cf)
            have HZK := Lib.hid (hKs.set_ 3 (.slice Af fj.length cf))
            have HZB := Lib.hid (hXBx.far (p := ⟨gs, 3, none⟩) hne (.slice Af fj.length cf))
            have HZS := Lib.hid (HS0.out.below (hbZ.mono (Nat.le_of_eq Hgs.out.symm)))
            have HZT := Lib.hid ((HXT.out.step HY.out).far hKs (by decide) hgsl 3 (.slice Af fj.length cf))
            have HZF := Lib.hid (hOF.apart_ (s := ⟨lv, gn, ct, fj⟩) (Apart.setCell (S := fun b => b = gs) (p := ⟨gs, 3, none⟩) (Apart.refl _ wx) rfl (.slice Af fj.length cf)) (fun b hb e => by have := (hbf ⟨lv, gn, ct, fj⟩ rfl b hb).1; omega))
            have Hbf := Lib.hid (fun b hb => hbf ⟨lv, gn, ct, fj⟩ rfl b hb)
            have Hzs : (wx.setCell ⟨gs, 3, none⟩ (.slice Af fj.length cf)).heap.size = wx.heap.size := by simp
            clear hOF hbf hXBx hbZ hKs
            go_upto_region 12 with fail
            obtain ⟨Z, hZ⟩ : ∃ Z, Z = wx.setCell ⟨gs, 3, none⟩ (.slice Af fj.length cf) := ⟨_, rfl⟩
            rw [← hZ]
            rw [← hZ] at HZK HZB HZS HZT HZF Hzs
            have hbl := CopyOf.blw1 Z (.cells #[.bool lv, .int .i64 gn, .int .i64 ct, .slice Af fj.length cf] 90)
            have hK1 : Blk (Z.alloc (.cells #[.bool lv, .int .i64 gn, .int .i64 ct, .slice Af fj.length cf] 90)) Z.heap.size 90 #[.bool lv, .int .i64 gn, .int .i64 ct, .slice Af fj.length cf] := Blk.new Z _ _
            have hS1z := HZS.out.below hbl
            have hT1 := HZT.out.step hbl
            have hB1 := HZB.out.below hbl HZB.out.lt
            have hF1 := HZF.out.apart_ (s := ⟨lv, gn, ct, fj⟩) (S := fun _ => False) (Apart.of_below hbl) (fun _ _ h => h)
            obtain ⟨xs, hxs, -⟩ := hS1z.row
            have t0 := HZB.out.cel 0 (v := .slice A0' Sk.length c0') rfl
            have u0 := HZK.out.cel 0 (v := .bool lv) rfl
            have u1 := HZK.out.cel 1 (v := .int .i64 gn) rfl
            have u2 := HZK.out.cel 2 (v := .int .i64 ct) rfl
            have u3 := HZK.out.cel 3 (v := .slice Af fj.length cf) rfl
            have HK1 := Lib.hid hK1
            have HS1 := Lib.hid hS1z
            have HT1 := Lib.hid hT1
            have HB1 := Lib.hid hB1
            have HF1 := Lib.hid hF1
            have Hxs := Lib.hid hxs
            have Hzs2 : (Z.alloc (.cells #[.bool lv, .int .i64 gn, .int .i64 ct, .slice Af fj.length cf] 90)).heap.size = Z.heap.size + 1 := by simp
            have HzsH := Lib.hid Hzs2
            clear hbl hK1 hS1z hT1 hB1 hF1 hxs hZ s3 z3 Hzs2
            go_wp2_with (at_builtin; refine wpList_grow rfl (.tmp 57) (.tmp 59) 30 30 rfl w2.heap.size 90 iS _ 4 48 Try.underlying30 HiS.out ky0.out ky1.out ky2.out rfl (.slice A0' Sk.length c0') Sk.length xs Hxs.out (.slice (some ⟨Z.heap.size, 0, none⟩) 1 1) 1 (slCs ⟨lv, gn, ct, fj⟩ Af cf) (src4 Try.underlying30 HK1.out rfl rfl rfl rfl) (by have := HSk.out; unfold maxLen; omega) (by have := HSk.out; omega) (by have := HzsH.out; omega) rfl (by go_simp) ?_; intro v4 z4 hO4 hg4 _; have hS4 : SRowG z4 w2.heap.size v4 (Sk ++ [⟨lv, gn, ct, fj⟩]) _ _ := HS1.out.snoc (m := gs) (s := ⟨lv, gn, ct, fj⟩) (OwnFs.lo_le HF1.out (by omega)) Hold.out (fun b hb => by have h1 := Hbf.out b hb; have h2 := HzsH.out; exact ⟨by omega, by omega⟩) (fun xs' h1 => by obtain rfl := own_cells Hxs.out h1; exact hO4) hg4; obtain ⟨A4, c4, rfl, -⟩ := hS4.form; obtain ⟨S4, hS4e⟩ : ∃ l, l = Sk ++ [(⟨lv, gn, ct, fj⟩ : Sl)] := ⟨_, rfl⟩; rw [← hS4e] at hS4; rw [← hS4e]; have hB4 := own_grown Hxs.out HB1.out (by decide) hg4; have hT4 := HT1.out.grown Hxs.out (Nat.le_refl _) (by decide) hg4; have HS4 := Lib.hid hS4; have HS4e := Lib.hid hS4e; have HB4 := Lib.hid hB4; have HT4 := Lib.hid hT4; have m0 := hB4.cel 0 (v := .slice A0' Sk.length c0') rfl; have y0 : z4.frozen? ⟨gO, 0, none⟩ = false := hB4.frozen 0; clear hS4 hS4e hB4 hT4 hO4 hg4)
            go_roundw
            case rel => exact ⟨k + 1, S4, A4, c4, _, _, by omega, by go_num, Lib.hid (by rw [HS4e.out, hSk.out, List.take_succ_eq_append_getElem hlt, Hs.out]), Lib.hid (HS4.out.far HB4.out 0 _), Lib.hid (HT4.out.far HB4.out (by decide) hgO 0 _), Lib.hid (HB4.out.set_ 0 _)⟩
            case measure => simp [intOf]; omega
      · obtain rfl : k = S.length := by omega
        obtain rfl : Sk = S := by rw [hSk.out, List.take_length]
        obtain ⟨A5, c5, g, g1, g2, e5, hOA, hltA, hRQ⟩ := ansJ_of hS.out hT.out
        cases e5
        have hKr := HKR.out.below hT.out.below hlt3
        have m0 := hKr.cel 0 rfl
        have m1 := hKr.cel 1 rfl
        have m2 := hKr.cel 2 rfl
        have y0 : wr.frozen? ⟨w.heap.size + 1, 0, none⟩ = false := hKr.frozen 0
        have y1 : wr.frozen? ⟨w.heap.size + 1, 1, none⟩ = false := hKr.frozen 1
        have y2 : wr.frozen? ⟨w.heap.size + 1, 2, none⟩ = false := hKr.frozen 2
        have t0 := hK.out.cel 0 (v := .slice A0' Sk.length c0') rfl
        have t1 := hK.out.cel 1 (v := .slice B1 Q.length e1) rfl
        have t2 := hK.out.cel 2 (v := .slice B2 P.length e2) rfl
        have HOA := Lib.hid hOA
        have HltA := Lib.hid hltA
        have HRQ := Lib.hid hRQ
        have HKr := Lib.hid hKr
        have Hbb := Lib.hid (HbW.out.trans (hT.out.below.mono (by omega)))
        clear hOA hltA hRQ hKr hS hT hK hSk
        go_wp2_with fail
        refine bodyPost_ret (v := .agg #[.slice A0' Sk.length c0', .slice B1 Q.length e1, .slice B2 P.length e2]) (by simp [results, Try.results45, go_sem, m0, m1, m2]) rfl ⟨_, rfl, ⟨A0', B1, B2, c0', e1, e2, g, fb, nb, g1, g2, rfl, ?_, fun b hb => by simpa using HltA.out b hb, ?_⟩, below_store Hbb.out (by omega) _ _ _⟩
        · exact (HOA.out.apart (S := fun b => b = w.heap.size + 1) ((((Apart.refl (fun b => b = w.heap.size + 1) wr).setCell (p := ⟨w.heap.size + 1, 0, none⟩) rfl _).setCell (p := ⟨w.heap.size + 1, 1, none⟩) rfl _).setCell (p := ⟨w.heap.size + 1, 2, none⟩) rfl _) (fun b hb e => by have := HOA.out.low b hb; omega)).lo_le (by omega)
        · exact (((HRQ.out.far HKr.out (by decide) 0 _).far (HKr.out.set_ 0 _) (by decide) 1 _).far ((HKr.out.set_ 0 _).set_ 1 _) (by decide) 2 _).lo_le (by omega)
end
end ArnG
end Go.Proofs.Ytfmlgpnjckamjaa
