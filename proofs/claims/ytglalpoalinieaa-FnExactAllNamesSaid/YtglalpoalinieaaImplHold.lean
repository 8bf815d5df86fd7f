/-
  The program's namesHold.
-/
import Derived.Test.YtglalpoalinieaaLocals
import Derived.Test.YtglalpoalinieaaSlClone
namespace Go.Proofs.Ytglalpoalinieaa
open Go.RowKit Go.Shelf
set_option linter.unusedVariables false
attribute [local go_sem] Oper.semAt_some

theorem own_slice {w : World} {lo : Nat} {e : TypeId} {v : Value} {k : Nat} {xs : List Value} (h : w.ownsRow lo e 1 v (k + 1) xs) : ∃ g cap, v = .slice (some ⟨g, 0, none⟩) (k + 1) cap := by
  rcases h.2 with ⟨_, h0⟩ | ⟨g2, cap2, cur2, hv2, _⟩
  · omega
  · exact ⟨g2, cap2, hv2⟩
theorem grown_apart {w w' : World} {n lo g : Nat} {v : Value} {l : List (List UInt8)} {t : TypeId} {cs : Array Value} (hb : Blk w g t cs) (h : NmRow w n lo v l) (ht : ¬ NmT t) (hg : w.grownBy w' v.ownBlock) : Blk w' g t cs :=
  (hg.block _ hb.lt (h.apart hb ht)).trans hb
theorem exl_one {w : World} {g' B : Nat} {t : TypeId} {e0 e1 e2 e3 : Value} {e : Ex} (hb : Blk w g' t #[e0, e1, e2, e3]) (hB : B ≤ w.heap.size) (h : ExV w 0 B e0 e1 e2 e3 e) : ExL w 0 w.heap.size (some ⟨g', 0, none⟩) [e] := by
  have hr := exrow_one (T := fun _ => False) hb (Nat.le_refl _) id h
  exact ⟨hr.1, fun hp => by
    obtain ⟨ad, eA, _, hlt, hs⟩ := hr.2 hp
    refine ⟨ad, eA, Nat.zero_le _, hlt, fun k hk => ?_⟩
    obtain ⟨v0, v1, v2, v3, h4, hv⟩ := hs k hk
    exact ⟨v0, v1, v2, v3, h4, ExV.more (Nat.le_refl _) hB _ _ _ _ _ hv⟩⟩
theorem exl_two {w : World} {g' B : Nat} {t : TypeId} {e0 e1 e2 e3 f0 f1 f2 f3 : Value} {e f : Ex} (hb : Blk w g' t #[e0, e1, e2, e3, f0, f1, f2, f3]) (hB : B ≤ w.heap.size) (h : ExV w 0 B e0 e1 e2 e3 e) (h' : ExV w 0 B f0 f1 f2 f3 f) : ExL w 0 w.heap.size (some ⟨g', 0, none⟩) [e, f] := by
  have hr := exrow_two (T := fun _ => False) hb (Nat.le_refl _) id h h'
  exact ⟨hr.1, fun hp => by
    obtain ⟨ad, eA, _, hlt, hs⟩ := hr.2 hp
    refine ⟨ad, eA, Nat.zero_le _, hlt, fun k hk => ?_⟩
    obtain ⟨v0, v1, v2, v3, h4, hv⟩ := hs k hk
    exact ⟨v0, v1, v2, v3, h4, ExV.more (Nat.le_refl _) hB _ _ _ _ _ hv⟩⟩
theorem hold_no {f : Fn} {pre : List SV} {x : SV} (h : (pre ++ [x]).map SV.s <+: flatSts f.body) (hh : hold f.params ((pre ++ [x]).map SV.s) = false) : hold f.params (flatSts f.body) = false := by
  cases hc : hold f.params (flatSts f.body) with
  | false => rfl
  | true => rw [hold_pre h hc] at hh; cases hh
theorem hold_round (f : Fn) (pre : List SV) (x : SV) (hp : hold f.params (pre.map SV.s) = true) : hold f.params ((pre ++ [x]).map SV.s) = hold (f.params ++ letsOf (pre.map SV.s)) [x.s] := by
  rw [List.map_append, hold_app, hp, Bool.true_and]; rfl

set_option maxRecDepth 100000 in
set_option maxHeartbeats 16000000 in
theorem namesHold_c (f : Fn) (v0 v1 v2 : Value) (L B : Nat) (w : World) (hB : B ≤ w.heap.size) (hsz : fnSz f ≤ 1048576) (hf : fnForm f = true) (h : FnV w L B v0 v1 v2 f) :
    Calls Try.prog 53 #[.agg #[v0, v1, v2]] w fun r w' => r = .returned (.bool (hold f.params (flatSts f.body))) ∧ Below w.heap.size w w' := by
  obtain ⟨fA, fc, fA1, fc1, fA2, fc2, rfl, rfl, rfl, fR, fm, fp, fb, fcp⟩ := h
  have hb2 : Below w.heap.size w ((w.alloc (.cells #[.slice fA f.name.length fc, .slice fA1 f.params.length fc1, .slice fA2 f.body.length fc2] 48)).alloc (.cells #[.bool false] 4)) := ((Below.refl _ _).alloc (Nat.le_refl _) _).alloc (by simp) _
  have KF : Blk ((w.alloc (.cells #[.slice fA f.name.length fc, .slice fA1 f.params.length fc1, .slice fA2 f.body.length fc2] 48)).alloc (.cells #[.bool false] 4)) w.heap.size 48 #[.slice fA f.name.length fc, .slice fA1 f.params.length fc1, .slice fA2 f.body.length fc2] := (Blk.new w _ _).alloc _
  have KR : Blk ((w.alloc (.cells #[.slice fA f.name.length fc, .slice fA1 f.params.length fc1, .slice fA2 f.body.length fc2] 48)).alloc (.cells #[.bool false] 4)) (w.heap.size + 1) 4 #[.bool false] := by
    have := Blk.new (w.alloc (.cells #[.slice fA f.name.length fc, .slice fA1 f.params.length fc1, .slice fA2 f.body.length fc2] 48)) 4 #[.bool false]
    simpa using this
  have hgd : stsGood f.body 2 = true := by unfold fnForm at hf; simp only [Bool.and_eq_true] at hf; exact hf.2.1
  have hpl : f.params.length ≤ 3 := by unfold fnForm at hf; simp only [Bool.and_eq_true, decide_eq_true_eq] at hf; exact hf.1
  have hbz2 : stsSz f.body ≤ 1048576 := by unfold fnSz at hsz; omega
  have hcl := bsClone_c f.params fA1 fc1 L B _ (Nat.le_trans hB hb2.size) (by omega) (fp.below (hb2.mono hB))
  have Hcl := Lib.hid hcl
  clear hcl hf
  refine (callsIn_wide (n := 3)).1 ?_
  refine callsIn_of_wp_marks Try.func53 rfl trivial ?_ rfl
  simp only [Try.ntmps53, List.size_toArray, List.length_cons, List.length_nil, Nat.reduceAdd, Nat.reduceSub, Array.replicate_succ, Array.replicate_zero, List.push_toArray, List.append_toArray, List.nil_append, List.cons_append]
  gi_wp2_with fail
  refine ⟨trivial, ?_⟩
  gi_at_call 83
  refine (callsIn_wide.2 Hcl.out).mono ?_
  rintro r w1 ⟨vk, rfl, hrow, hb1⟩
  have KF1 := KF.below hb1 KF.lt
  have KR1 := KR.below hb1 KR.lt
  have hb01 := hb2.trans (hb1.mono hb2.size)
  have hw1 : w.heap.size + 2 ≤ w1.heap.size := by have := hb1.size; simpa using this
  obtain ⟨Ak, ck, rfl, _⟩ := hrow.bsl
  have f2 := fun o => (KF1.alloc o).cell_of 2 (v := .slice fA2 f.body.length fc2) rfl
  clear Hcl KF KR
  gi_wp2_with fail
  refine ⟨trivial, ?_⟩
  gi_at_call 57
  refine (callsIn_wide.2 (statementsIn_c fA2 _ fc2 _)).mono ?_
  rintro r W2 ⟨rfl, rfl⟩
  gi_wp2_with fail
  obtain ⟨V, hV⟩ : ∃ V, (w1.alloc (.cells #[.slice Ak f.params.length ck] 40)).alloc (.cells #[.slice fA2 f.body.length fc2] 46) = V := ⟨_, rfl⟩
  have hVs : V.heap.size = w1.heap.size + 2 := by rw [← hV]; simp
  have hVb : Below w1.heap.size w1 V := by rw [← hV]; exact ((Below.refl _ _).alloc (Nat.le_refl _) _).alloc (by simp) _
  have hVc : V.cell? ⟨w1.heap.size + 1, 0, none⟩ = some (.slice fA2 f.body.length fc2) := by
    have := (Blk.new (w1.alloc (.cells #[.slice Ak f.params.length ck] 40)) 46 #[.slice fA2 f.body.length fc2]).cell_of 0 (v := .slice fA2 f.body.length fc2) rfl
    rw [World.size_alloc] at this
    rw [← hV]; exact this
  have hNC0 : NmCell V w1.heap.size B (w.heap.size + 2) f.params := by
    have h1 := NmCell.mk_ ((Blk.new w1 40 #[.slice Ak f.params.length ck]).alloc (.cells #[.slice fA2 f.body.length fc2] 46)) ((hrow.below ((Below.refl _ w1).alloc (Nat.le_refl _) (.cells #[.slice Ak f.params.length ck] 40))).below ((Below.refl _ _).alloc (Nat.le_refl _) (.cells #[.slice fA2 f.body.length fc2] 46)))
    rw [hV] at h1
    simpa using h1
  have hKRV := KR1.below hVb KR1.lt
  have hbV := hb01.trans (hVb.mono (by omega))
  have hseq := statementsIn1_seq f.body 2 B (V.heap.size + 2) (w1.heap.size + 1) NmT NmT.no fA2 fc2 V hgd (by omega) (by omega) hVc ((fb.more (Nat.zero_le _) (Nat.le_refl _)).below (hbV.mono hB))
  try rw [hV]
  clear hV hVc fR fp fb hrow KF1 KR1 f2
  refine range_good (gf := 88) (lb := #[.pointer (some ⟨w1.heap.size + 1, 0, none⟩)]) rfl (enters_of Try.func88 (by kernel_rfl) rfl) (n := B) (by omega) hseq (fun _ => rfl)
    (fun pre Z => NmCell Z w1.heap.size B (w.heap.size + 2) (f.params ++ letsOf (pre.map SV.s)) ∧ hold f.params (pre.map SV.s) = true ∧ Blk Z (w.heap.size + 1) 4 #[.bool false] ∧ Below w.heap.size w Z)
    (fun c pre Z => c = .ret ∧ hold f.params (pre.map SV.s) = false ∧ Blk Z (w.heap.size + 1) 4 #[.bool false] ∧ Below w.heap.size w Z)
    (fun x A B' hx hb => ⟨hx.1.ext hb (by omega) (by omega), hx.2.1, hx.2.2.1.below hb.below (by omega), hx.2.2.2.trans (hb.below.mono (by omega))⟩)
    (fun c x A B' hx hb => ⟨hx.1, hx.2.1, hx.2.2.1.below hb.below (by omega), hx.2.2.2.trans (hb.below.mono (by omega))⟩)
    ⟨by simpa [letsOf] using hNC0, by simp [hold_nil], hKRV, hbV⟩ ?round ?done ?stop
  case done =>
    rintro D xs Z hD hS ⟨_, hh, hKR, hbz⟩ hK
    rw [hS] at hh
    have r0 := hKR.cell_of 0 rfl
    have z0 := hKR.frozen 0
    have hKR2 := hKR.set_ 0 (.bool true)
    have hK2 : (Z.setCell ⟨w.heap.size + 1, 0, none⟩ (.bool true)).heap[D]? = some (.deferred (some [])) := (Below.heap_setCell Z ⟨w.heap.size + 1, 0, none⟩ _ D (by simp; omega)).trans hK
    have hb3 := (hbz.setCell (p := ⟨w.heap.size + 1, 0, none⟩) (by simp) (.bool true)).trans (below_putObj (s := w.heap.size) (l := D) (.deferred none) (by omega))
    have r2 := (hKR2.below (below_putObj (s := w.heap.size + 2) (l := D) (.deferred none) (by omega)) (by omega)).cell_of 0 (v := .bool true) rfl
    clear hKR hKR2
    gi_wp2
    refine ⟨by simp, .inl ⟨_, _, rfl, run_takeDeferred hK2, ?_⟩⟩
    exact ⟨.bool true, by simp [results, Try.results53, go_sem, r2], by rw [hh], hb3⟩
  case stop =>
    rintro D c pre Z hD hS ⟨rfl, hh, hKR, hbz⟩ hK
    have hno : hold f.params (flatSts f.body) = false := by
      cases hc : hold f.params (flatSts f.body) with
      | false => rfl
      | true => rw [hold_pre hS hc] at hh; cases hh
    have Hno := Lib.hid hno
    have r2 := (hKR.below (below_putObj (s := w.heap.size + 2) (l := D) (.deferred none) (by omega)) (by omega)).cell_of 0 (v := .bool false) rfl
    have hb3 := hbz.trans (below_putObj (s := w.heap.size) (l := D) (W := Z) (.deferred none) (by omega))
    clear hno hh
    gi_wp2
    refine ⟨by simp, .inl ⟨_, _, rfl, run_takeDeferred hK, ?_⟩⟩
    exact ⟨.bool false, by simp [results, Try.results53, go_sem, r2], by rw [Hno.out], hb3⟩
  case round =>
    rintro l' m' pre x Z K hZs ⟨hnc, hhp, hKR, hbz⟩ hsp ⟨hst, dd, hgs⟩ hcont
    have hrd := hold_round f pre x hhp
    obtain ⟨vs, st⟩ := x
    obtain ⟨kk, name, e, ff, body, els⟩ := st
    rw [stGood_mk] at hgs
    simp only [Bool.and_eq_true, decide_eq_true_eq] at hgs
    have hkk := stOk1_kind hgs.1.1.1.1.2
    obtain ⟨sA, sc, e0, e1, e2, e3, f0, f1, f2, f3, A1, c1, A2, c2, rfl, hR, hmn, he, hf, hb1, hb2⟩ := hst.open_
    have he' := he
    have hf' := hf
    obtain ⟨xk, xn, xA, xa, xc, xA', xa', xc', rfl, rfl, rfl, rfl⟩ := he.shape
    obtain ⟨yk, yn, yA, ya, yc, yA', ya', yc', rfl, rfl, rfl, rfl⟩ := hf.shape
    dsimp only [svEnc]
    gi_wp2
    refine hcont _ _ ((Below.refl _ _).alloc (Nat.le_refl _) _) ?_
    intro B' hAB hszB hoth
    have hZBx := (Ext.of (s := V.heap.size) (T := NmT) ((Below.refl _ Z).alloc (Nat.le_refl _) _) (by omega)).trans hAB
    have hZB := hZBx.below
    have KS : Blk B' Z.heap.size 78 #[.int .i64 kk, .slice sA name.length sc, .int .i64 xk, .int .i64 xn, .slice xA xa xc, .slice xA' xa' xc', .int .i64 yk, .int .i64 yn, .slice yA ya yc, .slice yA' ya' yc', .slice A1 body.length c1, .slice A2 els.length c2] := (hoth Z.heap.size (by omega)).trans (Blk.new Z _ _)
    obtain ⟨v, hcell, hrow⟩ := hnc.ext hZBx (by omega) (by omega)
    obtain ⟨Ak', ck', rfl, _⟩ := hrow.bsl
    have hKRB := hKR.below hZB (by omega)
    have heB := he'.below (hZB.mono (by omega))
    have hfB := hf'.below (hZB.mono (by omega))
    have hRB := hR.below (hZB.mono (by omega))
    have hBs : V.heap.size + 2 ≤ B'.heap.size := by have := hZB.size; omega
    have hwB := hbz.trans (hZB.mono (by omega))
    have q0 := KS.cell_of 0 rfl
    have q1 := KS.cell_of 1 rfl
    have q2 := KS.cell_of 2 rfl
    have q3 := KS.cell_of 3 rfl
    have q4 := KS.cell_of 4 rfl
    have q5 := KS.cell_of 5 rfl
    have q6 := KS.cell_of 6 rfl
    have q7 := KS.cell_of 7 rfl
    have q8 := KS.cell_of 8 rfl
    have q9 := KS.cell_of 9 rfl
    have q10 := KS.cell_of 10 rfl
    have q11 := KS.cell_of 11 rfl
    have hks : kk = 0 ∨ kk = 1 ∨ kk = 2 ∨ kk = 3 ∨ kk = 4 ∨ kk = 5 ∨ kk = 6 ∨ kk = 7 := by omega
    have hrz := round_sz hsp
    have hrz2 : stSz (.mk kk name e ff body els) ≤ stsSz f.body := hrz.2
    have hrz1 := hrz.1
    have hll := letsOf_len (pre.map SV.s)
    rw [stSz_mk] at hrz2
    rw [List.length_map] at hll
    have hlen : (f.params ++ letsOf (pre.map SV.s)).length + 1 ≤ 4194304 := by rw [List.length_append]; omega
    have hnl : name.length ≤ 1048576 := by omega
    rw [hold_cons] at hrd
    obtain ⟨kn, hkn⟩ : ∃ kn, f.params ++ letsOf (pre.map SV.s) = kn := ⟨_, rfl⟩
    rw [hkn] at hrd hlen hcell hrow
    have hletr := letsOf_round pre ⟨[.int .i64 kk, .slice sA name.length sc, .int .i64 xk, .int .i64 xn, .slice xA xa xc, .slice xA' xa' xc', .int .i64 yk, .int .i64 yn, .slice yA ya yc, .slice yA' ya' yc', .slice A1 body.length c1, .slice A2 els.length c2], .mk kk name e ff body els⟩
    have Hrd := Lib.hid hrd
    have Hkn := Lib.hid (And.intro hkn hletr)
    clear hkn hletr hrd
    clear hsp hrz hrz1 hrz2 hll
    clear hcont hst hgs hR he hf he' hf' hb1 hb2 hoth hkk hAB hszB hnc hbz hKR hhp
    rcases hks with rfl | rfl | rfl | rfl | rfl | rfl | rfl | rfl
    · -- kind 0
      have ma := @m_asks0
      gi_wp2_with fail
      refine ⟨trivial, fun hd => by simp [Fence.wide] at hd, ?_⟩
      gi_at_call 80
      refine (CallsIn.inRound l' (callsIn_wide.2 (statementOf_c 0 sA A1 A2 xA xA' yA yA' name.length sc body.length c1 els.length c2 xa xc xa' xc' ya yc ya' yc' xk xn yk yn B' (by omega) (by omega)))).mono ?_
      rintro r Z1 ⟨rfl, hz1⟩
      simp only [ifVal0]
      have hs1 := hz1.size
      have n1 := (hcell.below hz1 hcell.lt).cell_of 0 rfl
      clear q0 q1 q2 q3 q4 q5 q6 q7 q8 q9 q10 q11 KS
      gi_wp2_with fail
      gi_region_with (first
        | (refine ⟨trivial, fun hd => by simp [Fence.wide] at hd, ?_⟩; gi_at_call 139; refine (CallsIn.inRound l' (callsIn_wide.2 (havingAsks_c _ _ _ _ _ _ _ _ _))).mono ?_; rintro r Z2 ⟨g2, rfl, hg2, hB2, hz2⟩; have hz2' : Below Z1.heap.size Z1 Z2 := ⟨hz2.os, hz2.tape, hz2.output, hz2.size, hz2.block⟩; have hz12 := hz1.trans (hz2'.mono hs1); have n2 := (hcell.below hz12 hcell.lt).cell_of 0 rfl; have hE2 := heB.below (hz12.mono (by omega)); have hF2 := hfB.below (hz12.mono (by omega)); have hw2 := hz12.size; have Hv := Lib.hid (asksFor_c [e] kn (some ⟨g2, 0, none⟩) Ak' 1 ck' 0 Z2.heap.size 0 Z2.heap.size Z2 (Nat.le_refl _) (Nat.le_refl _) (by obtain ⟨A5, c5, e5, _, _, h5⟩ := (hrow.below hz12).bsl; injection e5 with e5 _ _; subst e5; exact h5) (exl_one hB2 (by omega) hE2)))
        | (refine ⟨trivial, fun hd => by simp [Fence.wide] at hd, ?_⟩; gi_at_call 84; refine (CallsIn.inRound l' (callsIn_wide.2 Hv.out)).mono ?_; rintro r Z3 ⟨rfl, hz3⟩))
      all_goals
        have hz03 := hz12.trans (hz3.mono hz12.size)
        have hs3 := hz03.size
        have hcell3 := hcell.below hz03 hcell.lt
        have hrow3 := hrow.below hz03
        have hKR3 := hKRB.below hz03 (by omega)
        have hw3 := hwB.trans (hz03.mono (by omega))
        have hk3 : KB B V.heap.size NmT B' Z3 := KB.of hz03 _ _ _
        have hR3 := hRB.1.below (hz03.mono (by omega))
        have hRL3 := hRB.below (hz03.mono (by omega))
        clear n1 n2 ma Hv hE2 hF2 hB2
        cases hao : (flatExs [e]).all (askOk kn)
        · have hfa : hold f.params ((pre ++ [(⟨[.int .i64 0, .slice sA name.length sc, .int .i64 xk, .int .i64 xn, .slice xA xa xc, .slice xA' xa' xc', .int .i64 yk, .int .i64 yn, .slice yA ya yc, .slice yA' ya' yc', .slice A1 body.length c1, .slice A2 els.length c2], .mk 0 name e ff body els⟩ : SV)]).map SV.s) = false := by
            rw [Hrd.out]
            have e9 : asksL 0 e ff = [e] := rfl
            rw [e9, hao]; rfl
          have Hfa := Lib.hid hfa
          clear hfa hao
          have r0 := hKR3.cell_of 0 rfl
          have z0 := hKR3.frozen 0
          have hKR4 := hKR3.set_ 0 (.bool false)
          gi_wp2
          exact ⟨hk3.set_ (p := ⟨w.heap.size + 1, 0, none⟩) (by simp; omega) (.inl (by simp; omega)) _, rfl, Hfa.out, hKR4, hw3.setCell (p := ⟨w.heap.size + 1, 0, none⟩) (by simp) _⟩
        · have ta := ta_let
          have hb5 : ∀ o, Below B'.heap.size B' (Z3.alloc o) := fun o => hz03.alloc hs3 o
          have n0 := fun o => (hcell3.alloc o).cell_of 0 (v := .slice Ak' kn.length ck') rfl
          have hp := fun o => placeOf_c kn name Ak' sA ck' sc 0 (Z3.alloc o).heap.size B (Z3.alloc o) (Nat.le_refl _) (by simp; omega) (by obtain ⟨A5, c5, e5, _, _, h5⟩ := (hrow.below (hb5 o)).bsl; injection e5 with e5 _ _; subst e5; exact h5) (hRB.1.below ((hb5 o).mono (by omega)))
          have Hp := Lib.hid hp
          have Hcell3 := Lib.hid hcell3
          have Hrow3 := Lib.hid hrow3
          have hlt3 := hKR3.lt
          clear hp hcell hcell3 hrow hrow3
          gi_wp2_with fail
          refine ⟨trivial, fun hd => by simp [Fence.wide] at hd, ?_⟩
          gi_at_call 55
          refine (CallsIn.inRound l' (callsIn_wide.2 (Hp.out _))).mono ?_
          rintro r Z5 ⟨rfl, hz5⟩
          have KL := (Blk.new Z3 106 #[.int .i64 xk, .int .i64 xn, .slice xA xa xc, .slice xA' xa' xc', .slice sA name.length sc]).below hz5 (by simp)
          have hz35 := ((Below.refl _ Z3).alloc (Nat.le_refl _) (.cells #[.int .i64 xk, .int .i64 xn, .slice xA xa xc, .slice xA' xa' xc', .slice sA name.length sc] 106)).trans (hz5.mono (by simp))
          have hKR5 := hKR3.below hz35 hKR3.lt
          have hk5 := hk3.trans (KB.of hz35 B V.heap.size NmT)
          have hw5 := hw3.trans (hz35.mono (by omega))
          have hs5 := hz35.size
          by_cases hpl2 : 0 ≤ placeOf kn name
          · have hfa : hold f.params ((pre ++ [(⟨[.int .i64 0, .slice sA name.length sc, .int .i64 xk, .int .i64 xn, .slice xA xa xc, .slice xA' xa' xc', .int .i64 yk, .int .i64 yn, .slice yA ya yc, .slice yA' ya' yc', .slice A1 body.length c1, .slice A2 els.length c2], .mk 0 name e ff body els⟩ : SV)]).map SV.s) = false := by
              have e8 : decide (placeOf kn name < 0) = false := by simp; omega
              rw [Hrd.out, if_pos (by trivial), e8]; simp
            have Hfa := Lib.hid hfa
            have r0 := hKR5.cell_of 0 rfl
            have z0 := hKR5.frozen 0
            have hKR6 := hKR5.set_ 0 (.bool false)
            clear hfa hao n0
            gi_wp2
            exact ⟨hk5.set_ (p := ⟨w.heap.size + 1, 0, none⟩) (by simp; omega) (.inl (by simp; omega)) _, rfl, Hfa.out, hKR6, hw5.setCell (p := ⟨w.heap.size + 1, 0, none⟩) (by simp) _⟩
          · have hpl3 : placeOf kn name < 0 := by omega
            have htr : hold f.params ((pre ++ [(⟨[.int .i64 0, .slice sA name.length sc, .int .i64 xk, .int .i64 xn, .slice xA xa xc, .slice xA' xa' xc', .int .i64 yk, .int .i64 yn, .slice yA ya yc, .slice yA' ya' yc', .slice A1 body.length c1, .slice A2 els.length c2], .mk 0 name e ff body els⟩ : SV)]).map SV.s) = true := by
              have e8 : decide (placeOf kn name < 0) = true := by simp; omega
              have e9 : asksL 0 e ff = [e] := rfl
              rw [Hrd.out, if_pos (by trivial), e8, e9, hao]; simp [hold_nil]
            have Htr := Lib.hid htr
            have Hpl3 := Lib.hid hpl3
            have hcell5 := Hcell3.out.below hz35 Hcell3.out.lt
            have hrow5 := Hrow3.out.below hz35
            obtain ⟨_, A3, c3, xs3, e3, hown, hc3, hcm3, hall⟩ := id hrow5
            injection e3 with e31 e32 e33
            subst e31
            subst e33
            obtain ⟨i0, hi, hz0, hz1', hz2'⟩ := info_parts infoBs
            have hO := hown.alloc (.cells #[.slice sA name.length sc] 33)
            have HO := Lib.hid hO
            have Hall := Lib.hid hall
            have hcl1 := cell_one_new Z5 (.slice sA name.length sc) 33
            have Hcl1 := Lib.hid hcl1
            have hcell5a := hcell5.alloc (.cells #[.slice sA name.length sc] 33)
            have hrow5a := hrow5.below ((Below.refl _ Z5).alloc (Nat.le_refl _) (.cells #[.slice sA name.length sc] 33))
            have n5 := hcell5.cell_of 0 (v := .slice Ak' kn.length ck') rfl
            have l4 := KL.cell_of 4 (v := .slice sA name.length sc) rfl
            clear htr hao n0 hpl2 hO hall hcl1 KL
            gi_wp2_with (gi_at_builtin; refine wpListIn_append_own _ rfl (.tmp 31) (.tmp 34) 40 rfl (w.heap.size + 2) 33 i0 _ 1 24 Try.underlying40 hi hz0 hz1' hz2' rfl (by omega) _ _ _ rfl HO.out ⟨Z5.heap.size, 0, none⟩ 1 1 [.slice sA name.length sc] rfl rfl Hcl1.out (by simp [Value.oneCell']) (by unfold maxLen; omega) (by omega) (by simp; omega) ?_; intro v' Z6 hown' hgrow _; obtain ⟨g', cap', rfl⟩ := own_slice hown'; have hcell6 := grown_apart hcell5a hrow5a not_NmT hgrow; have z6 := hcell6.frozen 0; have n6 := hcell6.cell_of 0 rfl)
            have hs6 := hgrow.size
            have hsa : (Z5.alloc (.cells #[.slice sA name.length sc] 33)).heap.size = Z5.heap.size + 1 := by simp
            have hKR6 := grown_apart (hKR5.alloc (.cells #[.slice sA name.length sc] 33)) hrow5a (by rintro (h | h) <;> exact absurd h (by decide)) hgrow
            have hba : Below Z5.heap.size Z5 (Z5.alloc (.cells #[.slice sA name.length sc] 33)) := (Below.refl _ _).alloc (Nat.le_refl _) _
            refine ⟨((hk5.alloc _).trans (hrow5a.kb (by omega) hgrow)).set_ (p := ⟨w1.heap.size, 0, none⟩) (by simp; omega) (.inl (by simp; omega)) _, ?_, Htr.out, hKR6.far (p := ⟨w1.heap.size, 0, none⟩) (by simp; omega) _, ?_⟩
            · rw [Hkn.out.2, ← List.append_assoc, Hkn.out.1]
              refine NmCell.store hcell6 (NmRow.snoc (by omega) hlen HO.out (fun j hj => ?_) (NmB.of_data (hRL3.below ((hz35.trans (hba.mono (by omega))).mono (by omega))) (by omega)) hmn hown' hgrow) (by omega)
              obtain ⟨A4, c4, x1, x2, x3⟩ := Hall.out j hj
              exact ⟨A4, c4, x1, x2.below hba, x3⟩
            · refine ((hw5.alloc (by omega) _).grown hgrow (by omega) (fun g hg => ?_)).setCell (p := ⟨w1.heap.size, 0, none⟩) (by simp; omega) _
              have := hrow5a.ownb hg.symm.symm
              omega
    · -- kind 1
      have ma := @m_asks1
      gi_wp2_with fail
      refine ⟨trivial, fun hd => by simp [Fence.wide] at hd, ?_⟩
      gi_at_call 80
      refine (CallsIn.inRound l' (callsIn_wide.2 (statementOf_c 1 sA A1 A2 xA xA' yA yA' name.length sc body.length c1 els.length c2 xa xc xa' xc' ya yc ya' yc' xk xn yk yn B' (by omega) (by omega)))).mono ?_
      rintro r Z1 ⟨rfl, hz1⟩
      simp only [ifVal1]
      have hs1 := hz1.size
      have n1 := (hcell.below hz1 hcell.lt).cell_of 0 rfl
      clear q0 q1 q2 q3 q4 q5 q6 q7 q8 q9 q10 q11 KS
      gi_wp2_with fail
      gi_region_with (first
        | (refine ⟨trivial, fun hd => by simp [Fence.wide] at hd, ?_⟩; gi_at_call 139; refine (CallsIn.inRound l' (callsIn_wide.2 (havingAsks_c _ _ _ _ _ _ _ _ _))).mono ?_; rintro r Z2 ⟨g2, rfl, hg2, hB2, hz2⟩; have hz2' : Below Z1.heap.size Z1 Z2 := ⟨hz2.os, hz2.tape, hz2.output, hz2.size, hz2.block⟩; have hz12 := hz1.trans (hz2'.mono hs1); have n2 := (hcell.below hz12 hcell.lt).cell_of 0 rfl; have hE2 := heB.below (hz12.mono (by omega)); have hF2 := hfB.below (hz12.mono (by omega)); have hw2 := hz12.size; have Hv := Lib.hid (asksFor_c [e] kn (some ⟨g2, 0, none⟩) Ak' 1 ck' 0 Z2.heap.size 0 Z2.heap.size Z2 (Nat.le_refl _) (Nat.le_refl _) (by obtain ⟨A5, c5, e5, _, _, h5⟩ := (hrow.below hz12).bsl; injection e5 with e5 _ _; subst e5; exact h5) (exl_one hB2 (by omega) hE2)))
        | (refine ⟨trivial, fun hd => by simp [Fence.wide] at hd, ?_⟩; gi_at_call 84; refine (CallsIn.inRound l' (callsIn_wide.2 Hv.out)).mono ?_; rintro r Z3 ⟨rfl, hz3⟩))
      all_goals
        have hz03 := hz12.trans (hz3.mono hz12.size)
        have hs3 := hz03.size
        have hcell3 := hcell.below hz03 hcell.lt
        have hrow3 := hrow.below hz03
        have hKR3 := hKRB.below hz03 (by omega)
        have hw3 := hwB.trans (hz03.mono (by omega))
        have hk3 : KB B V.heap.size NmT B' Z3 := KB.of hz03 _ _ _
        have hR3 := hRB.1.below (hz03.mono (by omega))
        have hRL3 := hRB.below (hz03.mono (by omega))
        clear n1 n2 ma Hv hE2 hF2 hB2
        cases hao : (flatExs [e]).all (askOk kn)
        · have hfa : hold f.params ((pre ++ [(⟨[.int .i64 1, .slice sA name.length sc, .int .i64 xk, .int .i64 xn, .slice xA xa xc, .slice xA' xa' xc', .int .i64 yk, .int .i64 yn, .slice yA ya yc, .slice yA' ya' yc', .slice A1 body.length c1, .slice A2 els.length c2], .mk 1 name e ff body els⟩ : SV)]).map SV.s) = false := by
            rw [Hrd.out]
            have e9 : asksL 1 e ff = [e] := rfl
            rw [e9, hao]; rfl
          have Hfa := Lib.hid hfa
          clear hfa hao
          have r0 := hKR3.cell_of 0 rfl
          have z0 := hKR3.frozen 0
          have hKR4 := hKR3.set_ 0 (.bool false)
          gi_wp2
          exact ⟨hk3.set_ (p := ⟨w.heap.size + 1, 0, none⟩) (by simp; omega) (.inl (by simp; omega)) _, rfl, Hfa.out, hKR4, hw3.setCell (p := ⟨w.heap.size + 1, 0, none⟩) (by simp) _⟩
        · have ta := ta_let_no 109 (by decide)
          have tb := ta_set
          unfold zLet at ta
          have hb5 : ∀ o, Below B'.heap.size B' (Z3.alloc o) := fun o => hz03.alloc hs3 o
          have n0 := fun o => (hcell3.alloc o).cell_of 0 (v := .slice Ak' kn.length ck') rfl
          have hp := fun o => placeOf_c kn name Ak' sA ck' sc 0 (Z3.alloc o).heap.size B (Z3.alloc o) (Nat.le_refl _) (by simp; omega) (by obtain ⟨A5, c5, e5, _, _, h5⟩ := (hrow.below (hb5 o)).bsl; injection e5 with e5 _ _; subst e5; exact h5) (hRB.1.below ((hb5 o).mono (by omega)))
          have Hp := Lib.hid hp
          have NC := Lib.hid (NmCell.mk_ hcell3 hrow3)
          have hlt3 := hKR3.lt
          clear hp hcell hcell3 hrow hrow3
          gi_wp2_with fail
          refine ⟨trivial, fun hd => by simp [Fence.wide] at hd, ?_⟩
          gi_at_call 55
          refine (CallsIn.inRound l' (callsIn_wide.2 (Hp.out _))).mono ?_
          rintro r Z5 ⟨rfl, hz5⟩
          have hz35 := ((Below.refl _ Z3).alloc (Nat.le_refl _) _).trans (hz5.mono (by simp))
          have hKR5 := hKR3.below hz35 hKR3.lt
          have hk5 := hk3.trans (KB.of hz35 B V.heap.size NmT)
          have hw5 := hw3.trans (hz35.mono (by omega))
          by_cases hpl2 : placeOf kn name < 0
          · have hfa : hold f.params ((pre ++ [(⟨[.int .i64 1, .slice sA name.length sc, .int .i64 xk, .int .i64 xn, .slice xA xa xc, .slice xA' xa' xc', .int .i64 yk, .int .i64 yn, .slice yA ya yc, .slice yA' ya' yc', .slice A1 body.length c1, .slice A2 els.length c2], .mk 1 name e ff body els⟩ : SV)]).map SV.s) = false := by
              have e8 : decide (0 ≤ placeOf kn name) = false := by simp; omega
              rw [Hrd.out, if_neg (by decide), if_pos (by trivial), e8]; simp
            have Hfa := Lib.hid hfa
            have r0 := hKR5.cell_of 0 rfl
            have z0 := hKR5.frozen 0
            have hKR6 := hKR5.set_ 0 (.bool false)
            clear hfa hao n0
            gi_wp2
            exact ⟨hk5.set_ (p := ⟨w.heap.size + 1, 0, none⟩) (by simp; omega) (.inl (by simp; omega)) _, rfl, Hfa.out, hKR6, hw5.setCell (p := ⟨w.heap.size + 1, 0, none⟩) (by simp) _⟩
          · have htr : hold f.params ((pre ++ [(⟨[.int .i64 1, .slice sA name.length sc, .int .i64 xk, .int .i64 xn, .slice xA xa xc, .slice xA' xa' xc', .int .i64 yk, .int .i64 yn, .slice yA ya yc, .slice yA' ya' yc', .slice A1 body.length c1, .slice A2 els.length c2], .mk 1 name e ff body els⟩ : SV)]).map SV.s) = true := by
              have e8 : decide (0 ≤ placeOf kn name) = true := by simp; omega
              have e9 : asksL 1 e ff = [e] := rfl
              rw [Hrd.out, if_neg (by decide), if_pos (by trivial), e8, e9, hao]; simp [hold_nil]
            have Htr := Lib.hid htr
            clear htr hao n0
            gi_wp2
            refine ⟨hk5, ?_, Htr.out, hKR5, hw5⟩
            rw [Hkn.out.2, ← List.append_assoc, Hkn.out.1]
            exact (List.append_nil kn).symm ▸ NC.out.below hz35
    · -- kind 2
      have ma := @m_asks2
      gi_wp2_with fail
      refine ⟨trivial, fun hd => by simp [Fence.wide] at hd, ?_⟩
      gi_at_call 80
      refine (CallsIn.inRound l' (callsIn_wide.2 (statementOf_c 2 sA A1 A2 xA xA' yA yA' name.length sc body.length c1 els.length c2 xa xc xa' xc' ya yc ya' yc' xk xn yk yn B' (by omega) (by omega)))).mono ?_
      rintro r Z1 ⟨rfl, hz1⟩
      simp only [ifVal2]
      have hs1 := hz1.size
      have n1 := (hcell.below hz1 hcell.lt).cell_of 0 rfl
      clear q0 q1 q2 q3 q4 q5 q6 q7 q8 q9 q10 q11 KS
      gi_wp2_with fail
      gi_region_with (first
        | (refine ⟨trivial, fun hd => by simp [Fence.wide] at hd, ?_⟩; gi_at_call 141; refine (CallsIn.inRound l' (callsIn_wide.2 (puttingAsks_c  _ _ _ _ _ _ _ _ _ _ _ _ _ _ _ _ _ _ _ _))).mono ?_; rintro r Z2 ⟨g2, rfl, hg2, hB2, hz2⟩; have hz2' : Below Z1.heap.size Z1 Z2 := ⟨hz2.os, hz2.tape, hz2.output, hz2.size, hz2.block⟩; have hz12 := hz1.trans (hz2'.mono hs1); have n2 := (hcell.below hz12 hcell.lt).cell_of 0 rfl; have hE2 := heB.below (hz12.mono (by omega)); have hF2 := hfB.below (hz12.mono (by omega)); have hw2 := hz12.size; have Hv := Lib.hid (asksFor_c [e, ff] kn (some ⟨g2, 0, none⟩) Ak' 2 ck' 0 Z2.heap.size 0 Z2.heap.size Z2 (Nat.le_refl _) (Nat.le_refl _) (by obtain ⟨A5, c5, e5, _, _, h5⟩ := (hrow.below hz12).bsl; injection e5 with e5 _ _; subst e5; exact h5) (exl_two hB2 (by omega) hE2 hF2)))
        | (refine ⟨trivial, fun hd => by simp [Fence.wide] at hd, ?_⟩; gi_at_call 84; refine (CallsIn.inRound l' (callsIn_wide.2 Hv.out)).mono ?_; rintro r Z3 ⟨rfl, hz3⟩))
      all_goals
        have hz03 := hz12.trans (hz3.mono hz12.size)
        have hs3 := hz03.size
        have hcell3 := hcell.below hz03 hcell.lt
        have hrow3 := hrow.below hz03
        have hKR3 := hKRB.below hz03 (by omega)
        have hw3 := hwB.trans (hz03.mono (by omega))
        have hk3 : KB B V.heap.size NmT B' Z3 := KB.of hz03 _ _ _
        have hR3 := hRB.1.below (hz03.mono (by omega))
        have hRL3 := hRB.below (hz03.mono (by omega))
        clear n1 n2 ma Hv hE2 hF2 hB2
        cases hao : (flatExs [e, ff]).all (askOk kn)
        · have hfa : hold f.params ((pre ++ [(⟨[.int .i64 2, .slice sA name.length sc, .int .i64 xk, .int .i64 xn, .slice xA xa xc, .slice xA' xa' xc', .int .i64 yk, .int .i64 yn, .slice yA ya yc, .slice yA' ya' yc', .slice A1 body.length c1, .slice A2 els.length c2], .mk 2 name e ff body els⟩ : SV)]).map SV.s) = false := by
            rw [Hrd.out]
            have e9 : asksL 2 e ff = [e, ff] := rfl
            rw [e9, hao]; rfl
          have Hfa := Lib.hid hfa
          clear hfa hao
          have r0 := hKR3.cell_of 0 rfl
          have z0 := hKR3.frozen 0
          have hKR4 := hKR3.set_ 0 (.bool false)
          gi_wp2
          exact ⟨hk3.set_ (p := ⟨w.heap.size + 1, 0, none⟩) (by simp; omega) (.inl (by simp; omega)) _, rfl, Hfa.out, hKR4, hw3.setCell (p := ⟨w.heap.size + 1, 0, none⟩) (by simp) _⟩
        · have htr : hold f.params ((pre ++ [(⟨[.int .i64 2, .slice sA name.length sc, .int .i64 xk, .int .i64 xn, .slice xA xa xc, .slice xA' xa' xc', .int .i64 yk, .int .i64 yn, .slice yA ya yc, .slice yA' ya' yc', .slice A1 body.length c1, .slice A2 els.length c2], .mk 2 name e ff body els⟩ : SV)]).map SV.s) = true := by
            rw [Hrd.out]
            have e9 : asksL 2 e ff = [e, ff] := rfl
            rw [e9, hao]; rfl
          have Htr := Lib.hid htr
          have NC := Lib.hid (NmCell.mk_ hcell3 hrow3)
          have ta := ta_let_no 129 (by decide)
          have tb := ta_set_no 129 (by decide)
          unfold zLet at ta tb
          clear htr hao hcell hcell3 hrow hrow3
          gi_wp2
          refine ⟨hk3, ?_, Htr.out, hKR3, hw3⟩
          rw [Hkn.out.2, ← List.append_assoc, Hkn.out.1]
          exact (List.append_nil kn).symm ▸ NC.out
    · -- kind 3
      have ma := @m_asks3
      gi_wp2_with fail
      refine ⟨trivial, fun hd => by simp [Fence.wide] at hd, ?_⟩
      gi_at_call 80
      refine (CallsIn.inRound l' (callsIn_wide.2 (statementOf_c 3 sA A1 A2 xA xA' yA yA' name.length sc body.length c1 els.length c2 xa xc xa' xc' ya yc ya' yc' xk xn yk yn B' (by omega) (by omega)))).mono ?_
      rintro r Z1 ⟨rfl, hz1⟩
      simp only [ifVal3]
      have hs1 := hz1.size
      have n1 := (hcell.below hz1 hcell.lt).cell_of 0 rfl
      clear q0 q1 q2 q3 q4 q5 q6 q7 q8 q9 q10 q11 KS
      gi_wp2_with fail
      gi_region_with (first
        | (refine ⟨trivial, fun hd => by simp [Fence.wide] at hd, ?_⟩; gi_at_call 139; refine (CallsIn.inRound l' (callsIn_wide.2 (havingAsks_c _ _ _ _ _ _ _ _ _))).mono ?_; rintro r Z2 ⟨g2, rfl, hg2, hB2, hz2⟩; have hz2' : Below Z1.heap.size Z1 Z2 := ⟨hz2.os, hz2.tape, hz2.output, hz2.size, hz2.block⟩; have hz12 := hz1.trans (hz2'.mono hs1); have n2 := (hcell.below hz12 hcell.lt).cell_of 0 rfl; have hE2 := heB.below (hz12.mono (by omega)); have hF2 := hfB.below (hz12.mono (by omega)); have hw2 := hz12.size; have Hv := Lib.hid (asksFor_c [e] kn (some ⟨g2, 0, none⟩) Ak' 1 ck' 0 Z2.heap.size 0 Z2.heap.size Z2 (Nat.le_refl _) (Nat.le_refl _) (by obtain ⟨A5, c5, e5, _, _, h5⟩ := (hrow.below hz12).bsl; injection e5 with e5 _ _; subst e5; exact h5) (exl_one hB2 (by omega) hE2)))
        | (refine ⟨trivial, fun hd => by simp [Fence.wide] at hd, ?_⟩; gi_at_call 84; refine (CallsIn.inRound l' (callsIn_wide.2 Hv.out)).mono ?_; rintro r Z3 ⟨rfl, hz3⟩))
      all_goals
        have hz03 := hz12.trans (hz3.mono hz12.size)
        have hs3 := hz03.size
        have hcell3 := hcell.below hz03 hcell.lt
        have hrow3 := hrow.below hz03
        have hKR3 := hKRB.below hz03 (by omega)
        have hw3 := hwB.trans (hz03.mono (by omega))
        have hk3 : KB B V.heap.size NmT B' Z3 := KB.of hz03 _ _ _
        have hR3 := hRB.1.below (hz03.mono (by omega))
        have hRL3 := hRB.below (hz03.mono (by omega))
        clear n1 n2 ma Hv hE2 hF2 hB2
        cases hao : (flatExs [e]).all (askOk kn)
        · have hfa : hold f.params ((pre ++ [(⟨[.int .i64 3, .slice sA name.length sc, .int .i64 xk, .int .i64 xn, .slice xA xa xc, .slice xA' xa' xc', .int .i64 yk, .int .i64 yn, .slice yA ya yc, .slice yA' ya' yc', .slice A1 body.length c1, .slice A2 els.length c2], .mk 3 name e ff body els⟩ : SV)]).map SV.s) = false := by
            rw [Hrd.out]
            have e9 : asksL 3 e ff = [e] := rfl
            rw [e9, hao]; rfl
          have Hfa := Lib.hid hfa
          clear hfa hao
          have r0 := hKR3.cell_of 0 rfl
          have z0 := hKR3.frozen 0
          have hKR4 := hKR3.set_ 0 (.bool false)
          gi_wp2
          exact ⟨hk3.set_ (p := ⟨w.heap.size + 1, 0, none⟩) (by simp; omega) (.inl (by simp; omega)) _, rfl, Hfa.out, hKR4, hw3.setCell (p := ⟨w.heap.size + 1, 0, none⟩) (by simp) _⟩
        · have htr : hold f.params ((pre ++ [(⟨[.int .i64 3, .slice sA name.length sc, .int .i64 xk, .int .i64 xn, .slice xA xa xc, .slice xA' xa' xc', .int .i64 yk, .int .i64 yn, .slice yA ya yc, .slice yA' ya' yc', .slice A1 body.length c1, .slice A2 els.length c2], .mk 3 name e ff body els⟩ : SV)]).map SV.s) = true := by
            rw [Hrd.out]
            have e9 : asksL 3 e ff = [e] := rfl
            rw [e9, hao]; rfl
          have Htr := Lib.hid htr
          have NC := Lib.hid (NmCell.mk_ hcell3 hrow3)
          have ta := ta_let_no 131 (by decide)
          have tb := ta_set_no 131 (by decide)
          unfold zLet at ta tb
          clear htr hao hcell hcell3 hrow hrow3
          gi_wp2
          refine ⟨hk3, ?_, Htr.out, hKR3, hw3⟩
          rw [Hkn.out.2, ← List.append_assoc, Hkn.out.1]
          exact (List.append_nil kn).symm ▸ NC.out
    · -- kind 4
      have ma := @m_asks4
      gi_wp2_with fail
      refine ⟨trivial, fun hd => by simp [Fence.wide] at hd, ?_⟩
      gi_at_call 80
      refine (CallsIn.inRound l' (callsIn_wide.2 (statementOf_c 4 sA A1 A2 xA xA' yA yA' name.length sc body.length c1 els.length c2 xa xc xa' xc' ya yc ya' yc' xk xn yk yn B' (by omega) (by omega)))).mono ?_
      rintro r Z1 ⟨rfl, hz1⟩
      simp only [ifVal4]
      have hs1 := hz1.size
      have n1 := (hcell.below hz1 hcell.lt).cell_of 0 rfl
      clear q0 q1 q2 q3 q4 q5 q6 q7 q8 q9 q10 q11 KS
      gi_wp2_with fail
      gi_region_with (first
        | (refine ⟨trivial, fun hd => by simp [Fence.wide] at hd, ?_⟩; gi_at_call 139; refine (CallsIn.inRound l' (callsIn_wide.2 (havingAsks_c _ _ _ _ _ _ _ _ _))).mono ?_; rintro r Z2 ⟨g2, rfl, hg2, hB2, hz2⟩; have hz2' : Below Z1.heap.size Z1 Z2 := ⟨hz2.os, hz2.tape, hz2.output, hz2.size, hz2.block⟩; have hz12 := hz1.trans (hz2'.mono hs1); have n2 := (hcell.below hz12 hcell.lt).cell_of 0 rfl; have hE2 := heB.below (hz12.mono (by omega)); have hF2 := hfB.below (hz12.mono (by omega)); have hw2 := hz12.size; have Hv := Lib.hid (asksFor_c [e] kn (some ⟨g2, 0, none⟩) Ak' 1 ck' 0 Z2.heap.size 0 Z2.heap.size Z2 (Nat.le_refl _) (Nat.le_refl _) (by obtain ⟨A5, c5, e5, _, _, h5⟩ := (hrow.below hz12).bsl; injection e5 with e5 _ _; subst e5; exact h5) (exl_one hB2 (by omega) hE2)))
        | (refine ⟨trivial, fun hd => by simp [Fence.wide] at hd, ?_⟩; gi_at_call 84; refine (CallsIn.inRound l' (callsIn_wide.2 Hv.out)).mono ?_; rintro r Z3 ⟨rfl, hz3⟩))
      all_goals
        have hz03 := hz12.trans (hz3.mono hz12.size)
        have hs3 := hz03.size
        have hcell3 := hcell.below hz03 hcell.lt
        have hrow3 := hrow.below hz03
        have hKR3 := hKRB.below hz03 (by omega)
        have hw3 := hwB.trans (hz03.mono (by omega))
        have hk3 : KB B V.heap.size NmT B' Z3 := KB.of hz03 _ _ _
        have hR3 := hRB.1.below (hz03.mono (by omega))
        have hRL3 := hRB.below (hz03.mono (by omega))
        clear n1 n2 ma Hv hE2 hF2 hB2
        cases hao : (flatExs [e]).all (askOk kn)
        · have hfa : hold f.params ((pre ++ [(⟨[.int .i64 4, .slice sA name.length sc, .int .i64 xk, .int .i64 xn, .slice xA xa xc, .slice xA' xa' xc', .int .i64 yk, .int .i64 yn, .slice yA ya yc, .slice yA' ya' yc', .slice A1 body.length c1, .slice A2 els.length c2], .mk 4 name e ff body els⟩ : SV)]).map SV.s) = false := by
            rw [Hrd.out]
            have e9 : asksL 4 e ff = [e] := rfl
            rw [e9, hao]; rfl
          have Hfa := Lib.hid hfa
          clear hfa hao
          have r0 := hKR3.cell_of 0 rfl
          have z0 := hKR3.frozen 0
          have hKR4 := hKR3.set_ 0 (.bool false)
          gi_wp2
          exact ⟨hk3.set_ (p := ⟨w.heap.size + 1, 0, none⟩) (by simp; omega) (.inl (by simp; omega)) _, rfl, Hfa.out, hKR4, hw3.setCell (p := ⟨w.heap.size + 1, 0, none⟩) (by simp) _⟩
        · have htr : hold f.params ((pre ++ [(⟨[.int .i64 4, .slice sA name.length sc, .int .i64 xk, .int .i64 xn, .slice xA xa xc, .slice xA' xa' xc', .int .i64 yk, .int .i64 yn, .slice yA ya yc, .slice yA' ya' yc', .slice A1 body.length c1, .slice A2 els.length c2], .mk 4 name e ff body els⟩ : SV)]).map SV.s) = true := by
            rw [Hrd.out]
            have e9 : asksL 4 e ff = [e] := rfl
            rw [e9, hao]; rfl
          have Htr := Lib.hid htr
          have NC := Lib.hid (NmCell.mk_ hcell3 hrow3)
          have ta := ta_let_no 132 (by decide)
          have tb := ta_set_no 132 (by decide)
          unfold zLet at ta tb
          clear htr hao hcell hcell3 hrow hrow3
          gi_wp2
          refine ⟨hk3, ?_, Htr.out, hKR3, hw3⟩
          rw [Hkn.out.2, ← List.append_assoc, Hkn.out.1]
          exact (List.append_nil kn).symm ▸ NC.out
    · -- kind 5
      have ma := @m_asks5
      gi_wp2_with fail
      refine ⟨trivial, fun hd => by simp [Fence.wide] at hd, ?_⟩
      gi_at_call 80
      refine (CallsIn.inRound l' (callsIn_wide.2 (statementOf_c 5 sA A1 A2 xA xA' yA yA' name.length sc body.length c1 els.length c2 xa xc xa' xc' ya yc ya' yc' xk xn yk yn B' (by omega) (by omega)))).mono ?_
      rintro r Z1 ⟨rfl, hz1⟩
      simp only [ifVal5]
      have hs1 := hz1.size
      have n1 := (hcell.below hz1 hcell.lt).cell_of 0 rfl
      clear q0 q1 q2 q3 q4 q5 q6 q7 q8 q9 q10 q11 KS
      gi_wp2_with fail
      gi_region_with (first
        | (refine ⟨trivial, fun hd => by simp [Fence.wide] at hd, ?_⟩; gi_at_call 139; refine (CallsIn.inRound l' (callsIn_wide.2 (havingAsks_c _ _ _ _ _ _ _ _ _))).mono ?_; rintro r Z2 ⟨g2, rfl, hg2, hB2, hz2⟩; have hz2' : Below Z1.heap.size Z1 Z2 := ⟨hz2.os, hz2.tape, hz2.output, hz2.size, hz2.block⟩; have hz12 := hz1.trans (hz2'.mono hs1); have n2 := (hcell.below hz12 hcell.lt).cell_of 0 rfl; have hE2 := heB.below (hz12.mono (by omega)); have hF2 := hfB.below (hz12.mono (by omega)); have hw2 := hz12.size; have Hv := Lib.hid (asksFor_c [e] kn (some ⟨g2, 0, none⟩) Ak' 1 ck' 0 Z2.heap.size 0 Z2.heap.size Z2 (Nat.le_refl _) (Nat.le_refl _) (by obtain ⟨A5, c5, e5, _, _, h5⟩ := (hrow.below hz12).bsl; injection e5 with e5 _ _; subst e5; exact h5) (exl_one hB2 (by omega) hE2)))
        | (refine ⟨trivial, fun hd => by simp [Fence.wide] at hd, ?_⟩; gi_at_call 84; refine (CallsIn.inRound l' (callsIn_wide.2 Hv.out)).mono ?_; rintro r Z3 ⟨rfl, hz3⟩))
      all_goals
        have hz03 := hz12.trans (hz3.mono hz12.size)
        have hs3 := hz03.size
        have hcell3 := hcell.below hz03 hcell.lt
        have hrow3 := hrow.below hz03
        have hKR3 := hKRB.below hz03 (by omega)
        have hw3 := hwB.trans (hz03.mono (by omega))
        have hk3 : KB B V.heap.size NmT B' Z3 := KB.of hz03 _ _ _
        have hR3 := hRB.1.below (hz03.mono (by omega))
        have hRL3 := hRB.below (hz03.mono (by omega))
        clear n1 n2 ma Hv hE2 hF2 hB2
        cases hao : (flatExs [e]).all (askOk kn)
        · have hfa : hold f.params ((pre ++ [(⟨[.int .i64 5, .slice sA name.length sc, .int .i64 xk, .int .i64 xn, .slice xA xa xc, .slice xA' xa' xc', .int .i64 yk, .int .i64 yn, .slice yA ya yc, .slice yA' ya' yc', .slice A1 body.length c1, .slice A2 els.length c2], .mk 5 name e ff body els⟩ : SV)]).map SV.s) = false := by
            rw [Hrd.out]
            have e9 : asksL 5 e ff = [e] := rfl
            rw [e9, hao]; rfl
          have Hfa := Lib.hid hfa
          clear hfa hao
          have r0 := hKR3.cell_of 0 rfl
          have z0 := hKR3.frozen 0
          have hKR4 := hKR3.set_ 0 (.bool false)
          gi_wp2
          exact ⟨hk3.set_ (p := ⟨w.heap.size + 1, 0, none⟩) (by simp; omega) (.inl (by simp; omega)) _, rfl, Hfa.out, hKR4, hw3.setCell (p := ⟨w.heap.size + 1, 0, none⟩) (by simp) _⟩
        · have htr : hold f.params ((pre ++ [(⟨[.int .i64 5, .slice sA name.length sc, .int .i64 xk, .int .i64 xn, .slice xA xa xc, .slice xA' xa' xc', .int .i64 yk, .int .i64 yn, .slice yA ya yc, .slice yA' ya' yc', .slice A1 body.length c1, .slice A2 els.length c2], .mk 5 name e ff body els⟩ : SV)]).map SV.s) = true := by
            rw [Hrd.out]
            have e9 : asksL 5 e ff = [e] := rfl
            rw [e9, hao]; rfl
          have Htr := Lib.hid htr
          have NC := Lib.hid (NmCell.mk_ hcell3 hrow3)
          have ta := ta_let_no 134 (by decide)
          have tb := ta_set_no 134 (by decide)
          unfold zLet at ta tb
          clear htr hao hcell hcell3 hrow hrow3
          gi_wp2
          refine ⟨hk3, ?_, Htr.out, hKR3, hw3⟩
          rw [Hkn.out.2, ← List.append_assoc, Hkn.out.1]
          exact (List.append_nil kn).symm ▸ NC.out
    · -- kind 6
      have ma := @m_asks6
      gi_wp2_with fail
      refine ⟨trivial, fun hd => by simp [Fence.wide] at hd, ?_⟩
      gi_at_call 80
      refine (CallsIn.inRound l' (callsIn_wide.2 (statementOf_c 6 sA A1 A2 xA xA' yA yA' name.length sc body.length c1 els.length c2 xa xc xa' xc' ya yc ya' yc' xk xn yk yn B' (by omega) (by omega)))).mono ?_
      rintro r Z1 ⟨rfl, hz1⟩
      simp only [ifVal6]
      have hs1 := hz1.size
      have n1 := (hcell.below hz1 hcell.lt).cell_of 0 rfl
      clear q0 q1 q2 q3 q4 q5 q6 q7 q8 q9 q10 q11 KS
      gi_wp2_with fail
      gi_region_with (first
        | (refine ⟨trivial, fun hd => by simp [Fence.wide] at hd, ?_⟩; gi_at_call 139; refine (CallsIn.inRound l' (callsIn_wide.2 (havingAsks_c _ _ _ _ _ _ _ _ _))).mono ?_; rintro r Z2 ⟨g2, rfl, hg2, hB2, hz2⟩; have hz2' : Below Z1.heap.size Z1 Z2 := ⟨hz2.os, hz2.tape, hz2.output, hz2.size, hz2.block⟩; have hz12 := hz1.trans (hz2'.mono hs1); have n2 := (hcell.below hz12 hcell.lt).cell_of 0 rfl; have hE2 := heB.below (hz12.mono (by omega)); have hF2 := hfB.below (hz12.mono (by omega)); have hw2 := hz12.size; have Hv := Lib.hid (asksFor_c [e] kn (some ⟨g2, 0, none⟩) Ak' 1 ck' 0 Z2.heap.size 0 Z2.heap.size Z2 (Nat.le_refl _) (Nat.le_refl _) (by obtain ⟨A5, c5, e5, _, _, h5⟩ := (hrow.below hz12).bsl; injection e5 with e5 _ _; subst e5; exact h5) (exl_one hB2 (by omega) hE2)))
        | (refine ⟨trivial, fun hd => by simp [Fence.wide] at hd, ?_⟩; gi_at_call 84; refine (CallsIn.inRound l' (callsIn_wide.2 Hv.out)).mono ?_; rintro r Z3 ⟨rfl, hz3⟩))
      all_goals
        have hz03 := hz12.trans (hz3.mono hz12.size)
        have hs3 := hz03.size
        have hcell3 := hcell.below hz03 hcell.lt
        have hrow3 := hrow.below hz03
        have hKR3 := hKRB.below hz03 (by omega)
        have hw3 := hwB.trans (hz03.mono (by omega))
        have hk3 : KB B V.heap.size NmT B' Z3 := KB.of hz03 _ _ _
        have hR3 := hRB.1.below (hz03.mono (by omega))
        have hRL3 := hRB.below (hz03.mono (by omega))
        clear n1 n2 ma Hv hE2 hF2 hB2
        cases hao : (flatExs [e]).all (askOk kn)
        · have hfa : hold f.params ((pre ++ [(⟨[.int .i64 6, .slice sA name.length sc, .int .i64 xk, .int .i64 xn, .slice xA xa xc, .slice xA' xa' xc', .int .i64 yk, .int .i64 yn, .slice yA ya yc, .slice yA' ya' yc', .slice A1 body.length c1, .slice A2 els.length c2], .mk 6 name e ff body els⟩ : SV)]).map SV.s) = false := by
            rw [Hrd.out]
            have e9 : asksL 6 e ff = [e] := rfl
            rw [e9, hao]; rfl
          have Hfa := Lib.hid hfa
          clear hfa hao
          have r0 := hKR3.cell_of 0 rfl
          have z0 := hKR3.frozen 0
          have hKR4 := hKR3.set_ 0 (.bool false)
          gi_wp2
          exact ⟨hk3.set_ (p := ⟨w.heap.size + 1, 0, none⟩) (by simp; omega) (.inl (by simp; omega)) _, rfl, Hfa.out, hKR4, hw3.setCell (p := ⟨w.heap.size + 1, 0, none⟩) (by simp) _⟩
        · have htr : hold f.params ((pre ++ [(⟨[.int .i64 6, .slice sA name.length sc, .int .i64 xk, .int .i64 xn, .slice xA xa xc, .slice xA' xa' xc', .int .i64 yk, .int .i64 yn, .slice yA ya yc, .slice yA' ya' yc', .slice A1 body.length c1, .slice A2 els.length c2], .mk 6 name e ff body els⟩ : SV)]).map SV.s) = true := by
            rw [Hrd.out]
            have e9 : asksL 6 e ff = [e] := rfl
            rw [e9, hao]; rfl
          have Htr := Lib.hid htr
          have NC := Lib.hid (NmCell.mk_ hcell3 hrow3)
          have ta := ta_let_no 136 (by decide)
          have tb := ta_set_no 136 (by decide)
          unfold zLet at ta tb
          clear htr hao hcell hcell3 hrow hrow3
          gi_wp2
          refine ⟨hk3, ?_, Htr.out, hKR3, hw3⟩
          rw [Hkn.out.2, ← List.append_assoc, Hkn.out.1]
          exact (List.append_nil kn).symm ▸ NC.out
    · -- kind 7
      have ma := @m_asks7
      gi_wp2_with fail
      refine ⟨trivial, fun hd => by simp [Fence.wide] at hd, ?_⟩
      gi_at_call 80
      refine (CallsIn.inRound l' (callsIn_wide.2 (statementOf_c 7 sA A1 A2 xA xA' yA yA' name.length sc body.length c1 els.length c2 xa xc xa' xc' ya yc ya' yc' xk xn yk yn B' (by omega) (by omega)))).mono ?_
      rintro r Z1 ⟨rfl, hz1⟩
      simp only [ifVal7]
      have hs1 := hz1.size
      have n1 := (hcell.below hz1 hcell.lt).cell_of 0 rfl
      clear q0 q1 q2 q3 q4 q5 q6 q7 q8 q9 q10 q11 KS
      gi_wp2_with fail
      gi_region_with (first
        | (refine ⟨trivial, fun hd => by simp [Fence.wide] at hd, ?_⟩; gi_at_call 139; refine (CallsIn.inRound l' (callsIn_wide.2 (havingAsks_c _ _ _ _ _ _ _ _ _))).mono ?_; rintro r Z2 ⟨g2, rfl, hg2, hB2, hz2⟩; have hz2' : Below Z1.heap.size Z1 Z2 := ⟨hz2.os, hz2.tape, hz2.output, hz2.size, hz2.block⟩; have hz12 := hz1.trans (hz2'.mono hs1); have n2 := (hcell.below hz12 hcell.lt).cell_of 0 rfl; have hE2 := heB.below (hz12.mono (by omega)); have hF2 := hfB.below (hz12.mono (by omega)); have hw2 := hz12.size; have Hv := Lib.hid (asksFor_c [e] kn (some ⟨g2, 0, none⟩) Ak' 1 ck' 0 Z2.heap.size 0 Z2.heap.size Z2 (Nat.le_refl _) (Nat.le_refl _) (by obtain ⟨A5, c5, e5, _, _, h5⟩ := (hrow.below hz12).bsl; injection e5 with e5 _ _; subst e5; exact h5) (exl_one hB2 (by omega) hE2)))
        | (refine ⟨trivial, fun hd => by simp [Fence.wide] at hd, ?_⟩; gi_at_call 84; refine (CallsIn.inRound l' (callsIn_wide.2 Hv.out)).mono ?_; rintro r Z3 ⟨rfl, hz3⟩))
      all_goals
        have hz03 := hz12.trans (hz3.mono hz12.size)
        have hs3 := hz03.size
        have hcell3 := hcell.below hz03 hcell.lt
        have hrow3 := hrow.below hz03
        have hKR3 := hKRB.below hz03 (by omega)
        have hw3 := hwB.trans (hz03.mono (by omega))
        have hk3 : KB B V.heap.size NmT B' Z3 := KB.of hz03 _ _ _
        have hR3 := hRB.1.below (hz03.mono (by omega))
        have hRL3 := hRB.below (hz03.mono (by omega))
        clear n1 n2 ma Hv hE2 hF2 hB2
        cases hao : (flatExs [e]).all (askOk kn)
        · have hfa : hold f.params ((pre ++ [(⟨[.int .i64 7, .slice sA name.length sc, .int .i64 xk, .int .i64 xn, .slice xA xa xc, .slice xA' xa' xc', .int .i64 yk, .int .i64 yn, .slice yA ya yc, .slice yA' ya' yc', .slice A1 body.length c1, .slice A2 els.length c2], .mk 7 name e ff body els⟩ : SV)]).map SV.s) = false := by
            rw [Hrd.out]
            have e9 : asksL 7 e ff = [e] := rfl
            rw [e9, hao]; rfl
          have Hfa := Lib.hid hfa
          clear hfa hao
          have r0 := hKR3.cell_of 0 rfl
          have z0 := hKR3.frozen 0
          have hKR4 := hKR3.set_ 0 (.bool false)
          gi_wp2
          exact ⟨hk3.set_ (p := ⟨w.heap.size + 1, 0, none⟩) (by simp; omega) (.inl (by simp; omega)) _, rfl, Hfa.out, hKR4, hw3.setCell (p := ⟨w.heap.size + 1, 0, none⟩) (by simp) _⟩
        · have htr : hold f.params ((pre ++ [(⟨[.int .i64 7, .slice sA name.length sc, .int .i64 xk, .int .i64 xn, .slice xA xa xc, .slice xA' xa' xc', .int .i64 yk, .int .i64 yn, .slice yA ya yc, .slice yA' ya' yc', .slice A1 body.length c1, .slice A2 els.length c2], .mk 7 name e ff body els⟩ : SV)]).map SV.s) = true := by
            rw [Hrd.out]
            have e9 : asksL 7 e ff = [e] := rfl
            rw [e9, hao]; rfl
          have Htr := Lib.hid htr
          have NC := Lib.hid (NmCell.mk_ hcell3 hrow3)
          have ta := ta_let_no 137 (by decide)
          have tb := ta_set_no 137 (by decide)
          unfold zLet at ta tb
          clear htr hao hcell hcell3 hrow hrow3
          gi_wp2
          refine ⟨hk3, ?_, Htr.out, hKR3, hw3⟩
          rw [Hkn.out.2, ← List.append_assoc, Hkn.out.1]
          exact (List.append_nil kn).symm ▸ NC.out
end Go.Proofs.Ytglalpoalinieaa
