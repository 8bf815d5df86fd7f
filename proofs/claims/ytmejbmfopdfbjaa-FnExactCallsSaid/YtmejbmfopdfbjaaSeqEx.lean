/-
  The program's iterator over expressions.
-/
import Derived.Test.YtmejbmfopdfbjaaSeqSt
namespace Go.Proofs.Ytmejbmfopdfbjaa
open Go.RowKit Go.Shelf
set_option linter.unusedVariables false
attribute [local go_sem] Oper.semAt_some

/-- the expressions of statements -/
def stEx : St → List Ex
  | .mk k _ e f _ _ => flatExs (asksL k e f)
def stsEx (l : List St) : List Ex := l.flatMap stEx
def fnEx (f : Fn) : List Ex := stsEx (flatSts f.body)
theorem stsEx_snoc (l : List St) (s : St) : stsEx (l ++ [s]) = stsEx l ++ stEx s := by simp [stsEx]
theorem stsEx_pre {l l' : List St} (h : l <+: l') : stsEx l <+: stsEx l' := by
  obtain ⟨t, rfl⟩ := h
  unfold stsEx
  rw [List.flatMap_append]
  exact List.prefix_append _ _

/-- a block that holds a function's value -/
def FBox (W : World) (Y l : Nat) : Prop := Blk W Y 104 #[.func (.yield l) #[] #[]]

theorem exrow_one {w : World} {g' n b : Nat} {T : TypeId → Prop} {t : TypeId} {e0 e1 e2 e3 : Value} {e : Ex} (hb : Blk w g' t #[e0, e1, e2, e3]) (hg : b ≤ g') (ht : ¬ T t) (h : ExV w 0 n e0 e1 e2 e3 e) : ExRow w n b T (some ⟨g', 0, none⟩) [e] := by
  refine ⟨by unfold maxLen; simp, fun _ => ⟨_, rfl, .inr ⟨hg, no_tag hb ht⟩, hb.lt, fun k hk => ?_⟩⟩
  obtain rfl : k = 0 := by simpa using hk
  refine ⟨e0, e1, e2, e3, ?_, h⟩
  rw [show (Addr.add ⟨g', 0, none⟩ (0 * 4)) = ⟨g', 0, none⟩ from rfl]
  exact ⟨hb.cell_of 0 rfl, hb.cell_of 1 rfl, hb.cell_of 2 rfl, hb.cell_of 3 rfl⟩
theorem exrow_two {w : World} {g' n b : Nat} {T : TypeId → Prop} {t : TypeId} {e0 e1 e2 e3 f0 f1 f2 f3 : Value} {e f : Ex} (hb : Blk w g' t #[e0, e1, e2, e3, f0, f1, f2, f3]) (hg : b ≤ g') (ht : ¬ T t) (h : ExV w 0 n e0 e1 e2 e3 e) (h' : ExV w 0 n f0 f1 f2 f3 f) : ExRow w n b T (some ⟨g', 0, none⟩) [e, f] := by
  refine ⟨by unfold maxLen; simp, fun _ => ⟨_, rfl, .inr ⟨hg, no_tag hb ht⟩, hb.lt, fun k hk => ?_⟩⟩
  have hk2 : k = 0 ∨ k = 1 := by simp at hk; omega
  rcases hk2 with rfl | rfl
  · refine ⟨e0, e1, e2, e3, ?_, h⟩
    rw [show (Addr.add ⟨g', 0, none⟩ (0 * 4)) = ⟨g', 0, none⟩ from rfl]
    exact ⟨hb.cell_of 0 rfl, hb.cell_of 1 rfl, hb.cell_of 2 rfl, hb.cell_of 3 rfl⟩
  · refine ⟨f0, f1, f2, f3, ?_, h'⟩
    rw [show (Addr.add ⟨g', 0, none⟩ (1 * 4)) = ⟨g', 4, none⟩ from rfl]
    exact ⟨hb.cell_of 4 rfl, hb.cell_of 5 rfl, hb.cell_of 6 rfl, hb.cell_of 7 rfl⟩

set_option maxRecDepth 100000 in
set_option maxHeartbeats 8000000 in
theorem expressionsIn1_seq (ls : List St) (d n b Bl : Nat) (T : TypeId → Prop) (hT : NoT T) (A : Option Addr) (cp : Nat) (w : World) (hG : stsGood ls d = true) (hn : n ≤ w.heap.size) (hBl : Bl < w.heap.size) (hc : w.cell? ⟨Bl, 0, none⟩ = some (.slice A ls.length cp)) (h : StL w 0 n A ls) :
    SeqG Try.prog 58 #[.pointer (some ⟨Bl, 0, none⟩)] evEnc n b T (evGood n) (fun xs => xs.map EV.e = stsEx (flatSts ls)) (fun xs => xs.map EV.e <+: stsEx (flatSts ls)) w := by
  intro l m J Jx W hW hb hJ hJx hY h0
  have hcW : W.cell? ⟨Bl, 0, none⟩ = some (.slice A ls.length cp) := (hW.cell (p := ⟨Bl, 0, none⟩) hBl).trans hc
  have hcW1 : ∀ o, (W.alloc o).cell? ⟨Bl, 0, none⟩ = some (.slice A ls.length cp) := fun o => (World.cell?_alloc_lt W o ⟨Bl, 0, none⟩ (Nat.lt_of_lt_of_le hBl hW.size)).trans hcW
  have hws := hW.size
  have hstW : StL W 0 n A ls := h.below (hW.mono hn)
  refine callsIn_of_wp_marks Try.func58 rfl trivial ?_ rfl
  simp only [Try.ntmps58, List.size_toArray, List.length_cons, List.length_nil, Nat.reduceAdd, Nat.reduceSub, Array.replicate_succ, Array.replicate_zero, List.push_toArray, List.append_toArray, List.nil_append, List.cons_append]
  gi_wp2_with fail
  refine ⟨trivial, fun hd => by simp [Fence.wide] at hd, ?_⟩
  gi_at_call 59
  refine (callsIn_wide.2 (statementsIn_c A ls.length cp _)).mono ?_
  rintro r W2 ⟨rfl, rfl⟩
  gi_wp2_with fail
  obtain ⟨V, hV⟩ : ∃ V, (W.alloc (.cells #[.func (.yield l) #[] #[]] 104)).alloc (.cells #[.slice A ls.length cp] 29) = V := ⟨_, rfl⟩
  have hVs : V.heap.size = W.heap.size + 2 := by rw [← hV]; simp
  have hVb : Below W.heap.size W V := by rw [← hV]; exact ((Below.refl _ W).alloc (Nat.le_refl _) _).alloc (by simp) _
  have hVf : FBox V W.heap.size l := by rw [← hV]; exact (Blk.new W _ _).alloc _
  have hVc : V.cell? ⟨W.heap.size + 1, 0, none⟩ = some (.slice A ls.length cp) := by
    have := (Blk.new (W.alloc (.cells #[.func (.yield l) #[] #[]] 104)) 29 #[.slice A ls.length cp]).cell_of 0 (v := .slice A ls.length cp) rfl
    rw [World.size_alloc] at this
    rw [← hV]; exact this
  rw [hV]
  have HY := Lib.hid hY
  have HJ := Lib.hid hJ
  clear hY hcW hcW1 hV
  refine range_good (gf := 89) (lb := #[.pointer (some ⟨W.heap.size + 1, 0, none⟩)]) rfl (enters_of Try.func89 (by kernel_rfl) rfl) (n := n) (by omega)
    (statementsIn1_seq ls d n (V.heap.size + 2) (W.heap.size + 1) T hT A cp V hG (by omega) (by omega) hVc (hstW.below (hVb.mono (by omega)))) (fun _ => rfl)
    (fun pre Z => (∃ xs : List EV, xs.map EV.e = stsEx (pre.map SV.s) ∧ J xs Z) ∧ FBox Z W.heap.size l)
    (fun c pre Z => c = .ret ∧ ∃ xs : List EV, xs.map EV.e <+: stsEx (pre.map SV.s) ∧ Jx xs Z)
    (fun x A B hx hb => ⟨by obtain ⟨⟨xs, e1, e2⟩, _⟩ := hx; exact ⟨xs, e1, hJ _ _ _ e2 (hb.mono (by omega))⟩, hx.2.below hb.below (by omega)⟩)
    (fun c x A B hx hb => by obtain ⟨e0, xs, e1, e2⟩ := hx; exact ⟨e0, xs, e1, hJx _ _ _ e2 (hb.mono (by omega))⟩)
    ⟨⟨[], by simp [stsEx], hJ _ _ _ h0 (Ext.of hVb (Nat.le_refl _))⟩, hVf⟩ ?round ?done ?stop
  case done =>
    rintro D xs Z hD hS ⟨⟨ys, e1, e2⟩, _⟩ hK
    gi_wp2
    refine ⟨by simp, .inl ⟨_, _, rfl, run_takeDeferred hK, ?_⟩⟩
    exact ⟨_, results_none rfl _ _ _, ⟨_, rfl⟩, .inl ⟨ys, by rw [e1, hS], HJ.out _ _ _ e2 (Ext.put_def (by omega) hK)⟩⟩
  case stop =>
    rintro D c pre Z hD hS ⟨rfl, ys, e1, e2⟩ hK
    gi_wp2
    refine ⟨by simp, .inl ⟨_, _, rfl, run_takeDeferred hK, ?_⟩⟩
    exact ⟨_, results_none rfl _ _ _, ⟨_, rfl⟩, .inr ⟨ys, e1.trans (stsEx_pre hS), hJx _ _ _ e2 (Ext.put_def (by omega) hK)⟩⟩
  case round =>
    rintro l' m' pre x Z K hZs ⟨⟨xs, exs, hj⟩, hfb⟩ hsp ⟨hst, dd, hgd⟩ hcont
    obtain ⟨vs, st⟩ := x
    obtain ⟨kk, name, e, f, body, els⟩ := st
    rw [stGood_mk] at hgd
    simp only [Bool.and_eq_true, decide_eq_true_eq] at hgd
    have hkk := stOk1_kind hgd.1.1.1.1.2
    obtain ⟨sA, sc, e0, e1, e2, e3, f0, f1, f2, f3, A1, c1, A2, c2, rfl, hR, hmn, he, hf, hb1, hb2⟩ := hst.open_
    obtain ⟨xk, xn, xA, xa, xc, xA', xa', xc', rfl, rfl, rfl, rfl⟩ := he.shape
    obtain ⟨yk, yn, yA, ya, yc, yA', ya', yc', rfl, rfl, rfl, rfl⟩ := hf.shape
    dsimp only [svEnc]
    gi_wp2
    refine hcont _ _ ((Below.refl _ _).alloc (Nat.le_refl _) _) ?_
    intro B hAB hsz hoth
    have hZB : Below V.heap.size Z B := ((Below.refl V.heap.size Z).alloc (by omega) _).trans hAB.below
    have hZBx := (Ext.of (s := V.heap.size) (T := T) ((Below.refl _ Z).alloc (Nat.le_refl _) _) (by omega)).trans hAB
    have KS : Blk B Z.heap.size 98 #[.int .i64 kk, .slice sA name.length sc, .int .i64 xk, .int .i64 xn, .slice xA xa xc, .slice xA' xa' xc', .int .i64 yk, .int .i64 yn, .slice yA ya yc, .slice yA' ya' yc', .slice A1 body.length c1, .slice A2 els.length c2] := (hoth Z.heap.size (by omega)).trans (Blk.new Z _ _)
    have FB := hfb.below hZB (by omega)
    have hjB := HJ.out _ _ _ hj (hZBx.mono (by omega))
    have heB := he.below (hZB.mono (by omega))
    have hfB := hf.below (hZB.mono (by omega))
    have hBs : V.heap.size + 2 ≤ B.heap.size := by have := hZB.size; omega
    have qy := FB.cell_of 0 rfl
    have q0 := KS.cell_of 0 rfl
    have q1 := KS.cell_of 1 rfl
    have q2 := KS.cell_of 2 rfl
    have q3 := KS.cell_of 3 rfl
    have q4 := KS.cell_of 4 rfl
    have q5 := KS.cell_of 5 rfl
    have q6 := KS.cell_of 6 rfl
    have q7 := KS.cell_of 7 rfl
    have q8 := KS.cell_of 8 rfl
    have q9 := KS.cell_of 9 rfl
    have q10 := KS.cell_of 10 rfl
    have q11 := KS.cell_of 11 rfl
    have hlFB := FB.lt
    have hse : stEx (.mk kk name e f body els) = flatExs (asksL kk e f) := rfl
    have hspB : xs.map EV.e ++ flatExs (asksL kk e f) <+: stsEx (flatSts ls) := by
      have h1 := stsEx_pre hsp
      rw [List.map_append, List.map_cons, List.map_nil, stsEx_snoc, hse, ← exs] at h1
      exact h1
    have HspB := Lib.hid hspB
    have Hse := Lib.hid hse
    have Hexs := Lib.hid exs
    have hks : kk = 0 ∨ kk = 1 ∨ kk = 2 ∨ kk = 3 ∨ kk = 4 ∨ kk = 5 ∨ kk = 6 ∨ kk = 7 := by omega
    clear hspB hsp hcont hst hgd hR he hf hb1 hb2 hoth hj hfb hkk hse exs hAB hsz hZBx
    rcases hks with rfl | rfl | rfl | rfl | rfl | rfl | rfl | rfl
    · -- kind 0
      have ma := @m_asks0
      have hso := fun w => statementOf_c 0 sA A1 A2 xA xA' yA yA' name.length sc body.length c1 els.length c2 xa xc xa' xc' ya yc ya' yc' xk xn yk yn w (by omega) (by omega)
      have hso' : ∀ w, Calls Try.prog 61 #[.agg #[.int .i64 0, .slice sA name.length sc, .int .i64 xk, .int .i64 xn, .slice xA xa xc, .slice xA' xa' xc', .int .i64 yk, .int .i64 yn, .slice yA ya yc, .slice yA' ya' yc', .slice A1 body.length c1, .slice A2 els.length c2]] w fun r w' => r = .returned (.iface 136 (.agg #[.int .i64 xk, .int .i64 xn, .slice xA xa xc, .slice xA' xa' xc', .slice sA name.length sc])) ∧ Below w.heap.size w w' := hso
      have Hso := Lib.hid hso'
      clear hso hso'
      gi_wp2_with fail
      gi_region_with (first
        | (refine ⟨trivial, fun hd => by simp [Fence.wide] at hd, ?_⟩; gi_at_call 61; refine (CallsIn.inRound l' (callsIn_wide.2 (Hso.out _))).mono ?_; rintro r Z1 ⟨rfl, hz1⟩; have hz1' : Below B.heap.size B Z1 := ⟨hz1.os, hz1.tape, hz1.output, hz1.size, hz1.block⟩; have qy1 := (FB.below hz1' hlFB).cell_of 0 rfl)
        | (refine ⟨trivial, fun hd => by simp [Fence.wide] at hd, ?_⟩; gi_at_call 139; refine (CallsIn.inRound l' (callsIn_wide.2 (havingAsks_c _ _ _ _ _ _ _ _ _))).mono ?_; rintro r Z2 ⟨g2, rfl, hg2, hB2, hz2⟩; have hz12 := hz1'.trans (hz2.mono hz1'.size); have qy2 := (FB.below hz12 hlFB).cell_of 0 rfl; have hE2 := heB.below (hz12.mono (by omega)); have hF2 := hfB.below (hz12.mono (by omega)); have hw2 := hz12.size; have hw1 := hz1'.size; have Hv := Lib.hid (visEx_c [e] l (m' - 1) n b W.heap.size T (stsEx (flatSts ls)) J Jx hT HJ.out HY.out xs (some ⟨g2, 0, none⟩) 1 Z2 (by omega) (by omega) (by omega) (exrow_one hB2 (by omega) hT.1 hE2) HspB.out (HJ.out _ _ _ hjB (Ext.of hz12 (by omega))) |>.mono (R' := fun r C => ∃ bb, r = .returned (.bool bb) ∧ Hid ((bb = true ∧ ∃ zs : List EV, zs.map EV.e = flatExs [e] ∧ J (xs ++ zs) C ∧ KB n b T Z2 C) ∨ (bb = false ∧ ∃ zs : List EV, zs.map EV.e <+: flatExs [e] ∧ Jx (xs ++ zs) C ∧ KB n b T Z2 C))) (fun r C hh => by rcases hh with ⟨e1, e2⟩ | ⟨e1, e2⟩; exact ⟨true, e1, .inl ⟨rfl, e2⟩⟩; exact ⟨false, e1, .inr ⟨rfl, e2⟩⟩)))
        | (refine ⟨trivial, fun hd => by simp [Fence.wide] at hd, ?_⟩; gi_at_call 60; refine (CallsIn.inRound l' Hv.out).mono ?_; rintro r Z3 ⟨bb, rfl, hout⟩))
      all_goals
        have hZ2 : KB n b T B Z2 := KB.of hz12 n b T
        clear q0 q1 q2 q3 q4 q5 q6 q7 q8 q9 q10 q11 qy qy1 qy2 ma
        cases bb
        · obtain ⟨_, zs, hzs, hx3, hk3⟩ : (false = false ∧ ∃ zs : List EV, zs.map EV.e <+: flatExs [e] ∧ Jx (xs ++ zs) Z3 ∧ KB n b T Z2 Z3) := by
            rcases hout.out with ⟨h1, _⟩ | h1
            · cases h1
            · exact h1
          have Hzs := Lib.hid hzs
          clear hzs hout
          gi_wp2
          refine ⟨(KB.of hz12 n _ T).trans (hk3.mono (by omega)), rfl, xs ++ zs, ?_, hx3⟩
          rw [List.map_append, List.map_append, List.map_cons, List.map_nil, stsEx_snoc, Hexs.out, Hse.out]
          exact (List.prefix_append_right_inj _).2 Hzs.out
        · obtain ⟨_, zs, hzs, hJ3, hk3⟩ : (true = true ∧ ∃ zs : List EV, zs.map EV.e = flatExs [e] ∧ J (xs ++ zs) Z3 ∧ KB n b T Z2 Z3) := by
            rcases hout.out with h1 | ⟨h1, _⟩
            · exact h1
            · cases h1
          have Hzs := Lib.hid hzs
          clear hzs hout
          gi_wp2
          refine ⟨(KB.of hz12 n _ T).trans (hk3.mono (by omega)), ⟨xs ++ zs, ?_, hJ3⟩, (FB.below hz12 hlFB).kb hk3 (.inr ⟨hb, hT.2.2.2⟩)⟩
          rw [List.map_append, List.map_append, List.map_cons, List.map_nil, stsEx_snoc, Hexs.out, Hse.out, Hzs.out]
          rfl
    · -- kind 1
      have ma := @m_asks1
      have hso := fun w => statementOf_c 1 sA A1 A2 xA xA' yA yA' name.length sc body.length c1 els.length c2 xa xc xa' xc' ya yc ya' yc' xk xn yk yn w (by omega) (by omega)
      have hso' : ∀ w, Calls Try.prog 61 #[.agg #[.int .i64 1, .slice sA name.length sc, .int .i64 xk, .int .i64 xn, .slice xA xa xc, .slice xA' xa' xc', .int .i64 yk, .int .i64 yn, .slice yA ya yc, .slice yA' ya' yc', .slice A1 body.length c1, .slice A2 els.length c2]] w fun r w' => r = .returned (.iface 137 (.agg #[.int .i64 xk, .int .i64 xn, .slice xA xa xc, .slice xA' xa' xc', .slice sA name.length sc])) ∧ Below w.heap.size w w' := hso
      have Hso := Lib.hid hso'
      clear hso hso'
      gi_wp2_with fail
      gi_region_with (first
        | (refine ⟨trivial, fun hd => by simp [Fence.wide] at hd, ?_⟩; gi_at_call 61; refine (CallsIn.inRound l' (callsIn_wide.2 (Hso.out _))).mono ?_; rintro r Z1 ⟨rfl, hz1⟩; have hz1' : Below B.heap.size B Z1 := ⟨hz1.os, hz1.tape, hz1.output, hz1.size, hz1.block⟩; have qy1 := (FB.below hz1' hlFB).cell_of 0 rfl)
        | (refine ⟨trivial, fun hd => by simp [Fence.wide] at hd, ?_⟩; gi_at_call 139; refine (CallsIn.inRound l' (callsIn_wide.2 (havingAsks_c _ _ _ _ _ _ _ _ _))).mono ?_; rintro r Z2 ⟨g2, rfl, hg2, hB2, hz2⟩; have hz12 := hz1'.trans (hz2.mono hz1'.size); have qy2 := (FB.below hz12 hlFB).cell_of 0 rfl; have hE2 := heB.below (hz12.mono (by omega)); have hF2 := hfB.below (hz12.mono (by omega)); have hw2 := hz12.size; have hw1 := hz1'.size; have Hv := Lib.hid (visEx_c [e] l (m' - 1) n b W.heap.size T (stsEx (flatSts ls)) J Jx hT HJ.out HY.out xs (some ⟨g2, 0, none⟩) 1 Z2 (by omega) (by omega) (by omega) (exrow_one hB2 (by omega) hT.1 hE2) HspB.out (HJ.out _ _ _ hjB (Ext.of hz12 (by omega))) |>.mono (R' := fun r C => ∃ bb, r = .returned (.bool bb) ∧ Hid ((bb = true ∧ ∃ zs : List EV, zs.map EV.e = flatExs [e] ∧ J (xs ++ zs) C ∧ KB n b T Z2 C) ∨ (bb = false ∧ ∃ zs : List EV, zs.map EV.e <+: flatExs [e] ∧ Jx (xs ++ zs) C ∧ KB n b T Z2 C))) (fun r C hh => by rcases hh with ⟨e1, e2⟩ | ⟨e1, e2⟩; exact ⟨true, e1, .inl ⟨rfl, e2⟩⟩; exact ⟨false, e1, .inr ⟨rfl, e2⟩⟩)))
        | (refine ⟨trivial, fun hd => by simp [Fence.wide] at hd, ?_⟩; gi_at_call 60; refine (CallsIn.inRound l' Hv.out).mono ?_; rintro r Z3 ⟨bb, rfl, hout⟩))
      all_goals
        have hZ2 : KB n b T B Z2 := KB.of hz12 n b T
        clear q0 q1 q2 q3 q4 q5 q6 q7 q8 q9 q10 q11 qy qy1 qy2 ma
        cases bb
        · obtain ⟨_, zs, hzs, hx3, hk3⟩ : (false = false ∧ ∃ zs : List EV, zs.map EV.e <+: flatExs [e] ∧ Jx (xs ++ zs) Z3 ∧ KB n b T Z2 Z3) := by
            rcases hout.out with ⟨h1, _⟩ | h1
            · cases h1
            · exact h1
          have Hzs := Lib.hid hzs
          clear hzs hout
          gi_wp2
          refine ⟨(KB.of hz12 n _ T).trans (hk3.mono (by omega)), rfl, xs ++ zs, ?_, hx3⟩
          rw [List.map_append, List.map_append, List.map_cons, List.map_nil, stsEx_snoc, Hexs.out, Hse.out]
          exact (List.prefix_append_right_inj _).2 Hzs.out
        · obtain ⟨_, zs, hzs, hJ3, hk3⟩ : (true = true ∧ ∃ zs : List EV, zs.map EV.e = flatExs [e] ∧ J (xs ++ zs) Z3 ∧ KB n b T Z2 Z3) := by
            rcases hout.out with h1 | ⟨h1, _⟩
            · exact h1
            · cases h1
          have Hzs := Lib.hid hzs
          clear hzs hout
          gi_wp2
          refine ⟨(KB.of hz12 n _ T).trans (hk3.mono (by omega)), ⟨xs ++ zs, ?_, hJ3⟩, (FB.below hz12 hlFB).kb hk3 (.inr ⟨hb, hT.2.2.2⟩)⟩
          rw [List.map_append, List.map_append, List.map_cons, List.map_nil, stsEx_snoc, Hexs.out, Hse.out, Hzs.out]
          rfl
    · -- kind 2
      have ma := @m_asks2
      have hso := fun w => statementOf_c 2 sA A1 A2 xA xA' yA yA' name.length sc body.length c1 els.length c2 xa xc xa' xc' ya yc ya' yc' xk xn yk yn w (by omega) (by omega)
      have hso' : ∀ w, Calls Try.prog 61 #[.agg #[.int .i64 2, .slice sA name.length sc, .int .i64 xk, .int .i64 xn, .slice xA xa xc, .slice xA' xa' xc', .int .i64 yk, .int .i64 yn, .slice yA ya yc, .slice yA' ya' yc', .slice A1 body.length c1, .slice A2 els.length c2]] w fun r w' => r = .returned (.iface 139 (.agg #[.int .i64 xk, .int .i64 xn, .slice xA xa xc, .slice xA' xa' xc', .slice sA name.length sc, .int .i64 yk, .int .i64 yn, .slice yA ya yc, .slice yA' ya' yc'])) ∧ Below w.heap.size w w' := hso
      have Hso := Lib.hid hso'
      clear hso hso'
      gi_wp2_with fail
      gi_region_with (first
        | (refine ⟨trivial, fun hd => by simp [Fence.wide] at hd, ?_⟩; gi_at_call 61; refine (CallsIn.inRound l' (callsIn_wide.2 (Hso.out _))).mono ?_; rintro r Z1 ⟨rfl, hz1⟩; have hz1' : Below B.heap.size B Z1 := ⟨hz1.os, hz1.tape, hz1.output, hz1.size, hz1.block⟩; have qy1 := (FB.below hz1' hlFB).cell_of 0 rfl)
        | (refine ⟨trivial, fun hd => by simp [Fence.wide] at hd, ?_⟩; gi_at_call 141; refine (CallsIn.inRound l' (callsIn_wide.2 (puttingAsks_c _ _ _ _ _ _ _ _ _ _ _ _ _ _ _ _ _ _ _ _))).mono ?_; rintro r Z2 ⟨g2, rfl, hg2, hB2, hz2⟩; have hz12 := hz1'.trans (hz2.mono hz1'.size); have qy2 := (FB.below hz12 hlFB).cell_of 0 rfl; have hE2 := heB.below (hz12.mono (by omega)); have hF2 := hfB.below (hz12.mono (by omega)); have hw2 := hz12.size; have hw1 := hz1'.size; have Hv := Lib.hid (visEx_c [e, f] l (m' - 1) n b W.heap.size T (stsEx (flatSts ls)) J Jx hT HJ.out HY.out xs (some ⟨g2, 0, none⟩) 2 Z2 (by omega) (by omega) (by omega) (exrow_two hB2 (by omega) hT.1 hE2 hF2) HspB.out (HJ.out _ _ _ hjB (Ext.of hz12 (by omega))) |>.mono (R' := fun r C => ∃ bb, r = .returned (.bool bb) ∧ Hid ((bb = true ∧ ∃ zs : List EV, zs.map EV.e = flatExs [e, f] ∧ J (xs ++ zs) C ∧ KB n b T Z2 C) ∨ (bb = false ∧ ∃ zs : List EV, zs.map EV.e <+: flatExs [e, f] ∧ Jx (xs ++ zs) C ∧ KB n b T Z2 C))) (fun r C hh => by rcases hh with ⟨e1, e2⟩ | ⟨e1, e2⟩; exact ⟨true, e1, .inl ⟨rfl, e2⟩⟩; exact ⟨false, e1, .inr ⟨rfl, e2⟩⟩)))
        | (refine ⟨trivial, fun hd => by simp [Fence.wide] at hd, ?_⟩; gi_at_call 60; refine (CallsIn.inRound l' Hv.out).mono ?_; rintro r Z3 ⟨bb, rfl, hout⟩))
      all_goals
        have hZ2 : KB n b T B Z2 := KB.of hz12 n b T
        clear q0 q1 q2 q3 q4 q5 q6 q7 q8 q9 q10 q11 qy qy1 qy2 ma
        cases bb
        · obtain ⟨_, zs, hzs, hx3, hk3⟩ : (false = false ∧ ∃ zs : List EV, zs.map EV.e <+: flatExs [e, f] ∧ Jx (xs ++ zs) Z3 ∧ KB n b T Z2 Z3) := by
            rcases hout.out with ⟨h1, _⟩ | h1
            · cases h1
            · exact h1
          have Hzs := Lib.hid hzs
          clear hzs hout
          gi_wp2
          refine ⟨(KB.of hz12 n _ T).trans (hk3.mono (by omega)), rfl, xs ++ zs, ?_, hx3⟩
          rw [List.map_append, List.map_append, List.map_cons, List.map_nil, stsEx_snoc, Hexs.out, Hse.out]
          exact (List.prefix_append_right_inj _).2 Hzs.out
        · obtain ⟨_, zs, hzs, hJ3, hk3⟩ : (true = true ∧ ∃ zs : List EV, zs.map EV.e = flatExs [e, f] ∧ J (xs ++ zs) Z3 ∧ KB n b T Z2 Z3) := by
            rcases hout.out with h1 | ⟨h1, _⟩
            · exact h1
            · cases h1
          have Hzs := Lib.hid hzs
          clear hzs hout
          gi_wp2
          refine ⟨(KB.of hz12 n _ T).trans (hk3.mono (by omega)), ⟨xs ++ zs, ?_, hJ3⟩, (FB.below hz12 hlFB).kb hk3 (.inr ⟨hb, hT.2.2.2⟩)⟩
          rw [List.map_append, List.map_append, List.map_cons, List.map_nil, stsEx_snoc, Hexs.out, Hse.out, Hzs.out]
          rfl
    · -- kind 3
      have ma := @m_asks3
      have hso := fun w => statementOf_c 3 sA A1 A2 xA xA' yA yA' name.length sc body.length c1 els.length c2 xa xc xa' xc' ya yc ya' yc' xk xn yk yn w (by omega) (by omega)
      have hso' : ∀ w, Calls Try.prog 61 #[.agg #[.int .i64 3, .slice sA name.length sc, .int .i64 xk, .int .i64 xn, .slice xA xa xc, .slice xA' xa' xc', .int .i64 yk, .int .i64 yn, .slice yA ya yc, .slice yA' ya' yc', .slice A1 body.length c1, .slice A2 els.length c2]] w fun r w' => r = .returned (.iface 141 (.agg #[.int .i64 xk, .int .i64 xn, .slice xA xa xc, .slice xA' xa' xc'])) ∧ Below w.heap.size w w' := hso
      have Hso := Lib.hid hso'
      clear hso hso'
      gi_wp2_with fail
      gi_region_with (first
        | (refine ⟨trivial, fun hd => by simp [Fence.wide] at hd, ?_⟩; gi_at_call 61; refine (CallsIn.inRound l' (callsIn_wide.2 (Hso.out _))).mono ?_; rintro r Z1 ⟨rfl, hz1⟩; have hz1' : Below B.heap.size B Z1 := ⟨hz1.os, hz1.tape, hz1.output, hz1.size, hz1.block⟩; have qy1 := (FB.below hz1' hlFB).cell_of 0 rfl)
        | (refine ⟨trivial, fun hd => by simp [Fence.wide] at hd, ?_⟩; gi_at_call 139; refine (CallsIn.inRound l' (callsIn_wide.2 (havingAsks_c _ _ _ _ _ _ _ _ _))).mono ?_; rintro r Z2 ⟨g2, rfl, hg2, hB2, hz2⟩; have hz12 := hz1'.trans (hz2.mono hz1'.size); have qy2 := (FB.below hz12 hlFB).cell_of 0 rfl; have hE2 := heB.below (hz12.mono (by omega)); have hF2 := hfB.below (hz12.mono (by omega)); have hw2 := hz12.size; have hw1 := hz1'.size; have Hv := Lib.hid (visEx_c [e] l (m' - 1) n b W.heap.size T (stsEx (flatSts ls)) J Jx hT HJ.out HY.out xs (some ⟨g2, 0, none⟩) 1 Z2 (by omega) (by omega) (by omega) (exrow_one hB2 (by omega) hT.1 hE2) HspB.out (HJ.out _ _ _ hjB (Ext.of hz12 (by omega))) |>.mono (R' := fun r C => ∃ bb, r = .returned (.bool bb) ∧ Hid ((bb = true ∧ ∃ zs : List EV, zs.map EV.e = flatExs [e] ∧ J (xs ++ zs) C ∧ KB n b T Z2 C) ∨ (bb = false ∧ ∃ zs : List EV, zs.map EV.e <+: flatExs [e] ∧ Jx (xs ++ zs) C ∧ KB n b T Z2 C))) (fun r C hh => by rcases hh with ⟨e1, e2⟩ | ⟨e1, e2⟩; exact ⟨true, e1, .inl ⟨rfl, e2⟩⟩; exact ⟨false, e1, .inr ⟨rfl, e2⟩⟩)))
        | (refine ⟨trivial, fun hd => by simp [Fence.wide] at hd, ?_⟩; gi_at_call 60; refine (CallsIn.inRound l' Hv.out).mono ?_; rintro r Z3 ⟨bb, rfl, hout⟩))
      all_goals
        have hZ2 : KB n b T B Z2 := KB.of hz12 n b T
        clear q0 q1 q2 q3 q4 q5 q6 q7 q8 q9 q10 q11 qy qy1 qy2 ma
        cases bb
        · obtain ⟨_, zs, hzs, hx3, hk3⟩ : (false = false ∧ ∃ zs : List EV, zs.map EV.e <+: flatExs [e] ∧ Jx (xs ++ zs) Z3 ∧ KB n b T Z2 Z3) := by
            rcases hout.out with ⟨h1, _⟩ | h1
            · cases h1
            · exact h1
          have Hzs := Lib.hid hzs
          clear hzs hout
          gi_wp2
          refine ⟨(KB.of hz12 n _ T).trans (hk3.mono (by omega)), rfl, xs ++ zs, ?_, hx3⟩
          rw [List.map_append, List.map_append, List.map_cons, List.map_nil, stsEx_snoc, Hexs.out, Hse.out]
          exact (List.prefix_append_right_inj _).2 Hzs.out
        · obtain ⟨_, zs, hzs, hJ3, hk3⟩ : (true = true ∧ ∃ zs : List EV, zs.map EV.e = flatExs [e] ∧ J (xs ++ zs) Z3 ∧ KB n b T Z2 Z3) := by
            rcases hout.out with h1 | ⟨h1, _⟩
            · exact h1
            · cases h1
          have Hzs := Lib.hid hzs
          clear hzs hout
          gi_wp2
          refine ⟨(KB.of hz12 n _ T).trans (hk3.mono (by omega)), ⟨xs ++ zs, ?_, hJ3⟩, (FB.below hz12 hlFB).kb hk3 (.inr ⟨hb, hT.2.2.2⟩)⟩
          rw [List.map_append, List.map_append, List.map_cons, List.map_nil, stsEx_snoc, Hexs.out, Hse.out, Hzs.out]
          rfl
    · -- kind 4
      have ma := @m_asks4
      have hso := fun w => statementOf_c 4 sA A1 A2 xA xA' yA yA' name.length sc body.length c1 els.length c2 xa xc xa' xc' ya yc ya' yc' xk xn yk yn w (by omega) (by omega)
      have hso' : ∀ w, Calls Try.prog 61 #[.agg #[.int .i64 4, .slice sA name.length sc, .int .i64 xk, .int .i64 xn, .slice xA xa xc, .slice xA' xa' xc', .int .i64 yk, .int .i64 yn, .slice yA ya yc, .slice yA' ya' yc', .slice A1 body.length c1, .slice A2 els.length c2]] w fun r w' => r = .returned (.iface 142 (.agg #[.int .i64 xk, .int .i64 xn, .slice xA xa xc, .slice xA' xa' xc'])) ∧ Below w.heap.size w w' := hso
      have Hso := Lib.hid hso'
      clear hso hso'
      gi_wp2_with fail
      gi_region_with (first
        | (refine ⟨trivial, fun hd => by simp [Fence.wide] at hd, ?_⟩; gi_at_call 61; refine (CallsIn.inRound l' (callsIn_wide.2 (Hso.out _))).mono ?_; rintro r Z1 ⟨rfl, hz1⟩; have hz1' : Below B.heap.size B Z1 := ⟨hz1.os, hz1.tape, hz1.output, hz1.size, hz1.block⟩; have qy1 := (FB.below hz1' hlFB).cell_of 0 rfl)
        | (refine ⟨trivial, fun hd => by simp [Fence.wide] at hd, ?_⟩; gi_at_call 139; refine (CallsIn.inRound l' (callsIn_wide.2 (havingAsks_c _ _ _ _ _ _ _ _ _))).mono ?_; rintro r Z2 ⟨g2, rfl, hg2, hB2, hz2⟩; have hz12 := hz1'.trans (hz2.mono hz1'.size); have qy2 := (FB.below hz12 hlFB).cell_of 0 rfl; have hE2 := heB.below (hz12.mono (by omega)); have hF2 := hfB.below (hz12.mono (by omega)); have hw2 := hz12.size; have hw1 := hz1'.size; have Hv := Lib.hid (visEx_c [e] l (m' - 1) n b W.heap.size T (stsEx (flatSts ls)) J Jx hT HJ.out HY.out xs (some ⟨g2, 0, none⟩) 1 Z2 (by omega) (by omega) (by omega) (exrow_one hB2 (by omega) hT.1 hE2) HspB.out (HJ.out _ _ _ hjB (Ext.of hz12 (by omega))) |>.mono (R' := fun r C => ∃ bb, r = .returned (.bool bb) ∧ Hid ((bb = true ∧ ∃ zs : List EV, zs.map EV.e = flatExs [e] ∧ J (xs ++ zs) C ∧ KB n b T Z2 C) ∨ (bb = false ∧ ∃ zs : List EV, zs.map EV.e <+: flatExs [e] ∧ Jx (xs ++ zs) C ∧ KB n b T Z2 C))) (fun r C hh => by rcases hh with ⟨e1, e2⟩ | ⟨e1, e2⟩; exact ⟨true, e1, .inl ⟨rfl, e2⟩⟩; exact ⟨false, e1, .inr ⟨rfl, e2⟩⟩)))
        | (refine ⟨trivial, fun hd => by simp [Fence.wide] at hd, ?_⟩; gi_at_call 60; refine (CallsIn.inRound l' Hv.out).mono ?_; rintro r Z3 ⟨bb, rfl, hout⟩))
      all_goals
        have hZ2 : KB n b T B Z2 := KB.of hz12 n b T
        clear q0 q1 q2 q3 q4 q5 q6 q7 q8 q9 q10 q11 qy qy1 qy2 ma
        cases bb
        · obtain ⟨_, zs, hzs, hx3, hk3⟩ : (false = false ∧ ∃ zs : List EV, zs.map EV.e <+: flatExs [e] ∧ Jx (xs ++ zs) Z3 ∧ KB n b T Z2 Z3) := by
            rcases hout.out with ⟨h1, _⟩ | h1
            · cases h1
            · exact h1
          have Hzs := Lib.hid hzs
          clear hzs hout
          gi_wp2
          refine ⟨(KB.of hz12 n _ T).trans (hk3.mono (by omega)), rfl, xs ++ zs, ?_, hx3⟩
          rw [List.map_append, List.map_append, List.map_cons, List.map_nil, stsEx_snoc, Hexs.out, Hse.out]
          exact (List.prefix_append_right_inj _).2 Hzs.out
        · obtain ⟨_, zs, hzs, hJ3, hk3⟩ : (true = true ∧ ∃ zs : List EV, zs.map EV.e = flatExs [e] ∧ J (xs ++ zs) Z3 ∧ KB n b T Z2 Z3) := by
            rcases hout.out with h1 | ⟨h1, _⟩
            · exact h1
            · cases h1
          have Hzs := Lib.hid hzs
          clear hzs hout
          gi_wp2
          refine ⟨(KB.of hz12 n _ T).trans (hk3.mono (by omega)), ⟨xs ++ zs, ?_, hJ3⟩, (FB.below hz12 hlFB).kb hk3 (.inr ⟨hb, hT.2.2.2⟩)⟩
          rw [List.map_append, List.map_append, List.map_cons, List.map_nil, stsEx_snoc, Hexs.out, Hse.out, Hzs.out]
          rfl
    · -- kind 5
      have ma := @m_asks5
      have hso := fun w => statementOf_c 5 sA A1 A2 xA xA' yA yA' name.length sc body.length c1 els.length c2 xa xc xa' xc' ya yc ya' yc' xk xn yk yn w (by omega) (by omega)
      have hso' : ∀ w, Calls Try.prog 61 #[.agg #[.int .i64 5, .slice sA name.length sc, .int .i64 xk, .int .i64 xn, .slice xA xa xc, .slice xA' xa' xc', .int .i64 yk, .int .i64 yn, .slice yA ya yc, .slice yA' ya' yc', .slice A1 body.length c1, .slice A2 els.length c2]] w fun r w' => r = .returned (.iface 144 (.agg #[.int .i64 xk, .int .i64 xn, .slice xA xa xc, .slice xA' xa' xc', .slice A1 body.length c1, .slice A2 els.length c2])) ∧ Below w.heap.size w w' := hso
      have Hso := Lib.hid hso'
      clear hso hso'
      gi_wp2_with fail
      gi_region_with (first
        | (refine ⟨trivial, fun hd => by simp [Fence.wide] at hd, ?_⟩; gi_at_call 61; refine (CallsIn.inRound l' (callsIn_wide.2 (Hso.out _))).mono ?_; rintro r Z1 ⟨rfl, hz1⟩; have hz1' : Below B.heap.size B Z1 := ⟨hz1.os, hz1.tape, hz1.output, hz1.size, hz1.block⟩; have qy1 := (FB.below hz1' hlFB).cell_of 0 rfl)
        | (refine ⟨trivial, fun hd => by simp [Fence.wide] at hd, ?_⟩; gi_at_call 139; refine (CallsIn.inRound l' (callsIn_wide.2 (havingAsks_c _ _ _ _ _ _ _ _ _))).mono ?_; rintro r Z2 ⟨g2, rfl, hg2, hB2, hz2⟩; have hz12 := hz1'.trans (hz2.mono hz1'.size); have qy2 := (FB.below hz12 hlFB).cell_of 0 rfl; have hE2 := heB.below (hz12.mono (by omega)); have hF2 := hfB.below (hz12.mono (by omega)); have hw2 := hz12.size; have hw1 := hz1'.size; have Hv := Lib.hid (visEx_c [e] l (m' - 1) n b W.heap.size T (stsEx (flatSts ls)) J Jx hT HJ.out HY.out xs (some ⟨g2, 0, none⟩) 1 Z2 (by omega) (by omega) (by omega) (exrow_one hB2 (by omega) hT.1 hE2) HspB.out (HJ.out _ _ _ hjB (Ext.of hz12 (by omega))) |>.mono (R' := fun r C => ∃ bb, r = .returned (.bool bb) ∧ Hid ((bb = true ∧ ∃ zs : List EV, zs.map EV.e = flatExs [e] ∧ J (xs ++ zs) C ∧ KB n b T Z2 C) ∨ (bb = false ∧ ∃ zs : List EV, zs.map EV.e <+: flatExs [e] ∧ Jx (xs ++ zs) C ∧ KB n b T Z2 C))) (fun r C hh => by rcases hh with ⟨e1, e2⟩ | ⟨e1, e2⟩; exact ⟨true, e1, .inl ⟨rfl, e2⟩⟩; exact ⟨false, e1, .inr ⟨rfl, e2⟩⟩)))
        | (refine ⟨trivial, fun hd => by simp [Fence.wide] at hd, ?_⟩; gi_at_call 60; refine (CallsIn.inRound l' Hv.out).mono ?_; rintro r Z3 ⟨bb, rfl, hout⟩))
      all_goals
        have hZ2 : KB n b T B Z2 := KB.of hz12 n b T
        clear q0 q1 q2 q3 q4 q5 q6 q7 q8 q9 q10 q11 qy qy1 qy2 ma
        cases bb
        · obtain ⟨_, zs, hzs, hx3, hk3⟩ : (false = false ∧ ∃ zs : List EV, zs.map EV.e <+: flatExs [e] ∧ Jx (xs ++ zs) Z3 ∧ KB n b T Z2 Z3) := by
            rcases hout.out with ⟨h1, _⟩ | h1
            · cases h1
            · exact h1
          have Hzs := Lib.hid hzs
          clear hzs hout
          gi_wp2
          refine ⟨(KB.of hz12 n _ T).trans (hk3.mono (by omega)), rfl, xs ++ zs, ?_, hx3⟩
          rw [List.map_append, List.map_append, List.map_cons, List.map_nil, stsEx_snoc, Hexs.out, Hse.out]
          exact (List.prefix_append_right_inj _).2 Hzs.out
        · obtain ⟨_, zs, hzs, hJ3, hk3⟩ : (true = true ∧ ∃ zs : List EV, zs.map EV.e = flatExs [e] ∧ J (xs ++ zs) Z3 ∧ KB n b T Z2 Z3) := by
            rcases hout.out with h1 | ⟨h1, _⟩
            · exact h1
            · cases h1
          have Hzs := Lib.hid hzs
          clear hzs hout
          gi_wp2
          refine ⟨(KB.of hz12 n _ T).trans (hk3.mono (by omega)), ⟨xs ++ zs, ?_, hJ3⟩, (FB.below hz12 hlFB).kb hk3 (.inr ⟨hb, hT.2.2.2⟩)⟩
          rw [List.map_append, List.map_append, List.map_cons, List.map_nil, stsEx_snoc, Hexs.out, Hse.out, Hzs.out]
          rfl
    · -- kind 6
      have ma := @m_asks6
      have hso := fun w => statementOf_c 6 sA A1 A2 xA xA' yA yA' name.length sc body.length c1 els.length c2 xa xc xa' xc' ya yc ya' yc' xk xn yk yn w (by omega) (by omega)
      have hso' : ∀ w, Calls Try.prog 61 #[.agg #[.int .i64 6, .slice sA name.length sc, .int .i64 xk, .int .i64 xn, .slice xA xa xc, .slice xA' xa' xc', .int .i64 yk, .int .i64 yn, .slice yA ya yc, .slice yA' ya' yc', .slice A1 body.length c1, .slice A2 els.length c2]] w fun r w' => r = .returned (.iface 146 (.agg #[.int .i64 xk, .int .i64 xn, .slice xA xa xc, .slice xA' xa' xc', .slice A1 body.length c1])) ∧ Below w.heap.size w w' := hso
      have Hso := Lib.hid hso'
      clear hso hso'
      gi_wp2_with fail
      gi_region_with (first
        | (refine ⟨trivial, fun hd => by simp [Fence.wide] at hd, ?_⟩; gi_at_call 61; refine (CallsIn.inRound l' (callsIn_wide.2 (Hso.out _))).mono ?_; rintro r Z1 ⟨rfl, hz1⟩; have hz1' : Below B.heap.size B Z1 := ⟨hz1.os, hz1.tape, hz1.output, hz1.size, hz1.block⟩; have qy1 := (FB.below hz1' hlFB).cell_of 0 rfl)
        | (refine ⟨trivial, fun hd => by simp [Fence.wide] at hd, ?_⟩; gi_at_call 139; refine (CallsIn.inRound l' (callsIn_wide.2 (havingAsks_c _ _ _ _ _ _ _ _ _))).mono ?_; rintro r Z2 ⟨g2, rfl, hg2, hB2, hz2⟩; have hz12 := hz1'.trans (hz2.mono hz1'.size); have qy2 := (FB.below hz12 hlFB).cell_of 0 rfl; have hE2 := heB.below (hz12.mono (by omega)); have hF2 := hfB.below (hz12.mono (by omega)); have hw2 := hz12.size; have hw1 := hz1'.size; have Hv := Lib.hid (visEx_c [e] l (m' - 1) n b W.heap.size T (stsEx (flatSts ls)) J Jx hT HJ.out HY.out xs (some ⟨g2, 0, none⟩) 1 Z2 (by omega) (by omega) (by omega) (exrow_one hB2 (by omega) hT.1 hE2) HspB.out (HJ.out _ _ _ hjB (Ext.of hz12 (by omega))) |>.mono (R' := fun r C => ∃ bb, r = .returned (.bool bb) ∧ Hid ((bb = true ∧ ∃ zs : List EV, zs.map EV.e = flatExs [e] ∧ J (xs ++ zs) C ∧ KB n b T Z2 C) ∨ (bb = false ∧ ∃ zs : List EV, zs.map EV.e <+: flatExs [e] ∧ Jx (xs ++ zs) C ∧ KB n b T Z2 C))) (fun r C hh => by rcases hh with ⟨e1, e2⟩ | ⟨e1, e2⟩; exact ⟨true, e1, .inl ⟨rfl, e2⟩⟩; exact ⟨false, e1, .inr ⟨rfl, e2⟩⟩)))
        | (refine ⟨trivial, fun hd => by simp [Fence.wide] at hd, ?_⟩; gi_at_call 60; refine (CallsIn.inRound l' Hv.out).mono ?_; rintro r Z3 ⟨bb, rfl, hout⟩))
      all_goals
        have hZ2 : KB n b T B Z2 := KB.of hz12 n b T
        clear q0 q1 q2 q3 q4 q5 q6 q7 q8 q9 q10 q11 qy qy1 qy2 ma
        cases bb
        · obtain ⟨_, zs, hzs, hx3, hk3⟩ : (false = false ∧ ∃ zs : List EV, zs.map EV.e <+: flatExs [e] ∧ Jx (xs ++ zs) Z3 ∧ KB n b T Z2 Z3) := by
            rcases hout.out with ⟨h1, _⟩ | h1
            · cases h1
            · exact h1
          have Hzs := Lib.hid hzs
          clear hzs hout
          gi_wp2
          refine ⟨(KB.of hz12 n _ T).trans (hk3.mono (by omega)), rfl, xs ++ zs, ?_, hx3⟩
          rw [List.map_append, List.map_append, List.map_cons, List.map_nil, stsEx_snoc, Hexs.out, Hse.out]
          exact (List.prefix_append_right_inj _).2 Hzs.out
        · obtain ⟨_, zs, hzs, hJ3, hk3⟩ : (true = true ∧ ∃ zs : List EV, zs.map EV.e = flatExs [e] ∧ J (xs ++ zs) Z3 ∧ KB n b T Z2 Z3) := by
            rcases hout.out with h1 | ⟨h1, _⟩
            · exact h1
            · cases h1
          have Hzs := Lib.hid hzs
          clear hzs hout
          gi_wp2
          refine ⟨(KB.of hz12 n _ T).trans (hk3.mono (by omega)), ⟨xs ++ zs, ?_, hJ3⟩, (FB.below hz12 hlFB).kb hk3 (.inr ⟨hb, hT.2.2.2⟩)⟩
          rw [List.map_append, List.map_append, List.map_cons, List.map_nil, stsEx_snoc, Hexs.out, Hse.out, Hzs.out]
          rfl
    · -- kind 7
      have ma := @m_asks7
      have hso := fun w => statementOf_c 7 sA A1 A2 xA xA' yA yA' name.length sc body.length c1 els.length c2 xa xc xa' xc' ya yc ya' yc' xk xn yk yn w (by omega) (by omega)
      have hso' : ∀ w, Calls Try.prog 61 #[.agg #[.int .i64 7, .slice sA name.length sc, .int .i64 xk, .int .i64 xn, .slice xA xa xc, .slice xA' xa' xc', .int .i64 yk, .int .i64 yn, .slice yA ya yc, .slice yA' ya' yc', .slice A1 body.length c1, .slice A2 els.length c2]] w fun r w' => r = .returned (.iface 147 (.agg #[.int .i64 xk, .int .i64 xn, .slice xA xa xc, .slice xA' xa' xc'])) ∧ Below w.heap.size w w' := hso
      have Hso := Lib.hid hso'
      clear hso hso'
      gi_wp2_with fail
      gi_region_with (first
        | (refine ⟨trivial, fun hd => by simp [Fence.wide] at hd, ?_⟩; gi_at_call 61; refine (CallsIn.inRound l' (callsIn_wide.2 (Hso.out _))).mono ?_; rintro r Z1 ⟨rfl, hz1⟩; have hz1' : Below B.heap.size B Z1 := ⟨hz1.os, hz1.tape, hz1.output, hz1.size, hz1.block⟩; have qy1 := (FB.below hz1' hlFB).cell_of 0 rfl)
        | (refine ⟨trivial, fun hd => by simp [Fence.wide] at hd, ?_⟩; gi_at_call 139; refine (CallsIn.inRound l' (callsIn_wide.2 (havingAsks_c _ _ _ _ _ _ _ _ _))).mono ?_; rintro r Z2 ⟨g2, rfl, hg2, hB2, hz2⟩; have hz12 := hz1'.trans (hz2.mono hz1'.size); have qy2 := (FB.below hz12 hlFB).cell_of 0 rfl; have hE2 := heB.below (hz12.mono (by omega)); have hF2 := hfB.below (hz12.mono (by omega)); have hw2 := hz12.size; have hw1 := hz1'.size; have Hv := Lib.hid (visEx_c [e] l (m' - 1) n b W.heap.size T (stsEx (flatSts ls)) J Jx hT HJ.out HY.out xs (some ⟨g2, 0, none⟩) 1 Z2 (by omega) (by omega) (by omega) (exrow_one hB2 (by omega) hT.1 hE2) HspB.out (HJ.out _ _ _ hjB (Ext.of hz12 (by omega))) |>.mono (R' := fun r C => ∃ bb, r = .returned (.bool bb) ∧ Hid ((bb = true ∧ ∃ zs : List EV, zs.map EV.e = flatExs [e] ∧ J (xs ++ zs) C ∧ KB n b T Z2 C) ∨ (bb = false ∧ ∃ zs : List EV, zs.map EV.e <+: flatExs [e] ∧ Jx (xs ++ zs) C ∧ KB n b T Z2 C))) (fun r C hh => by rcases hh with ⟨e1, e2⟩ | ⟨e1, e2⟩; exact ⟨true, e1, .inl ⟨rfl, e2⟩⟩; exact ⟨false, e1, .inr ⟨rfl, e2⟩⟩)))
        | (refine ⟨trivial, fun hd => by simp [Fence.wide] at hd, ?_⟩; gi_at_call 60; refine (CallsIn.inRound l' Hv.out).mono ?_; rintro r Z3 ⟨bb, rfl, hout⟩))
      all_goals
        have hZ2 : KB n b T B Z2 := KB.of hz12 n b T
        clear q0 q1 q2 q3 q4 q5 q6 q7 q8 q9 q10 q11 qy qy1 qy2 ma
        cases bb
        · obtain ⟨_, zs, hzs, hx3, hk3⟩ : (false = false ∧ ∃ zs : List EV, zs.map EV.e <+: flatExs [e] ∧ Jx (xs ++ zs) Z3 ∧ KB n b T Z2 Z3) := by
            rcases hout.out with ⟨h1, _⟩ | h1
            · cases h1
            · exact h1
          have Hzs := Lib.hid hzs
          clear hzs hout
          gi_wp2
          refine ⟨(KB.of hz12 n _ T).trans (hk3.mono (by omega)), rfl, xs ++ zs, ?_, hx3⟩
          rw [List.map_append, List.map_append, List.map_cons, List.map_nil, stsEx_snoc, Hexs.out, Hse.out]
          exact (List.prefix_append_right_inj _).2 Hzs.out
        · obtain ⟨_, zs, hzs, hJ3, hk3⟩ : (true = true ∧ ∃ zs : List EV, zs.map EV.e = flatExs [e] ∧ J (xs ++ zs) Z3 ∧ KB n b T Z2 Z3) := by
            rcases hout.out with h1 | ⟨h1, _⟩
            · exact h1
            · cases h1
          have Hzs := Lib.hid hzs
          clear hzs hout
          gi_wp2
          refine ⟨(KB.of hz12 n _ T).trans (hk3.mono (by omega)), ⟨xs ++ zs, ?_, hJ3⟩, (FB.below hz12 hlFB).kb hk3 (.inr ⟨hb, hT.2.2.2⟩)⟩
          rw [List.map_append, List.map_append, List.map_cons, List.map_nil, stsEx_snoc, Hexs.out, Hse.out, Hzs.out]
          rfl
