/-
  The program's Locals of a function that has been measured.
-/
import Derived.Test.YtmejbmfopdfbjaaScope
import Derived.Test.YtmejbmfopdfbjaaStsOk
import Derived.Test.YtmejbmfopdfbjaaAssert
namespace Go.Proofs.Ytmejbmfopdfbjaa
open Go.RowKit Go.Shelf
set_option linter.unusedVariables false
attribute [local go_sem] Oper.semAt_some

/-- the cell of a row of names, and the row -/
def NmCell (w : World) (g n lo : Nat) (l : List (List UInt8)) : Prop := ∃ v, Blk w g 23 #[v] ∧ NmRow w n lo v l
theorem NmCell.ext {w w' : World} {g n lo s : Nat} {l : List (List UInt8)} (h : NmCell w g n lo l) (he : Ext s NmT w w') (hn : n ≤ s) (hg : g < s) : NmCell w' g n lo l := by
  obtain ⟨v, h1, h2⟩ := h
  exact ⟨v, h1.below he.below hg, h2.ext he hn⟩
theorem NmCell.below {w w' : World} {g n lo : Nat} {l : List (List UInt8)} (h : NmCell w g n lo l) (hb : Below w.heap.size w w') : NmCell w' g n lo l := by
  obtain ⟨v, h1, h2⟩ := h
  exact ⟨v, h1.below hb h1.lt, h2.below hb⟩

theorem NmCell.mk_ {w : World} {g n lo : Nat} {v : Value} {l : List (List UInt8)} (h : Blk w g 23 #[v]) (hr : NmRow w n lo v l) : NmCell w g n lo l := ⟨v, h, hr⟩
theorem not_NmT : ¬ NmT 23 := by rintro (h | h) <;> exact absurd h (by decide)
theorem NmRow.apart {w : World} {n lo g : Nat} {v : Value} {l : List (List UInt8)} {t : TypeId} {cs : Array Value} (h : NmRow w n lo v l) (hb : Blk w g t cs) (ht : ¬ NmT t) : some g ≠ v.ownBlock := by
  intro e
  obtain ⟨_, A, c, xs, hv, hown, _⟩ := h
  exact no_tag hb ht ((own_tag hown e.symm).2.mono fun t e => .inr e)
theorem NmCell.store {w : World} {g n lo : Nat} {v v0 : Value} {l : List (List UInt8)} (hb : Blk w g 23 #[v0]) (h : NmRow w n lo v l) (hg : n ≤ g) : NmCell (w.setCell ⟨g, 0, none⟩ v) g n lo l :=
  ⟨v, hb.set_ 0 v, h.keep (by rw [World.size_setCell]; exact Nat.le_refl _) fun k hk hc => Below.heap_setCell w ⟨g, 0, none⟩ v k (by
    rintro rfl
    rcases hc with hc | hc
    · exact absurd hc (by simp; omega)
    · exact no_tag hb not_NmT hc)⟩

theorem NmRow.ownb {w : World} {n lo : Nat} {v : Value} {l : List (List UInt8)} (h : NmRow w n lo v l) {g : Nat} (hg : v.ownBlock = some g) : lo ≤ g := by
  obtain ⟨_, A, c, xs, hv, hown, _⟩ := h
  exact (own_tag hown hg).1
theorem NmRow.kb {w w' : World} {n b lo : Nat} {v : Value} {l : List (List UInt8)} (h : NmRow w n lo v l) (hlo : n ≤ lo) (hg : w.grownBy w' v.ownBlock) : KB n b NmT w w' := by
  obtain ⟨_, A, c, xs, hv, hown, _⟩ := h
  exact KB.grown hown hlo hg

theorem foldl_withN_len : ∀ (xs l : List (List UInt8)), (xs.foldl withN l).length ≤ l.length + xs.length
  | [], l => Nat.le_refl _
  | x :: r, l => by
    have := foldl_withN_len r (withN l x)
    have h1 : (withN l x).length ≤ l.length + 1 := by unfold withN; by_cases h : 0 ≤ placeOf l x <;> simp [h]
    simp only [List.foldl_cons, List.length_cons]
    omega

set_option maxRecDepth 100000 in
set_option maxHeartbeats 8000000 in
theorem implLocals_c (f : Fn) (v0 v1 v2 : Value) (L B : Nat) (w : World) (hB : B ≤ w.heap.size) (hsz : fnSz f ≤ 1048576) (hf : fnForm f = true) (h : FnV w L B v0 v1 v2 f) :
    Calls Try.prog 79 #[.agg #[v0, v1, v2]] w fun r w' => ∃ v', r = .returned v' ∧ NmRow w' B w.heap.size v' (localsOf f) ∧ Below w.heap.size w w' := by
  obtain ⟨fA, fc, fA1, fc1, fA2, fc2, rfl, rfl, rfl, fR, fm, fp, fb, fcp⟩ := h
  have hb0 : Below w.heap.size w (w.alloc (.cells #[.slice fA f.name.length fc, .slice fA1 f.params.length fc1, .slice fA2 f.body.length fc2] 31)) := (Below.refl _ _).alloc (Nat.le_refl _) _
  have KF := Blk.new w 31 #[.slice fA f.name.length fc, .slice fA1 f.params.length fc1, .slice fA2 f.body.length fc2]
  have hso := statementsOk_c f (.slice fA f.name.length fc) (.slice fA1 f.params.length fc1) (.slice fA2 f.body.length fc2) L B _ (Nat.le_trans hB hb0.size) hsz (FnV.below ⟨fA, fc, fA1, fc1, fA2, fc2, rfl, rfl, rfl, fR, fm, fp, fb, fcp⟩ (hb0.mono hB))
  rw [hf] at hso
  have hgd : stsGood f.body 2 = true := by unfold fnForm at hf; simp only [Bool.and_eq_true] at hf; exact hf.2.1
  have hpl : f.params.length ≤ 3 := by unfold fnForm at hf; simp only [Bool.and_eq_true, decide_eq_true_eq] at hf; exact hf.1
  have Hso := Lib.hid hso
  clear hso hf
  refine (callsIn_wide (n := 3)).1 ?_
  refine callsIn_of_wp_marks Try.func79 rfl trivial ?_ rfl
  simp only [Try.ntmps79, List.size_toArray, List.length_cons, List.length_nil, Nat.reduceAdd, Nat.reduceSub, Array.replicate_succ, Array.replicate_zero, List.push_toArray, List.append_toArray, List.nil_append, List.cons_append]
  gi_wp2_with fail
  refine ⟨trivial, ?_⟩
  gi_at_call 36
  refine (callsIn_wide.2 Hso.out).mono ?_
  rintro r w1 ⟨rfl, hb1⟩
  have KF1 := KF.below hb1 KF.lt
  have hb01 := hb0.trans (hb1.mono hb0.size)
  have hw1 : w.heap.size + 1 ≤ w1.heap.size := by have := hb1.size; simpa using this
  have f1 := fun o => (KF1.alloc o).cell_of 1 (v := .slice fA1 f.params.length fc1) rfl
  gi_wp2
  clear f1
  obtain ⟨W1, hW1⟩ : ∃ W1, w1.alloc (.cells #[.slice none 0 0] 23) = W1 := ⟨_, rfl⟩
  try rw [hW1]
  have hbW : Below w.heap.size w W1 := by rw [← hW1]; exact hb01.alloc hb01.size _
  have hKF : Blk W1 w.heap.size 31 #[.slice fA f.name.length fc, .slice fA1 f.params.length fc1, .slice fA2 f.body.length fc2] := by rw [← hW1]; exact KF1.alloc _
  have hNC : NmCell W1 w1.heap.size B w.heap.size [] := by rw [← hW1]; exact ⟨_, Blk.new _ _ _, NmRow.nil _ _ _⟩
  have hW1s : w1.heap.size + 1 ≤ W1.heap.size := by rw [← hW1]; simp
  clear hW1 KF KF1 Hso hb0 hb1
  gi_loopw [15] (fun i wr => ∃ k : Nat, k ≤ f.params.length ∧ i = .int .i64 k ∧ Below w.heap.size w wr ∧ w1.heap.size + 1 ≤ wr.heap.size ∧ Blk wr w.heap.size 31 #[.slice fA f.name.length fc, .slice fA1 f.params.length fc1, .slice fA2 f.body.length fc2] ∧
    NmCell wr w1.heap.size B w.heap.size ((f.params.take k).foldl withN [])) (fun i _ => f.params.length - (intOf i).toNat)
  case atStart => exact ⟨0, Nat.zero_le _, rfl, hbW, hW1s, hKF, hNC⟩
  case round =>
    obtain ⟨k, hk, rfl, hbl, hws, hKF, v, hcell, hrow⟩ := hrel
    by_cases hlt : k < f.params.length
    · obtain ⟨ad, rfl, _, hbk, hat⟩ := (fp.below (hbl.mono hB)).2 (by omega)
      obtain ⟨A2, c2, hcl, hR2, hm2⟩ := hat k hlt
      have hlen := foldl_withN_len (f.params.take k) []
      have hlt2 : (f.params.take k).length = k := by rw [List.length_take]; omega
      have hbz := bsSz_get hlt
      have hc := withName_c ((f.params.take k).foldl withN []) f.params[k] v A2 c2 B B w.heap.size wr (Nat.le_trans hB hbl.size) hbl.size hB (by simp at hlen; omega) (by unfold fnSz at hsz; omega) hrow hR2.1
      have Hc := Lib.hid hc
      have Hrow := Lib.hid hrow
      have n0 := hcell.cell_of 0 rfl
      clear hc hat hrow hlen hlt2 hbz
      gi_wp2_with fail
      refine ⟨trivial, ?_⟩
      gi_at_call 38
      refine (callsIn_wide.2 Hc.out).mono ?_
      rintro r w2 ⟨v', rfl, hrow', hgr⟩
      have hcell2 : Blk w2 w1.heap.size 23 #[v] := (hgr.block _ hcell.lt (Hrow.out.apart hcell not_NmT)).trans hcell
      have hb2 : Below w.heap.size w w2 := hbl.grown hgr hbl.size (fun g hg => by
        obtain ⟨_, A, c, xs, hv, hown, _⟩ := Hrow.out
        exact (own_tag hown hg.symm.symm).1)
      have hKF2 : Blk w2 w.heap.size 31 _ := (hgr.block _ hKF.lt (Hrow.out.apart hKF (by rintro (h | h) <;> exact absurd h (by decide)))).trans hKF
      have hs2 := hgr.size
      obtain ⟨Av, cv, rfl, _⟩ := hrow'.bsl
      have hNC := NmCell.store hcell2 hrow' (by omega)
      have HNC := Lib.hid hNC
      have z0 := hcell2.frozen 0
      have n0 := hcell2.cell_of 0 rfl
      clear hcl Hc hrow' hNC
      gi_wp2
      go_roundw
      case rel =>
        refine ⟨k + 1, by omega, by go_num, hb2.setCell (p := ⟨w1.heap.size, 0, none⟩) (by simp; omega) _, by simp; omega, hKF2.far (p := ⟨w1.heap.size, 0, none⟩) (by simp; omega) _, ?_⟩
        rw [List.take_succ_eq_append_getElem hlt, List.foldl_append]
        exact HNC.out
      case measure => simp [intOf]; omega
    · have f2 := hKF.cell_of 2 rfl
      gi_wp2_with fail
      refine ⟨trivial, ?_⟩
      gi_at_call 59
      refine (callsIn_wide.2 (statementsIn_c fA2 _ fc2 _)).mono ?_
      rintro r W2 ⟨rfl, rfl⟩
      gi_wp2_with fail
      have hkl : k = f.params.length := by omega
      subst hkl
      rw [List.take_length] at hrow
      obtain ⟨V, hV⟩ : ∃ V, wr.alloc (.cells #[.slice fA2 f.body.length fc2] 29) = V := ⟨_, rfl⟩
      have hVs : V.heap.size = wr.heap.size + 1 := by rw [← hV]; simp
      have hVb : Below wr.heap.size wr V := by rw [← hV]; exact (Below.refl _ _).alloc (Nat.le_refl _) _
      have hVc : V.cell? ⟨wr.heap.size, 0, none⟩ = some (.slice fA2 f.body.length fc2) := by rw [← hV]; exact (Blk.new wr _ _).cell_of 0 rfl
      try rw [hV]
      have hw := hbl.size
      have hseq := statementsIn1_seq f.body 2 B (V.heap.size + 2) wr.heap.size NmT NmT.no fA2 fc2 V hgd (by omega) (by omega) hVc ((fb.more (Nat.zero_le _) (Nat.le_refl _)).below ((hbl.trans (hVb.mono hw)).mono hB))
      have hNC0 : NmCell V w1.heap.size B w.heap.size (f.params.foldl withN []) := NmCell.below ⟨v, hcell, hrow⟩ hVb
      have hbV := hbl.trans (hVb.mono hw)
      clear hV hVc fR fp fb hcell hrow hKF f2
      refine range_good (gf := 89) (lb := #[.pointer (some ⟨wr.heap.size, 0, none⟩)]) rfl (enters_of Try.func89 (by kernel_rfl) rfl) (n := B) (by omega) hseq (fun _ => rfl)
        (fun pre Z => NmCell Z w1.heap.size B w.heap.size ((letsOf (pre.map SV.s)).foldl withN (f.params.foldl withN [])) ∧ Below w.heap.size w Z)
        (fun c pre Z => False)
        (fun x A B' hx hb => ⟨hx.1.ext hb (by omega) (by omega), hx.2.trans (hb.below.mono (by omega))⟩)
        (fun c x A B' hx hb => hx)
        ⟨by simpa [letsOf] using hNC0, hbV⟩ ?round ?done ?stop
      case stop => rintro D c pre Z hD hS hx; exact hx.elim
      case done =>
        rintro D xs Z hD hS ⟨⟨v, hcell, hrow⟩, hbz⟩ hK
        have n0 := hcell.cell_of 0 rfl
        obtain ⟨Av, cv, rfl, _⟩ := hrow.bsl
        have Hrow := Lib.hid hrow
        clear hrow
        gi_wp2
        refine ⟨by simp, .inl ⟨_, _, rfl, run_takeDeferred hK, ?_⟩⟩
        have h2 := Hrow.out.ext (Ext.put_def (s := V.heap.size) (o := .deferred none) (by omega) hK) (by omega)
        have h3 := hbz.trans (below_putObj (s := w.heap.size) (l := D) (W := Z) (.deferred none) (by omega))
        rw [hS] at h2
        exact ⟨.slice Av (localsOf f).length cv, by simp [results, Try.results79, go_sem, localsOf], _, rfl, h2, h3⟩
      case round =>
        rintro l' m' pre x Z K hZs ⟨hnc, hbz⟩ hsp ⟨hst, dd, hgs⟩ hcont
        obtain ⟨vs, st⟩ := x
        obtain ⟨kk, name, e, ff, body, els⟩ := st
        rw [stGood_mk] at hgs
        simp only [Bool.and_eq_true, decide_eq_true_eq] at hgs
        have hkk := stOk1_kind hgs.1.1.1.1.2
        obtain ⟨sA, sc, e0, e1, e2, e3, f0, f1, f2, f3, A1, c1, A2, c2, rfl, hR, hmn, he, hf, hb1, hb2⟩ := hst.open_
        obtain ⟨xk, xn, xA, xa, xc, xA', xa', xc', rfl, rfl, rfl, rfl⟩ := he.shape
        obtain ⟨yk, yn, yA, ya, yc, yA', ya', yc', rfl, rfl, rfl, rfl⟩ := hf.shape
        dsimp only [svEnc]
        gi_wp2
        refine hcont _ _ ((Below.refl _ _).alloc (Nat.le_refl _) _) ?_
        intro B' hAB hszB hoth
        have hZBx := (Ext.of (s := V.heap.size) (T := NmT) ((Below.refl _ Z).alloc (Nat.le_refl _) _) (by omega)).trans hAB
        have hZB := hZBx.below
        have KS : Blk B' Z.heap.size 98 #[.int .i64 kk, .slice sA name.length sc, .int .i64 xk, .int .i64 xn, .slice xA xa xc, .slice xA' xa' xc', .int .i64 yk, .int .i64 yn, .slice yA ya yc, .slice yA' ya' yc', .slice A1 body.length c1, .slice A2 els.length c2] := (hoth Z.heap.size (by omega)).trans (Blk.new Z _ _)
        obtain ⟨v, hcell, hrow⟩ := hnc.ext hZBx (by omega) (by omega)
        have hRB := hR.below (hZB.mono (by omega))
        have hBs : V.heap.size + 2 ≤ B'.heap.size := by have := hZB.size; omega
        have hwB := hbz.trans (hZB.mono (by omega))
        have q0 := KS.cell_of 0 rfl
        have q1 := KS.cell_of 1 rfl
        have q2 := KS.cell_of 2 rfl
        have q3 := KS.cell_of 3 rfl
        have q4 := KS.cell_of 4 rfl
        have q5 := KS.cell_of 5 rfl
        have q6 := KS.cell_of 6 rfl
        have q7 := KS.cell_of 7 rfl
        have q8 := KS.cell_of 8 rfl
        have q9 := KS.cell_of 9 rfl
        have q10 := KS.cell_of 10 rfl
        have q11 := KS.cell_of 11 rfl
        have hks : kk = 0 ∨ kk = 1 ∨ kk = 2 ∨ kk = 3 ∨ kk = 4 ∨ kk = 5 ∨ kk = 6 ∨ kk = 7 := by omega
        have hrz := round_sz hsp
        have hll := letsOf_len (pre.map SV.s)
        have hfl1 := foldl_withN_len (letsOf (pre.map SV.s)) (f.params.foldl withN [])
        have hfl2 := foldl_withN_len f.params []
        have hrz2 : stSz (.mk kk name e ff body els) ≤ stsSz f.body := hrz.2
        have hrz1 := hrz.1
        rw [stSz_mk] at hrz2
        rw [List.length_map] at hll
        have hbz2 : stsSz f.body ≤ 1048576 := by unfold fnSz at hsz; omega
        have hlen : ((letsOf (pre.map SV.s)).foldl withN (f.params.foldl withN [])).length + 1 ≤ 4194304 := by rw [List.length_nil, Nat.zero_add] at hfl2; omega
        have hnl : name.length ≤ 1048576 := by omega
        clear hsp hrz hrz1 hrz2 hll hfl1 hfl2
        clear hcont hst hgs hR he hf hb1 hb2 hoth hkk hAB hszB hnc hbz
        rcases hks with rfl | rfl | rfl | rfl | rfl | rfl | rfl | rfl
        · gi_wp2_with fail
          refine ⟨trivial, fun hd => by simp [Fence.wide] at hd, ?_⟩
          gi_at_call 61
          refine (CallsIn.inRound l' (callsIn_wide.2 (statementOf_c 0 sA A1 A2 xA xA' yA yA' name.length sc body.length c1 els.length c2 xa xc xa' xc' ya yc ya' yc' xk xn yk yn B' (by omega) (by omega)))).mono ?_
          rintro r Z1 ⟨rfl, hz1⟩
          simp only [ifVal0]
          have hs1 := hz1.size
          have hb5 : ∀ o, Below B'.heap.size B' (Z1.alloc o) := fun o => hz1.alloc hs1 o
          have n0 := fun o => (hcell.below (hb5 o) hcell.lt).cell_of 0 (v := v) rfl
          have ta := ta_let
          have hc := fun o => withName_c _ name v sA sc B B w.heap.size (Z1.alloc o) (by simp; omega) (by simp; omega) hB hlen hnl (hrow.below (hb5 o)) (hRB.1.below ((hb5 o).mono (by omega)))
          have Hc := Lib.hid hc
          have Hrow := Lib.hid hrow
          clear hc hrow q0 q1 q2 q3 q4 q5 q6 q7 q8 q9 q10 q11 KS
          gi_wp2_with fail
          refine ⟨trivial, fun hd => by simp [Fence.wide] at hd, ?_⟩
          gi_at_call 38
          refine (CallsIn.inRound l' (callsIn_wide.2 (Hc.out _))).mono ?_
          rintro r Z2 ⟨v', rfl, hrow', hgr⟩
          obtain ⟨Av, cv, rfl, _⟩ := hrow'.bsl
          have hcell5 := hcell.below (hb5 (.cells #[.int .i64 xk, .int .i64 xn, .slice xA xa xc, .slice xA' xa' xc', .slice sA name.length sc] 136)) hcell.lt
          have hrow5 := Hrow.out.below (hb5 (.cells #[.int .i64 xk, .int .i64 xn, .slice xA xa xc, .slice xA' xa' xc', .slice sA name.length sc] 136))
          have hcell2 : Blk Z2 w1.heap.size 23 #[v] := (hgr.block _ hcell5.lt (hrow5.apart hcell5 not_NmT)).trans hcell5
          have z0 := hcell2.frozen 0
          have n0 := hcell2.cell_of 0 (v := v) rfl
          gi_wp2
          have hs2 := hgr.size
          have hsa : B'.heap.size ≤ (Z1.alloc (.cells #[.int .i64 xk, .int .i64 xn, .slice xA xa xc, .slice xA' xa' xc', .slice sA name.length sc] 136)).heap.size := (hb5 _).size
          refine ⟨((KB.of (hb5 _) _ _ NmT).trans (hrow5.kb hB hgr)).set_ (p := ⟨w1.heap.size, 0, none⟩) (by simp; omega) (.inl (by simp; omega)) _, ?_, ?_⟩
          · rw [letsOf_round, List.foldl_append]
            exact NmCell.store hcell2 hrow' (by omega)
          · exact ((hwB.trans ((hb5 _).mono (by omega))).grown hgr (by omega) (fun g hg => hrow5.ownb hg.symm.symm)).setCell (p := ⟨w1.heap.size, 0, none⟩) (by simp; omega) _
        · gi_wp2_with fail
          refine ⟨trivial, fun hd => by simp [Fence.wide] at hd, ?_⟩
          gi_at_call 61
          refine (CallsIn.inRound l' (callsIn_wide.2 (statementOf_c 1 sA A1 A2 xA xA' yA yA' name.length sc body.length c1 els.length c2 xa xc xa' xc' ya yc ya' yc' xk xn yk yn B' (by omega) (by omega)))).mono ?_
          rintro r Z1 ⟨rfl, hz1⟩
          simp only [ifVal1]
          have ta := ta_let_no 137 (by decide)
          unfold zLet at ta
          have hb5 : ∀ o, Below B'.heap.size B' (Z1.alloc o) := fun o => hz1.alloc hz1.size o
          have NC := Lib.hid (NmCell.mk_ hcell hrow)
          clear q0 q1 q2 q3 q4 q5 q6 q7 q8 q9 q10 q11 KS hcell hrow
          gi_wp2
          refine ⟨KB.of (hb5 _) _ _ NmT, ?_, hwB.trans ((hb5 _).mono (by omega))⟩
          rw [letsOf_round, List.foldl_append]
          exact NC.out.below (hb5 _)
        · gi_wp2_with fail
          refine ⟨trivial, fun hd => by simp [Fence.wide] at hd, ?_⟩
          gi_at_call 61
          refine (CallsIn.inRound l' (callsIn_wide.2 (statementOf_c 2 sA A1 A2 xA xA' yA yA' name.length sc body.length c1 els.length c2 xa xc xa' xc' ya yc ya' yc' xk xn yk yn B' (by omega) (by omega)))).mono ?_
          rintro r Z1 ⟨rfl, hz1⟩
          simp only [ifVal2]
          have ta := ta_let_no 139 (by decide)
          unfold zLet at ta
          have hb5 : ∀ o, Below B'.heap.size B' (Z1.alloc o) := fun o => hz1.alloc hz1.size o
          have NC := Lib.hid (NmCell.mk_ hcell hrow)
          clear q0 q1 q2 q3 q4 q5 q6 q7 q8 q9 q10 q11 KS hcell hrow
          gi_wp2
          refine ⟨KB.of (hb5 _) _ _ NmT, ?_, hwB.trans ((hb5 _).mono (by omega))⟩
          rw [letsOf_round, List.foldl_append]
          exact NC.out.below (hb5 _)
        · gi_wp2_with fail
          refine ⟨trivial, fun hd => by simp [Fence.wide] at hd, ?_⟩
          gi_at_call 61
          refine (CallsIn.inRound l' (callsIn_wide.2 (statementOf_c 3 sA A1 A2 xA xA' yA yA' name.length sc body.length c1 els.length c2 xa xc xa' xc' ya yc ya' yc' xk xn yk yn B' (by omega) (by omega)))).mono ?_
          rintro r Z1 ⟨rfl, hz1⟩
          simp only [ifVal3]
          have ta := ta_let_no 141 (by decide)
          unfold zLet at ta
          have hb5 : ∀ o, Below B'.heap.size B' (Z1.alloc o) := fun o => hz1.alloc hz1.size o
          have NC := Lib.hid (NmCell.mk_ hcell hrow)
          clear q0 q1 q2 q3 q4 q5 q6 q7 q8 q9 q10 q11 KS hcell hrow
          gi_wp2
          refine ⟨KB.of (hb5 _) _ _ NmT, ?_, hwB.trans ((hb5 _).mono (by omega))⟩
          rw [letsOf_round, List.foldl_append]
          exact NC.out.below (hb5 _)
        · gi_wp2_with fail
          refine ⟨trivial, fun hd => by simp [Fence.wide] at hd, ?_⟩
          gi_at_call 61
          refine (CallsIn.inRound l' (callsIn_wide.2 (statementOf_c 4 sA A1 A2 xA xA' yA yA' name.length sc body.length c1 els.length c2 xa xc xa' xc' ya yc ya' yc' xk xn yk yn B' (by omega) (by omega)))).mono ?_
          rintro r Z1 ⟨rfl, hz1⟩
          simp only [ifVal4]
          have ta := ta_let_no 142 (by decide)
          unfold zLet at ta
          have hb5 : ∀ o, Below B'.heap.size B' (Z1.alloc o) := fun o => hz1.alloc hz1.size o
          have NC := Lib.hid (NmCell.mk_ hcell hrow)
          clear q0 q1 q2 q3 q4 q5 q6 q7 q8 q9 q10 q11 KS hcell hrow
          gi_wp2
          refine ⟨KB.of (hb5 _) _ _ NmT, ?_, hwB.trans ((hb5 _).mono (by omega))⟩
          rw [letsOf_round, List.foldl_append]
          exact NC.out.below (hb5 _)
        · gi_wp2_with fail
          refine ⟨trivial, fun hd => by simp [Fence.wide] at hd, ?_⟩
          gi_at_call 61
          refine (CallsIn.inRound l' (callsIn_wide.2 (statementOf_c 5 sA A1 A2 xA xA' yA yA' name.length sc body.length c1 els.length c2 xa xc xa' xc' ya yc ya' yc' xk xn yk yn B' (by omega) (by omega)))).mono ?_
          rintro r Z1 ⟨rfl, hz1⟩
          simp only [ifVal5]
          have ta := ta_let_no 144 (by decide)
          unfold zLet at ta
          have hb5 : ∀ o, Below B'.heap.size B' (Z1.alloc o) := fun o => hz1.alloc hz1.size o
          have NC := Lib.hid (NmCell.mk_ hcell hrow)
          clear q0 q1 q2 q3 q4 q5 q6 q7 q8 q9 q10 q11 KS hcell hrow
          gi_wp2
          refine ⟨KB.of (hb5 _) _ _ NmT, ?_, hwB.trans ((hb5 _).mono (by omega))⟩
          rw [letsOf_round, List.foldl_append]
          exact NC.out.below (hb5 _)
        · gi_wp2_with fail
          refine ⟨trivial, fun hd => by simp [Fence.wide] at hd, ?_⟩
          gi_at_call 61
          refine (CallsIn.inRound l' (callsIn_wide.2 (statementOf_c 6 sA A1 A2 xA xA' yA yA' name.length sc body.length c1 els.length c2 xa xc xa' xc' ya yc ya' yc' xk xn yk yn B' (by omega) (by omega)))).mono ?_
          rintro r Z1 ⟨rfl, hz1⟩
          simp only [ifVal6]
          have ta := ta_let_no 146 (by decide)
          unfold zLet at ta
          have hb5 : ∀ o, Below B'.heap.size B' (Z1.alloc o) := fun o => hz1.alloc hz1.size o
          have NC := Lib.hid (NmCell.mk_ hcell hrow)
          clear q0 q1 q2 q3 q4 q5 q6 q7 q8 q9 q10 q11 KS hcell hrow
          gi_wp2
          refine ⟨KB.of (hb5 _) _ _ NmT, ?_, hwB.trans ((hb5 _).mono (by omega))⟩
          rw [letsOf_round, List.foldl_append]
          exact NC.out.below (hb5 _)
        · gi_wp2_with fail
          refine ⟨trivial, fun hd => by simp [Fence.wide] at hd, ?_⟩
          gi_at_call 61
          refine (CallsIn.inRound l' (callsIn_wide.2 (statementOf_c 7 sA A1 A2 xA xA' yA yA' name.length sc body.length c1 els.length c2 xa xc xa' xc' ya yc ya' yc' xk xn yk yn B' (by omega) (by omega)))).mono ?_
          rintro r Z1 ⟨rfl, hz1⟩
          simp only [ifVal7]
          have ta := ta_let_no 147 (by decide)
          unfold zLet at ta
          have hb5 : ∀ o, Below B'.heap.size B' (Z1.alloc o) := fun o => hz1.alloc hz1.size o
          have NC := Lib.hid (NmCell.mk_ hcell hrow)
          clear q0 q1 q2 q3 q4 q5 q6 q7 q8 q9 q10 q11 KS hcell hrow
          gi_wp2
          refine ⟨KB.of (hb5 _) _ _ NmT, ?_, hwB.trans ((hb5 _).mono (by omega))⟩
          rw [letsOf_round, List.foldl_append]
          exact NC.out.below (hb5 _)
end Go.Proofs.Ytmejbmfopdfbjaa
