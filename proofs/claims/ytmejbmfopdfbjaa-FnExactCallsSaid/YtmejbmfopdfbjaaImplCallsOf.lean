/-
  The program's Calls of a function: a row of names, each in a block of its own.
-/
import Derived.Test.YtmejbmfopdfbjaaOwnRow
namespace Go.Proofs.Ytmejbmfopdfbjaa
open Go.RowKit Go.Shelf
set_option linter.unusedVariables false
attribute [local go_sem] Oper.semAt_some

def callsOf (f : Fn) : List (List UInt8) := if fnForm f = true then callsL [] (fnEx f) else []

/-- the cell of a row of names that are all ours, and the row -/
def OCell (w : World) (g n lo : Nat) (l : List (List UInt8)) : Prop := ∃ v, Blk w g 23 #[v] ∧ ORow w n lo v l
theorem OCell.ext {w w' : World} {g n lo s : Nat} {l : List (List UInt8)} (h : OCell w g n lo l) (he : Ext s NmT w w') (hn : n ≤ s) (hg : g < s) : OCell w' g n lo l := by
  obtain ⟨v, h1, h2⟩ := h
  exact ⟨v, h1.below he.below hg, h2.ext he hn⟩
theorem OCell.below {w w' : World} {g n lo : Nat} {l : List (List UInt8)} (h : OCell w g n lo l) (hb : Below w.heap.size w w') : OCell w' g n lo l := by
  obtain ⟨v, h1, h2⟩ := h
  exact ⟨v, h1.below hb h1.lt, h2.below hb⟩
theorem OCell.mk_ {w : World} {g n lo : Nat} {v : Value} {l : List (List UInt8)} (h : Blk w g 23 #[v]) (hr : ORow w n lo v l) : OCell w g n lo l := ⟨v, h, hr⟩
theorem OCell.store {w : World} {g n lo : Nat} {v v0 : Value} {l : List (List UInt8)} (hb : Blk w g 23 #[v0]) (h : ORow w n lo v l) (hg : n ≤ g) : OCell (w.setCell ⟨g, 0, none⟩ v) g n lo l :=
  ⟨v, hb.set_ 0 v, h.keep (by rw [World.size_setCell]; exact Nat.le_refl _) fun k hk hc => Below.heap_setCell w ⟨g, 0, none⟩ v k (by
    rintro rfl
    rcases hc with hc | hc
    · exact absurd hc (by simp; omega)
    · exact no_tag hb not_NmT hc)⟩

set_option maxRecDepth 100000 in
set_option maxHeartbeats 8000000 in
theorem implCalls_c (f : Fn) (v0 v1 v2 : Value) (L B : Nat) (w : World) (hB : B ≤ w.heap.size) (hsz : fnSz f ≤ 1048576) (h : FnV w L B v0 v1 v2 f) :
    Calls Try.prog 9 #[.agg #[v0, v1, v2]] w fun r w' => ∃ A c gs, r = .returned (.slice A (callsOf f).length c) ∧ OwnN w' w.heap.size A (callsOf f) gs ∧ Below w.heap.size w w' := by
  obtain ⟨fA, fc, fA1, fc1, fA2, fc2, rfl, rfl, rfl, fR, fm, fp, fb, fcp⟩ := h
  have hb0 : Below w.heap.size w (w.alloc (.cells #[.slice fA f.name.length fc, .slice fA1 f.params.length fc1, .slice fA2 f.body.length fc2] 31)) := (Below.refl _ _).alloc (Nat.le_refl _) _
  have KF := Blk.new w 31 #[.slice fA f.name.length fc, .slice fA1 f.params.length fc1, .slice fA2 f.body.length fc2]
  have hso := statementsOk_c f (.slice fA f.name.length fc) (.slice fA1 f.params.length fc1) (.slice fA2 f.body.length fc2) L B _ (Nat.le_trans hB hb0.size) hsz (FnV.below ⟨fA, fc, fA1, fc1, fA2, fc2, rfl, rfl, rfl, fR, fm, fp, fb, fcp⟩ (hb0.mono hB))
  cases hf : fnForm f
  · rw [hf] at hso
    have hco : callsOf f = [] := by unfold callsOf; rw [hf]; rfl
    rw [hco]
    have Hso := Lib.hid hso
    clear hso hf hco fR fm fp fb fcp hsz
    go_enter Try.func9, Try.ntmps9
    go_wp2_with fail
    refine Hso.out.mono ?_
    rintro r w1 ⟨rfl, hb1⟩
    go_wp2
    go_ret
    exact ⟨none, 0, fun _ => 0, rfl, fun h0 => by simp at h0, hb0.trans (hb1.mono hb0.size)⟩
  have hco : callsOf f = callsL [] (fnEx f) := by unfold callsOf; rw [hf]; rfl
  rw [hco]
  rw [hf] at hso
  have hgd : stsGood f.body 2 = true := by unfold fnForm at hf; simp only [Bool.and_eq_true] at hf; exact hf.2.1
  have hbz2 : stsSz f.body ≤ 1048576 := by unfold fnSz at hsz; omega
  have Hso := Lib.hid hso
  clear hso hf hco
  refine (callsIn_wide (n := 3)).1 ?_
  refine callsIn_of_wp_marks Try.func9 rfl trivial ?_ rfl
  simp only [Try.ntmps9, List.size_toArray, List.length_cons, List.length_nil, Nat.reduceAdd, Nat.reduceSub, Array.replicate_succ, Array.replicate_zero, List.push_toArray, List.append_toArray, List.nil_append, List.cons_append]
  gi_wp2_with fail
  refine ⟨trivial, ?_⟩
  gi_at_call 36
  refine (callsIn_wide.2 Hso.out).mono ?_
  rintro r w1 ⟨rfl, hb1⟩
  have KF1 := KF.below hb1 KF.lt
  have hb01 := hb0.trans (hb1.mono hb0.size)
  have hw1 : w.heap.size + 1 ≤ w1.heap.size := by have := hb1.size; simpa using this
  have f2 := fun o => (KF1.alloc o).cell_of 2 (v := .slice fA2 f.body.length fc2) rfl
  clear Hso hb0 hb1
  gi_wp2_with fail
  refine ⟨trivial, ?_⟩
  gi_at_call 37
  refine (callsIn_wide.2 (expressionsIn_c fA2 _ fc2 _)).mono ?_
  rintro r W2 ⟨rfl, rfl⟩
  gi_wp2_with fail
  obtain ⟨V, hV⟩ : ∃ V, (w1.alloc (.cells #[.slice none 0 0] 23)).alloc (.cells #[.slice fA2 f.body.length fc2] 29) = V := ⟨_, rfl⟩
  have hVs : V.heap.size = w1.heap.size + 2 := by rw [← hV]; simp
  have hVb : Below w1.heap.size w1 V := by rw [← hV]; exact ((Below.refl _ _).alloc (Nat.le_refl _) _).alloc (by simp) _
  have hVc : V.cell? ⟨w1.heap.size + 1, 0, none⟩ = some (.slice fA2 f.body.length fc2) := by
    have := (Blk.new (w1.alloc (.cells #[.slice none 0 0] 23)) 29 #[.slice fA2 f.body.length fc2]).cell_of 0 (v := .slice fA2 f.body.length fc2) rfl
    rw [World.size_alloc] at this
    rw [← hV]; exact this
  have hVn : OCell V w1.heap.size B w.heap.size [] := by rw [← hV]; exact ⟨_, (Blk.new w1 _ _).alloc _, ORow.nil _ _ _⟩
  have hbV := hb01.trans (hVb.mono (by omega))
  have hseq := expressionsIn1_seq f.body 2 B (V.heap.size + 2) (w1.heap.size + 1) NmT NmT.no fA2 fc2 V hgd (by omega) (by omega) hVc ((fb.more (Nat.zero_le _) (Nat.le_refl _)).below (hbV.mono hB))
  try rw [hV]
  clear hV hVc fR fp fb KF KF1 f2
  refine range_good (gf := 58) (lb := #[.pointer (some ⟨w1.heap.size + 1, 0, none⟩)]) rfl (enters_of Try.func58 (by kernel_rfl) rfl) (n := B) (by omega) hseq (fun _ => rfl)
    (fun pre Z => OCell Z w1.heap.size B w.heap.size (callsL [] (pre.map EV.e)) ∧ Below w.heap.size w Z)
    (fun c pre Z => False)
    (fun x A B' hx hb => ⟨hx.1.ext hb (by omega) (by omega), hx.2.trans (hb.below.mono (by omega))⟩)
    (fun c x A B' hx hb => hx)
    ⟨hVn, hbV⟩ ?round ?done ?stop
  case stop => rintro D c pre Z hD hS hx; exact hx.elim
  case done =>
    rintro D xs Z hD hS ⟨⟨v, hcell, hrow⟩, hbz⟩ hK
    have n0 := hcell.cell_of 0 rfl
    obtain ⟨Av, cv, rfl, _⟩ := hrow.1.bsl
    have Hrow := Lib.hid hrow
    clear hrow
    gi_wp2
    refine ⟨by simp, .inl ⟨_, _, rfl, run_takeDeferred hK, ?_⟩⟩
    have h2 := Hrow.out.ext (Ext.put_def (s := V.heap.size) (o := .deferred none) (by omega) hK) (by omega)
    have h3 := hbz.trans (below_putObj (s := w.heap.size) (l := D) (W := Z) (.deferred none) (by omega))
    rw [hS] at h2
    obtain ⟨A2, c2, gs, e2, ho⟩ := h2.own
    injection e2 with a1 a2 a3
    subst a1
    exact ⟨.slice Av (callsL [] (fnEx f)).length cv, by simp [results, Try.results9, go_sem, fnEx], Av, cv, gs, rfl, ho, h3⟩
  case round =>
    rintro l' m' pre x Z K hZs ⟨hnc, hbz⟩ hsp hgood hcont
    obtain ⟨y0, y1, y2, y3, ex⟩ := x
    obtain ⟨kk, nn, name, args⟩ := ex
    have hrz := ex_round_sz hsp
    have hrz2 : exSz (.mk kk nn name args) ≤ stsSz f.body := hrz.2
    have hrz1 := hrz.1
    rw [exSz_mk] at hrz2
    have hcl := callsL_len (pre.map EV.e) []
    rw [List.length_map, List.length_nil, Nat.zero_add] at hcl
    have hlen : (callsL [] (pre.map EV.e)).length + 1 ≤ 4194304 := by omega
    have hnl : name.length ≤ 1048576 := by omega
    have hnext : callsL [] ((pre ++ [EV.mk y0 y1 y2 y3 (.mk kk nn name args)]).map EV.e) = callN (callsL [] (pre.map EV.e)) (.mk kk nn name args) := by rw [List.map_append, callsL_app]; rfl
    obtain ⟨xA, xc, xA', xc', rfl, rfl, rfl, rfl, hxR, hxm, hxx⟩ := ExV.open_ hgood
    dsimp only [evEnc]
    have Hnext := Lib.hid hnext
    clear hsp hrz hrz1 hrz2 hcl hnext hgood hxx
    gi_wp2
    refine hcont _ _ ((Below.refl _ _).alloc (Nat.le_refl _) _) ?_
    intro B' hAB hsz' hoth
    have hZBx := (Ext.of (s := V.heap.size) (T := NmT) ((Below.refl _ Z).alloc (Nat.le_refl _) _) (by omega)).trans hAB
    have hZB := hZBx.below
    have KE : Blk B' Z.heap.size 73 #[.int .i64 kk, .int .i64 nn, .slice xA name.length xc, .slice xA' args.length xc'] := (hoth Z.heap.size (by omega)).trans (Blk.new Z _ _)
    obtain ⟨v, hcell, hrow⟩ := hnc.ext hZBx (by omega) (by omega)
    have hRB := hxR.1.below (hZB.mono (by omega))
    have hBs : V.heap.size + 2 ≤ B'.heap.size := by have := hZB.size; omega
    have hwB := hbz.trans (hZB.mono (by omega))
    have q0 := KE.cell_of 0 rfl
    clear hcont hoth hnc hbz hZBx hAB hsz'
    by_cases h5 : kk = 5
    · subst h5
      have q2 := KE.cell_of 2 (v := .slice xA name.length xc) rfl
      have n0 := hcell.cell_of 0 (v := v) rfl
      have hc := withNameO_c (callsL [] (pre.map EV.e)) name v xA xc B B w.heap.size B' (by omega) (by omega) hB hlen hnl hrow hRB
      have Hc := Lib.hid hc
      have Hrow := Lib.hid hrow
      have Hcell := Lib.hid hcell
      clear hc hrow hcell KE
      gi_wp2_with fail
      refine ⟨trivial, fun hd => by simp [Fence.wide] at hd, ?_⟩
      gi_at_call 38
      refine (CallsIn.inRound l' (callsIn_wide.2 Hc.out)).mono ?_
      rintro r Z2 ⟨v', rfl, hrow', hgr⟩
      obtain ⟨Av, cv, rfl, _⟩ := hrow'.1.bsl
      have hcell2 : Blk Z2 w1.heap.size 23 #[v] := (hgr.block _ Hcell.out.lt (Hrow.out.1.apart Hcell.out not_NmT)).trans Hcell.out
      have z0 := hcell2.frozen 0
      have n0 := hcell2.cell_of 0 (v := v) rfl
      have Hrow' := Lib.hid hrow'
      clear hrow' Hc q0 q2
      gi_wp2
      have hs2 := hgr.size
      refine ⟨(Hrow.out.1.kb hB hgr).set_ (p := ⟨w1.heap.size, 0, none⟩) (by simp; omega) (.inl (by simp; omega)) _, ?_, ?_⟩
      · rw [Hnext.out, callN_call]
        exact OCell.store hcell2 Hrow'.out (by omega)
      · exact (hwB.grown hgr (by omega) (fun g hg => Hrow.out.1.ownb hg.symm.symm)).setCell (p := ⟨w1.heap.size, 0, none⟩) (by simp; omega) _
    · have NC := Lib.hid (OCell.mk_ hcell hrow)
      clear hcell hrow KE
      gi_wp2
      refine ⟨KB.refl _ _ _ _, ?_, hwB⟩
      rw [Hnext.out, callN_other _ _ _ _ _ h5]
      exact NC.out
end Go.Proofs.Ytmejbmfopdfbjaa
