/-
  The program's callsHold.
-/
import Derived.Test.YtglalpoalinieaaScope
import Derived.Test.YtglalpoalinieaaStsOk
import Derived.Test.YtglalpoalinieaaQuietRound
namespace Go.Proofs.Ytglalpoalinieaa
open Go.RowKit Go.Shelf
set_option linter.unusedVariables false
attribute [local go_sem] Oper.semAt_some

theorem callOk_other (l : List Fn) (k n : Int) (name : List UInt8) (args : List Ex) (h : k ≠ 5) : callOk l (.mk k n name args) = true := by simp [callOk, h]
theorem callOk_none (l : List Fn) (n : Int) (name : List UInt8) (args : List Ex) (h : placeOf (namesOf l) name < 0) : callOk l (.mk 5 n name args) = false := by
  have : decide (0 ≤ placeOf (namesOf l) name) = false := by simp; omega
  simp [callOk, this]
theorem callOk_some (l : List Fn) (n : Int) (name : List UInt8) (args : List Ex) (k : Nat) (hk : k < l.length) (h : placeOf (namesOf l) name = k) : callOk l (.mk 5 n name args) = decide (l[k].params.length = args.length) := by
  simp [callOk, h, List.getElem?_eq_getElem hk]

set_option maxRecDepth 100000 in
set_option maxHeartbeats 8000000 in
theorem callsHold_c (l : List Fn) (A : Option Addr) (cp : Nat) (f : Fn) (v0 v1 v2 : Value) (L B : Nat) (w : World) (hB : B ≤ w.heap.size) (hl : l.length ≤ 1048576) (hgd : stsGood f.body 2 = true) (h : FnL w L B A l) (hv : FnV w L B v0 v1 v2 f) :
    Calls Try.prog 54 #[.agg #[.slice A l.length cp], .agg #[v0, v1, v2]] w fun r w' => r = .returned (.bool ((fnEx f).all (callOk l))) ∧ Below w.heap.size w w' := by
  obtain ⟨fA, fc, fA1, fc1, fA2, fc2, rfl, rfl, rfl, fR, fm, fp, fb, fcp⟩ := hv
  have hb3 : Below w.heap.size w (((w.alloc (.cells #[.slice A l.length cp] 29)).alloc (.cells #[.slice fA f.name.length fc, .slice fA1 f.params.length fc1, .slice fA2 f.body.length fc2] 48)).alloc (.cells #[.bool false] 4)) := (((Below.refl _ _).alloc (Nat.le_refl _) _).alloc (by simp) _).alloc (by simp; omega) _
  have KP : Blk (((w.alloc (.cells #[.slice A l.length cp] 29)).alloc (.cells #[.slice fA f.name.length fc, .slice fA1 f.params.length fc1, .slice fA2 f.body.length fc2] 48)).alloc (.cells #[.bool false] 4)) w.heap.size 29 #[.slice A l.length cp] := ((Blk.new w _ _).alloc _).alloc _
  have KF : Blk (((w.alloc (.cells #[.slice A l.length cp] 29)).alloc (.cells #[.slice fA f.name.length fc, .slice fA1 f.params.length fc1, .slice fA2 f.body.length fc2] 48)).alloc (.cells #[.bool false] 4)) (w.heap.size + 1) 48 #[.slice fA f.name.length fc, .slice fA1 f.params.length fc1, .slice fA2 f.body.length fc2] := by
    have := (Blk.new (w.alloc (.cells #[.slice A l.length cp] 29)) 48 #[.slice fA f.name.length fc, .slice fA1 f.params.length fc1, .slice fA2 f.body.length fc2]).alloc (.cells #[.bool false] 4)
    simpa using this
  have KR : Blk (((w.alloc (.cells #[.slice A l.length cp] 29)).alloc (.cells #[.slice fA f.name.length fc, .slice fA1 f.params.length fc1, .slice fA2 f.body.length fc2] 48)).alloc (.cells #[.bool false] 4)) (w.heap.size + 1 + 1) 4 #[.bool false] := by
    have := Blk.new ((w.alloc (.cells #[.slice A l.length cp] 29)).alloc (.cells #[.slice fA f.name.length fc, .slice fA1 f.params.length fc1, .slice fA2 f.body.length fc2] 48)) 4 #[.bool false]
    simpa using this
  have hfn := funcNames_c l A cp L B _ (Nat.le_trans hB hb3.size) hl (h.below (hb3.mono hB))
  have Hfn := Lib.hid hfn
  clear hfn
  refine (callsIn_wide (n := 3)).1 ?_
  refine callsIn_of_wp_marks Try.func54 rfl trivial ?_ rfl
  simp only [Try.ntmps54, List.size_toArray, List.length_cons, List.length_nil, Nat.reduceAdd, Nat.reduceSub, Array.replicate_succ, Array.replicate_zero, List.push_toArray, List.append_toArray, List.nil_append, List.cons_append]
  gi_wp2_with fail
  refine ⟨trivial, ?_⟩
  gi_at_call 51
  refine (callsIn_wide.2 Hfn.out).mono ?_
  rintro r w1 ⟨A', c', rfl, hlc, _, hbs, hb1⟩
  have KP1 := KP.below hb1 KP.lt
  have KF1 := KF.below hb1 KF.lt
  have KR1 := KR.below hb1 KR.lt
  have hb01 := hb3.trans (hb1.mono hb3.size)
  have hw1 : w.heap.size + 3 ≤ w1.heap.size := by have := hb1.size; simpa using this
  have f2 := fun o => (KF1.alloc o).cell_of 2 (v := .slice fA2 f.body.length fc2) rfl
  clear Hfn KF KR KP
  gi_wp2_with fail
  refine ⟨trivial, ?_⟩
  gi_at_call 45
  refine (callsIn_wide.2 (expressionsIn_c fA2 _ fc2 _)).mono ?_
  rintro r W2 ⟨rfl, rfl⟩
  gi_wp2_with fail
  obtain ⟨V, hV⟩ : ∃ V, (w1.alloc (.cells #[.slice A' l.length c'] 40)).alloc (.cells #[.slice fA2 f.body.length fc2] 46) = V := ⟨_, rfl⟩
  have hVs : V.heap.size = w1.heap.size + 2 := by rw [← hV]; simp
  have hVb : Below w1.heap.size w1 V := by rw [← hV]; exact ((Below.refl _ _).alloc (Nat.le_refl _) _).alloc (by simp) _
  have hVc : V.cell? ⟨w1.heap.size + 1, 0, none⟩ = some (.slice fA2 f.body.length fc2) := by
    have := (Blk.new (w1.alloc (.cells #[.slice A' l.length c'] 40)) 46 #[.slice fA2 f.body.length fc2]).cell_of 0 (v := .slice fA2 f.body.length fc2) rfl
    rw [World.size_alloc] at this
    rw [← hV]; exact this
  have hVn : Blk V w1.heap.size 40 #[.slice A' l.length c'] := by rw [← hV]; exact (Blk.new w1 _ _).alloc _
  have KPV := KP1.below hVb KP1.lt
  have KRV := KR1.below hVb KR1.lt
  have hbV := hb01.trans (hVb.mono (by omega))
  have hlV := h.below (hbV.mono hB)
  have hbsV := hbs.below hVb
  have hseq := expressionsIn1_seq f.body 2 B (V.heap.size + 2) (w1.heap.size + 1) (fun _ => False) ⟨id, id, id, id⟩ fA2 fc2 V hgd (by omega) (by omega) hVc ((fb.more (Nat.zero_le _) (Nat.le_refl _)).below (hbV.mono hB))
  try rw [hV]
  clear hV hVc fR fp fb KF1 KR1 KP1 f2 hbs h
  refine range_good (gf := 78) (lb := #[.pointer (some ⟨w1.heap.size + 1, 0, none⟩)]) rfl (enters_of Try.func78 (by kernel_rfl) rfl) (n := B) (by omega) hseq (fun _ => rfl)
    (fun pre Z => (∀ x ∈ pre, callOk l x.e = true) ∧ Below V.heap.size V Z)
    (fun c pre Z => c = .ret ∧ (∃ x ∈ pre, callOk l x.e = false) ∧ Below (w.heap.size + 2) V Z ∧ Blk Z (w.heap.size + 1 + 1) 4 #[.bool false])
    (fun x A B' hx hb => ⟨hx.1, hx.2.trans hb.below⟩)
    (fun c x A B' hx hb => ⟨hx.1, hx.2.1, hx.2.2.1.trans (hb.below.mono (by omega)), hx.2.2.2.below hb.below (by omega)⟩)
    ⟨by simp, Below.refl _ _⟩ ?round ?done ?stop
  case done =>
    rintro D xs Z hD hS ⟨hh, hbz⟩ hK
    have hyes : (fnEx f).all (callOk l) = true := by
      have e1 : xs.map EV.e = fnEx f := hS
      rw [← e1, List.all_eq_true]
      intro y hy
      obtain ⟨x, hx, rfl⟩ := List.mem_map.1 hy
      exact hh x hx
    have hKR := KRV.below hbz (by omega)
    have r0 := hKR.cell_of 0 rfl
    have z0 := hKR.frozen 0
    have hKR2 := hKR.set_ 0 (.bool true)
    have hK2 : (Z.setCell ⟨w.heap.size + 1 + 1, 0, none⟩ (.bool true)).heap[D]? = some (.deferred (some [])) := (Below.heap_setCell Z ⟨w.heap.size + 1 + 1, 0, none⟩ _ D (by simp; omega)).trans hK
    have hb4 := ((hbV.trans (hbz.mono (by omega))).setCell (p := ⟨w.heap.size + 1 + 1, 0, none⟩) (by simp; omega) (.bool true)).trans (below_putObj (s := w.heap.size) (l := D) (.deferred none) (by omega))
    have r2 := (hKR2.below (below_putObj (s := w.heap.size + 3) (l := D) (.deferred none) (by omega)) (by omega)).cell_of 0 (v := .bool true) rfl
    have Hyes := Lib.hid hyes
    clear hKR hKR2 hyes
    gi_wp2
    refine ⟨by simp, .inl ⟨_, _, rfl, run_takeDeferred hK2, ?_⟩⟩
    exact ⟨.bool true, by simp [results, Try.results54, go_sem, r2], by rw [Hyes.out], hb4⟩
  case stop =>
    rintro D c pre Z hD hS ⟨rfl, hh, hbz, hKR⟩ hK
    have hno : (fnEx f).all (callOk l) = false := by
      obtain ⟨x, hx, hxc⟩ := hh
      rw [List.all_eq_false]
      exact ⟨x.e, hS.subset (List.mem_map_of_mem hx), by rw [hxc]; simp⟩
    have Hno := Lib.hid hno
    have r2 := (hKR.below (below_putObj (s := w.heap.size + 3) (l := D) (.deferred none) (by omega)) (by omega)).cell_of 0 (v := .bool false) rfl
    have hb4 := (hbV.trans (hbz.mono (by omega))).trans (below_putObj (s := w.heap.size) (l := D) (W := Z) (.deferred none) (by omega))
    clear hno hh
    gi_wp2
    refine ⟨by simp, .inl ⟨_, _, rfl, run_takeDeferred hK, ?_⟩⟩
    exact ⟨.bool false, by simp [results, Try.results54, go_sem, r2], by rw [Hno.out], hb4⟩
  case round =>
    rintro l' m' pre x Z K hZs ⟨i1, hbz⟩ hsp hgood hcont
    obtain ⟨y0, y1, y2, y3, ex⟩ := x
    obtain ⟨kk, nn, name, args⟩ := ex
    obtain ⟨xA, xc, xA', xc', rfl, rfl, rfl, rfl, hxR, hxm, hxx⟩ := ExV.open_ hgood
    dsimp only [evEnc]
    gi_wp2
    refine hcont _ _ ((Below.refl _ _).alloc (Nat.le_refl _) _) ?_
    intro B' hAB hsz hoth
    have hZB : Below V.heap.size Z B' := ((Below.refl V.heap.size Z).alloc (by omega) _).trans hAB.below
    have KE : Blk B' Z.heap.size 64 #[.int .i64 kk, .int .i64 nn, .slice xA name.length xc, .slice xA' args.length xc'] := (hoth Z.heap.size (by omega)).trans (Blk.new Z _ _)
    have hVB := hbz.trans hZB
    have hBs := hZB.size
    have q0 := KE.cell_of 0 rfl
    have I1 := Lib.hid i1
    clear hcont hoth hgood i1
    by_cases h5 : kk = 5
    · subst h5
      have hpl := placeOf_c (namesOf l) name A' xA c' xc 0 w1.heap.size B B' (by omega) (by omega) (by exact hbsV.below (hVB.mono (by omega))) (hxR.1.below (hZB.mono (by omega)))
      rw [show (namesOf l).length = l.length by unfold namesOf; rw [List.length_map]] at hpl
      have hple := place_le (namesOf l) name
      rw [show (namesOf l).length = l.length by unfold namesOf; rw [List.length_map]] at hple
      have Hpl := Lib.hid hpl
      have hVnB := hVn.below hVB hVn.lt
      have n0 := hVnB.cell_of 0 (v := .slice A' l.length c') rfl
      have q2 := KE.cell_of 2 (v := .slice xA name.length xc) rfl
      clear hpl
      gi_wp2_with fail
      refine ⟨trivial, fun hd => by simp [Fence.wide] at hd, ?_⟩
      gi_at_call 55
      refine (CallsIn.inRound l' (callsIn_wide.2 Hpl.out)).mono ?_
      rintro r Z2 ⟨rfl, hz2⟩
      have hVZ := hVB.trans (hz2.mono (by omega))
      have hKP2 := KPV.below hVZ KPV.lt
      have hKR2 := KRV.below hVZ KRV.lt
      have KE2 := KE.below hz2 KE.lt
      have p0 := hKP2.cell_of 0 (v := .slice A l.length cp) rfl
      have q3 := KE2.cell_of 3 (v := .slice xA' args.length xc') rfl
      have hs2 := hVZ.size
      clear q0 q2 n0 Hpl
      gi_wp2_with fail
      have hkR : KB B V.heap.size (fun _ => False) B' Z2 := KB.of hz2 _ _ _
      rcases Int.lt_or_le (placeOf (namesOf l) name) 0 with hneg | hpos
      · have hno := callOk_none l nn name args hneg
        have Hno := Lib.hid hno
        clear hno hple p0 q3
        refine wpIn_region_quiet_round (F := Fence.wide) rfl (by kernel_rfl) (by kernel_rfl) (by kernel_rfl) ?_
        repeat (gi_big_quiet_step (fail))
        refine wpQuietIn_nil ?_
        intro _ hw'
        obtain ⟨nq, hw''⟩ := hw'
        subst hw''
        have hKR3 := hKR2.drewN nq
        have r0 := hKR3.cell_of 0 rfl
        have z0 := hKR3.frozen 0
        have hKR4 := hKR3.set_ 0 (.bool false)
        have hzq : Below B'.heap.size B' (Z2.drewN nq) := ⟨hz2.os, hz2.tape, hz2.output, hz2.size, hz2.block⟩
        have hVq : Below V.heap.size V (Z2.drewN nq) := ⟨hVZ.os, hVZ.tape, hVZ.output, hVZ.size, hVZ.block⟩
        gi_wp2
        exact ⟨(KB.of hzq _ _ _).set_ (p := ⟨w.heap.size + 1 + 1, 0, none⟩) (by simp; omega) (.inl (by simp; omega)) _, rfl, ⟨_, List.mem_append_right _ (List.mem_singleton.2 rfl), Hno.out⟩, (hVq.mono (by omega)).setCell (p := ⟨w.heap.size + 1 + 1, 0, none⟩) (by simp) _, hKR4⟩
      · obtain ⟨k, hk⟩ : ∃ k : Nat, placeOf (namesOf l) name = (k : Int) := ⟨(placeOf (namesOf l) name).toNat, by omega⟩
        have hkl : k < l.length := by omega
        obtain ⟨ad, rfl, _, hbk, hat⟩ := (hlV.below (hVZ.mono (by omega))).2 (by omega)
        obtain ⟨u0, u1, u2, ⟨c0, c1, c2⟩, hv⟩ := hat k hkl
        obtain ⟨gA, gc, gA1, gc1, gA2, gc2, rfl, rfl, rfl, _, _, gp, _⟩ := hv
        have hok := callOk_some l nn name args k hkl hk
        have Hok := Lib.hid hok
        have hm1 := gp.1
        have hm2 := hxx.1
        have hml := hlV.1
        unfold maxLen at hm1 hm2 hml
        rw [hk]
        have hk0 : decide ((k : Int) < 0) = false := by simp
        clear hok hat c0 c2 gp hk hple
        refine wpIn_region_quiet_round (F := Fence.wide) rfl (by kernel_rfl) (by kernel_rfl) (by kernel_rfl) ?_
        repeat (gi_big_quiet_step (fail))
        refine wpQuietIn_nil ?_
        intro _ hw'
        obtain ⟨nq, hw''⟩ := hw'
        subst hw''
        have hzq : Below B'.heap.size B' (Z2.drewN nq) := ⟨hz2.os, hz2.tape, hz2.output, hz2.size, hz2.block⟩
        have hVq : Below V.heap.size V (Z2.drewN nq) := ⟨hVZ.os, hVZ.tape, hVZ.output, hVZ.size, hVZ.block⟩
        by_cases heq : l[k].params.length = args.length
        · have hb : ((l[k].params.length : Int) != (args.length : Int)) = false := by simp [heq]
          rw [hb]
          have leaf : ∀ x ∈ pre ++ [(⟨.int .i64 5, .int .i64 nn, .slice xA name.length xc, .slice xA' args.length xc', .mk 5 nn name args⟩ : EV)], callOk l x.e = true := fun x hx => by
            rcases List.mem_append.1 hx with h1 | h1
            · exact I1.out x h1
            · rw [List.mem_singleton.1 h1, Hok.out]; simp [heq]
          have Leaf := Lib.hid leaf
          clear leaf hb heq
          gi_wp2
          exact ⟨KB.of hzq _ _ _, Leaf.out, hVq⟩
        · have hb : ((l[k].params.length : Int) != (args.length : Int)) = true := by simp; omega
          rw [hb]
          have hno : callOk l (.mk 5 nn name args) = false := by rw [Hok.out]; simp [heq]
          have Hno := Lib.hid hno
          have hKR3 := hKR2.drewN nq
          have r0 := hKR3.cell_of 0 rfl
          have z0 := hKR3.frozen 0
          have hKR4 := hKR3.set_ 0 (.bool false)
          clear hno hb heq
          gi_wp2
          exact ⟨(KB.of hzq _ _ _).set_ (p := ⟨w.heap.size + 1 + 1, 0, none⟩) (by simp; omega) (.inl (by simp; omega)) _, rfl, ⟨_, List.mem_append_right _ (List.mem_singleton.2 rfl), Hno.out⟩, (hVq.mono (by omega)).setCell (p := ⟨w.heap.size + 1 + 1, 0, none⟩) (by simp) _, hKR4⟩
    · have hok := callOk_other l kk nn name args h5
      have Hok := Lib.hid hok
      clear hok
      have leaf : ∀ x ∈ pre ++ [(⟨.int .i64 kk, .int .i64 nn, .slice xA name.length xc, .slice xA' args.length xc', .mk kk nn name args⟩ : EV)], callOk l x.e = true := fun x hx => by
        rcases List.mem_append.1 hx with h1 | h1
        · exact I1.out x h1
        · rw [List.mem_singleton.1 h1]; exact Hok.out
      have Leaf := Lib.hid leaf
      clear leaf
      gi_wp2
      exact ⟨KB.refl _ _ _ _, Leaf.out, hVB⟩
end Go.Proofs.Ytglalpoalinieaa
