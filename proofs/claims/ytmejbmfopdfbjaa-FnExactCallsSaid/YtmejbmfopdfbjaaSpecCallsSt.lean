/-
  The model's l2calls over statements.
-/
import Derived.Test.YtmejbmfopdfbjaaSpecCallsOf
import Derived.Deep.RegionWith
namespace Go.Proofs.Ytmejbmfopdfbjaa
open Go.RowKit Go.Shelf
set_option linter.unusedVariables false

theorem none_calls {f : Ex} (h : exNone f = true) (l : List (List UInt8)) : callsL l (flatEx f) = l := by
  cases f with
  | mk k n name args =>
    unfold exNone at h
    simp only [Bool.and_eq_true, beq_iff_eq] at h
    have ha : args = [] := List.length_eq_zero_iff.1 h.2
    subst ha
    rw [callsL_mk, callN_other _ _ _ _ _ (by omega)]
    rfl
theorem stOk1_none {k : Int} {name : List UInt8} {f : Ex} {nb ne : Nat} (h : stOk1 k name f nb ne = true) (hk : k ≠ 2) : exNone f = true := by
  unfold stOk1 at h
  split at h
  · simp only [Bool.and_eq_true] at h; exact h.1.1.2
  · try rw [if_neg hk] at h
    repeat' split at h
    all_goals first
      | (exact absurd ‹k = 2› hk)
      | (simp only [Bool.and_eq_true] at h; exact h.1.1.2)
      | (simp only [Bool.and_eq_true] at h; exact h.1.2)
      | (simp only [Bool.and_eq_true] at h; exact h.2)
      | (simp at h; done)
theorem calls_asks {k : Int} {name : List UInt8} {e f : Ex} {nb ne : Nat} (h : stOk1 k name f nb ne = true) (l : List (List UInt8)) : callsL l (flatExs (asksL k e f)) = callsL (callsL l (flatEx e)) (flatEx f) := by
  unfold asksL
  by_cases hk : k = 2
  · rw [if_pos hk]; simp only [flatExs, List.append_nil]; rw [callsL_app]
  · rw [if_neg hk, none_calls (stOk1_none h hk)]; simp only [flatExs, List.append_nil]
theorem calls_st {k : Int} {name : List UInt8} {e f : Ex} {body els : List St} (h : stOk1 k name f body.length els.length = true) (l : List (List UInt8)) :
    callsL l (stsEx (flatSt (.mk k name e f body els))) = callsL (callsL (callsL (callsL l (flatEx e)) (flatEx f)) (stsEx (flatSts body))) (stsEx (flatSts els)) := by
  have e1 : stsEx (.mk k name e f body els :: (flatSts body ++ flatSts els)) = flatExs (asksL k e f) ++ stsEx (flatSts body ++ flatSts els) := rfl
  rw [flatSt_mk, e1, stsEx_app2, callsL_app, callsL_app, calls_asks h]

def CaS (ls : List St) : Prop := ∀ (d : Nat) (A : Option Addr) (cp : Nat) (v : Value) (l : List (List UInt8)) (L B lo : Nat) (w : World), B ≤ lo → lo ≤ w.heap.size → stsGood ls d = true → l.length + 2 * stsSz ls ≤ 4194304 → stsSz ls ≤ 1048576 → StL w L B A ls → NmRow w B lo v l →
  Calls Try.prog 33 #[v, .slice A ls.length cp] w fun r w' => ∃ v', r = .returned v' ∧ NmRow w' B lo v' (callsL l (stsEx (flatSts ls))) ∧ KB lo 0 NmT w w'

set_option maxRecDepth 100000 in
set_option maxHeartbeats 8000000 in
theorem callsSts_of (ls : List St) (ih : ∀ s ∈ ls, ∀ k name e f body els, s = .mk k name e f body els → CaS body ∧ CaS els) : CaS ls := by
  intro d A cp v l L B lo w hBlo hlo hG hlen hsz h hrow0
  have hn := h.1
  unfold maxLen at hn
  have Ih := Lib.hid ih
  have HG := Lib.hid hG
  obtain ⟨Ak, ck, rfl, hck, hckm, hbs⟩ := hrow0.bsl
  have Row0 := Lib.hid hrow0
  clear ih hG hrow0 hbs
  go_enter Try.func33, Try.ntmps33
  go_wp2
  go_loopw [0, 5] (fun s i wr => ∃ j : Nat, j ≤ ls.length ∧ i = .int .i64 j ∧ NmRow wr B lo s (callsL l (stsEx (flatSts (ls.take j)))) ∧ KB lo 0 NmT w wr) (fun _ i _ => ls.length - (intOf i).toNat)
  case atStart => exact ⟨0, Nat.zero_le _, rfl, Row0.out, KB.refl _ _ _ _⟩
  case round =>
    obtain ⟨j, hj, rfl, hrow, hkb⟩ := hrel
    by_cases hlt : j < ls.length
    · have hBw : Below lo w wr := hkb.below hlo
      obtain ⟨ad, rfl, _, hbk, hat⟩ := (h.below (hBw.mono hBlo)).2 (by omega)
      obtain ⟨vs, hcells, hv⟩ := hat j hlt
      obtain ⟨k, name, e, f, body, els, hle⟩ : ∃ k name e f body els, ls[j] = .mk k name e f body els := by cases ls[j]; exact ⟨_, _, _, _, _, _, rfl⟩
      have hgd := stsGood_get hlt HG.out
      have hpz := stsSz_part hlt
      have hl0 := callsL_sts_len l (ls.take j)
      have hstep : ∀ acc, callsL acc (stsEx (flatSts (ls.take j)) ++ stsEx (flatSt ls[j])) = callsL (callsL acc (stsEx (flatSts (ls.take j)))) (stsEx (flatSt ls[j])) := fun acc => callsL_app _ _ _
      have hst2 : callsL l (stsEx (flatSts (ls.take (j + 1)))) = callsL (callsL l (stsEx (flatSts (ls.take j)))) (stsEx (flatSt ls[j])) := by rw [flatSts_step hlt, stsEx_app2, hstep]
      rw [hle, stGood_mk] at hgd
      simp only [Bool.and_eq_true, decide_eq_true_eq] at hgd
      rw [hle, calls_st hgd.1.1.1.1.2] at hst2
      rw [hle, stSz_mk] at hpz
      rw [hle] at hv
      obtain ⟨sA, sc, e0, e1, e2, e3, f0, f1, f2, f3, A1, c1, A2, c2, rfl, hR, hm, he, hf, hb1, hb2⟩ := hv.open_
      obtain ⟨ih1, ih2⟩ := Ih.out ls[j] (List.getElem_mem hlt) k name e f body els hle
      have hsr := hkb.size
      obtain ⟨a0, ha0⟩ : ∃ a, callsL l (stsEx (flatSts (ls.take j))) = a := ⟨_, rfl⟩
      rw [ha0] at hst2 hrow hl0
      have hl1 := callsL_ex_len a0 e
      have hl2 := callsL_ex_len (callsL a0 (flatEx e)) f
      have hl3 := callsL_sts_len (callsL (callsL a0 (flatEx e)) (flatEx f)) body
      have low : ∀ W, KB lo 0 NmT wr W → Below lo wr W := fun W hW => hW.below (by omega)
      have hS : ∀ W, KB lo 0 NmT wr W → AtN W (ad.add (j * 12)) [.int .i64 k, .slice sA name.length sc, e0, e1, e2, e3, f0, f1, f2, f3, .slice A1 body.length c1, .slice A2 els.length c2] := fun W hW =>
        hcells.keep fun q hq => (low W hW).cell (by rw [hq, block_of_add]; omega)
      have HS := Lib.hid hS
      have dr : ∀ (W : World) (m : Nat), Below W.heap.size W (W.drewN m) := fun W m => below_drewN (Below.refl _ _) m
      have hx1 := fun m => l2callsEx_c e e0 e1 e2 e3 _ a0 L B lo (wr.drewN m) hBlo (by have := (dr wr m).size; omega) (by omega) (by omega) (he.below ((dr wr m).mono (by omega))) (hrow.below (dr wr m))
      have hx2 := fun W v (hW : KB lo 0 NmT wr W) (hr : NmRow W B lo v (callsL a0 (flatEx e))) => l2callsEx_c f f0 f1 f2 f3 v _ L B lo W hBlo (by have := hW.size; omega) (by omega) (by omega) (hf.below ((low W hW).mono hBlo)) hr
      have hx3 := fun W v (m : Nat) (hW : KB lo 0 NmT wr W) (hr : NmRow W B lo v (callsL (callsL a0 (flatEx e)) (flatEx f))) => ih1 (d + 1) A1 c1 v _ L B lo (W.drewN m) hBlo (by have := hW.size; have := (dr W m).size; omega) hgd.1.2 (by omega) (by omega) ((hb1.below ((low W hW).mono hBlo)).below ((dr W m).mono (by have := hW.size; omega))) (hr.below (dr W m))
      have hx4 := fun W v (hW : KB lo 0 NmT wr W) (hr : NmRow W B lo v (callsL (callsL (callsL a0 (flatEx e)) (flatEx f)) (stsEx (flatSts body)))) => ih2 (d + 1) A2 c2 v _ L B lo W hBlo (by have := hW.size; omega) hgd.2 (by omega) (by omega) (hb2.below ((low W hW).mono hBlo)) hr
      obtain ⟨xk, xn, xA, xa, xc, xA', xa', xc', rfl, rfl, rfl, rfl⟩ := he.shape
      obtain ⟨yk, yn, yA, ya, yc, yA', ya', yc', rfl, rfl, rfl, rfl⟩ := hf.shape
      obtain ⟨As, cs, rfl, _⟩ := hrow.bsl
      have Hx1 := Lib.hid hx1
      have Hx2 := Lib.hid hx2
      have Hx3 := Lib.hid hx3
      have Hx4 := Lib.hid hx4
      have Hst := Lib.hid hst2
      have Hkb := Lib.hid hkb
      have hh0 := hS wr (KB.refl _ _ _ _)
      have Dr : Hid (∀ (W : World) (m : Nat), KB lo 0 NmT W (W.drewN m)) := Lib.hid fun W m => KB.of (dr W m) _ _ _
      clear hx1 hx2 hx3 hx4 hS hat hcells hv hR hm he hf hb1 hb2 ih1 ih2 hle hgd hst2 hstep hl0 hl1 hl2 hl3 hpz low hBw hrow hkb ha0 dr
      have q2 := hh0 2 _ rfl
      have q3 := hh0 3 _ rfl
      have q4 := hh0 4 _ rfl
      have q5 := hh0 5 _ rfl
      have q6 := hh0 6 _ rfl
      have q7 := hh0 7 _ rfl
      have q8 := hh0 8 _ rfl
      have q9 := hh0 9 _ rfl
      simp only [Nat.reduceEqDiff, if_false] at q2 q3 q4 q5 q6 q7 q8 q9
      clear hh0
      go_wp2_with fail
      go_region_with (first
        | (go_at_call_of 55 (Value.slice As a0.length cs); refine (Hx1.out 1).mono ?_; rintro r w1 ⟨v1, rfl, row1, kb1⟩; obtain ⟨As1, cs1, rfl, _⟩ := row1.bsl; have kb01 := (Dr.out wr 1).trans kb1; have hh0 := HS.out w1 kb01; have Hc2 := Lib.hid (Hx2.out w1 _ kb01 row1); have Kb1 := Lib.hid kb01; clear Hx1 row1 kb1 kb01; have t6 := hh0 6 _ rfl; have t7 := hh0 7 _ rfl; have t8 := hh0 8 _ rfl; have t9 := hh0 9 _ rfl; simp only [Nat.reduceEqDiff, if_false] at t6 t7 t8 t9; clear hh0)
        | (go_at_call 55; refine Hc2.out.mono ?_; rintro r w2 ⟨v2, rfl, row2, kb2⟩))
      all_goals
        obtain ⟨As2, cs2, rfl, _⟩ := row2.bsl
        have kb02 := Kb1.out.trans kb2
        have hh0 := HS.out w2 kb02
        have Hc3 := Lib.hid (fun m => Hx3.out w2 _ m kb02 row2)
        have Kb2 := Lib.hid kb02
        clear q2 q3 q4 q5 q6 q7 q8 q9 t6 t7 t8 t9 Hc2 Hx2 Hx3 row2 kb2 kb02 Kb1
        have q10 := hh0 10 _ rfl
        have q11 := hh0 11 _ rfl
        simp only [Nat.reduceEqDiff, if_false] at q10 q11
        clear hh0
        go_wp2_with fail
        go_region_with (first
          | (go_at_call_of 33 (Value.slice A1 body.length c1); refine (Hc3.out 1).mono ?_; rintro r w3 ⟨v3, rfl, row3, kb3⟩; obtain ⟨As3, cs3, rfl, _⟩ := row3.bsl; have kb03 := (Kb2.out.trans (Dr.out w2 1)).trans kb3; have hh0 := HS.out w3 kb03; have Hc4 := Lib.hid (Hx4.out w3 _ kb03 row3); have Kb3 := Lib.hid kb03; clear Hc3 row3 kb3 kb03; have t11 := hh0 11 _ rfl; simp only [Nat.reduceEqDiff, if_false] at t11; clear hh0)
          | (go_at_call 33; refine Hc4.out.mono ?_; rintro r w4 ⟨v4, rfl, row4, kb4⟩))
        all_goals
          have kb04 := Hkb.out.trans (Kb3.out.trans kb4)
          have Row4 := Lib.hid row4
          have Kb4 := Lib.hid kb04
          clear q10 q11 t11 Hc4 Hx4 row4 kb4 kb04 Kb3 Kb2
          go_wp2
          go_roundw
          case rel => exact ⟨j + 1, by omega, by go_num, by rw [Hst.out]; exact Row4.out, Kb4.out⟩
          case measure => simp [intOf]; omega
    · have Hrow := Lib.hid hrow
      clear hrow
      go_wp2
      go_ret
      have hjl : j = ls.length := by omega
      have h1 := Hrow.out
      rw [hjl, List.take_length] at h1
      exact ⟨_, rfl, h1, hkb⟩

theorem l2calls_c (ls : List St) : CaS ls := by
  have one : ∀ s : St, ∀ k name e f body els, s = .mk k name e f body els → CaS body ∧ CaS els := fun s => St.ind (P := fun s => ∀ k name e f body els, s = .mk k name e f body els → CaS body ∧ CaS els) (fun k name e f body els ih1 ih2 k' n' e' f' b' l' he => by
    injection he with _ _ _ _ h1 h2
    rw [← h1, ← h2]
    exact ⟨callsSts_of body ih1, callsSts_of els ih2⟩) s
  exact callsSts_of ls fun s _ => one s
end Go.Proofs.Ytmejbmfopdfbjaa
