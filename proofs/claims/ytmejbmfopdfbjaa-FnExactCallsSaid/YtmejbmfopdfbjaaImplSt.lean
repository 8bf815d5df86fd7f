/-
  The program's measure of one statement.
-/
import Derived.Test.YtmejbmfopdfbjaaStParts
namespace Go.Proofs.Ytmejbmfopdfbjaa
open Go.RowKit
set_option linter.unusedVariables false

set_option maxRecDepth 100000 in
set_option maxHeartbeats 8000000 in
theorem measureSt_of (k : Int) (name : List UInt8) (e f : Ex) (body els : List St) (ih1 : MeaSts body) (ih2 : MeaSts els) : MeaSt (.mk k name e f body els) := by
  intro vs L B g d a c w h hB hg hsz hK ha ha' hc hc' hd
  have hv := h
  obtain ⟨A, cn, e0, e1, e2, e3, f0, f1, f2, f3, A1, c1, A2, c2, rfl, hR, hm, he, hf, hb1, hb2⟩ := h.open_
  have Ih1 := Lib.hid ih1
  have Ih2 := Lib.hid ih2
  obtain ⟨xk, xn, xA, xa, xc, xA', xa', xc', rfl, rfl, rfl, rfl⟩ := he.shape
  obtain ⟨yk, yn, yA, ya, yc, yA', ya', yc', rfl, rfl, rfl, rfl⟩ := hf.shape
  clear ih1 ih2
  go_enter Try.func88, Try.ntmps88
  go_wp2_with fail
  refine (enter_c g a c d _ (hK.alloc _) ha ha' hc hc' (by omega) (by omega)).mono ?_
  rintro r w1 ⟨rfl, hP1, hK1⟩
  have hP01 := ((Past.refl g w).alloc _).trans hP1
  cases hen : enterOk a d
  · have Hen := Lib.hid hen
    clear hen
    go_wp2
    go_ret
    refine ⟨false, rfl, hP01, _, _, hK1, ⟨fun hh => Bool.noConfusion hh, fun hh => ?_⟩, fun hh => Bool.noConfusion hh⟩
    have hE := Hen.out
    unfold enterOk at hE
    have hG := hh.1
    have hN := stN_pos (.mk k name e f body els)
    have hL := hh.2
    rw [stGood_mk] at hG
    simp only [Bool.and_eq_true, decide_eq_true_eq] at hG
    have h7 := hG.1.1.1.1.1
    simp at hE
    omega
  have Hen : Hid (a + 1 ≤ 90 ∧ d ≤ 7) := Lib.hid (by unfold enterOk at hen; simp at hen; omega)
  clear hen
  have hne : w.heap.size ≠ g := by have := hK.lt; omega
  have K1 := (Blk.new w 98 _).past hP1 hne
  have hv1 := hv.below (hP01.below hg hB)
  have hw1 := hP01.size
  have hz := hsz
  rw [stSz_mk] at hz
  have Hz := Lib.hid hz
  have hname : name.length ≤ 4294967296 := by omega
  clear hz
  have q0 := K1.cell_of 0 rfl
  have q1 := K1.cell_of 1 rfl
  have q2 := K1.cell_of 2 rfl
  have q3 := K1.cell_of 3 rfl
  have q4 := K1.cell_of 4 rfl
  have q5 := K1.cell_of 5 rfl
  have q6 := K1.cell_of 6 rfl
  have q7 := K1.cell_of 7 rfl
  have q8 := K1.cell_of 8 rfl
  have q9 := K1.cell_of 9 rfl
  have q10 := K1.cell_of 10 rfl
  have q11 := K1.cell_of 11 rfl
  go_wp2_with fail
  refine (stOk_c k name e f body els _ L B w1 hname (by omega) hv1).mono ?_
  rintro r w2 ⟨rfl, hb12⟩
  have hP02 := hP01.trans (Past.of hb12 g)
  have hK2 := hK1.below hb12 hK1.lt
  clear q0 q1 q2 q3 q4 q5 q6 q7 q8 q9 q10 q11
  cases hok : stOk1 k name f body.length els.length
  · have Hok := Lib.hid hok
    clear hok
    go_wp2
    go_ret
    refine ⟨false, rfl, hP02, _, _, hK2, ⟨fun hh => Bool.noConfusion hh, fun hh => ?_⟩, fun hh => Bool.noConfusion hh⟩
    have hG := hh.1
    rw [stGood_mk, Hok.out] at hG
    simp at hG
  have hkk := stOk1_kind hok
  have hparts := stGood_parts (e := e) hok d
  have Parts := Lib.hid hparts
  clear hparts hok
  have K2 := K1.below hb12 K1.lt
  have q0 := K2.cell_of 0 rfl
  have q1 := K2.cell_of 1 rfl
  have q2 := K2.cell_of 2 rfl
  have q3 := K2.cell_of 3 rfl
  have q4 := K2.cell_of 4 rfl
  have q5 := K2.cell_of 5 rfl
  have q6 := K2.cell_of 6 rfl
  have q7 := K2.cell_of 7 rfl
  have q8 := K2.cell_of 8 rfl
  have q9 := K2.cell_of 9 rfl
  have q10 := K2.cell_of 10 rfl
  have q11 := K2.cell_of 11 rfl
  go_wp2_with fail
  refine (statementOf_c k _ _ _ _ _ _ _ _ _ _ _ _ _ _ _ _ _ _ _ _ _ _ _ _ _ w2 hkk.1 hkk.2).mono ?_
  rintro r w3 ⟨rfl, hb23⟩
  clear q0 q1 q2 q3 q4 q5 q6 q7 q8 q9 q10 q11
  have hP03 := hP02.trans (Past.of hb23 g)
  have hK3 := hK2.below hb23 hK2.lt
  have hks : k = 0 ∨ k = 1 ∨ k = 2 ∨ k = 3 ∨ k = 4 ∨ k = 5 ∨ k = 6 ∨ k = 7 := by omega
  have hw3 := hP03.size
  have hgw := hK.lt
  have hd8 : d + 1 ≤ 8 := by have := Hen.out.2; omega
  have ha1 : a + 1 ≤ 90 := Hen.out.1
  clear K1 K2 hv1 hkk hK1 hK2 hP1 hb12 hb23
  rcases hks with rfl | rfl | rfl | rfl | rfl | rfl | rfl | rfl
  · -- kind 0
    simp only [ifVal0]
    have ma := @m_asks0
    go_wp2_with fail
    refine (havingAsks_c _ _ _ _ _ _ _ _ w3).mono ?_
    rintro r w4 ⟨g4, rfl, hg4, hB4, hb4⟩
    have hP04 := hP03.trans (Past.of hb4 g)
    have hK4 := hK3.below hb4 hK3.lt
    have hx : ExR w4 g L B (some ⟨g4, 0, none⟩) [e] := exr_one hB4 (by omega) (he.below (hP04.below hg hB))
    have hc0 := measureExs_c [e] (some ⟨g4, 0, none⟩) 1 L B g (d + 1) (a + 1) (max c d) w4 hx (Nat.le_trans hB hP04.size) hg (by have := Hz.out; simp only [exsSz]; omega) hK4 (by omega) ha1 (by omega) (by omega) hd8
    rw [show (((d + 1 : Nat)) : Int) = (d : Int) + 1 by omega] at hc0
    have Hc := Lib.hid hc0
    have hle := exsDeep_le [e] (d + 1)
    have Hle := Lib.hid hle
    clear hc0 hx hb4 ma hle hB4
    have hdd : d ≤ 7 := by omega
    go_wp2_with fail
    refine Hc.out.mono ?_
    rintro r w5 ⟨b, rfl, hP5, a5, c5, hK5, hiff, himp⟩
    have Hiff := Lib.hid hiff
    have Himp := Lib.hid himp
    have hP05 := hP04.trans hP5
    clear hiff himp Hc
    cases b
    · go_wp2
      go_ret
      refine ⟨false, rfl, hP05, _, _, hK5, ⟨fun hh => Bool.noConfusion hh, fun hh => ?_⟩, fun hh => Bool.noConfusion hh⟩
      obtain ⟨p1, p2, p3⟩ := Parts.out
      have hG := hh.1
      rw [p1] at hG
      simp only [Bool.and_eq_true] at hG
      exact Hiff.out.2 ⟨hG.1.2, by have := hh.2; rw [p2] at this; have e1 : asksL 0 e f = [e] := rfl; rw [e1] at this; omega⟩
    have mb := @m_blocks0
    have hA := Hiff.out.1 (by trivial)
    have hM := Himp.out (by trivial)
    have hle := Hle.out hA.1
    have F5 : Hid ((exsGood [e] (d + 1) = true ∧ a + 1 + exsN [e] ≤ 90) ∧ (a5 = a + 1 + exsN [e] ∧ c5 = max (max c d) (exsDeep [e] (d + 1))) ∧ exsDeep [e] (d + 1) ≤ 7) := Lib.hid ⟨hA, hM, hle⟩
    have ha5 : 0 ≤ a5 := by omega
    have ha5' : a5 ≤ 90 := by omega
    have hc5 : 0 ≤ c5 := by omega
    have hc5' : c5 ≤ 100 := by omega
    clear hA hM hle Hiff Himp Hle
    go_wp2_with fail
    refine (havingBlocks_c _ _ _ _ _ _ _ _ w5).mono ?_
    rintro r w6 ⟨rfl, hb6⟩
    have hP06 := hP05.trans (Past.of hb6 g)
    have hK6 := hK5.below hb6 hK5.lt
    clear mb
    go_wp2
    go_loopw [31] (fun i wr => i = .int .i64 0 ∧ wr = w6) (fun i _ => 0)
    case atStart => exact ⟨rfl, rfl⟩
    case round =>
      obtain ⟨rfl, rfl⟩ := hrel
      go_wp2
      go_ret
      obtain ⟨p1, p2, p3⟩ := Parts.out
      obtain ⟨⟨f1, f2⟩, ⟨f3, f4⟩, f5⟩ := F5.out
      have e1 : asksL 0 e f = [e] := rfl
      have e2 : blocksL 0 body els = [] := rfl
      rw [e1, e2] at p1 p2 p3
      rw [f1] at p1
      simp [blksGood, blksN, blksDeep, hdd] at p1 p2 p3
      refine ⟨true, rfl, hP06, a5, c5, hK6, ⟨fun _ => ⟨p1, by omega⟩, fun _ => rfl⟩, fun _ => ⟨by omega, by omega⟩⟩
  · -- kind 1
    simp only [ifVal1]
    have ma := @m_asks1
    go_wp2_with fail
    refine (havingAsks_c _ _ _ _ _ _ _ _ w3).mono ?_
    rintro r w4 ⟨g4, rfl, hg4, hB4, hb4⟩
    have hP04 := hP03.trans (Past.of hb4 g)
    have hK4 := hK3.below hb4 hK3.lt
    have hx : ExR w4 g L B (some ⟨g4, 0, none⟩) [e] := exr_one hB4 (by omega) (he.below (hP04.below hg hB))
    have hc0 := measureExs_c [e] (some ⟨g4, 0, none⟩) 1 L B g (d + 1) (a + 1) (max c d) w4 hx (Nat.le_trans hB hP04.size) hg (by have := Hz.out; simp only [exsSz]; omega) hK4 (by omega) ha1 (by omega) (by omega) hd8
    rw [show (((d + 1 : Nat)) : Int) = (d : Int) + 1 by omega] at hc0
    have Hc := Lib.hid hc0
    have hle := exsDeep_le [e] (d + 1)
    have Hle := Lib.hid hle
    clear hc0 hx hb4 ma hle hB4
    have hdd : d ≤ 7 := by omega
    go_wp2_with fail
    refine Hc.out.mono ?_
    rintro r w5 ⟨b, rfl, hP5, a5, c5, hK5, hiff, himp⟩
    have Hiff := Lib.hid hiff
    have Himp := Lib.hid himp
    have hP05 := hP04.trans hP5
    clear hiff himp Hc
    cases b
    · go_wp2
      go_ret
      refine ⟨false, rfl, hP05, _, _, hK5, ⟨fun hh => Bool.noConfusion hh, fun hh => ?_⟩, fun hh => Bool.noConfusion hh⟩
      obtain ⟨p1, p2, p3⟩ := Parts.out
      have hG := hh.1
      rw [p1] at hG
      simp only [Bool.and_eq_true] at hG
      exact Hiff.out.2 ⟨hG.1.2, by have := hh.2; rw [p2] at this; have e1 : asksL 1 e f = [e] := rfl; rw [e1] at this; omega⟩
    have mb := @m_blocks1
    have hA := Hiff.out.1 (by trivial)
    have hM := Himp.out (by trivial)
    have hle := Hle.out hA.1
    have F5 : Hid ((exsGood [e] (d + 1) = true ∧ a + 1 + exsN [e] ≤ 90) ∧ (a5 = a + 1 + exsN [e] ∧ c5 = max (max c d) (exsDeep [e] (d + 1))) ∧ exsDeep [e] (d + 1) ≤ 7) := Lib.hid ⟨hA, hM, hle⟩
    have ha5 : 0 ≤ a5 := by omega
    have ha5' : a5 ≤ 90 := by omega
    have hc5 : 0 ≤ c5 := by omega
    have hc5' : c5 ≤ 100 := by omega
    clear hA hM hle Hiff Himp Hle
    go_wp2_with fail
    refine (havingBlocks_c _ _ _ _ _ _ _ _ w5).mono ?_
    rintro r w6 ⟨rfl, hb6⟩
    have hP06 := hP05.trans (Past.of hb6 g)
    have hK6 := hK5.below hb6 hK5.lt
    clear mb
    go_wp2
    go_loopw [31] (fun i wr => i = .int .i64 0 ∧ wr = w6) (fun i _ => 0)
    case atStart => exact ⟨rfl, rfl⟩
    case round =>
      obtain ⟨rfl, rfl⟩ := hrel
      go_wp2
      go_ret
      obtain ⟨p1, p2, p3⟩ := Parts.out
      obtain ⟨⟨f1, f2⟩, ⟨f3, f4⟩, f5⟩ := F5.out
      have e1 : asksL 1 e f = [e] := rfl
      have e2 : blocksL 1 body els = [] := rfl
      rw [e1, e2] at p1 p2 p3
      rw [f1] at p1
      simp [blksGood, blksN, blksDeep, hdd] at p1 p2 p3
      refine ⟨true, rfl, hP06, a5, c5, hK6, ⟨fun _ => ⟨p1, by omega⟩, fun _ => rfl⟩, fun _ => ⟨by omega, by omega⟩⟩
  · -- kind 2
    simp only [ifVal2]
    have ma := @m_asks2
    go_wp2_with fail
    refine (puttingAsks_c _ _ _ _ _ _ _ _ _ _ _ _ _ _ _ _ _ _ _ w3).mono ?_
    rintro r w4 ⟨g4, rfl, hg4, hB4, hb4⟩
    have hP04 := hP03.trans (Past.of hb4 g)
    have hK4 := hK3.below hb4 hK3.lt
    have hx : ExR w4 g L B (some ⟨g4, 0, none⟩) [e, f] := exr_two hB4 (by omega) (he.below (hP04.below hg hB)) (hf.below (hP04.below hg hB))
    have hc0 := measureExs_c [e, f] (some ⟨g4, 0, none⟩) 2 L B g (d + 1) (a + 1) (max c d) w4 hx (Nat.le_trans hB hP04.size) hg (by have := Hz.out; simp only [exsSz]; omega) hK4 (by omega) ha1 (by omega) (by omega) hd8
    rw [show (((d + 1 : Nat)) : Int) = (d : Int) + 1 by omega] at hc0
    have Hc := Lib.hid hc0
    have hle := exsDeep_le [e, f] (d + 1)
    have Hle := Lib.hid hle
    clear hc0 hx hb4 ma hle hB4
    have hdd : d ≤ 7 := by omega
    go_wp2_with fail
    refine Hc.out.mono ?_
    rintro r w5 ⟨b, rfl, hP5, a5, c5, hK5, hiff, himp⟩
    have Hiff := Lib.hid hiff
    have Himp := Lib.hid himp
    have hP05 := hP04.trans hP5
    clear hiff himp Hc
    cases b
    · go_wp2
      go_ret
      refine ⟨false, rfl, hP05, _, _, hK5, ⟨fun hh => Bool.noConfusion hh, fun hh => ?_⟩, fun hh => Bool.noConfusion hh⟩
      obtain ⟨p1, p2, p3⟩ := Parts.out
      have hG := hh.1
      rw [p1] at hG
      simp only [Bool.and_eq_true] at hG
      exact Hiff.out.2 ⟨hG.1.2, by have := hh.2; rw [p2] at this; have e1 : asksL 2 e f = [e, f] := rfl; rw [e1] at this; omega⟩
    have mb := @m_blocks2
    have hA := Hiff.out.1 (by trivial)
    have hM := Himp.out (by trivial)
    have hle := Hle.out hA.1
    have F5 : Hid ((exsGood [e, f] (d + 1) = true ∧ a + 1 + exsN [e, f] ≤ 90) ∧ (a5 = a + 1 + exsN [e, f] ∧ c5 = max (max c d) (exsDeep [e, f] (d + 1))) ∧ exsDeep [e, f] (d + 1) ≤ 7) := Lib.hid ⟨hA, hM, hle⟩
    have ha5 : 0 ≤ a5 := by omega
    have ha5' : a5 ≤ 90 := by omega
    have hc5 : 0 ≤ c5 := by omega
    have hc5' : c5 ≤ 100 := by omega
    clear hA hM hle Hiff Himp Hle
    go_wp2_with fail
    refine (havingBlocks_c _ _ _ _ _ _ _ _ w5).mono ?_
    rintro r w6 ⟨rfl, hb6⟩
    have hP06 := hP05.trans (Past.of hb6 g)
    have hK6 := hK5.below hb6 hK5.lt
    clear mb
    go_wp2
    go_loopw [31] (fun i wr => i = .int .i64 0 ∧ wr = w6) (fun i _ => 0)
    case atStart => exact ⟨rfl, rfl⟩
    case round =>
      obtain ⟨rfl, rfl⟩ := hrel
      go_wp2
      go_ret
      obtain ⟨p1, p2, p3⟩ := Parts.out
      obtain ⟨⟨f1, f2⟩, ⟨f3, f4⟩, f5⟩ := F5.out
      have e1 : asksL 2 e f = [e, f] := rfl
      have e2 : blocksL 2 body els = [] := rfl
      rw [e1, e2] at p1 p2 p3
      rw [f1] at p1
      simp [blksGood, blksN, blksDeep, hdd] at p1 p2 p3
      refine ⟨true, rfl, hP06, a5, c5, hK6, ⟨fun _ => ⟨p1, by omega⟩, fun _ => rfl⟩, fun _ => ⟨by omega, by omega⟩⟩
  · -- kind 3
    simp only [ifVal3]
    have ma := @m_asks3
    go_wp2_with fail
    refine (havingAsks_c _ _ _ _ _ _ _ _ w3).mono ?_
    rintro r w4 ⟨g4, rfl, hg4, hB4, hb4⟩
    have hP04 := hP03.trans (Past.of hb4 g)
    have hK4 := hK3.below hb4 hK3.lt
    have hx : ExR w4 g L B (some ⟨g4, 0, none⟩) [e] := exr_one hB4 (by omega) (he.below (hP04.below hg hB))
    have hc0 := measureExs_c [e] (some ⟨g4, 0, none⟩) 1 L B g (d + 1) (a + 1) (max c d) w4 hx (Nat.le_trans hB hP04.size) hg (by have := Hz.out; simp only [exsSz]; omega) hK4 (by omega) ha1 (by omega) (by omega) hd8
    rw [show (((d + 1 : Nat)) : Int) = (d : Int) + 1 by omega] at hc0
    have Hc := Lib.hid hc0
    have hle := exsDeep_le [e] (d + 1)
    have Hle := Lib.hid hle
    clear hc0 hx hb4 ma hle hB4
    have hdd : d ≤ 7 := by omega
    go_wp2_with fail
    refine Hc.out.mono ?_
    rintro r w5 ⟨b, rfl, hP5, a5, c5, hK5, hiff, himp⟩
    have Hiff := Lib.hid hiff
    have Himp := Lib.hid himp
    have hP05 := hP04.trans hP5
    clear hiff himp Hc
    cases b
    · go_wp2
      go_ret
      refine ⟨false, rfl, hP05, _, _, hK5, ⟨fun hh => Bool.noConfusion hh, fun hh => ?_⟩, fun hh => Bool.noConfusion hh⟩
      obtain ⟨p1, p2, p3⟩ := Parts.out
      have hG := hh.1
      rw [p1] at hG
      simp only [Bool.and_eq_true] at hG
      exact Hiff.out.2 ⟨hG.1.2, by have := hh.2; rw [p2] at this; have e1 : asksL 3 e f = [e] := rfl; rw [e1] at this; omega⟩
    have mb := @m_blocks3
    have hA := Hiff.out.1 (by trivial)
    have hM := Himp.out (by trivial)
    have hle := Hle.out hA.1
    have F5 : Hid ((exsGood [e] (d + 1) = true ∧ a + 1 + exsN [e] ≤ 90) ∧ (a5 = a + 1 + exsN [e] ∧ c5 = max (max c d) (exsDeep [e] (d + 1))) ∧ exsDeep [e] (d + 1) ≤ 7) := Lib.hid ⟨hA, hM, hle⟩
    have ha5 : 0 ≤ a5 := by omega
    have ha5' : a5 ≤ 90 := by omega
    have hc5 : 0 ≤ c5 := by omega
    have hc5' : c5 ≤ 100 := by omega
    clear hA hM hle Hiff Himp Hle
    go_wp2_with fail
    refine (havingBlocks_c _ _ _ _ _ _ _ _ w5).mono ?_
    rintro r w6 ⟨rfl, hb6⟩
    have hP06 := hP05.trans (Past.of hb6 g)
    have hK6 := hK5.below hb6 hK5.lt
    clear mb
    go_wp2
    go_loopw [31] (fun i wr => i = .int .i64 0 ∧ wr = w6) (fun i _ => 0)
    case atStart => exact ⟨rfl, rfl⟩
    case round =>
      obtain ⟨rfl, rfl⟩ := hrel
      go_wp2
      go_ret
      obtain ⟨p1, p2, p3⟩ := Parts.out
      obtain ⟨⟨f1, f2⟩, ⟨f3, f4⟩, f5⟩ := F5.out
      have e1 : asksL 3 e f = [e] := rfl
      have e2 : blocksL 3 body els = [] := rfl
      rw [e1, e2] at p1 p2 p3
      rw [f1] at p1
      simp [blksGood, blksN, blksDeep, hdd] at p1 p2 p3
      refine ⟨true, rfl, hP06, a5, c5, hK6, ⟨fun _ => ⟨p1, by omega⟩, fun _ => rfl⟩, fun _ => ⟨by omega, by omega⟩⟩
  · -- kind 4
    simp only [ifVal4]
    have ma := @m_asks4
    go_wp2_with fail
    refine (havingAsks_c _ _ _ _ _ _ _ _ w3).mono ?_
    rintro r w4 ⟨g4, rfl, hg4, hB4, hb4⟩
    have hP04 := hP03.trans (Past.of hb4 g)
    have hK4 := hK3.below hb4 hK3.lt
    have hx : ExR w4 g L B (some ⟨g4, 0, none⟩) [e] := exr_one hB4 (by omega) (he.below (hP04.below hg hB))
    have hc0 := measureExs_c [e] (some ⟨g4, 0, none⟩) 1 L B g (d + 1) (a + 1) (max c d) w4 hx (Nat.le_trans hB hP04.size) hg (by have := Hz.out; simp only [exsSz]; omega) hK4 (by omega) ha1 (by omega) (by omega) hd8
    rw [show (((d + 1 : Nat)) : Int) = (d : Int) + 1 by omega] at hc0
    have Hc := Lib.hid hc0
    have hle := exsDeep_le [e] (d + 1)
    have Hle := Lib.hid hle
    clear hc0 hx hb4 ma hle hB4
    have hdd : d ≤ 7 := by omega
    go_wp2_with fail
    refine Hc.out.mono ?_
    rintro r w5 ⟨b, rfl, hP5, a5, c5, hK5, hiff, himp⟩
    have Hiff := Lib.hid hiff
    have Himp := Lib.hid himp
    have hP05 := hP04.trans hP5
    clear hiff himp Hc
    cases b
    · go_wp2
      go_ret
      refine ⟨false, rfl, hP05, _, _, hK5, ⟨fun hh => Bool.noConfusion hh, fun hh => ?_⟩, fun hh => Bool.noConfusion hh⟩
      obtain ⟨p1, p2, p3⟩ := Parts.out
      have hG := hh.1
      rw [p1] at hG
      simp only [Bool.and_eq_true] at hG
      exact Hiff.out.2 ⟨hG.1.2, by have := hh.2; rw [p2] at this; have e1 : asksL 4 e f = [e] := rfl; rw [e1] at this; omega⟩
    have mb := @m_blocks4
    have hA := Hiff.out.1 (by trivial)
    have hM := Himp.out (by trivial)
    have hle := Hle.out hA.1
    have F5 : Hid ((exsGood [e] (d + 1) = true ∧ a + 1 + exsN [e] ≤ 90) ∧ (a5 = a + 1 + exsN [e] ∧ c5 = max (max c d) (exsDeep [e] (d + 1))) ∧ exsDeep [e] (d + 1) ≤ 7) := Lib.hid ⟨hA, hM, hle⟩
    have ha5 : 0 ≤ a5 := by omega
    have ha5' : a5 ≤ 90 := by omega
    have hc5 : 0 ≤ c5 := by omega
    have hc5' : c5 ≤ 100 := by omega
    clear hA hM hle Hiff Himp Hle
    go_wp2_with fail
    refine (havingBlocks_c _ _ _ _ _ _ _ _ w5).mono ?_
    rintro r w6 ⟨rfl, hb6⟩
    have hP06 := hP05.trans (Past.of hb6 g)
    have hK6 := hK5.below hb6 hK5.lt
    clear mb
    go_wp2
    go_loopw [31] (fun i wr => i = .int .i64 0 ∧ wr = w6) (fun i _ => 0)
    case atStart => exact ⟨rfl, rfl⟩
    case round =>
      obtain ⟨rfl, rfl⟩ := hrel
      go_wp2
      go_ret
      obtain ⟨p1, p2, p3⟩ := Parts.out
      obtain ⟨⟨f1, f2⟩, ⟨f3, f4⟩, f5⟩ := F5.out
      have e1 : asksL 4 e f = [e] := rfl
      have e2 : blocksL 4 body els = [] := rfl
      rw [e1, e2] at p1 p2 p3
      rw [f1] at p1
      simp [blksGood, blksN, blksDeep, hdd] at p1 p2 p3
      refine ⟨true, rfl, hP06, a5, c5, hK6, ⟨fun _ => ⟨p1, by omega⟩, fun _ => rfl⟩, fun _ => ⟨by omega, by omega⟩⟩
  · -- kind 5
    simp only [ifVal5]
    have ma := @m_asks5
    go_wp2_with fail
    refine (havingAsks_c _ _ _ _ _ _ _ _ w3).mono ?_
    rintro r w4 ⟨g4, rfl, hg4, hB4, hb4⟩
    have hP04 := hP03.trans (Past.of hb4 g)
    have hK4 := hK3.below hb4 hK3.lt
    have hx : ExR w4 g L B (some ⟨g4, 0, none⟩) [e] := exr_one hB4 (by omega) (he.below (hP04.below hg hB))
    have hc0 := measureExs_c [e] (some ⟨g4, 0, none⟩) 1 L B g (d + 1) (a + 1) (max c d) w4 hx (Nat.le_trans hB hP04.size) hg (by have := Hz.out; simp only [exsSz]; omega) hK4 (by omega) ha1 (by omega) (by omega) hd8
    rw [show (((d + 1 : Nat)) : Int) = (d : Int) + 1 by omega] at hc0
    have Hc := Lib.hid hc0
    have hle := exsDeep_le [e] (d + 1)
    have Hle := Lib.hid hle
    clear hc0 hx hb4 ma hle hB4
    have hdd : d ≤ 7 := by omega
    go_wp2_with fail
    refine Hc.out.mono ?_
    rintro r w5 ⟨b, rfl, hP5, a5, c5, hK5, hiff, himp⟩
    have Hiff := Lib.hid hiff
    have Himp := Lib.hid himp
    have hP05 := hP04.trans hP5
    clear hiff himp Hc
    cases b
    · go_wp2
      go_ret
      refine ⟨false, rfl, hP05, _, _, hK5, ⟨fun hh => Bool.noConfusion hh, fun hh => ?_⟩, fun hh => Bool.noConfusion hh⟩
      obtain ⟨p1, p2, p3⟩ := Parts.out
      have hG := hh.1
      rw [p1] at hG
      simp only [Bool.and_eq_true] at hG
      exact Hiff.out.2 ⟨hG.1.2, by have := hh.2; rw [p2] at this; have e1 : asksL 5 e f = [e] := rfl; rw [e1] at this; omega⟩
    have mb := @m_blocks5
    have hA := Hiff.out.1 (by trivial)
    have hM := Himp.out (by trivial)
    have hle := Hle.out hA.1
    have F5 : Hid ((exsGood [e] (d + 1) = true ∧ a + 1 + exsN [e] ≤ 90) ∧ (a5 = a + 1 + exsN [e] ∧ c5 = max (max c d) (exsDeep [e] (d + 1))) ∧ exsDeep [e] (d + 1) ≤ 7) := Lib.hid ⟨hA, hM, hle⟩
    have ha5 : 0 ≤ a5 := by omega
    have ha5' : a5 ≤ 90 := by omega
    have hc5 : 0 ≤ c5 := by omega
    have hc5' : c5 ≤ 100 := by omega
    clear hA hM hle Hiff Himp Hle
    go_wp2_with fail
    refine (choosingBlocks_c _ _ _ _ _ _ _ _ _ _ _ _ _ _ w5).mono ?_
    rintro r w6 ⟨g6, rfl, hg6, hB6, hb6⟩
    have hP56 := Past.of hb6 g
    have hP06 := hP05.trans hP56
    have hK6 := hK5.below hb6 hK5.lt
    have hw5 := hP05.size
    have hne6 : g6 ≠ g := by omega
    have hB06 := hP06.below hg hB
    have Row : Hid (BlkRow w6 g L B g6 [body, els]) := Lib.hid (by
      intro j hj
      have hz := Hz.out
      have hj2 : j = 0 ∨ j = 1 := by simp at hj; omega
      rcases hj2 with rfl | rfl
      · exact ⟨_, _, hB6.cell_of 0 rfl, hb1.below hB06, Ih1.out, by show stsSz body ≤ 1048576; omega⟩
      · exact ⟨_, _, hB6.cell_of 1 rfl, hb2.below hB06, Ih2.out, by show stsSz els ≤ 1048576; omega⟩)
    have hlt6 := hB6.lt
    clear mb hB6
    go_wp2
    go_loopw [31] (fun i wr => ∃ (j : Nat) (a' c' : Int), j ≤ 2 ∧ i = .int .i64 j ∧ Past g w6 wr ∧ Blk wr g 102 #[.int .i64 a', .int .i64 c'] ∧ a' = a5 + blksN ([body, els].take j) ∧ c' = max c5 (blksDeep ([body, els].take j) (d + 1)) ∧ a' ≤ 90 ∧ Hid (blksGood ([body, els].take j) (d + 1) = true)) (fun i _ => 2 - (intOf i).toNat)
    case atStart => exact ⟨0, a5, c5, Nat.zero_le _, rfl, Past.refl _ _, hK6, by simp [blksN], by simp [blksDeep]; omega, ha5', Lib.hid (by simp [blksGood])⟩
    case round =>
      obtain ⟨j, a', c', hj, rfl, hP, hKr, ea, ec, ha2, hgood⟩ := hrel
      by_cases hlt : j < 2
      · have hlt' : j < [body, els].length := hlt
        have hBr : B ≤ w6.heap.size := Nat.le_trans hB hP06.size
        obtain ⟨Aj, cj, hcell, hst, hmea, hzj⟩ := Row.out.past hP hne6 hlt6 hg hBr j hlt'
        have hd0 := blksDeep_le _ _ hgood.out
        have hc0 := hmea Aj cj L B g (d + 1) a' c' wr hst (Nat.le_trans hBr hP.size) hg hzj hKr (by omega) ha2 (by omega) (by omega) hd8
        rw [show (((d + 1 : Nat)) : Int) = (d : Int) + 1 by omega] at hc0
        have Hc := Lib.hid hc0
        have hfac : blksGood [body, els] (d + 1) = true → stsGood [body, els][j] (d + 1) = true := fun hh => blksGood_get hlt' hh
        have hNs := blksN_step hlt'
        have hNt := blksN_take [body, els] (j + 1)
        have hDs := blksDeep_step hlt' (d := d + 1)
        have hGs := blksGood_step hlt' (d := d + 1)
        have G : Hid (a' = a5 + blksN ([body, els].take j) ∧ c' = max c5 (blksDeep ([body, els].take j) (d + 1)) ∧ (blksGood [body, els] (d + 1) = true → stsGood [body, els][j] (d + 1) = true) ∧ blksN ([body, els].take (j + 1)) = blksN ([body, els].take j) + stsN [body, els][j] ∧ blksN ([body, els].take (j + 1)) ≤ blksN [body, els] ∧
          blksDeep ([body, els].take (j + 1)) (d + 1) = max (blksDeep ([body, els].take j) (d + 1)) (stsDeep [body, els][j] (d + 1)) ∧ blksGood ([body, els].take (j + 1)) (d + 1) = (blksGood ([body, els].take j) (d + 1) && stsGood [body, els][j] (d + 1))) := Lib.hid ⟨ea, ec, hfac, hNs, hNt, hDs, hGs⟩
        clear hc0 hst hmea ea ec hd0 hfac hNs hNt hDs hGs
        go_wp2_with fail
        refine Hc.out.mono ?_
        rintro r w7 ⟨b, rfl, hP7, a7, c7, hK7, hiff, himp⟩
        have Hiff := Lib.hid hiff
        have Himp := Lib.hid himp
        have hP67 := hP.trans hP7
        clear hiff himp Hc hcell
        cases b
        · go_wp2
          go_ret
          refine ⟨false, rfl, hP06.trans hP67, _, _, hK7, ⟨fun hh => Bool.noConfusion hh, fun hh => ?_⟩, fun hh => Bool.noConfusion hh⟩
          obtain ⟨p1, p2, p3⟩ := Parts.out
          obtain ⟨⟨f1, f2⟩, ⟨f3, f4⟩, f5⟩ := F5.out
          obtain ⟨q1, q2, q3, q4, q5, q6, q7⟩ := G.out
          have e1 : asksL 5 e f = [e] := rfl
          have e2 : blocksL 5 body els = [body, els] := rfl
          have hG := hh.1
          have hL := hh.2
          rw [p1, e2] at hG
          rw [p2, e1, e2] at hL
          simp only [Bool.and_eq_true] at hG
          exact Hiff.out.2 ⟨q3 hG.2, by omega⟩
        · go_wp2
          go_roundw
          case rel =>
            obtain ⟨q1, q2, q3, q4, q5, q6, q7⟩ := G.out
            obtain ⟨x1, x2⟩ := Hiff.out.1 (by trivial)
            obtain ⟨m1, m2⟩ := Himp.out (by trivial)
            exact ⟨j + 1, a7, c7, by omega, by go_num, hP67, hK7, by rw [q4]; omega, by rw [q6]; omega, by omega, Lib.hid (by rw [q7, hgood.out, x1]; rfl)⟩
          case measure => simp [intOf]; omega
      · go_wp2
        go_ret
        have hj2 : j = 2 := by omega
        subst hj2
        obtain ⟨p1, p2, p3⟩ := Parts.out
        obtain ⟨⟨f1, f2⟩, ⟨f3, f4⟩, f5⟩ := F5.out
        have e1 : asksL 5 e f = [e] := rfl
        have e2 : blocksL 5 body els = [body, els] := rfl
        have e3 : [body, els].take 2 = [body, els] := rfl
        have hg1 := hgood.out
        rw [e3] at ea ec hg1
        rw [e1, e2] at p1 p2 p3
        rw [f1, hg1] at p1
        simp only [hdd, decide_true, Bool.and_self] at p1
        exact ⟨true, rfl, hP06.trans hP, a', c', hKr, ⟨fun _ => ⟨p1, by omega⟩, fun _ => rfl⟩, fun _ => ⟨by omega, by omega⟩⟩
  · -- kind 6
    simp only [ifVal6]
    have ma := @m_asks6
    go_wp2_with fail
    refine (havingAsks_c _ _ _ _ _ _ _ _ w3).mono ?_
    rintro r w4 ⟨g4, rfl, hg4, hB4, hb4⟩
    have hP04 := hP03.trans (Past.of hb4 g)
    have hK4 := hK3.below hb4 hK3.lt
    have hx : ExR w4 g L B (some ⟨g4, 0, none⟩) [e] := exr_one hB4 (by omega) (he.below (hP04.below hg hB))
    have hc0 := measureExs_c [e] (some ⟨g4, 0, none⟩) 1 L B g (d + 1) (a + 1) (max c d) w4 hx (Nat.le_trans hB hP04.size) hg (by have := Hz.out; simp only [exsSz]; omega) hK4 (by omega) ha1 (by omega) (by omega) hd8
    rw [show (((d + 1 : Nat)) : Int) = (d : Int) + 1 by omega] at hc0
    have Hc := Lib.hid hc0
    have hle := exsDeep_le [e] (d + 1)
    have Hle := Lib.hid hle
    clear hc0 hx hb4 ma hle hB4
    have hdd : d ≤ 7 := by omega
    go_wp2_with fail
    refine Hc.out.mono ?_
    rintro r w5 ⟨b, rfl, hP5, a5, c5, hK5, hiff, himp⟩
    have Hiff := Lib.hid hiff
    have Himp := Lib.hid himp
    have hP05 := hP04.trans hP5
    clear hiff himp Hc
    cases b
    · go_wp2
      go_ret
      refine ⟨false, rfl, hP05, _, _, hK5, ⟨fun hh => Bool.noConfusion hh, fun hh => ?_⟩, fun hh => Bool.noConfusion hh⟩
      obtain ⟨p1, p2, p3⟩ := Parts.out
      have hG := hh.1
      rw [p1] at hG
      simp only [Bool.and_eq_true] at hG
      exact Hiff.out.2 ⟨hG.1.2, by have := hh.2; rw [p2] at this; have e1 : asksL 6 e f = [e] := rfl; rw [e1] at this; omega⟩
    have mb := @m_blocks6
    have hA := Hiff.out.1 (by trivial)
    have hM := Himp.out (by trivial)
    have hle := Hle.out hA.1
    have F5 : Hid ((exsGood [e] (d + 1) = true ∧ a + 1 + exsN [e] ≤ 90) ∧ (a5 = a + 1 + exsN [e] ∧ c5 = max (max c d) (exsDeep [e] (d + 1))) ∧ exsDeep [e] (d + 1) ≤ 7) := Lib.hid ⟨hA, hM, hle⟩
    have ha5 : 0 ≤ a5 := by omega
    have ha5' : a5 ≤ 90 := by omega
    have hc5 : 0 ≤ c5 := by omega
    have hc5' : c5 ≤ 100 := by omega
    clear hA hM hle Hiff Himp Hle
    go_wp2_with fail
    refine (loopingBlocks_c _ _ _ _ _ _ _ _ _ _ _ w5).mono ?_
    rintro r w6 ⟨g6, rfl, hg6, hB6, hb6⟩
    have hP56 := Past.of hb6 g
    have hP06 := hP05.trans hP56
    have hK6 := hK5.below hb6 hK5.lt
    have hw5 := hP05.size
    have hne6 : g6 ≠ g := by omega
    have hB06 := hP06.below hg hB
    have Row : Hid (BlkRow w6 g L B g6 [body]) := Lib.hid (by
      intro j hj
      have hz := Hz.out
      obtain rfl : j = 0 := by simpa using hj
      exact ⟨_, _, hB6.cell_of 0 rfl, hb1.below hB06, Ih1.out, by show stsSz body ≤ 1048576; omega⟩)
    have hlt6 := hB6.lt
    clear mb hB6
    go_wp2
    go_loopw [31] (fun i wr => ∃ (j : Nat) (a' c' : Int), j ≤ 1 ∧ i = .int .i64 j ∧ Past g w6 wr ∧ Blk wr g 102 #[.int .i64 a', .int .i64 c'] ∧ a' = a5 + blksN ([body].take j) ∧ c' = max c5 (blksDeep ([body].take j) (d + 1)) ∧ a' ≤ 90 ∧ Hid (blksGood ([body].take j) (d + 1) = true)) (fun i _ => 1 - (intOf i).toNat)
    case atStart => exact ⟨0, a5, c5, Nat.zero_le _, rfl, Past.refl _ _, hK6, by simp [blksN], by simp [blksDeep]; omega, ha5', Lib.hid (by simp [blksGood])⟩
    case round =>
      obtain ⟨j, a', c', hj, rfl, hP, hKr, ea, ec, ha2, hgood⟩ := hrel
      by_cases hlt : j < 1
      · obtain rfl : j = 0 := by omega
        have hlt' : 0 < [body].length := hlt
        have hBr : B ≤ w6.heap.size := Nat.le_trans hB hP06.size
        obtain ⟨Aj, cj, hcell, hst, hmea, hzj⟩ := Row.out.past hP hne6 hlt6 hg hBr 0 hlt'
        have hd0 := blksDeep_le _ _ hgood.out
        have hc0 := hmea Aj cj L B g (d + 1) a' c' wr hst (Nat.le_trans hBr hP.size) hg hzj hKr (by omega) ha2 (by omega) (by omega) hd8
        rw [show (((d + 1 : Nat)) : Int) = (d : Int) + 1 by omega] at hc0
        have Hc := Lib.hid hc0
        have hfac : blksGood [body] (d + 1) = true → stsGood [body][0] (d + 1) = true := fun hh => blksGood_get hlt' hh
        have hNs := blksN_step hlt'
        have hNt := blksN_take [body] (0 + 1)
        have hDs := blksDeep_step hlt' (d := d + 1)
        have hGs := blksGood_step hlt' (d := d + 1)
        have G : Hid (a' = a5 + blksN ([body].take 0) ∧ c' = max c5 (blksDeep ([body].take 0) (d + 1)) ∧ (blksGood [body] (d + 1) = true → stsGood [body][0] (d + 1) = true) ∧ blksN ([body].take (0 + 1)) = blksN ([body].take 0) + stsN [body][0] ∧ blksN ([body].take (0 + 1)) ≤ blksN [body] ∧
          blksDeep ([body].take (0 + 1)) (d + 1) = max (blksDeep ([body].take 0) (d + 1)) (stsDeep [body][0] (d + 1)) ∧ blksGood ([body].take (0 + 1)) (d + 1) = (blksGood ([body].take 0) (d + 1) && stsGood [body][0] (d + 1))) := Lib.hid ⟨ea, ec, hfac, hNs, hNt, hDs, hGs⟩
        clear hc0 hst hmea ea ec hd0 hfac hNs hNt hDs hGs
        go_wp2_with fail
        refine Hc.out.mono ?_
        rintro r w7 ⟨b, rfl, hP7, a7, c7, hK7, hiff, himp⟩
        have Hiff := Lib.hid hiff
        have Himp := Lib.hid himp
        have hP67 := hP.trans hP7
        clear hiff himp Hc hcell
        cases b
        · go_wp2
          go_ret
          refine ⟨false, rfl, hP06.trans hP67, _, _, hK7, ⟨fun hh => Bool.noConfusion hh, fun hh => ?_⟩, fun hh => Bool.noConfusion hh⟩
          obtain ⟨p1, p2, p3⟩ := Parts.out
          obtain ⟨⟨f1, f2⟩, ⟨f3, f4⟩, f5⟩ := F5.out
          obtain ⟨q1, q2, q3, q4, q5, q6, q7⟩ := G.out
          have e1 : asksL 6 e f = [e] := rfl
          have e2 : blocksL 6 body els = [body] := rfl
          have hG := hh.1
          have hL := hh.2
          rw [p1, e2] at hG
          rw [p2, e1, e2] at hL
          simp only [Bool.and_eq_true] at hG
          exact Hiff.out.2 ⟨q3 hG.2, by omega⟩
        · go_wp2
          go_roundw
          case rel =>
            obtain ⟨q1, q2, q3, q4, q5, q6, q7⟩ := G.out
            obtain ⟨x1, x2⟩ := Hiff.out.1 (by trivial)
            obtain ⟨m1, m2⟩ := Himp.out (by trivial)
            exact ⟨0 + 1, a7, c7, by omega, by go_num, hP67, hK7, by rw [q4]; omega, by rw [q6]; omega, by omega, Lib.hid (by rw [q7, hgood.out, x1]; rfl)⟩
          case measure => simp [intOf]
      · obtain rfl : j = 1 := by omega
        go_wp2
        go_ret
        obtain ⟨p1, p2, p3⟩ := Parts.out
        obtain ⟨⟨f1, f2⟩, ⟨f3, f4⟩, f5⟩ := F5.out
        have e1 : asksL 6 e f = [e] := rfl
        have e2 : blocksL 6 body els = [body] := rfl
        have e3 : [body].take 1 = [body] := rfl
        have hg1 := hgood.out
        rw [e3] at ea ec hg1
        rw [e1, e2] at p1 p2 p3
        rw [f1, hg1] at p1
        simp only [hdd, decide_true, Bool.and_self] at p1
        exact ⟨true, rfl, hP06.trans hP, a', c', hKr, ⟨fun _ => ⟨p1, by omega⟩, fun _ => rfl⟩, fun _ => ⟨by omega, by omega⟩⟩
  · -- kind 7
    simp only [ifVal7]
    have ma := @m_asks7
    go_wp2_with fail
    refine (havingAsks_c _ _ _ _ _ _ _ _ w3).mono ?_
    rintro r w4 ⟨g4, rfl, hg4, hB4, hb4⟩
    have hP04 := hP03.trans (Past.of hb4 g)
    have hK4 := hK3.below hb4 hK3.lt
    have hx : ExR w4 g L B (some ⟨g4, 0, none⟩) [e] := exr_one hB4 (by omega) (he.below (hP04.below hg hB))
    have hc0 := measureExs_c [e] (some ⟨g4, 0, none⟩) 1 L B g (d + 1) (a + 1) (max c d) w4 hx (Nat.le_trans hB hP04.size) hg (by have := Hz.out; simp only [exsSz]; omega) hK4 (by omega) ha1 (by omega) (by omega) hd8
    rw [show (((d + 1 : Nat)) : Int) = (d : Int) + 1 by omega] at hc0
    have Hc := Lib.hid hc0
    have hle := exsDeep_le [e] (d + 1)
    have Hle := Lib.hid hle
    clear hc0 hx hb4 ma hle hB4
    have hdd : d ≤ 7 := by omega
    go_wp2_with fail
    refine Hc.out.mono ?_
    rintro r w5 ⟨b, rfl, hP5, a5, c5, hK5, hiff, himp⟩
    have Hiff := Lib.hid hiff
    have Himp := Lib.hid himp
    have hP05 := hP04.trans hP5
    clear hiff himp Hc
    cases b
    · go_wp2
      go_ret
      refine ⟨false, rfl, hP05, _, _, hK5, ⟨fun hh => Bool.noConfusion hh, fun hh => ?_⟩, fun hh => Bool.noConfusion hh⟩
      obtain ⟨p1, p2, p3⟩ := Parts.out
      have hG := hh.1
      rw [p1] at hG
      simp only [Bool.and_eq_true] at hG
      exact Hiff.out.2 ⟨hG.1.2, by have := hh.2; rw [p2] at this; have e1 : asksL 7 e f = [e] := rfl; rw [e1] at this; omega⟩
    have mb := @m_blocks7
    have hA := Hiff.out.1 (by trivial)
    have hM := Himp.out (by trivial)
    have hle := Hle.out hA.1
    have F5 : Hid ((exsGood [e] (d + 1) = true ∧ a + 1 + exsN [e] ≤ 90) ∧ (a5 = a + 1 + exsN [e] ∧ c5 = max (max c d) (exsDeep [e] (d + 1))) ∧ exsDeep [e] (d + 1) ≤ 7) := Lib.hid ⟨hA, hM, hle⟩
    have ha5 : 0 ≤ a5 := by omega
    have ha5' : a5 ≤ 90 := by omega
    have hc5 : 0 ≤ c5 := by omega
    have hc5' : c5 ≤ 100 := by omega
    clear hA hM hle Hiff Himp Hle
    go_wp2_with fail
    refine (havingBlocks_c _ _ _ _ _ _ _ _ w5).mono ?_
    rintro r w6 ⟨rfl, hb6⟩
    have hP06 := hP05.trans (Past.of hb6 g)
    have hK6 := hK5.below hb6 hK5.lt
    clear mb
    go_wp2
    go_loopw [31] (fun i wr => i = .int .i64 0 ∧ wr = w6) (fun i _ => 0)
    case atStart => exact ⟨rfl, rfl⟩
    case round =>
      obtain ⟨rfl, rfl⟩ := hrel
      go_wp2
      go_ret
      obtain ⟨p1, p2, p3⟩ := Parts.out
      obtain ⟨⟨f1, f2⟩, ⟨f3, f4⟩, f5⟩ := F5.out
      have e1 : asksL 7 e f = [e] := rfl
      have e2 : blocksL 7 body els = [] := rfl
      rw [e1, e2] at p1 p2 p3
      rw [f1] at p1
      simp [blksGood, blksN, blksDeep, hdd] at p1 p2 p3
      refine ⟨true, rfl, hP06, a5, c5, hK6, ⟨fun _ => ⟨p1, by omega⟩, fun _ => rfl⟩, fun _ => ⟨by omega, by omega⟩⟩
end Go.Proofs.Ytmejbmfopdfbjaa
