/-
  The model's check of lists of statements; its FormOk.
-/
import Derived.Test.YtmejbmfopdfbjaaSpecStDef
import Derived.Test.YtmejbmfopdfbjaaHeadOk
namespace Go.Proofs.Ytmejbmfopdfbjaa
open Go.RowKit
set_option linter.unusedVariables false

set_option maxHeartbeats 2000000 in
theorem specSts_of (l : List St) (ih : ∀ s ∈ l, SpSt s) : SpSts l := by
  intro A cp L B g d left w h hB hg hsz hK h0 h1 hd
  have hn := h.1
  unfold maxLen at hn
  have Ih := Lib.hid ih
  have Hsz := Lib.hid hsz
  clear ih hsz
  go_enter Try.func32, Try.ntmps32
  go_wp2
  go_loopw [7] (fun i wr => ∃ (k : Nat) (a' : Int), k ≤ l.length ∧ i = .int .i64 k ∧ Past g w wr ∧ Blk wr g 62 #[.int .i64 a'] ∧ a' = left - stsN (l.take k) ∧ 0 ≤ a' ∧ Hid (stsGood (l.take k) d = true)) (fun i _ => l.length - (intOf i).toNat)
  case atStart => exact ⟨0, left, Nat.zero_le _, rfl, Past.refl _ _, hK, by simp [stsN], h0, Lib.hid (by simp [stsGood])⟩
  case round =>
    obtain ⟨k, a', hk, rfl, hP, hKr, ea, ha2, hgood⟩ := hrel
    have Ea := Lib.hid ea
    clear ea
    by_cases hlt : k < l.length
    · obtain ⟨ad, rfl, _, hbk, hat⟩ := (h.below (hP.below hg hB)).2 (by omega)
      obtain ⟨vs, hcells, hv⟩ := hat k hlt
      obtain ⟨xk, yA, ya, yc, k1, n1, A1, a1, c1, A2, a2, c2, k3, n3, A3, a3, c3, A4, a4, c4, A5, a5, c5, A6, a6, c6, rfl⟩ := hv.shape
      have q0 := hcells 0 _ rfl
      have q1 := hcells 1 _ rfl
      have q2 := hcells 2 _ rfl
      have q3 := hcells 3 _ rfl
      have q4 := hcells 4 _ rfl
      have q5 := hcells 5 _ rfl
      have q6 := hcells 6 _ rfl
      have q7 := hcells 7 _ rfl
      have q8 := hcells 8 _ rfl
      have q9 := hcells 9 _ rfl
      have q10 := hcells 10 _ rfl
      have q11 := hcells 11 _ rfl
      simp only [if_true, Nat.reduceEqDiff, if_false] at q0 q1 q2 q3 q4 q5 q6 q7 q8 q9 q10 q11
      have hBr : B ≤ wr.heap.size := Nat.le_trans hB hP.size
      have hc0 := Ih.out l[k] (List.getElem_mem hlt) _ L B g d a' wr hv hBr hg (by have := stsSz_get hlt; have := Hsz.out; omega) hKr ha2 (by have := Ea.out; omega) hd
      have Hc := Lib.hid hc0
      clear hc0 hat hcells
      go_wp2_with fail
      refine Hc.out.mono ?_
      rintro e w3 ⟨b, rfl, hP3, a3, hK3, hiff, himp⟩
      have Hiff := Lib.hid hiff
      have Himp := Lib.hid himp
      have hP03 := hP.trans hP3
      clear hiff himp Hc
      cases b
      · go_wp2
        go_ret
        refine sp_no hP03 hK3 (fun hh => ?_)
        have h1 := stsGood_get hlt hh.1
        have h2 := stsN_get hlt
        have h3 := Ea.out
        exact Bool.noConfusion (Hiff.out.2 ⟨h1, by have := hh.2; omega⟩)
      · go_wp2
        go_roundw
        case rel =>
          have h3 := Ea.out
          obtain ⟨g1, g2⟩ := Hiff.out.1 (by trivial)
          have m1 := Himp.out (by trivial)
          exact ⟨k + 1, a3, by omega, by go_num, hP03, hK3, by rw [stsN_step hlt]; omega, by omega, Lib.hid (by rw [stsGood_step hlt, hgood.out, g1]; rfl)⟩
        case measure => simp [intOf]; omega
    · go_wp2
      go_ret
      have hkl : k = l.length := by omega
      subst hkl
      have ea := Ea.out
      have hg1 := hgood.out
      rw [List.take_length] at ea hg1
      exact ⟨true, rfl, hP, a', hKr, ⟨fun _ => ⟨hg1, by omega⟩, fun _ => rfl⟩, fun _ => ea⟩
end Go.Proofs.Ytmejbmfopdfbjaa

namespace Go.Proofs.Ytmejbmfopdfbjaa
open Go.RowKit
set_option linter.unusedVariables false

theorem to_no {b : Bool} (h : b = true → False) : b = false := by cases b; rfl; exact (h rfl).elim

set_option maxRecDepth 100000 in
set_option maxHeartbeats 8000000 in
theorem specFormOk_of (l : List Fn) (ih : ∀ f ∈ l, SpSts f.body) (A : Option Addr) (cp L B : Nat) (w : World) (hB : B ≤ w.heap.size) (hsz : fnsSz l ≤ 1048576) (h : FnL w L B A l) :
    Calls Try.prog 73 #[.agg #[.slice A l.length cp]] w fun r w' => r = .returned (.bool (formOk l)) ∧ Below w.heap.size w w' := by
  have hn := h.1
  unfold maxLen at hn
  have Hsz := Lib.hid hsz
  have Ih := Lib.hid ih
  clear hsz ih
  have hb2 : ∀ o1 o2, Below w.heap.size w ((w.alloc o1).alloc o2) := fun o1 o2 => ((Below.refl _ _).alloc (Nat.le_refl _) _).alloc (by simp) _
  by_cases h14 : ¬ (1 ≤ (l.length : Int) ∧ (l.length : Int) ≤ 4)
  · have hf : formOk l = false := by unfold formOk; simp; intros; omega
    have Hf := Lib.hid hf
    clear hf
    by_cases h1 : (l.length : Int) < 1
    · clear h14
      go_enter Try.func73, Try.ntmps73
      go_wp2
      go_ret
      exact ⟨by rw [Hf.out]; rfl, (Below.refl _ _).alloc (Nat.le_refl _) _⟩
    · have h1' : 1 ≤ (l.length : Int) := by omega
      have h4 : 4 < (l.length : Int) := by omega
      clear h14 h1
      go_enter Try.func73, Try.ntmps73
      go_wp2
      go_ret
      exact ⟨by rw [Hf.out]; rfl, (Below.refl _ _).alloc (Nat.le_refl _) _⟩
  have h1' : (1 : Int) ≤ l.length := by omega
  have h4' : (l.length : Int) ≤ 4 := by omega
  clear h14
  have hbw := hb2 (.cells #[.slice A l.length cp] 54) (.cells #[.int .i64 90] 62)
  have hgs : B ≤ w.heap.size + 1 := by omega
  have KP0 : Blk ((w.alloc (.cells #[.slice A l.length cp] 54)).alloc (.cells #[.int .i64 90] 62)) w.heap.size 54 #[.slice A l.length cp] := (Blk.new w _ _).alloc _
  have KL0 : Blk ((w.alloc (.cells #[.slice A l.length cp] 54)).alloc (.cells #[.int .i64 90] 62)) (w.heap.size + 1) 62 #[.int .i64 90] := by
    have := Blk.new (w.alloc (.cells #[.slice A l.length cp] 54)) 62 #[.int .i64 90]
    simpa using this
  go_enter Try.func73, Try.ntmps73
  go_wp2
  go_loopw [4] (fun i wr => ∃ (k : Nat) (a' : Int), k ≤ l.length ∧ i = .int .i64 k ∧ Past (w.heap.size + 1) ((w.alloc (.cells #[.slice A l.length cp] 54)).alloc (.cells #[.int .i64 90] 62)) wr ∧ Blk wr (w.heap.size + 1) 62 #[.int .i64 a'] ∧ a' = 90 - fnsN (l.take k) ∧ 0 ≤ a' ∧ Hid (fnsGood (l.take k) = true)) (fun i _ => l.length - (intOf i).toNat)
  case atStart => exact ⟨0, 90, Nat.zero_le _, rfl, Past.refl _ _, KL0, by simp [fnsN], by omega, Lib.hid (by simp [fnsGood])⟩
  case round =>
    obtain ⟨k, a', hk, rfl, hP, hKr, ea, ha2, hgood⟩ := hrel
    have hwb : Below w.heap.size w wr := hbw.trans (hP.below (by omega) (by simp; omega))
    have hBr : B ≤ wr.heap.size := Nat.le_trans hB hwb.size
    have KPr := KP0.past hP (by omega)
    have Ea := Lib.hid ea
    have p0 := KPr.cell_of 0 rfl
    clear ea
    by_cases hlt : k < l.length
    · obtain ⟨ad, rfl, _, hbk, hat⟩ := (h.below (hwb.mono hB)).2 (by omega)
      obtain ⟨v0, v1, v2, ⟨c0, c1, c2⟩, hv⟩ := hat k hlt
      obtain ⟨fA, fc, fA1, fc1, fA2, fc2, rfl, rfl, rfl, fR, fm, fp, fb, fcp⟩ := hv
      have hfz : fnSz l[k] ≤ 1048576 := by have := fnsSz_get hlt; have := Hsz.out; omega
      have hfac : formOk l = true → headOk l[k] = true ∧ stsGood l[k].body 2 = true ∧ fnsN (l.take k) + stsN l[k].body ≤ 90 := fun hh => by
        unfold formOk at hh
        simp only [Bool.and_eq_true, decide_eq_true_eq] at hh
        have h1 := fnsGood_get hlt hh.1.2
        have h2 := fnsN_step hlt
        have h3 := fnsN_take l (k + 1)
        exact ⟨h1.1, h1.2, by have := hh.2; omega⟩
      have Hfac := Lib.hid hfac
      have Fp := Lib.hid fp
      have Fb := Lib.hid fb
      have FR := Lib.hid fR
      have fm' := fm
      unfold maxLen at fm'
      have hpm := fp.1
      have hbm := fb.1
      unfold maxLen at hpm hbm
      have Hfz := Lib.hid hfz
      have hgr := hKr.lt
      have hg0 : wr.heap.size ≠ w.heap.size + 1 := by omega
      clear hat hfac fp fb fR hfz fm hgr
      have hbo := fun o => (Below.refl wr.heap.size wr).alloc (Nat.le_refl _) o
      have KF : Blk (wr.alloc (.cells #[.slice fA l[k].name.length fc, .slice fA1 l[k].params.length fc1, .slice fA2 l[k].body.length fc2] 31)) wr.heap.size 31 #[.slice fA l[k].name.length fc, .slice fA1 l[k].params.length fc1, .slice fA2 l[k].body.length fc2] := Blk.new wr _ _
      have hwb1 := hwb.alloc hwb.size (.cells #[.slice fA l[k].name.length fc, .slice fA1 l[k].params.length fc1, .slice fA2 l[k].body.length fc2] 31)
      have hw := specWordOk_c l[k].name fA fc B (wr.alloc (.cells #[.slice fA l[k].name.length fc, .slice fA1 l[k].params.length fc1, .slice fA2 l[k].body.length fc2] 31)) (by have := Hfz.out; unfold fnSz at this; omega) (FR.out.1.alloc hBr _)
      have hkp := specKept_c l[k].name fA fc B (wr.alloc (.cells #[.slice fA l[k].name.length fc, .slice fA1 l[k].params.length fc1, .slice fA2 l[k].body.length fc2] 31)) (FR.out.1.alloc hBr _)
      have Hkp := Lib.hid hkp
      clear hkp
      cases hwo : wordOk l[k].name
      · rw [hwo] at hw
        have Hw := Lib.hid hw
        have Hwo := Lib.hid hwo
        clear hw hwo Hkp
        go_wp2_with fail
        refine Hw.out.mono ?_
        rintro r w' ⟨rfl, rfl⟩
        go_wp2
        go_ret
        exact ⟨ret_bool' (to_no (fun hh => by have := (Hfac.out hh).1; unfold headOk nameOk at this; rw [Hwo.out] at this; simp at this)), hwb1⟩
      rw [hwo] at hw
      have Hw := Lib.hid hw
      have Hwo := Lib.hid hwo
      clear hw hwo
      go_wp2_with fail
      refine Hw.out.mono ?_
      rintro r w' ⟨rfl, rfl⟩
      go_wp2_with fail
      refine Hkp.out.mono ?_
      rintro r w4 ⟨rfl, hb4⟩
      have hwb4 := hwb1.trans (hb4.mono hwb1.size)
      have KF4 := KF.below hb4 KF.lt
      have hP4 : Past (w.heap.size + 1) wr w4 := ((Past.refl _ wr).alloc _).trans (Past.of hb4 _)
      have KL4 := (hKr.alloc (.cells #[.slice fA l[k].name.length fc, .slice fA1 l[k].params.length fc1, .slice fA2 l[k].body.length fc2] 31)).below hb4 (by have := hKr.lt; simp; omega)
      have q0 := KF4.cell_of 0 rfl
      have q1 := KF4.cell_of 1 rfl
      have q2 := KF4.cell_of 2 rfl
      clear Hw Hkp
      cases hke : kept l[k].name
      case true =>
        have Hke := Lib.hid hke
        clear hke
        go_wp2
        go_ret
        exact ⟨ret_bool' (to_no (fun hh => by have := (Hfac.out hh).1; unfold headOk nameOk at this; rw [Hke.out] at this; simp at this)), hwb4⟩
      have hnm : nameOk l[k].name = true := by unfold nameOk; rw [Hwo.out, hke]; rfl
      have Hnm := Lib.hid hnm
      clear hnm hke Hwo
      by_cases h3 : 3 < (l[k].params.length : Int)
      · go_wp2
        go_ret
        exact ⟨ret_bool' (to_no (fun hh => by have := (Hfac.out hh).1; unfold headOk at this; simp only [Bool.and_eq_true, decide_eq_true_eq] at this; omega)), hwb4⟩
      have h3' : (l[k].params.length : Int) ≤ 3 := by omega
      clear h3
      have hbk4 : B ≤ w4.heap.size := Nat.le_trans hB hwb4.size
      have hs := Ih.out l[k] (List.getElem_mem hlt) fA2 fc2 L B (w.heap.size + 1) 2 a' w4 (Fb.out.below (hP4.below hgs hBr)) hbk4 hgs (by have := Hfz.out; unfold fnSz at this; omega) KL4 ha2 (by have := Ea.out; omega) (by omega)
      rw [show ((2 : Nat) : Int) = 2 from rfl] at hs
      have Hs := Lib.hid hs
      clear hs
      go_wp2_with fail
      refine Hs.out.mono ?_
      rintro r w5 ⟨b, rfl, hP5, a5, KL5, hiff, himp⟩
      have Hiff := Lib.hid hiff
      have Himp := Lib.hid himp
      have KF5 := KF4.past hP5 hg0
      have hwb5 := hwb4.trans (hP5.below (by omega) hwb4.size)
      have hP15 := hP.trans (hP4.trans hP5)
      have hPr5 := hP4.trans hP5
      clear hiff himp q0 q1 q2 Hs
      cases b
      · go_wp2
        go_ret
        exact ⟨ret_bool' (to_no (fun hh => by
          obtain ⟨x1, x2, x3⟩ := Hfac.out hh
          have e1 := Ea.out
          exact Bool.noConfusion (Hiff.out.2 ⟨x2, by omega⟩))), hwb5⟩
      have F5 : Hid (stsGood l[k].body 2 = true ∧ a5 = a' - stsN l[k].body ∧ 0 ≤ a5) := Lib.hid (by
        obtain ⟨y1, y2⟩ := Hiff.out.1 rfl
        have y3 := Himp.out rfl
        exact ⟨y1, y3, by omega⟩)
      clear Hiff Himp
      have q0 := KF5.cell_of 0 rfl
      have q1 := KF5.cell_of 1 rfl
      have q2 := KF5.cell_of 2 rfl
      go_wp2
      clear q0 q1 q2
      go_loopw [6] (fun i wy => ∃ (j : Nat), j ≤ l[k].params.length ∧ i = .int .i64 j ∧ Below w5.heap.size w5 wy ∧ Hid ((l[k].params.take j).all nameOk = true)) (fun i _ => l[k].params.length - (intOf i).toNat)
      case atStart => exact ⟨0, Nat.zero_le _, rfl, Below.refl _ _, Lib.hid (by simp)⟩
      case round =>
        obtain ⟨j, hj, rfl, hby, hall⟩ := hrel
        have KFy := KF5.below hby KF5.lt
        have q1 := KFy.cell_of 1 rfl
        have hwby := hwb5.trans (hby.mono hwb5.size)
        by_cases hjl : j < l[k].params.length
        · have hBy := (hPr5.below hgs hBr).trans (hby.mono (Nat.le_trans hB hwb5.size))
          obtain ⟨ad', rfl, _, hbk', hat'⟩ := (Fp.out.below hBy).2 (by omega)
          obtain ⟨pA, pc, pc0, pR, pm⟩ := hat' j hjl
          have hw := specWordOk_c l[k].params[j] pA pc B wr (by have := bsSz_get hjl; have := Hfz.out; unfold fnSz at this; omega) pR.1
          have hkp := specKept_c l[k].params[j] pA pc B wr pR.1
          have hpn : headOk l[k] = true → nameOk l[k].params[j] = true := fun hh => by
            unfold headOk at hh
            simp only [Bool.and_eq_true] at hh
            have h2 := hh.2
            rw [List.all_eq_true] at h2
            exact h2 _ (List.getElem_mem hjl)
          have Hpn := Lib.hid hpn
          have Hkp := Lib.hid hkp
          clear hkp hpn hat'
          cases hwo : wordOk l[k].params[j]
          · rw [hwo] at hw
            have Hw := Lib.hid hw
            have Hwo := Lib.hid hwo
            clear hw hwo Hkp
            go_wp2_with fail
            refine Hw.out.mono ?_
            rintro r w' ⟨rfl, rfl⟩
            go_wp2
            go_ret
            exact ⟨ret_bool' (to_no (fun hh => by have := Hpn.out (Hfac.out hh).1; unfold nameOk at this; rw [Hwo.out] at this; simp at this)), hwby⟩
          rw [hwo] at hw
          have Hw := Lib.hid hw
          have Hwo := Lib.hid hwo
          clear hw hwo
          go_wp2_with fail
          refine Hw.out.mono ?_
          rintro r w' ⟨rfl, rfl⟩
          go_wp2_with fail
          refine Hkp.out.mono ?_
          rintro r w7 ⟨rfl, hb7⟩
          have hby7 := hby.trans (hb7.mono hby.size)
          have hwb7 := hwb5.trans (hby7.mono hwb5.size)
          clear Hw Hkp q1 pc0
          cases hke : kept l[k].params[j]
          · have hnm2 : nameOk l[k].params[j] = true := by unfold nameOk; rw [Hwo.out, hke]; rfl
            have Hnm2 := Lib.hid hnm2
            clear hnm2 hke Hwo
            go_wp2
            go_roundw
            case rel => exact ⟨j + 1, by omega, by go_num, hby7, Lib.hid (all_take' hall.out hjl Hnm2.out)⟩
            case measure => simp [intOf]; omega
          · have Hke := Lib.hid hke
            clear hke
            go_wp2
            go_ret
            exact ⟨ret_bool' (to_no (fun hh => by have := Hpn.out (Hfac.out hh).1; unfold nameOk at this; rw [Hke.out] at this; simp at this)), hwb7⟩
        · have hpall : l[k].params.all nameOk = true := by
            have : j = l[k].params.length := by omega
            subst this
            have := hall.out
            rwa [List.take_length] at this
          have Hpall := Lib.hid hpall
          clear hpall
          go_wp2
          go_roundw
          case rel =>
            obtain ⟨y1, y2, y3⟩ := F5.out
            have e1 := Ea.out
            have hhd : headOk l[k] = true := by unfold headOk; rw [Hnm.out, Hpall.out]; simp; omega
            exact ⟨k + 1, a5, by omega, by go_num, hP15.trans (Past.of hby _), KL5.below hby KL5.lt, by rw [fnsN_step hlt]; omega, y3, Lib.hid (by rw [fnsGood_step hlt, hgood.out, hhd, y1]; rfl)⟩
          case measure => simp [intOf]; omega
    · have hkl : k = l.length := by omega
      subst hkl
      have hyes : formOk l = true := by
        have e1 := Ea.out
        have h3 := hgood.out
        rw [List.take_length] at e1 h3
        unfold formOk
        rw [h3]
        simp; omega
      have Hyes := Lib.hid hyes
      clear hyes
      go_wp2
      go_ret
      exact ⟨by rw [Hyes.out]; rfl, hwb⟩
end Go.Proofs.Ytmejbmfopdfbjaa
