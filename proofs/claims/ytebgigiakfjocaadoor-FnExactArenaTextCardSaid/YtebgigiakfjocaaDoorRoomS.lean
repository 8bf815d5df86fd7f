/-
  The program's room: slots that may be.
-/
import Derived.Test.YtebgigiakfjocaaDoorRoomF
namespace Go.Proofs.YtebgigiakfjocaaDoor
open Go.RowKit
set_option linter.unusedVariables false
set_option linter.unusedSimpArgs false

theorem slBd_eq (s : Sl) : slBd s = (bndH s.live s.gen s.count && (s.live || s.fs.length == 0)) := by
  unfold slBd bndH
  generalize (s.fs.length == 0) = b
  cases s.live <;> cases b <;> rw [Bool.eq_iff_iff] <;> simp <;> omega
theorem slOk_eq (S : List Sl) (s : Sl) : slOk S s = (bndH s.live s.gen s.count && (s.live || s.fs.length == 0) && fdsOk S s.fs) := by unfold slOk; rw [slBd_eq]
theorem slsSz_fd {S : List Sl} {n k : Nat} (h : slsSz S ≤ n) (hk : k < S.length) : (S[k].fs.map fdSz).sum ≤ n := by
  have h1 := sum_get slSz hk
  unfold slsSz at h
  have h3 : slSz S[k] = S[k].fs.length + (S[k].fs.map fdSz).sum := rfl
  omega

section
variable (A0 : Option Addr) (c0 : Nat) (v1 v2 v3 : Value) (h1 : v1.cells = #[v1]) (h2 : v2.cells = #[v2]) (h3 : v3.cells = #[v3])

include h1 h2 h3 in
set_option maxRecDepth 100000 in
set_option maxHeartbeats 8000000 in
theorem slotsOk_c (S : List Sl) (L B : Nat) (w : World) (hB : B ≤ w.heap.size) (h : SlL w L B A0 S) (hsz : slsSz S ≤ 1048576) :
    Calls Tryd.prog 78 #[.agg #[.slice A0 S.length c0, v1, v2, v3]] w fun e w' => e = .returned (.bool (S.all (slOk S))) ∧ Below w.heap.size w w' := by
  have hm := h.1
  unfold maxLen at hm
  have KA := Blk.new w 82 #[.slice A0 S.length c0, v1, v2, v3]
  have hbW := blw1 w (.cells #[.slice A0 S.length c0, v1, v2, v3] 82)
  have HKA := Lib.hid KA
  have HbW := Lib.hid hbW
  have H := Lib.hid h
  have Hsz := Lib.hid hsz
  clear KA hbW h hsz
  go_enter Tryd.func78, Tryd.ntmps78
  go_wp2_with fail
  generalize hW : w.alloc (.cells #[.slice A0 S.length c0, v1, v2, v3] 82) = W
  rw [hW] at HKA HbW
  clear hW
  go_loopw [8] (fun i wr => ∃ k : Nat, k ≤ S.length ∧ i = .int .i64 k ∧ (S.take k).all (slOk S) = true ∧ Below w.heap.size w wr ∧ Blk wr w.heap.size 82 #[.slice A0 S.length c0, v1, v2, v3]) (fun i _ => S.length - (intOf i).toNat)
  case atStart => exact ⟨0, Nat.zero_le _, rfl, by simp, HbW.out, HKA.out⟩
  case round =>
    obtain ⟨k, hk, rfl, hall, hbi, KPi⟩ := hrel
    have Hall := Lib.hid hall
    clear hall HbW HKA
    by_cases hlt : k < S.length
    · obtain ⟨ad, rfl, _, hbk, hat⟩ := H.out.2 (by omega)
      obtain ⟨x0, x1, x2, x3, hc4, hx0, hx1, hx2, FA, fc, hx3, hF⟩ := hat k hlt
      obtain ⟨⟨lv, gn, ct, fs⟩, hs⟩ : ∃ s, s = S[k] := ⟨_, rfl⟩
      rw [← hs] at hx0 hx1 hx2 hx3 hF
      dsimp only at hx0 hx1 hx2 hx3 hF
      subst hx0 hx1 hx2 hx3
      have Hs := Lib.hid hs
      have hfs : (fs.map fdSz).sum ≤ 1048576 := by have := slsSz_fd Hsz.out hlt; rwa [← Hs.out] at this
      have hfm := hF.1
      unfold maxLen at hfm
      have hsize := hbi.size
      obtain ⟨d0, d1, d2, d3⟩ := hc4.keep (w' := wr) (fun q hq => hbi.cell (by rw [hq, block_of_add]; omega))
      have KF := Blk.new wr 88 #[.bool lv, .int .i64 gn, .int .i64 ct, .slice FA fs.length fc]
      have KR := KPi.alloc (.cells #[.bool lv, .int .i64 gn, .int .i64 ct, .slice FA fs.length fc] 88)
      have hb1 := hbi.alloc hsize (.cells #[.bool lv, .int .i64 gn, .int .i64 ct, .slice FA fs.length fc] 88)
      have hslok : slOk S S[k] = (bndH lv gn ct && (lv || fs.length == 0) && fdsOk S fs) := by rw [slOk_eq, ← Hs.out]
      have Hsl := Lib.hid hslok
      have HKF := Lib.hid KF
      have HKR := Lib.hid KR
      have Hb1 := Lib.hid hb1
      have HF := Lib.hid hF
      have Hfs := Lib.hid hfs
      have Hbd := Lib.hid (headBounded_c lv gn ct (wr.alloc (.cells #[.bool lv, .int .i64 gn, .int .i64 ct, .slice FA fs.length fc] 88)))
      clear hs KF KR hb1 hF hfs hc4 hbi KPi hat hslok
      go_wp2_with fail
      refine Hbd.out.mono ?_
      rintro e w1 ⟨rfl, hbw1⟩
      have hbA := Hb1.out.trans (hbw1.mono Hb1.out.size)
      have KF1 := HKF.out.below hbw1 HKF.out.lt
      have KR1 := HKR.out.below hbw1 HKR.out.lt
      have f0 := KF1.cel 0 rfl
      have f3 := KF1.cel 3 rfl
      have r0 := KR1.cel 0 (v := .slice (some ad) S.length c0) rfl
      have r1 := KR1.cel 1 (v := v1) rfl
      have r2 := KR1.cel 2 (v := v2) rfl
      have r3 := KR1.cel 3 (v := v3) rfl
      have HbA := Lib.hid hbA
      have HKR1 := Lib.hid KR1
      clear hbA hbw1 KF1 KR1 Hbd HKF HKR Hb1 d0 d1 d2 d3
      cases hbn : bndH lv gn ct
      · have E := Lib.hid (show S.all (slOk S) = false from all_not hlt (by rw [Hsl.out, hbn]; rfl))
        clear hbn
        go_wp2
        go_ret
        exact ⟨by rw [E.out]; rfl, HbA.out⟩
      have Hbn := Lib.hid hbn
      clear hbn
      have hfo := fieldsOk_c (some ad) c0 v1 v2 v3 h1 h2 h3 S L B FA fc fs w1 (Nat.le_trans hB HbA.out.size) (H.out.below (HbA.out.mono hB)) L B (Nat.le_trans hB HbA.out.size) (HF.out.below (HbA.out.mono hB)) Hfs.out
      cases lv
      · by_cases hl0 : 0 < (fs.length : Int)
        · have E := Lib.hid (show S.all (slOk S) = false from all_not hlt (by rw [Hsl.out, Hbn.out]; have : (fs.length == 0) = false := by simp; rintro rfl; simp at hl0
                                                                              rw [this]; rfl))
          have hne : ¬ fs = [] := by rintro rfl; simp at hl0
          clear hfo
          go_wp2
          go_ret
          exact ⟨by first | rfl | (rw [E.out]; rfl), HbA.out⟩
        · obtain rfl : fs = [] := by apply List.eq_nil_of_length_eq_zero; omega
          have Hfo := Lib.hid hfo
          clear hfo hl0
          cases hfd : fdsOk S ([] : List Fd)
          · exact absurd hfd (by simp [fdsOk])
          have Hok := Lib.hid (show slOk S S[k] = true by rw [Hsl.out, Hbn.out, hfd]; rfl)
          rw [hfd] at Hfo
          clear hfd
          go_wp2_with fail
          refine Hfo.out.mono ?_
          rintro e w2 ⟨rfl, hbw2⟩
          have hbB := HbA.out.trans (hbw2.mono HbA.out.size)
          have KR2 := HKR1.out.below hbw2 HKR1.out.lt
          clear f0 f3 r0 r1 r2 r3
          go_wp2
          go_roundw
          case rel => exact ⟨k + 1, by omega, by go_num, all_next Hall.out hlt Hok.out, hbB, KR2⟩
          case measure => simp [intOf]; omega
      · have Hfo := Lib.hid hfo
        clear hfo
        cases hfd : fdsOk S fs
        · have E := Lib.hid (show S.all (slOk S) = false from all_not hlt (by rw [Hsl.out, Hbn.out, hfd]; rfl))
          rw [hfd] at Hfo
          clear hfd
          go_wp2_with fail
          refine Hfo.out.mono ?_
          rintro e w2 ⟨rfl, hbw2⟩
          have hbB := HbA.out.trans (hbw2.mono HbA.out.size)
          clear f0 f3 r0 r1 r2 r3
          go_wp2
          go_ret
          exact ⟨by rw [E.out]; rfl, hbB⟩
        · have Hok := Lib.hid (show slOk S S[k] = true by rw [Hsl.out, Hbn.out, hfd]; rfl)
          rw [hfd] at Hfo
          clear hfd
          go_wp2_with fail
          refine Hfo.out.mono ?_
          rintro e w2 ⟨rfl, hbw2⟩
          have hbB := HbA.out.trans (hbw2.mono HbA.out.size)
          have KR2 := HKR1.out.below hbw2 HKR1.out.lt
          clear f0 f3 r0 r1 r2 r3
          go_wp2
          go_roundw
          case rel => exact ⟨k + 1, by omega, by go_num, all_next Hall.out hlt Hok.out, hbB, KR2⟩
          case measure => simp [intOf]; omega
    · have hok : S.all (slOk S) = true := by
        have h1 := Hall.out
        rw [show k = S.length by omega, List.take_length] at h1
        exact h1
      have Hok := Lib.hid hok
      clear hok
      go_wp2
      go_ret
      exact ⟨by rw [Hok.out]; rfl, hbi⟩
end
end Go.Proofs.YtebgigiakfjocaaDoor
