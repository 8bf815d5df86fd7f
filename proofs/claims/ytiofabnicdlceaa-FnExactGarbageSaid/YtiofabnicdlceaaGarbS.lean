/-
  The model's Garbage.
-/
import Derived.Test.YtiofabnicdlceaaReachS
import Derived.Test.YtiofabnicdlceaaGarbD
namespace Go.Proofs.Ytiofabnicdlceaa
open Go.RowKit
set_option linter.unusedVariables false
set_option linter.unusedSimpArgs false

section
variable (a : Ar) (A0 A1 A2 : Option Addr) (c0 c1 c2 L B : Nat) (w : World)

set_option maxRecDepth 100000 in
set_option maxHeartbeats 8000000 in
theorem specGarbage_c (l : List Vl) (VA : Option Addr) (vc LV BV : Nat) (hB : B ≤ w.heap.size) (hBV : BV ≤ w.heap.size) (h : ArL w L B A0 A1 A2 a) (hsz : arSz a ≤ 1048576) (hc : a.purple.length ≤ c2) (hv : VlL w LV BV VA l) (hl : l.length ≤ 1048576) :
    Calls Try.prog 10 #[.agg #[.slice A0 a.slots.length c0, .slice A1 a.queue.length c1, .slice A2 a.purple.length c2], .slice VA l.length vc] w (AnsI w (garbA a l)) := by
  obtain ⟨i0, hi, hz0, hz1, hz2⟩ := info_parts infoI
  have hbW := blw1 w (.cells #[.slice A0 a.slots.length c0, .slice A1 a.queue.length c1, .slice A2 a.purple.length c2] 32)
  have HR := Lib.hid (okAt a A0 A1 A2 c0 c1 c2 L B w _ h hsz hc (hbW.mono hB) (Nat.le_trans hB hbW.size))
  have HbW := Lib.hid hbW
  have HKA := Lib.hid (Blk.new w 32 #[.slice A0 a.slots.length c0, .slice A1 a.queue.length c1, .slice A2 a.purple.length c2])
  have H := Lib.hid h
  have HV := Lib.hid hv
  have Hsz := Lib.hid hsz
  have hS : a.slots.length ≤ 1048576 := by unfold arSz slsSz at hsz; omega
  clear h hsz hbW hv
  go_enter Try.func10, Try.ntmps10
  go_wp2_with fail
  refine HR.out.mono ?_
  rintro e w1 ⟨rfl, hb⟩
  have hb1 := HbW.out.trans (hb.mono HbW.out.size)
  have KA1 := HKA.out.below hb HKA.out.lt
  cases hok : arOk a
  · have E := Lib.hid (show garbA a l = [] by unfold garbA; rw [hok]; rfl)
    have Hb := Lib.hid hb1
    clear hb HbW HR hb1 KA1 HKA hok
    go_wp2
    go_ret
    rw [E.out]
    exact AnsI.nil Hb.out
  · have E : Hid (garbA a l = leftTo (garbP a.slots (reachedA a l)) a.slots.length) := Lib.hid (by unfold garbA; rw [if_pos hok])
    have q0 := KA1.cel 0 (v := .slice A0 a.slots.length c0) rfl
    have q1 := KA1.cel 1 (v := .slice A1 a.queue.length c1) rfl
    have q2 := KA1.cel 2 (v := .slice A2 a.purple.length c2) rfl
    have Hrc := Lib.hid (specReached_c a A0 A1 A2 c0 c1 c2 L B w1 l VA vc LV BV (Nat.le_trans hB hb1.size) (Nat.le_trans hBV hb1.size) (H.out.below (hb1.mono hB)) Hsz.out hc (HV.out.below (hb1.mono hBV)) hl)
    have hrb : (reachedA a l).length = a.slots.length ∨ (reachedA a l).length = 0 := by
      unfold reachedA
      split
      · left; exact reachO_len _ _
      · right; rfl
    have Hb := Lib.hid hb1
    have HK := Lib.hid KA1
    obtain ⟨O, hO⟩ : ∃ o, o = reachedA a l := ⟨_, rfl⟩
    rw [← hO] at E Hrc hrb
    clear hb HbW HR hb1 KA1 HKA hok hO
    go_wp2_with fail
    refine Hrc.out.mono ?_
    rintro e w2 ⟨OA, oc, rfl, hoo, hb2⟩
    have hm : O.length ≤ maxLen := by unfold maxLen; omega
    have HO := Lib.hid (hoo.olg hm)
    have Hb2 := Lib.hid (Hb.out.trans (hb2.mono Hb.out.size))
    have HK2 := Lib.hid (HK.out.below hb2 HK.out.lt)
    clear hoo hb2 Hrc HK Hb q0 q1 q2 hm
    go_wp2_with fail
    go_loopw [5, 7] (fun n i wr => ∃ k : Nat, k ≤ a.slots.length ∧ i = .int .i64 k ∧ Hid (IRow wr w2.heap.size n (leftTo (garbP a.slots O) k)) ∧ Hid (Below w2.heap.size w2 wr)) (fun _ i _ => a.slots.length - (intOf i).toNat)
    case atStart => exact ⟨0, Nat.zero_le _, rfl, Lib.hid (IRow.nil _ _), Lib.hid (Below.refl _ _)⟩
    case round =>
      obtain ⟨k, hk, rfl, hrow, hbl⟩ := hrel
      obtain ⟨A, c, rfl, hlc⟩ := hrow.out.form
      have hll := leftTo_le (garbP a.slots O) k
      have hbw := Hb2.out.trans (hbl.out.mono Hb2.out.size)
      have KR := HK2.out.below hbl.out HK2.out.lt
      have p0 := KR.cel 0 (v := .slice A0 a.slots.length c0) rfl
      have hws := hbl.out.size
      by_cases hlt : k < a.slots.length
      · obtain ⟨ad, rfl, _, hbk, hat⟩ := (H.out.1.below (hbw.mono hB)).2 (by omega)
        obtain ⟨x0, x1, x2, x3, ⟨d0, d1, d2, d3⟩, rfl, rfl, rfl, _⟩ := hat k hlt
        have hgp : garbP a.slots O k = (a.slots[k].live && !gO O k) := by unfold garbP; rw [liveN_eq hlt]
        obtain ⟨b, hb⟩ : ∃ b, b = a.slots[k].live := ⟨_, rfl⟩
        rw [← hb] at d0 hgp
        have Hbw := Lib.hid hbw
        clear hat d1 d2 d3 hb KR hbw
        by_cases hol : k < O.length
        · obtain ⟨oa, rfl, _, hob, hoat⟩ := (HO.out.below hbl.out).2 (by omega)
          have o0 := hoat k hol
          rw [← gO_get hol] at o0
          obtain ⟨ob, hobe⟩ : ∃ b, b = gO O k := ⟨_, rfl⟩
          rw [← hobe] at o0 hgp
          have hkO : ¬ O.length ≤ k := by omega
          clear hoat hobe
          cases b
          · have Hn := Lib.hid (leftTo_no (p := garbP a.slots O) (k := k) (by rw [hgp]; rfl))
            clear hgp
            go_wp2
            go_roundw
            case rel => exact ⟨k + 1, by omega, by go_num, by rw [Hn.out]; exact hrow, hbl⟩
            case measure => simp [intOf]; omega
          · cases ob
            · have Hn := Lib.hid (leftTo_yes (p := garbP a.slots O) (k := k) (by rw [hgp]; rfl))
              have Hcell := Lib.hid (cell_one_new wr (.int .i64 (k : Int)) 3)
              have HOw := Lib.hid (hrow.out.alloc (.cells #[.int .i64 (k : Int)] 3))
              have Hll := Lib.hid hll
              clear hgp hll
              go_wp2_with (at_builtin; refine wpList_append_own _ rfl (.tmp 40) (.tmp 42) 23 rfl w2.heap.size 3 i0 _ 1 8 Try.underlying23 hi hz0 hz1 hz2 rfl (by omega) _ _ _ rfl HOw.out ⟨wr.heap.size, 0, none⟩ 1 1 [.int .i64 (k : Int)] rfl rfl Hcell.out (by simp [Value.oneCell']) (by have := Hll.out; unfold maxLen; omega) (by have := Hll.out; omega) (by simp; omega) ?_; intro v' w4 hown' hgrow _)
              have hbn : Below w2.heap.size w2 w4 := HOw.out.grown (hbl.out.alloc hws _) (by simp; omega) hgrow
              have Hnew := Lib.hid (IRow.snoc hown')
              have Hbn := Lib.hid hbn
              clear hown' hgrow hbn HOw Hcell
              go_roundw
              case rel => exact ⟨k + 1, by omega, by go_num, by rw [Hn.out]; exact Hnew, Hbn⟩
              case measure => simp [intOf]; omega
            · have Hn := Lib.hid (leftTo_no (p := garbP a.slots O) (k := k) (by rw [hgp]; rfl))
              clear hgp
              go_wp2
              go_roundw
              case rel => exact ⟨k + 1, by omega, by go_num, by rw [Hn.out]; exact hrow, hbl⟩
              case measure => simp [intOf]; omega
        · have hgo : gO O k = false := by
            cases e : gO O k
            · rfl
            · exact absurd (gO_lt e) hol
          rw [hgo] at hgp
          have hkO : O.length ≤ k := by omega
          cases b
          · have Hn := Lib.hid (leftTo_no (p := garbP a.slots O) (k := k) (by rw [hgp]; rfl))
            clear hgp hgo
            go_wp2
            go_roundw
            case rel => exact ⟨k + 1, by omega, by go_num, by rw [Hn.out]; exact hrow, hbl⟩
            case measure => simp [intOf]; omega
          · have Hn := Lib.hid (leftTo_yes (p := garbP a.slots O) (k := k) (by rw [hgp]; rfl))
            have Hcell := Lib.hid (cell_one_new wr (.int .i64 (k : Int)) 3)
            have HOw := Lib.hid (hrow.out.alloc (.cells #[.int .i64 (k : Int)] 3))
            have Hll := Lib.hid hll
            clear hgp hll hgo
            go_wp2_with (at_builtin; refine wpList_append_own _ rfl (.tmp 40) (.tmp 42) 23 rfl w2.heap.size 3 i0 _ 1 8 Try.underlying23 hi hz0 hz1 hz2 rfl (by omega) _ _ _ rfl HOw.out ⟨wr.heap.size, 0, none⟩ 1 1 [.int .i64 (k : Int)] rfl rfl Hcell.out (by simp [Value.oneCell']) (by have := Hll.out; unfold maxLen; omega) (by have := Hll.out; omega) (by simp; omega) ?_; intro v' w4 hown' hgrow _)
            have hbn : Below w2.heap.size w2 w4 := HOw.out.grown (hbl.out.alloc hws _) (by simp; omega) hgrow
            have Hnew := Lib.hid (IRow.snoc hown')
            have Hbn := Lib.hid hbn
            clear hown' hgrow hbn HOw Hcell
            go_roundw
            case rel => exact ⟨k + 1, by omega, by go_num, by rw [Hn.out]; exact Hnew, Hbn⟩
            case measure => simp [intOf]; omega
      · obtain rfl : k = a.slots.length := by omega
        have Hbw := Lib.hid hbw
        clear hbw KR
        go_wp2
        go_ret
        rw [E.out]
        exact ⟨_, _, rfl, (hrow.out.own).lo_le Hb2.out.size, Hbw.out⟩
end
end Go.Proofs.Ytiofabnicdlceaa
