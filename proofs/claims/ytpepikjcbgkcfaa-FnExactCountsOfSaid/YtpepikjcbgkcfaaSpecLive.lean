/-
  The model's LiveSlots and CountsOf.
-/
import Derived.Test.YtpepikjcbgkcfaaOkAt
import Derived.Test.YtpepikjcbgkcfaaArnAns
namespace Go.Proofs.Ytpepikjcbgkcfaa
open Go.RowKit
set_option linter.unusedVariables false
set_option linter.unusedSimpArgs false

section
variable (a : Ar) (A0 A1 A2 : Option Addr) (c0 c1 c2 L B : Nat) (w : World)

set_option maxRecDepth 100000 in
set_option maxHeartbeats 2000000 in
theorem specLiveSlots_c (hB : B ≤ w.heap.size) (h : ArL w L B A0 A1 A2 a) (hsz : arSz a ≤ 1048576) (hc : a.purple.length ≤ c2) :
    Calls Try.prog 12 #[.agg #[.slice A0 a.slots.length c0, .slice A1 a.queue.length c1, .slice A2 a.purple.length c2]] w (AnsI w (liveA a)) := by
  obtain ⟨i0, hi, hz0, hz1, hz2⟩ := info_parts infoI
  have hbW := blw1 w (.cells #[.slice A0 a.slots.length c0, .slice A1 a.queue.length c1, .slice A2 a.purple.length c2] 30)
  have HR := Lib.hid (okAt a A0 A1 A2 c0 c1 c2 L B w _ h hsz hc (hbW.mono hB) (Nat.le_trans hB hbW.size))
  have HbW := Lib.hid hbW
  have HKA := Lib.hid (Blk.new w 30 #[.slice A0 a.slots.length c0, .slice A1 a.queue.length c1, .slice A2 a.purple.length c2])
  have H := Lib.hid h
  have hS : a.slots.length ≤ 1048576 := by unfold arSz slsSz at hsz; omega
  clear h hsz hbW
  go_enter Try.func12, Try.ntmps12
  go_wp2_with fail
  refine HR.out.mono ?_
  rintro e w1 ⟨rfl, hb⟩
  have hbB := HbW.out.trans (hb.mono HbW.out.size)
  have KA1 := HKA.out.below hb HKA.out.lt
  cases hok : arOk a
  · have E := Lib.hid (show liveA a = [] by unfold liveA; rw [hok]; rfl)
    have Hb := Lib.hid hbB
    clear hb HbW HR hbB KA1 HKA hok
    go_wp2
    go_ret
    rw [E.out]
    exact AnsI.nil Hb.out
  · have E := Lib.hid (show liveA a = liveTo a.slots a.slots.length by unfold liveA; rw [hok]; rfl)
    have Hb := Lib.hid hbB
    have HK := Lib.hid KA1
    clear hb HbW HR hbB KA1 HKA hok
    go_wp2_with fail
    go_loopw [3, 4] (fun n i wr => ∃ k : Nat, k ≤ a.slots.length ∧ i = .int .i64 k ∧ Hid (IRow wr w1.heap.size n (liveTo a.slots k)) ∧ Below w1.heap.size w1 wr) (fun _ i _ => a.slots.length - (intOf i).toNat)
    case atStart => exact ⟨0, Nat.zero_le _, rfl, Lib.hid (IRow.nil _ _), Below.refl _ _⟩
    case round =>
      obtain ⟨k, hk, rfl, hrow, hbl⟩ := hrel
      obtain ⟨A, c, rfl, hlc⟩ := hrow.out.form
      have hll := liveTo_le a.slots k
      have hbw := Hb.out.trans (hbl.mono Hb.out.size)
      have KR := HK.out.below hbl HK.out.lt
      have p0 := KR.cel 0 (v := .slice A0 a.slots.length c0) rfl
      have p1 := fun (o : Obj) => (KR.alloc o).cel 0 (v := .slice A0 a.slots.length c0) rfl
      have hws := hbl.size
      by_cases hlt : k < a.slots.length
      · obtain ⟨ad, rfl, _, hbk, hat⟩ := (H.out.1.below (hbw.mono hB)).2 (by omega)
        obtain ⟨x0, x1, x2, x3, ⟨d0, d1, d2, d3⟩, rfl, rfl, rfl, _⟩ := hat k hlt
        obtain ⟨b, hb⟩ : ∃ b, b = a.slots[k].live := ⟨_, rfl⟩
        rw [← hb] at d0
        clear hat d1 d2 d3
        cases b
        · have Hn := Lib.hid (liveTo_no hlt hb.symm)
          clear hb
          have Hbl := Lib.hid hbl
          clear hbl hbw KR
          go_wp2
          go_roundw
          case rel => exact ⟨k + 1, by omega, by go_num, by rw [Hn.out]; exact hrow, Hbl.out⟩
          case measure => simp [intOf]; omega
        · have Hn := Lib.hid (liveTo_yes hlt hb.symm)
          clear hb
          have Hcell := Lib.hid (cell_one_new wr (.int .i64 (k : Int)) 3)
          have HO := Lib.hid (hrow.out.alloc (.cells #[.int .i64 (k : Int)] 3))
          have Hbl := Lib.hid hbl
          clear hbl hbw KR
          go_wp2_with (at_builtin; refine wpList_append_own _ rfl (.tmp 21) (.tmp 23) 23 rfl w1.heap.size 3 i0 _ 1 8 Try.underlying23 hi hz0 hz1 hz2 rfl (by omega) _ _ _ rfl HO.out ⟨wr.heap.size, 0, none⟩ 1 1 [.int .i64 (k : Int)] rfl rfl Hcell.out (by simp [Value.oneCell']) (by unfold maxLen; omega) (by omega) (by simp; omega) ?_; intro v' w4 hown' hgrow _)
          have hbn : Below w1.heap.size w1 w4 := HO.out.grown (Hbl.out.alloc hws _) (by simp; omega) hgrow
          have Hnew := Lib.hid (IRow.snoc hown')
          have Hbn := Lib.hid hbn
          clear hown' hgrow hbn HO Hcell
          go_roundw
          case rel => exact ⟨k + 1, by omega, by go_num, by rw [Hn.out]; exact Hnew, Hbn.out⟩
          case measure => simp [intOf]; omega
      · obtain rfl : k = a.slots.length := by omega
        have Hbw := Lib.hid hbw
        clear hbl hbw KR
        go_wp2
        go_ret
        rw [E.out]
        exact ⟨_, _, rfl, (hrow.out.own).lo_le Hb.out.size, Hbw.out⟩

set_option maxRecDepth 100000 in
set_option maxHeartbeats 2000000 in
theorem specCountsOf_c (hB : B ≤ w.heap.size) (h : ArL w L B A0 A1 A2 a) (hsz : arSz a ≤ 1048576) (hc : a.purple.length ≤ c2) :
    Calls Try.prog 20 #[.agg #[.slice A0 a.slots.length c0, .slice A1 a.queue.length c1, .slice A2 a.purple.length c2]] w (AnsI w (countsA a)) := by
  obtain ⟨i0, hi, hz0, hz1, hz2⟩ := info_parts infoI
  have hbW := blw1 w (.cells #[.slice A0 a.slots.length c0, .slice A1 a.queue.length c1, .slice A2 a.purple.length c2] 30)
  have HR := Lib.hid (okAt a A0 A1 A2 c0 c1 c2 L B w _ h hsz hc (hbW.mono hB) (Nat.le_trans hB hbW.size))
  have HbW := Lib.hid hbW
  have HKA := Lib.hid (Blk.new w 30 #[.slice A0 a.slots.length c0, .slice A1 a.queue.length c1, .slice A2 a.purple.length c2])
  have H := Lib.hid h
  have hS : a.slots.length ≤ 1048576 := by unfold arSz slsSz at hsz; omega
  clear h hsz hbW
  go_enter Try.func20, Try.ntmps20
  go_wp2_with fail
  refine HR.out.mono ?_
  rintro e w1 ⟨rfl, hb⟩
  have hbB := HbW.out.trans (hb.mono HbW.out.size)
  have KA1 := HKA.out.below hb HKA.out.lt
  cases hok : arOk a
  · have E := Lib.hid (show countsA a = [] by unfold countsA; rw [hok]; rfl)
    have Hb := Lib.hid hbB
    clear hb HbW HR hbB KA1 HKA hok
    go_wp2
    go_ret
    rw [E.out]
    exact AnsI.nil Hb.out
  · have E := Lib.hid (show countsA a = cntTo a.slots a.slots.length by unfold countsA; rw [hok]; rfl)
    have Hb := Lib.hid hbB
    have HK := Lib.hid KA1
    clear hb HbW HR hbB KA1 HKA hok
    go_wp2_with fail
    go_loopw [3, 4] (fun n i wr => ∃ k : Nat, k ≤ a.slots.length ∧ i = .int .i64 k ∧ Hid (IRow wr w1.heap.size n (cntTo a.slots k)) ∧ Below w1.heap.size w1 wr) (fun _ i _ => a.slots.length - (intOf i).toNat)
    case atStart => exact ⟨0, Nat.zero_le _, rfl, Lib.hid (IRow.nil _ _), Below.refl _ _⟩
    case round =>
      obtain ⟨k, hk, rfl, hrow, hbl⟩ := hrel
      obtain ⟨A, c, rfl, hlc⟩ := hrow.out.form
      have hll := cntTo_len hk
      have hbw := Hb.out.trans (hbl.mono Hb.out.size)
      have KR := HK.out.below hbl HK.out.lt
      have p0 := KR.cel 0 (v := .slice A0 a.slots.length c0) rfl
      have p1 := fun (o : Obj) => (KR.alloc o).cel 0 (v := .slice A0 a.slots.length c0) rfl
      have hws := hbl.size
      by_cases hlt : k < a.slots.length
      · obtain ⟨ad, rfl, _, hbk, hat⟩ := (H.out.1.below (hbw.mono hB)).2 (by omega)
        obtain ⟨x0, x1, x2, x3, ⟨d0, d1, d2, d3⟩, rfl, rfl, rfl, _⟩ := hat k hlt
        have Hn := Lib.hid (cntTo_succ hlt)
        clear hat d0 d1 d3
        obtain ⟨z, hz⟩ : ∃ z, z = a.slots[k].count := ⟨_, rfl⟩
        rw [← hz] at d2 Hn
        clear hz
        have Hcell := Lib.hid (cell_one_new wr (.int .i64 z) 3)
        have HO := Lib.hid (hrow.out.alloc (.cells #[.int .i64 z] 3))
        have Hbl := Lib.hid hbl
        clear hbl hbw KR
        go_wp2_with (at_builtin; refine wpList_append_own _ rfl (.tmp 15) (.tmp 22) 23 rfl w1.heap.size 3 i0 _ 1 8 Try.underlying23 hi hz0 hz1 hz2 rfl (by omega) _ _ _ rfl HO.out ⟨wr.heap.size, 0, none⟩ 1 1 [.int .i64 z] rfl rfl Hcell.out (by simp [Value.oneCell']) (by unfold maxLen; omega) (by omega) (by simp; omega) ?_; intro v' w4 hown' hgrow _)
        have hbn : Below w1.heap.size w1 w4 := HO.out.grown (Hbl.out.alloc hws _) (by simp; omega) hgrow
        have Hnew := Lib.hid (IRow.snoc hown')
        have Hbn := Lib.hid hbn
        clear hown' hgrow hbn HO Hcell
        go_roundw
        case rel => exact ⟨k + 1, by omega, by go_num, by rw [Hn.out]; exact Hnew, Hbn.out⟩
        case measure => simp [intOf]; omega
      · obtain rfl : k = a.slots.length := by omega
        have Hbw := Lib.hid hbw
        clear hbl hbw KR
        go_wp2
        go_ret
        rw [E.out]
        exact ⟨_, _, rfl, (hrow.out.own).lo_le Hb.out.size, Hbw.out⟩
end
end Go.Proofs.Ytpepikjcbgkcfaa
