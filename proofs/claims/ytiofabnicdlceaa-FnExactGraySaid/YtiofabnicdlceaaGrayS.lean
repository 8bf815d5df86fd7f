/-
  The model's Gray.
-/
import Derived.Test.YtiofabnicdlceaaTrialS
namespace Go.Proofs.Ytiofabnicdlceaa
open Go.RowKit
set_option linter.unusedVariables false
set_option linter.unusedSimpArgs false
section
variable (a : Ar) (A0 A1 A2 : Option Addr) (c0 c1 c2 L B : Nat) (w : World)

set_option maxRecDepth 100000 in
set_option maxHeartbeats 8000000 in
theorem specGray_c (hB : B ≤ w.heap.size) (h : ArL w L B A0 A1 A2 a) (hsz : arSz a ≤ 1048576) (hc : a.purple.length ≤ c2) :
    Calls Try.prog 21 #[.agg #[.slice A0 a.slots.length c0, .slice A1 a.queue.length c1, .slice A2 a.purple.length c2]] w (AnsO w (grayA a)) := by
  have hbW := blw1 w (.cells #[.slice A0 a.slots.length c0, .slice A1 a.queue.length c1, .slice A2 a.purple.length c2] 32)
  have HR := Lib.hid (okAt a A0 A1 A2 c0 c1 c2 L B w _ h hsz hc (hbW.mono hB) (Nat.le_trans hB hbW.size))
  have HbW := Lib.hid hbW
  have HKA := Lib.hid (Blk.new w 32 #[.slice A0 a.slots.length c0, .slice A1 a.queue.length c1, .slice A2 a.purple.length c2])
  have H := Lib.hid h
  have Hsz := Lib.hid hsz
  clear h hsz hbW
  go_enter Try.func21, Try.ntmps21
  go_wp2_with fail
  refine HR.out.mono ?_
  rintro e w1 ⟨rfl, hb⟩
  have hb1 := HbW.out.trans (hb.mono HbW.out.size)
  have KA1 := HKA.out.below hb HKA.out.lt
  cases hok : arOk a
  · have E := Lib.hid (show grayA a = [] by unfold grayA; rw [hok]; rfl)
    have Hb := Lib.hid hb1
    clear hb HbW HR hb1 KA1 HKA hok
    go_wp2
    go_ret
    rw [E.out]
    exact AnsO.nil Hb.out
  · have q0 := KA1.cel 0 (v := .slice A0 a.slots.length c0) rfl
    have q1 := KA1.cel 1 (v := .slice A1 a.queue.length c1) rfl
    have q2 := KA1.cel 2 (v := .slice A2 a.purple.length c2) rfl
    have Hb := Lib.hid hb1
    have HK := Lib.hid KA1
    have E : Hid (grayA a = grayS a.slots a.purple) := Lib.hid (by unfold grayA; rw [if_pos hok])
    have Hg := Lib.hid (l5gray_c a A0 A1 A2 c0 c1 c2 L B w1 (Nat.le_trans hB hb1.size) (H.out.below (hb1.mono hB)) Hsz.out hok)
    obtain ⟨O, hO⟩ : ∃ o, o = grayS a.slots a.purple := ⟨_, rfl⟩
    rw [← hO] at E Hg
    clear hb HbW HR hb1 KA1 HKA hok hO
    go_wp2_with fail
    refine Hg.out.mono ?_
    rintro e w2 ⟨OA, oc, rfl, ho, hb2⟩
    have Ho := Lib.hid (ho.lo_le Hb.out.size)
    have Hb2 := Lib.hid (Hb.out.trans (hb2.mono Hb.out.size))
    clear ho hb2 Hg
    go_wp2
    go_ret
    rw [E.out]
    exact ⟨_, _, rfl, Ho.out, Hb2.out⟩

end
end Go.Proofs.Ytiofabnicdlceaa
