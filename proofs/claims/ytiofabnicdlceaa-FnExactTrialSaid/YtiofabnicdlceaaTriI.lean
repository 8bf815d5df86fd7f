/-
  The program's Trial.
-/
import Derived.Test.YtiofabnicdlceaaTrialI
import Derived.Test.YtiofabnicdlceaaImplOk
namespace Go.Proofs.Ytiofabnicdlceaa
open Go.RowKit
set_option linter.unusedVariables false
set_option linter.unusedSimpArgs false

theorem field_tri (v0 v1 : Value) (w : World) : (Instr.field 77 (.agg #[v0, v1]) 1).run Try.prog w = .ok v1 w := by
  unfold Instr.field
  go_simp
  simp [asAgg, Result.andThen]

section
variable (a : Ar) (A0 A1 A2 : Option Addr) (c0 c1 c2 L B : Nat) (w : World)

set_option maxRecDepth 100000 in
set_option maxHeartbeats 8000000 in
theorem implTrial_c (hB : B ≤ w.heap.size) (h : ArL w L B A0 A1 A2 a) (hsz : arSz a ≤ 1048576) :
    Calls Try.prog 27 #[.agg #[.slice A0 a.slots.length c0, .slice A1 a.queue.length c1, .slice A2 a.purple.length c2]] w (AnsI w (trialA a)) := by
  have hbW := blw1 w (.cells #[.slice A0 a.slots.length c0, .slice A1 a.queue.length c1, .slice A2 a.purple.length c2] 32)
  have HR := Lib.hid (implArenaOk_c a A0 A1 A2 c0 c1 c2 L B (w.alloc (.cells #[.slice A0 a.slots.length c0, .slice A1 a.queue.length c1, .slice A2 a.purple.length c2] 32)) (Nat.le_trans hB hbW.size) (h.below (hbW.mono hB)) hsz)
  have HbW := Lib.hid hbW
  have HKA := Lib.hid (Blk.new w 32 #[.slice A0 a.slots.length c0, .slice A1 a.queue.length c1, .slice A2 a.purple.length c2])
  have H := Lib.hid h
  have Hsz := Lib.hid hsz
  clear h hsz hbW
  go_enter Try.func27, Try.ntmps27
  go_wp2_with fail
  refine HR.out.mono ?_
  rintro e w1 ⟨rfl, hb⟩
  have hb1 := HbW.out.trans (hb.mono HbW.out.size)
  have KA1 := HKA.out.below hb HKA.out.lt
  cases hok : arOk a
  · have E := Lib.hid (show trialA a = [] by unfold trialA; rw [hok]; rfl)
    have Hb := Lib.hid hb1
    clear hb HbW HR hb1 KA1 HKA hok
    go_wp2
    go_ret
    rw [E.out]
    exact AnsI.nil Hb.out
  · have q0 := KA1.cel 0 (v := .slice A0 a.slots.length c0) rfl
    have q1 := KA1.cel 1 (v := .slice A1 a.queue.length c1) rfl
    have q2 := KA1.cel 2 (v := .slice A2 a.purple.length c2) rfl
    have Hb := Lib.hid hb1
    have HL1 := Lib.hid (H.out.below (hb1.mono hB))
    have Htr := Lib.hid (trialOf_c a.slots a.queue a.purple A0 A1 A2 c0 c1 c2 L B w1 (Nat.le_trans hB hb1.size) HL1.out Hsz.out hok (fun X hX hBX => roomAt a A0 A1 A2 c0 c1 c2 L B w1 X HL1.out Hsz.out hX hBX))
    have E : Hid (trialA a = leftL a.slots (grayS a.slots a.purple)) := Lib.hid (by unfold trialA; rw [if_pos hok])
    have HCl := Lib.hid (leftL_len a.slots (grayS a.slots a.purple))
    clear hb HbW HR hb1 KA1 HKA hok HL1
    go_wp2_with fail
    refine Htr.out.mono ?_
    rintro e w2 ⟨gC, CA, cc, rfl, hC, hge, ho, hb2⟩
    have Ho := Lib.hid (ho.lo_le Hb.out.size)
    have Hb2 := Lib.hid (Hb.out.trans (hb2.mono Hb.out.size))
    have hfl := fun w => field_tri (.slice (some ⟨gC, 0, none⟩) a.slots.length a.slots.length) (.slice CA a.slots.length cc) w
    clear hC hge ho hb2 Htr
    go_wp2
    go_ret
    rw [E.out]
    exact ⟨CA, cc, by rw [HCl.out]; rfl, by rw [HCl.out]; exact Ho.out, Hb2.out⟩

end
end Go.Proofs.Ytiofabnicdlceaa
