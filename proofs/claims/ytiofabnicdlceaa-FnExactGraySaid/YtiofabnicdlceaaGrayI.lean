/-
  The program's Gray.
-/
import Derived.Test.YtiofabnicdlceaaTrialI
import Derived.Test.YtiofabnicdlceaaWhich
import Derived.Test.YtiofabnicdlceaaImplOk
namespace Go.Proofs.Ytiofabnicdlceaa
open Go.RowKit
set_option linter.unusedVariables false
set_option linter.unusedSimpArgs false

theorem col_gray (S : List Sl) (P : List Int) : (colF S P).map isG = grayS S P := by
  refine gO_ext (by rw [List.length_map, colF_len, grayS_len]) fun j hj => ?_
  rw [List.length_map, colF_len] at hj
  have e : gO ((colF S P).map isG) j = isG (gI (colF S P) j) := by
    rw [gO_get (by rw [List.length_map, colF_len]; exact hj), List.getElem_map, gI_get (by rw [colF_len]; exact hj)]
  rw [e, colF_at hj]
  cases gO (grayS S P) j
  · simp [isG]
  · cases gO (blackS S P) j <;> simp [isG]

section
variable (a : Ar) (A0 A1 A2 : Option Addr) (c0 c1 c2 L B : Nat) (w : World)

set_option maxRecDepth 100000 in
set_option maxHeartbeats 8000000 in
theorem implGray_c (hB : B ≤ w.heap.size) (h : ArL w L B A0 A1 A2 a) (hsz : arSz a ≤ 1048576) :
    Calls Try.prog 22 #[.agg #[.slice A0 a.slots.length c0, .slice A1 a.queue.length c1, .slice A2 a.purple.length c2]] w (AnsO w (grayA a)) := by
  have hbW := blw1 w (.cells #[.slice A0 a.slots.length c0, .slice A1 a.queue.length c1, .slice A2 a.purple.length c2] 32)
  have HR := Lib.hid (implArenaOk_c a A0 A1 A2 c0 c1 c2 L B (w.alloc (.cells #[.slice A0 a.slots.length c0, .slice A1 a.queue.length c1, .slice A2 a.purple.length c2] 32)) (Nat.le_trans hB hbW.size) (h.below (hbW.mono hB)) hsz)
  have HbW := Lib.hid hbW
  have HKA := Lib.hid (Blk.new w 32 #[.slice A0 a.slots.length c0, .slice A1 a.queue.length c1, .slice A2 a.purple.length c2])
  have H := Lib.hid h
  have Hsz := Lib.hid hsz
  clear h hsz hbW
  go_enter Try.func22, Try.ntmps22
  go_wp2_with fail
  refine HR.out.mono ?_
  rintro e w1 ⟨rfl, hb⟩
  have hb1 := HbW.out.trans (hb.mono HbW.out.size)
  have KA1 := HKA.out.below hb HKA.out.lt
  cases hok : arOk a
  · have E := Lib.hid (show grayA a = [] by unfold grayA; rw [hok]; rfl)
    have Hb := Lib.hid hb1
    clear hb HbW HR hb1 KA1 HKA hok
    go_wp2
    go_ret
    rw [E.out]
    exact AnsO.nil Hb.out
  · have q0 := KA1.cel 0 (v := .slice A0 a.slots.length c0) rfl
    have q1 := KA1.cel 1 (v := .slice A1 a.queue.length c1) rfl
    have q2 := KA1.cel 2 (v := .slice A2 a.purple.length c2) rfl
    have Hb := Lib.hid hb1
    have HL1 := Lib.hid (H.out.below (hb1.mono hB))
    have Htr := Lib.hid (trialOf_c a.slots a.queue a.purple A0 A1 A2 c0 c1 c2 L B w1 (Nat.le_trans hB hb1.size) HL1.out Hsz.out hok (fun X hX hBX => roomAt a A0 A1 A2 c0 c1 c2 L B w1 X HL1.out Hsz.out hX hBX))
    have E : Hid (grayA a = grayS a.slots a.purple) := Lib.hid (by unfold grayA; rw [if_pos hok])
    have HM : Hid ((colF a.slots a.purple).map isG = grayS a.slots a.purple) := Lib.hid (col_gray _ _)
    have hS16 := (arOk_at hok).2.1
    have HCF := Lib.hid (colF_len a.slots a.purple)
    obtain ⟨col, hcol⟩ : ∃ c, c = colF a.slots a.purple := ⟨_, rfl⟩
    unfold TriQ at Htr
    rw [← hcol] at HM HCF Htr
    clear hb HbW HR hb1 KA1 HKA hok hcol HL1
    go_wp2_with fail
    refine Htr.out.mono ?_
    rintro e w2 ⟨gC, CA, cc, rfl, hC, hge, ho, hb2⟩
    have Hw := Lib.hid (which_isG_c col a.slots.length CA a.slots.length cc gC w2 HCF.out (by omega) hC)
    rw [HM.out] at Hw
    have Hb2 := Lib.hid (Hb.out.trans (hb2.mono Hb.out.size))
    clear hC hge ho hb2 Htr
    go_wp2_with fail
    refine Hw.out.mono ?_
    rintro e w3 ⟨OA, oc, rfl, ho, hb3⟩
    have Ho := Lib.hid (ho.lo_le Hb2.out.size)
    have Hb3 := Lib.hid (Hb2.out.trans (hb3.mono Hb2.out.size))
    clear ho hb3 Hw
    go_wp2
    go_ret
    rw [E.out]
    exact ⟨_, _, rfl, Ho.out, Hb3.out⟩

end
end Go.Proofs.Ytiofabnicdlceaa
