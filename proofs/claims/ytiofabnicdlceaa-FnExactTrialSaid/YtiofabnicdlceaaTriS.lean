/-
  The model's Trial.
-/
import Derived.Test.YtiofabnicdlceaaTrialS
namespace Go.Proofs.Ytiofabnicdlceaa
open Go.RowKit
set_option linter.unusedVariables false
set_option linter.unusedSimpArgs false
section
variable (a : Ar) (A0 A1 A2 : Option Addr) (c0 c1 c2 L B : Nat) (w : World)

set_option maxRecDepth 100000 in
set_option maxHeartbeats 8000000 in
theorem specTrial_c (hB : B ≤ w.heap.size) (h : ArL w L B A0 A1 A2 a) (hsz : arSz a ≤ 1048576) (hc : a.purple.length ≤ c2) :
    Calls Try.prog 26 #[.agg #[.slice A0 a.slots.length c0, .slice A1 a.queue.length c1, .slice A2 a.purple.length c2]] w (AnsI w (trialA a)) := by
  have hbW := blw1 w (.cells #[.slice A0 a.slots.length c0, .slice A1 a.queue.length c1, .slice A2 a.purple.length c2] 32)
  have HR := Lib.hid (okAt a A0 A1 A2 c0 c1 c2 L B w _ h hsz hc (hbW.mono hB) (Nat.le_trans hB hbW.size))
  have HbW := Lib.hid hbW
  have HKA := Lib.hid (Blk.new w 32 #[.slice A0 a.slots.length c0, .slice A1 a.queue.length c1, .slice A2 a.purple.length c2])
  have H := Lib.hid h
  have Hsz := Lib.hid hsz
  clear h hsz hbW
  go_enter Try.func26, Try.ntmps26
  go_wp2_with fail
  refine HR.out.mono ?_
  rintro e w1 ⟨rfl, hb⟩
  have hb1 := HbW.out.trans (hb.mono HbW.out.size)
  have KA1 := HKA.out.below hb HKA.out.lt
  cases hok : arOk a
  · have E := Lib.hid (show trialA a = [] by unfold trialA; rw [hok]; rfl)
    have Hb := Lib.hid hb1
    clear hb HbW HR hb1 KA1 HKA hok
    go_wp2
    go_ret
    rw [E.out]
    exact AnsI.nil Hb.out
  · have q0 := KA1.cel 0 (v := .slice A0 a.slots.length c0) rfl
    have q1 := KA1.cel 1 (v := .slice A1 a.queue.length c1) rfl
    have q2 := KA1.cel 2 (v := .slice A2 a.purple.length c2) rfl
    have Hb := Lib.hid hb1
    have HK := Lib.hid KA1
    have E : Hid (trialA a = leftL a.slots (grayS a.slots a.purple)) := Lib.hid (by unfold trialA; rw [if_pos hok])
    have Hg := Lib.hid (fun x => l5gray_c a A0 A1 A2 c0 c1 c2 L B (w1.drewN x) (Nat.le_trans hB hb1.size) ((H.out.below (hb1.mono hB)).keep (w' := w1.drewN x) fun _ _ _ => rfl) Hsz.out hok)
    have hOl := grayS_len a.slots a.purple
    have hS16 := (arOk_at hok).2.1
    have Ht := Lib.hid (fun (O : List Bool) (hO : O.length = a.slots.length) (GA : Option Addr) (gc LG BG : Nat) (w : World) (hB : B ≤ w.heap.size) (hBG : BG ≤ w.heap.size) (h : ArL w L B A0 A1 A2 a) (hG : OL w LG BG GA O) => l5trial_c a O A0 A1 A2 GA c0 c1 c2 gc L B LG BG w hB hBG h Hsz.out hok hO hG)
    obtain ⟨O, hO⟩ : ∃ o, o = grayS a.slots a.purple := ⟨_, rfl⟩
    rw [← hO] at E Hg hOl
    have HOl := Lib.hid hOl
    have Ht := Lib.hid (Ht.out O HOl.out)
    have hm : O.length ≤ maxLen := by unfold maxLen; omega
    obtain ⟨C, hC⟩ : ∃ c, c = leftL a.slots O := ⟨_, rfl⟩
    rw [← hC] at E Ht
    have HCl := Lib.hid (show C.length = a.slots.length by rw [hC]; exact leftL_len _ _)
    clear hb HbW HR hb1 KA1 HKA hok hO hOl hC
    go_upto_region 3 with fail
    go_region_with (first
      | (go_at_call 47; refine (Hg.out 1).mono ?_; rintro e w2 ⟨OA, oc, rfl, ho, hb2⟩; have K2 := Blk.below (HK.out.drewN 1) hb2 HK.out.lt; have q0 := K2.cel 0 (v := .slice A0 a.slots.length c0) rfl; have q1 := K2.cel 1 (v := .slice A1 a.queue.length c1) rfl; have q2 := K2.cel 2 (v := .slice A2 a.purple.length c2) rfl; have hbx : Below w.heap.size w w2 := (show Below w.heap.size w (w1.drewN 1) from blw_drewN Hb.out 1).trans (hb2.mono Hb.out.size); have Ht2 := Lib.hid (Ht.out OA oc _ w2.heap.size w2 (Nat.le_trans hB hbx.size) (Nat.le_refl _) (H.out.below (hbx.mono hB)) (ho.olg hm)); have Hbx := Lib.hid hbx; clear ho hb2 K2 hbx Hg Ht)
      | (go_at_call 52; refine Ht2.out.mono ?_; rintro e w3 ⟨CA, cc, rfl, ho, hb3⟩; have Hq := Lib.hid (And.intro (ho.lo_le Hbx.out.size) (Hbx.out.trans (hb3.mono Hbx.out.size))); clear ho hb3 Ht2))
    all_goals
      go_wp2
      go_ret
      rw [E.out]
      exact ⟨_, _, rfl, Hq.out.1, Hq.out.2⟩

end
end Go.Proofs.Ytiofabnicdlceaa
