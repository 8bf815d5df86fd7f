/-
  The model's Reached.
-/
import Derived.Test.YtiofabnicdlceaaMarkS
namespace Go.Proofs.Ytiofabnicdlceaa
open Go.RowKit
set_option linter.unusedVariables false
set_option linter.unusedSimpArgs false

section
variable (a : Ar) (A0 A1 A2 : Option Addr) (c0 c1 c2 L B : Nat) (w : World)

set_option maxRecDepth 100000 in
set_option maxHeartbeats 8000000 in
theorem specReached_c (l : List Vl) (VA : Option Addr) (vc LV BV : Nat) (hB : B ≤ w.heap.size) (hBV : BV ≤ w.heap.size) (h : ArL w L B A0 A1 A2 a) (hsz : arSz a ≤ 1048576) (hc : a.purple.length ≤ c2) (hv : VlL w LV BV VA l) (hl : l.length ≤ 1048576) :
    Calls Try.prog 36 #[.agg #[.slice A0 a.slots.length c0, .slice A1 a.queue.length c1, .slice A2 a.purple.length c2], .slice VA l.length vc] w (AnsO w (reachedA a l)) := by
  have hbW := blw1 w (.cells #[.slice A0 a.slots.length c0, .slice A1 a.queue.length c1, .slice A2 a.purple.length c2] 32)
  have HR := Lib.hid (okAt a A0 A1 A2 c0 c1 c2 L B w _ h hsz hc (hbW.mono hB) (Nat.le_trans hB hbW.size))
  have HbW := Lib.hid hbW
  have HKA := Lib.hid (Blk.new w 32 #[.slice A0 a.slots.length c0, .slice A1 a.queue.length c1, .slice A2 a.purple.length c2])
  have H := Lib.hid h
  have HV := Lib.hid hv
  have Hsz := Lib.hid hsz
  clear h hsz hbW hv
  go_enter Try.func36, Try.ntmps36
  go_wp2_with fail
  refine HR.out.mono ?_
  rintro e w1 ⟨rfl, hb⟩
  have hb1 := HbW.out.trans (hb.mono HbW.out.size)
  have KA1 := HKA.out.below hb HKA.out.lt
  cases hok : arOk a
  · have E := Lib.hid (show reachedA a l = [] by unfold reachedA; rw [hok]; rfl)
    have Hb := Lib.hid hb1
    clear hb HbW HR hb1 KA1 HKA hok
    go_wp2
    go_ret
    rw [E.out]
    exact AnsO.nil Hb.out
  · have q0 := KA1.cel 0 rfl
    have q1 := KA1.cel 1 rfl
    have q2 := KA1.cel 2 rfl
    have Hl := Lib.hid (l4vals_c a.slots A0 A1 A2 c0 a.queue.length c1 a.purple.length c2 l VA vc L B LV BV w1 (Nat.le_trans hB hb1.size) (Nat.le_trans hBV hb1.size) hl (H.out.1.below (hb1.mono hB)) (HV.out.below (hb1.mono hBV)))
    have Hb := Lib.hid hb1
    have HK := Lib.hid KA1
    have Hok := Lib.hid hok
    clear hb HbW HR hb1 KA1 HKA hok
    go_wp2_with fail
    refine Hl.out.mono ?_
    rintro e w2 ⟨rfl, hb⟩
    have hb2 := Hb.out.trans (hb.mono Hb.out.size)
    have K2 := HK.out.below hb HK.out.lt
    cases hro : rootsA a.slots l
    · have E := Lib.hid (show reachedA a l = [] by unfold reachedA; rw [hro]; simp)
      have Hb2 := Lib.hid hb2
      clear hb hb2 K2 HK Hb Hl hro q0 q1 q2
      go_wp2
      go_ret
      rw [E.out]
      exact AnsO.nil Hb2.out
    · have E := Lib.hid (show reachedA a l = reachO a.slots (refsV l l.length) by unfold reachedA; rw [hro, Hok.out]; rfl)
      obtain ⟨hS1, hS16, -⟩ := arOk_at Hok.out
      have HS := Lib.hid (InS.of_ok Hok.out)
      have Hvl := Lib.hid (rootsA_at hro).2
      have hmk := run_make_row' (P := Try.prog) 43 4 (.bool false) 1 Try.underlying43 infoBo rfl .i64 .i64 a.slots.length (by omega) (by omega)
      rw [made_false] at hmk
      have Hwl := Lib.hid K2.lt
      have r0 := K2.cel 0 rfl
      have Hn := Lib.hid (Blk.new w2 4 (vo (List.replicate a.slots.length false)).toArray)
      have Hk := Lib.hid (K2.alloc (.cells (vo (List.replicate a.slots.length false)).toArray 4))
      have Ha := Lib.hid ((Apart.refl (fun k => k = w2.heap.size) w2).alloc (.cells (vo (List.replicate a.slots.length false)).toArray 4))
      have Hd := Lib.hid (Dpa.start a.slots)
      have Hb2 := Lib.hid hb2
      have Hro := Lib.hid hro
      clear hb hb2 K2 HK Hb Hl hro q0 q1 q2
      go_wp2_with fail
      go_loopw [6] (fun x wr => ∃ (k : Nat) (m : List Bool), k ≤ l.length ∧ x = .int .i64 k ∧ Hid (Dpa a.slots (refsV l k) m) ∧ Hid (Blk wr w2.heap.size 4 (vo m).toArray) ∧ Hid (Blk wr w.heap.size 32 #[.slice A0 a.slots.length c0, .slice A1 a.queue.length c1, .slice A2 a.purple.length c2]) ∧ Hid (Apart (fun k => k = w2.heap.size) w2 wr)) (fun x _ => l.length - (intOf x).toNat)
      case atStart => exact ⟨0, _, Nat.zero_le _, rfl, Hd, Hn, Hk, Ha⟩
      case round =>
        obtain ⟨k, m, hk, rfl, hd, hbR, hkR, haR⟩ := hrel
        have hsw := haR.out.size
        have hb2s := Hb2.out.size
        have hbw : Below w.heap.size w wr := Hb2.out.trans (haR.out.below hb2s (fun k hk => by omega))
        have hBr : B ≤ wr.heap.size := Nat.le_trans hB hbw.size
        by_cases hlt : k < l.length
        · obtain ⟨ad, rfl, _, hbk, hat⟩ := (HV.out.below (hbw.mono hBV)).2 (by omega)
          obtain ⟨d0, d1, d2⟩ := hat k hlt
          have Hy := Lib.hid (fun h => refsV_yes (l := l) (k := k) hlt h)
          have Hno := Lib.hid (fun h => refsV_no (l := l) (k := k) hlt h)
          have Hvo := Lib.hid (Hvl.out k hlt)
          obtain ⟨x, hx⟩ : ∃ x, x = l[k] := ⟨_, rfl⟩
          rw [← hx] at d0 d1 d2 Hy Hno Hvo
          obtain ⟨vk, vn, vg⟩ := x
          dsimp only at *
          clear hat hx d2
          by_cases he : vk = 2
          · subst he
            obtain ⟨n, rfl, hnS⟩ : ∃ n : Nat, vn = (n : Int) ∧ n < a.slots.length := by
              have hin := val2_in (S := a.slots) (n := vn) (g := vg) Hvo.out
              exact ⟨vn.toNat, by omega, by omega⟩
            have Hc := Lib.hid (fun x => l4mark_c a A0 A1 A2 c0 c1 c2 L B w2.heap.size Hsz.out HS.out (.inr (Nat.le_trans hB hb2s)) _ m n (wr.drewN x) (Nat.le_refl _) hnS hd.out.len hBr ((H.out.below (hbw.mono hB)).keep (w' := wr.drewN x) fun _ _ _ => rfl) (hbR.out.drewN x))
            have k0 := hkR.out.cel 0 (v := .slice A0 a.slots.length c0) rfl
            have k1 := hkR.out.cel 1 (v := .slice A1 a.queue.length c1) rfl
            have k2 := hkR.out.cel 2 (v := .slice A2 a.purple.length c2) rfl
            have Hbw := Lib.hid hbw
            clear hbw Hno Hvo hbR
            go_upto_region 8 with fail
            go_region_with (go_at_call 68; refine (Hc.out 1).mono ?_; rintro e w5 ⟨v, m', rfl, hdd, hb5, ha5⟩)
            all_goals
              have Hd5 : Hid (Dpa a.slots (refsV l (k + 1)) m') := Lib.hid (by rw [Hy.out (by trivial)]; exact hd.out.step hdd)
              have Hb5 := Lib.hid hb5
              have Ha5 := Lib.hid (haR.out.trans (apart_drewN 1 ha5))
              have Hk5 := Lib.hid ((hkR.out.drewN 1).apart ha5 (by have := Hwl.out; omega))
              clear hdd hb5 ha5 Hc Hy k0 k1 k2 hd hkR haR Hbw
              go_wp2
              go_roundw
              case rel => exact ⟨k + 1, m', by omega, by go_num, Hd5, Hb5, Hk5, Ha5⟩
              case measure => simp [intOf]; omega
          · have Hd5 : Hid (Dpa a.slots (refsV l (k + 1)) m) := Lib.hid (by rw [Hno.out he]; exact hd.out)
            clear Hy Hno Hvo hbw hd
            go_wp2
            go_roundw
            case rel => exact ⟨k + 1, m, by omega, by go_num, Hd5, hbR, hkR, haR⟩
            case measure => simp [intOf]; omega
        · obtain rfl : k = l.length := by omega
          have hm : m = reachO a.slots (refsV l l.length) := hd.out.eq
          subst hm
          have Ho := Lib.hid (OwnO.of_blk hbR.out (Nat.le_trans hb2s (Nat.le_refl w2.heap.size)))
          have Hbw := Lib.hid hbw
          have Hl := Lib.hid (reachO_len a.slots (refsV l l.length))
          clear hd hbR hkR haR hbw
          go_wp2
          go_ret
          rw [E.out]
          exact ⟨_, _, by rw [Hl.out]; rfl, Ho.out, Hbw.out⟩
end
end Go.Proofs.Ytiofabnicdlceaa
