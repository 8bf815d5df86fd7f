/-
  The program's Garbage.
-/
import Derived.Test.YtiofabnicdlceaaReachR
import Derived.Test.YtiofabnicdlceaaWithout
namespace Go.Proofs.Ytiofabnicdlceaa
open Go.RowKit
set_option linter.unusedVariables false
set_option linter.unusedSimpArgs false

theorem SetV.il {w : World} {lo n c : Nat} {A : Option Addr} {l : List Int} (h : SetV w lo (.slice A n c) l) : IL w lo w.heap.size A l := by
  rcases h with ⟨e, rfl⟩ | ⟨g, cs, e, hg, hB, h1, h2, h3⟩
  · exact IL.none_ _ _ _ _
  · injection e with e1 e2 e3
    subst e1
    refine ⟨by omega, fun hn => ⟨_, rfl, hg, hB.lt, fun k hk => ?_⟩⟩
    rw [add_zero_, hB.cell]
    exact h3 k hk

section
variable (a : Ar) (A0 A1 A2 : Option Addr) (c0 c1 c2 L B : Nat) (w : World)
set_option maxRecDepth 100000 in
set_option maxHeartbeats 8000000 in
theorem implGarbage_c (l : List Vl) (VA : Option Addr) (vc LV BV : Nat) (hB : B ≤ w.heap.size) (hBV : BV ≤ w.heap.size) (h : ArL w L B A0 A1 A2 a) (hsz : arSz a ≤ 1048576) (hv : VlL w LV BV VA l) (hl : l.length ≤ 1048576) :
    Calls Try.prog 13 #[.agg #[.slice A0 a.slots.length c0, .slice A1 a.queue.length c1, .slice A2 a.purple.length c2], .slice VA l.length vc] w (AnsI w (garbA a l)) := by
  have hbW := blw1 w (.cells #[.slice A0 a.slots.length c0, .slice A1 a.queue.length c1, .slice A2 a.purple.length c2] 32)
  have HR := Lib.hid (roomAt a A0 A1 A2 c0 c1 c2 L B w _ h hsz (hbW.mono hB) (Nat.le_trans hB hbW.size))
  have HbW := Lib.hid hbW
  have Hsz := Lib.hid hsz
  have HV := Lib.hid hv
  clear h hsz hbW hv
  go_enter Try.func13, Try.ntmps13
  go_wp2_with fail
  refine HR.out.mono ?_
  rintro e w1 ⟨u0, u1, u2, u3, rfl, hb, hu, hyes⟩
  have Hb := Lib.hid (HbW.out.trans (hb.mono HbW.out.size))
  cases hok : arOk a
  · have E := Lib.hid (show garbA a l = [] by unfold garbA; rw [hok]; rfl)
    obtain ⟨_, _, _, rfl⟩ := hu u0 (by simp)
    obtain ⟨_, _, _, rfl⟩ := hu u1 (by simp)
    obtain ⟨_, _, _, rfl⟩ := hu u2 (by simp)
    obtain ⟨_, _, _, rfl⟩ := hu u3 (by simp)
    clear hu hb HbW HR hyes hok
    go_wp2
    go_ret
    rw [E.out]
    exact AnsI.nil (Hb.out.alloc Hb.out.size _)
  · obtain ⟨A, c, rfl, hsl, hset, rfl, rfl⟩ := hyes hok
    obtain ⟨LA, ln, lc, rfl⟩ := hu u1 (by simp)
    obtain ⟨LA', lc', e1⟩ := hset.form
    injection e1 with e1 e2 e3
    subst e1; subst e2; subst e3
    have hbr := blw1 w1 (.cells #[.slice A a.slots.length c, .slice LA (liveTo a.slots a.slots.length).length lc, .slice A1 a.queue.length c1, .slice A2 a.purple.length c2] 66)
    have KR := Lib.hid (Blk.new w1 66 #[.slice A a.slots.length c, .slice LA (liveTo a.slots a.slots.length).length lc, .slice A1 a.queue.length c1, .slice A2 a.purple.length c2])
    have Hb2 := Lib.hid (Hb.out.trans (hbr.mono Hb.out.size))
    have hS2 := (hsl.below hbr).more (Nat.le_refl _) hbr.size
    have HS := Lib.hid hS2
    have HLv := Lib.hid (hset.below hbr)
    have Hro := Lib.hid (rootsOk_c a.slots A LA A1 A2 c (liveTo a.slots a.slots.length).length lc a.queue.length c1 a.purple.length c2 l VA vc LV BV (w1.alloc (.cells #[.slice A a.slots.length c, .slice LA (liveTo a.slots a.slots.length).length lc, .slice A1 a.queue.length c1, .slice A2 a.purple.length c2] 66)) (Nat.le_trans hBV Hb2.out.size) hl hS2 (HV.out.below (Hb2.out.mono hBV)))
    have Hok := Lib.hid hok
    obtain ⟨hS1, hS16, -⟩ := arOk_at hok
    have hlv := liveTo_le a.slots a.slots.length
    obtain ⟨LV0, hLV0⟩ : ∃ x, x = liveTo a.slots a.slots.length := ⟨_, rfl⟩
    rw [← hLV0] at KR Hb2 HS HLv Hro hlv
    rw [← hLV0]
    have HL0 := Lib.hid hLV0
    clear hu hb HbW HR hyes hok hsl hbr hS2 hset hLV0
    have hlv2 : LV0.length ≤ 16 := by omega
    clear hlv
    go_wp2_with fail
    refine Hro.out.mono ?_
    rintro e w2 ⟨rfl, hb2⟩
    have K2 := KR.out.below hb2 KR.out.lt
    have Hb3 := Lib.hid (Hb2.out.trans (hb2.mono Hb2.out.size))
    have HLv2 := Lib.hid (HLv.out.below hb2)
    cases hrt : rootsA a.slots l
    · have E : Hid (garbA a l = restI LV0 []) := Lib.hid (by
        unfold garbA
        rw [if_pos Hok.out, HL0.out, rest_live a.slots [] (reachedA a l) (fun j _ => by
          have : reachedA a l = [] := by unfold reachedA; rw [hrt]; simp
          rw [this]; rfl)])
      have q1 := K2.cel 1 (v := .slice LA LV0.length lc) rfl
      have Hw := Lib.hid (without_c LV0 [] LA none lc 0 _ _ w2.heap.size w2 (Nat.le_refl _) (by omega) (by simp) List.Pairwise.nil HLv2.out.il (SetV.nil _ _))
      clear hrt hb2 K2 Hro KR HLv
      go_wp2_with fail
      refine Hw.out.mono ?_
      rintro e w3 ⟨A3, c3, rfl, ho, hb3⟩
      have Hb4 := Lib.hid (Hb3.out.trans (hb3.mono Hb3.out.size))
      have Ho := Lib.hid (ho.lo_le Hb3.out.size)
      clear ho hb3 Hw
      go_wp2
      go_ret
      rw [E.out]
      exact ⟨_, _, rfl, Ho.out, Hb4.out⟩
    · have E : Hid (garbA a l = restI LV0 (reachL a.slots (refsV l l.length))) := Lib.hid (by
        unfold garbA
        rw [if_pos Hok.out, HL0.out, rest_live a.slots _ (reachedA a l) (fun j hj => by
          have : reachedA a l = reachO a.slots (refsV l l.length) := by unfold reachedA; rw [hrt, Hok.out]; rfl
          rw [this]; exact reach_has _ _ hj)])
      have q0 := K2.cel 0 (v := .slice A a.slots.length c) rfl
      have q1 := K2.cel 1 (v := .slice LA LV0.length lc) rfl
      have q2 := K2.cel 2 (v := .slice A1 a.queue.length c1) rfl
      have q3 := K2.cel 3 (v := .slice A2 a.purple.length c2) rfl
      have Hrf := Lib.hid (reached_c a A LA A1 A2 c LV0.length lc c1 c2 l VA vc LV BV w2 Hsz.out Hok.out hrt ((HS.out.below hb2).more (Nat.le_refl _) hb2.size) (Nat.le_trans hBV Hb3.out.size) (HV.out.below (Hb3.out.mono hBV)))
      have HK2 := Lib.hid K2
      have Hsort : Hid ((reachL a.slots (refsV l l.length)).Pairwise (· < ·) ∧ (reachL a.slots (refsV l l.length)).length ≤ a.slots.length) := Lib.hid ⟨reachL_sorted _ _, reachL_bd _ _⟩
      obtain ⟨R, hR⟩ : ∃ r, r = reachL a.slots (refsV l l.length) := ⟨_, rfl⟩
      rw [← hR] at E Hrf Hsort
      clear hrt hb2 K2 Hro KR HS HLv hR
      go_wp2_with fail
      refine Hrf.out.mono ?_
      rintro e w3 ⟨v, rfl, hs, hb3⟩
      obtain ⟨SA, sc, rfl⟩ := hs.form
      have K3 := HK2.out.below hb3 HK2.out.lt
      have Hb4 := Lib.hid (Hb3.out.trans (hb3.mono Hb3.out.size))
      have q1 := K3.cel 1 (v := .slice LA LV0.length lc) rfl
      have Hw := Lib.hid (without_c LV0 R LA SA lc sc _ _ w2.heap.size w3 (Nat.le_refl _) (by omega) (by have := Hsort.out.2; omega) Hsort.out.1 (HLv2.out.below hb3).il hs)
      clear hs hb3 K3 HK2 Hb3 Hrf q0 q2 q3
      go_wp2_with fail
      refine Hw.out.mono ?_
      rintro e w4 ⟨A3, c3, rfl, ho, hb4⟩
      have Hb5 := Lib.hid (Hb4.out.trans (hb4.mono Hb4.out.size))
      have Ho := Lib.hid (ho.lo_le Hb4.out.size)
      clear ho hb4 Hw
      go_wp2
      go_ret
      rw [E.out]
      exact ⟨_, _, rfl, Ho.out, Hb5.out⟩
end
end Go.Proofs.Ytiofabnicdlceaa
