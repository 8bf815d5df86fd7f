/-
  The program's Reached.
-/
import Derived.Test.YtmjpcgainoflbaaReachI
import Derived.Test.YtmjpcgainoflbaaReachD
namespace Go.Proofs.Ytmjpcgainoflbaa
open Go.RowKit
set_option linter.unusedVariables false
set_option linter.unusedSimpArgs false

set_option maxRecDepth 100000 in
set_option maxHeartbeats 4000000 in
theorem reached_c (a : Ar) (A LA A1 A2 : Option Addr) (c ln lc c1 c2 : Nat) (l : List Vl) (VA : Option Addr) (vc LV BV : Nat) (w : World) (hsz : arSz a ≤ 1048576) (hok : arOk a = true) (hro : rootsA a.slots l = true)
    (h : SlL w 0 w.heap.size A a.slots) (hBV : BV ≤ w.heap.size) (hv : VlL w LV BV VA l) :
    Calls Try.prog 79 #[.agg #[.slice A a.slots.length c, .slice LA ln lc, .slice A1 a.queue.length c1, .slice A2 a.purple.length c2], .slice VA l.length vc] w fun e w' => ∃ v, e = .returned v ∧ SetV w' w.heap.size v (reachL a.slots (refsV l l.length)) ∧ Below w.heap.size w w' := by
  have hbR := blw1 w (.cells #[.slice A a.slots.length c, .slice LA ln lc, .slice A1 a.queue.length c1, .slice A2 a.purple.length c2] 110)
  have hl5 := (rootsA_at hro).1
  have hrl := refsV_le l l.length
  have hrin := refsV_in (rootsA_at hro).2
  obtain ⟨hS1, hS16, -⟩ := arOk_at hok
  have HS := Lib.hid (InS.of_ok hok)
  have hsl : slsSz a.slots ≤ 1048576 := by unfold arSz at hsz; omega
  obtain ⟨F, hF⟩ : ∃ f, f = refsV l l.length := ⟨_, rfl⟩
  have Hra := Lib.hid (fun x => refsAmong_c l VA vc LV BV ((w.alloc (.cells #[.slice A a.slots.length c, .slice LA ln lc, .slice A1 a.queue.length c1, .slice A2 a.purple.length c2] 110)).drewN x) (Nat.le_trans hBV hbR.size) (by omega) ((hv.below (hbR.mono hBV)).keep (w' := (w.alloc (.cells #[.slice A a.slots.length c, .slice LA ln lc, .slice A1 a.queue.length c1, .slice A2 a.purple.length c2] 110)).drewN x) fun _ _ _ => rfl))
  rw [← hF] at Hra hrl hrin
  have hFin : ∀ x ∈ F, 0 ≤ x ∧ x < (a.slots.length : Int) := fun x hx => hrin.at_mem hx
  have HFin := Lib.hid hFin
  have HK := Lib.hid (Blk.new w 110 #[.slice A a.slots.length c, .slice LA ln lc, .slice A1 a.queue.length c1, .slice A2 a.purple.length c2])
  have Hb := Lib.hid hbR
  have H := Lib.hid h
  have Hsl := Lib.hid hsl
  rw [← hF]
  clear hF h hsz hok hro hv hbR hrin hFin hsl
  go_enter Try.func79, Try.ntmps79
  have k0 := HK.out.cel 0 (v := .slice A a.slots.length c) rfl
  have k1 := HK.out.cel 1 (v := .slice LA ln lc) rfl
  have k2 := HK.out.cel 2 (v := .slice A1 a.queue.length c1) rfl
  have k3 := HK.out.cel 3 (v := .slice A2 a.purple.length c2) rfl
  go_upto_region 1 with fail
  go_region_with (first
    | (go_at_call 108; refine (Hra.out 1).mono ?_; rintro e w1 ⟨FA, fc, rfl, hio, hb1⟩; have hb01 : Below (w.heap.size + 1) (w.alloc (.cells #[.slice A a.slots.length c, .slice LA ln lc, .slice A1 a.queue.length c1, .slice A2 a.purple.length c2] 110)) w1 := ⟨hb1.os, hb1.tape, hb1.output, by simpa using hb1.size, fun k hk => hb1.block k (by simpa using hk)⟩; have K1 := HK.out.below hb01 (Nat.lt_succ_self _); have k0 := K1.cel 0 (v := .slice A a.slots.length c) rfl; have k1 := K1.cel 1 (v := .slice LA ln lc) rfl; have k2 := K1.cel 2 (v := .slice A1 a.queue.length c1) rfl; have k3 := K1.cel 3 (v := .slice A2 a.purple.length c2) rfl; have hb0 : Below w.heap.size w w1 := Hb.out.trans (hb01.mono (Nat.le_succ _)); have Hb0 := Lib.hid hb0; have Hre := Lib.hid (reachable_c a.slots F A FA c fc 0 w.heap.size _ w1.heap.size (.slice LA ln lc) (.slice A1 a.queue.length c1) (.slice A2 a.purple.length c2) rfl rfl rfl w1 Hsl.out hS16 HS.out hb0.size (Nat.le_refl _) (H.out.below hb0) (hio.ilg (by unfold maxLen; omega)) (by omega) HFin.out); clear hio hb1 hb01 K1 hb0 Hra)
    | (go_at_call 107; refine Hre.out.mono ?_; rintro e w2 ⟨v, rfl, hs, hb2⟩; obtain ⟨SA, sc, rfl⟩ := hs.form; have Hq := Lib.hid (And.intro (hs.lo_le Hb0.out.size) (Hb0.out.trans (hb2.mono Hb0.out.size))); clear hs hb2 Hre))
  all_goals
    go_wp2
    go_ret
    exact ⟨_, rfl, Hq.out.1, Hq.out.2⟩

/-- marks in the first k places -/
def Upto (m : List Bool) (O : List Bool) (N k : Nat) : Prop := m.length = N ∧ ∀ j, j < k → gO m j = gO O j
theorem Upto.start (O : List Bool) (N : Nat) : Upto (List.replicate N false) O N 0 := ⟨by simp, fun j hj => by omega⟩
theorem gO_set_at {m : List Bool} {i j : Nat} {b : Bool} (h : i < m.length) : gO (m.set i b) j = if j = i then b else gO m j := by
  unfold gO
  rw [List.getD_eq_getElem?_getD, List.getD_eq_getElem?_getD]
  by_cases e : j = i
  · subst e
    rw [if_pos rfl, List.getElem?_set_self h]; rfl
  · rw [if_neg e, List.getElem?_set_ne (by omega)]
theorem Upto.step {m O : List Bool} {N k : Nat} (h : Upto m O N k) (hk : k < N) : Upto (m.set k (gO O k)) O N (k + 1) := by
  refine ⟨by simpa using h.1, fun j hj => ?_⟩
  rw [gO_set_at (by rw [h.1]; exact hk)]
  by_cases e : j = k
  · rw [if_pos e, e]
  · rw [if_neg e]; exact h.2 j (by omega)
theorem Upto.eq {m O : List Bool} {N : Nat} (h : Upto m O N N) (hl : O.length = N) : m = O := gO_ext (by rw [h.1, hl]) fun j hj => by rw [h.2 j (by rw [← h.1]; exact hj)]

section
variable (a : Ar) (A0 A1 A2 : Option Addr) (c0 c1 c2 L B : Nat) (w : World)
set_option maxRecDepth 100000 in
set_option maxHeartbeats 8000000 in
theorem implReached_c (l : List Vl) (VA : Option Addr) (vc LV BV : Nat) (hB : B ≤ w.heap.size) (hBV : BV ≤ w.heap.size) (h : ArL w L B A0 A1 A2 a) (hsz : arSz a ≤ 1048576) (hv : VlL w LV BV VA l) (hl : l.length ≤ 1048576) :
    Calls Try.prog 33 #[.agg #[.slice A0 a.slots.length c0, .slice A1 a.queue.length c1, .slice A2 a.purple.length c2], .slice VA l.length vc] w (AnsO w (reachedA a l)) := by
  have hbW := blw1 w (.cells #[.slice A0 a.slots.length c0, .slice A1 a.queue.length c1, .slice A2 a.purple.length c2] 35)
  have HR := Lib.hid (roomAt a A0 A1 A2 c0 c1 c2 L B w _ h hsz (hbW.mono hB) (Nat.le_trans hB hbW.size))
  have HbW := Lib.hid hbW
  have Hsz := Lib.hid hsz
  have HV := Lib.hid hv
  clear h hsz hbW hv
  go_enter Try.func33, Try.ntmps33
  go_wp2_with fail
  refine HR.out.mono ?_
  rintro e w1 ⟨u0, u1, u2, u3, rfl, hb, hu, hyes⟩
  have Hb := Lib.hid (HbW.out.trans (hb.mono HbW.out.size))
  cases hok : arOk a
  · have E := Lib.hid (show reachedA a l = [] by unfold reachedA; rw [hok]; rfl)
    obtain ⟨_, _, _, rfl⟩ := hu u0 (by simp)
    obtain ⟨_, _, _, rfl⟩ := hu u1 (by simp)
    obtain ⟨_, _, _, rfl⟩ := hu u2 (by simp)
    obtain ⟨_, _, _, rfl⟩ := hu u3 (by simp)
    clear hu hb HbW HR hyes hok
    go_wp2
    go_ret
    rw [E.out]
    exact AnsO.nil (Hb.out.alloc Hb.out.size _)
  · obtain ⟨A, c, rfl, hsl, -, rfl, rfl⟩ := hyes hok
    obtain ⟨LA, ln, lc, rfl⟩ := hu u1 (by simp)
    have hbr := blw1 w1 (.cells #[.slice A a.slots.length c, .slice LA ln lc, .slice A1 a.queue.length c1, .slice A2 a.purple.length c2] 110)
    have KR := Lib.hid (Blk.new w1 110 #[.slice A a.slots.length c, .slice LA ln lc, .slice A1 a.queue.length c1, .slice A2 a.purple.length c2])
    have Hb2 := Lib.hid (Hb.out.trans (hbr.mono Hb.out.size))
    have hS2 := (hsl.below hbr).more (Nat.le_refl _) hbr.size
    have HS := Lib.hid hS2
    have Hro := Lib.hid (rootsOk_c a.slots A LA A1 A2 c ln lc a.queue.length c1 a.purple.length c2 l VA vc LV BV (w1.alloc (.cells #[.slice A a.slots.length c, .slice LA ln lc, .slice A1 a.queue.length c1, .slice A2 a.purple.length c2] 110)) (Nat.le_trans hBV Hb2.out.size) hl hS2 (HV.out.below (Hb2.out.mono hBV)))
    have Hok := Lib.hid hok
    clear hu hb HbW HR hyes hok hsl hbr hS2
    go_wp2_with fail
    refine Hro.out.mono ?_
    rintro e w2 ⟨rfl, hb2⟩
    have K2 := KR.out.below hb2 KR.out.lt
    have Hb3 := Lib.hid (Hb2.out.trans (hb2.mono Hb2.out.size))
    cases hrt : rootsA a.slots l
    · have E := Lib.hid (show reachedA a l = [] by unfold reachedA; rw [Hok.out, hrt]; rfl)
      clear hrt hb2 K2 Hro KR
      go_wp2
      go_ret
      rw [E.out]
      exact AnsO.nil Hb3.out
    · have E := Lib.hid (show reachedA a l = reachO a.slots (refsV l l.length) by unfold reachedA; rw [Hok.out, hrt]; rfl)
      obtain ⟨hS1, hS16, -⟩ := arOk_at Hok.out
      have q0 := K2.cel 0 (v := .slice A a.slots.length c) rfl
      have q1 := K2.cel 1 (v := .slice LA ln lc) rfl
      have q2 := K2.cel 2 (v := .slice A1 a.queue.length c1) rfl
      have q3 := K2.cel 3 (v := .slice A2 a.purple.length c2) rfl
      have Hrf := Lib.hid (reached_c a A LA A1 A2 c ln lc c1 c2 l VA vc LV BV w2 Hsz.out Hok.out hrt ((HS.out.below hb2).more (Nat.le_refl _) hb2.size) (Nat.le_trans hBV Hb3.out.size) (HV.out.below (Hb3.out.mono hBV)))
      have HK2 := Lib.hid K2
      clear hrt hb2 K2 Hro KR HS
      go_wp2_with fail
      refine Hrf.out.mono ?_
      rintro e w3 ⟨v, rfl, hs, hb3⟩
      obtain ⟨SA, sc, rfl⟩ := hs.form
      have K3 := HK2.out.below hb3 HK2.out.lt
      have Hb4 := Lib.hid (Hb3.out.trans (hb3.mono Hb3.out.size))
      have q0 := K3.cel 0 (v := .slice A a.slots.length c) rfl
      have hmk := run_make_row' (P := Try.prog) 55 4 (.bool false) 1 Try.underlying55 infoBo rfl .i64 .i64 a.slots.length (by omega) (by omega)
      rw [made_false] at hmk
      have Hs := Lib.hid hs
      have Hn := Lib.hid (Blk.new w3 4 (vo (List.replicate a.slots.length false)).toArray)
      have Ha := Lib.hid ((Apart.refl (fun k => k = w3.heap.size) w3).alloc (.cells (vo (List.replicate a.slots.length false)).toArray 4))
      obtain ⟨O, hO⟩ : ∃ o, o = reachO a.slots (refsV l l.length) := ⟨_, rfl⟩
      obtain ⟨R, hR⟩ : ∃ r, r = reachL a.slots (refsV l l.length) := ⟨_, rfl⟩
      have Hhas : Hid (∀ j, j < a.slots.length → hasI R j = gO O j) := Lib.hid (fun j hj => by rw [hO, hR]; exact reach_has _ _ hj)
      have Hsort : Hid (R.Pairwise (· < ·) ∧ R.length ≤ a.slots.length) := Lib.hid (by rw [hR]; exact ⟨reachL_sorted _ _, reachL_bd _ _⟩)
      have Hol : Hid (O.length = a.slots.length) := Lib.hid (by rw [hO]; exact reachO_len _ _)
      rw [← hO] at E
      rw [← hR] at Hs
      rw [← hR]
      have Hu := Lib.hid (Upto.start O a.slots.length)
      clear hs hb3 K3 HK2 Hb3 Hrf q1 q2 q3 hO hR
      go_wp2_with fail
      go_loopw [32] (fun x wr => ∃ (k : Nat) (m : List Bool), k ≤ a.slots.length ∧ x = .int .i64 k ∧ Hid (Upto m O a.slots.length k) ∧ Hid (Blk wr w3.heap.size 4 (vo m).toArray) ∧ Hid (Apart (fun k => k = w3.heap.size) w3 wr)) (fun x _ => a.slots.length - (intOf x).toNat)
      case atStart => exact ⟨0, _, Nat.zero_le _, rfl, Hu, Hn, Ha⟩
      case round =>
        obtain ⟨k, m, hk, rfl, hu, hbR, haR⟩ := hrel
        by_cases hlt : k < a.slots.length
        · have Hc := Lib.hid (setHas_c R (.slice SA R.length sc) w2.heap.size k wr (by have := Hsort.out.2; omega) Hsort.out.1 (Hs.out.apart haR.out (fun j hj => by have := (Hs.out.at_lt hj).2.1; omega)))
          rw [Hhas.out k hlt] at Hc
          have hml := hu.out.1
          have q4 : wr.cell? ⟨w3.heap.size, k, none⟩ = some (.bool (gO m k)) := by
            rw [hbR.out.cell]
            have : (vo m)[k]? = some (.bool (gO m k)) := by rw [vo_get, List.getElem?_eq_getElem (by omega), ← gO_get (by omega)]; rfl
            simpa using this
          have f4 : wr.frozen? ⟨w3.heap.size, k, none⟩ = false := hbR.out.frozen k
          have Hu2 := Lib.hid (hu.out.step hlt)
          have Hb2 : Hid (Blk (wr.setCell ⟨w3.heap.size, k, none⟩ (.bool (gO O k))) w3.heap.size 4 (vo (m.set k (gO O k))).toArray) := Lib.hid (by
            have h1 := hbR.out.set_ k (.bool (gO O k))
            rwa [vo_set] at h1)
          have Ha2 := Lib.hid (haR.out.setCell (p := ⟨w3.heap.size, k, none⟩) rfl (.bool (gO O k)))
          obtain ⟨b, hb⟩ : ∃ b, b = gO O k := ⟨_, rfl⟩
          rw [← hb] at Hc Hu2 Hb2 Ha2
          clear hb hu hbR haR
          go_wp2_with fail
          refine Hc.out.mono ?_
          rintro e w' ⟨rfl, rfl⟩
          go_wp2
          go_roundw
          case rel => exact ⟨k + 1, _, by omega, by go_num, Hu2, Hb2, Ha2⟩
          case measure => simp [intOf]; omega
        · obtain rfl : k = a.slots.length := by omega
          have hm := hu.out.eq Hol.out
          subst hm
          have h4 := Hb4.out.size
          have Ho := Lib.hid (OwnO.of_blk hbR.out h4)
          have Hbw := Lib.hid (Hb4.out.trans (haR.out.below h4 (fun j hj => by omega)))
          clear hu hbR haR
          go_wp2
          go_ret
          rw [E.out]
          exact ⟨_, _, by rw [Hol.out]; rfl, Ho.out, Hbw.out⟩
end
end Go.Proofs.Ytmjpcgainoflbaa
