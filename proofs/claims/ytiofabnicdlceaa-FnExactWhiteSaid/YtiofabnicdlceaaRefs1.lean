/-
  The program's refs.
-/
import Derived.Test.YtiofabnicdlceaaRefsD
import Derived.Test.YtiofabnicdlceaaBump
namespace Go.Proofs.Ytiofabnicdlceaa
open Go.RowKit
set_option linter.unusedVariables false
set_option linter.unusedSimpArgs false

theorem count_n (N : Nat) (c l : List Int) (hN : c.length = N) (A : Option Addr) (cp L B g Bn m : Nat) (w : World) (hl : l.length ≤ 1048576) (h : IL w L B A l) (hg : g < L ∨ B ≤ g) (hr : InR N l) (hm : Sm c m) (hmb : m + l.length ≤ 1000000000)
    (hne : Bn ≠ g) (hb : w.cell? ⟨Bn, 0, none⟩ = some (.slice (some ⟨g, 0, none⟩) N N)) (hc : Blk w g 3 (vi c).toArray) (hcl : N ≤ 1048576) :
    Calls Try.prog 107 #[.slice A l.length cp, .pointer (some ⟨Bn, 0, none⟩)] w fun e w' => (∃ v, e = .returned v) ∧ Blk w' g 3 (vi (bumps c l)).toArray ∧ Tch g w w' := by
  subst hN
  exact count_c c l A cp L B g Bn m w hl h hg hr hm hmb hne hb hc hcl

set_option maxRecDepth 100000 in
set_option maxHeartbeats 8000000 in
theorem refs_c (a : Ar) (A LA A1 A2 : Option Addr) (c ln lc c1 c2 : Nat) (l : List Vl) (VA : Option Addr) (vc LV LQ : Nat) (w : World) (hsz : arSz a ≤ 1048576) (hok : arOk a = true) (hro : rootsA a.slots l = true)
    (h : SlL w 0 w.heap.size A a.slots) (hv : VlL w LV w.heap.size VA l) (hq : IL w LQ w.heap.size A1 a.queue) :
    Calls Try.prog 87 #[.agg #[.slice A a.slots.length c, .slice LA ln lc, .slice A1 a.queue.length c1, .slice A2 a.purple.length c2], .slice VA l.length vc] w (AnsI w (cntR a.slots a.queue l)) := by
  obtain ⟨S, Q, P⟩ := a
  dsimp only at *
  obtain ⟨hS1, hS16, hQin, hQ500, hfin⟩ := arOk_at hok
  obtain ⟨hl5, hvl⟩ := rootsA_at hro
  dsimp only at hS1 hS16 hQin hQ500 hfin
  have hsl : slsSz S ≤ 1048576 := by unfold arSz at hsz; dsimp only at hsz; omega
  have hmk := run_make_row' (P := Try.prog) 23 3 (.int .i64 0) 8 Try.underlying23 infoI rfl .i64 .i64 S.length (by omega) (by omega)
  rw [made_zero] at hmk
  have HRin := Lib.hid (refsV_in hvl)
  have hRle := refsV_le l l.length
  have Hsl := Lib.hid hsl
  have Hfin := Lib.hid hfin
  have HQin := Lib.hid hQin
  -- the world behind the three boxes
  have hb3 : Below w.heap.size w (((w.alloc (.cells #[.slice A S.length c, .slice LA ln lc, .slice A1 Q.length c1, .slice A2 P.length c2] 66)).alloc (.cells (vi (List.replicate S.length 0)).toArray 3)).alloc (.cells #[.slice (some ⟨w.heap.size + 1, 0, none⟩) S.length S.length] 23)) :=
    (((Below.refl _ _).alloc (Nat.le_refl _) _).alloc (by simp) _).alloc (by simp; omega) _
  have HK0 := Lib.hid (((Blk.new w 66 #[.slice A S.length c, .slice LA ln lc, .slice A1 Q.length c1, .slice A2 P.length c2]).alloc (.cells (vi (List.replicate S.length 0)).toArray 3)).alloc (.cells #[.slice (some ⟨w.heap.size + 1, 0, none⟩) S.length S.length] 23))
  have HKc : Hid (Blk (((w.alloc (.cells #[.slice A S.length c, .slice LA ln lc, .slice A1 Q.length c1, .slice A2 P.length c2] 66)).alloc (.cells (vi (List.replicate S.length 0)).toArray 3)).alloc (.cells #[.slice (some ⟨w.heap.size + 1, 0, none⟩) S.length S.length] 23)) (w.heap.size + 1) 3 (vi (List.replicate S.length 0)).toArray) := Lib.hid (by
    have := (Blk.new (w.alloc (.cells #[.slice A S.length c, .slice LA ln lc, .slice A1 Q.length c1, .slice A2 P.length c2] 66)) 3 (vi (List.replicate S.length 0)).toArray)
    rw [World.size_alloc] at this
    exact this.alloc _)
  have HKb : Hid (Blk (((w.alloc (.cells #[.slice A S.length c, .slice LA ln lc, .slice A1 Q.length c1, .slice A2 P.length c2] 66)).alloc (.cells (vi (List.replicate S.length 0)).toArray 3)).alloc (.cells #[.slice (some ⟨w.heap.size + 1, 0, none⟩) S.length S.length] 23)) (w.heap.size + 1 + 1) 23 #[.slice (some ⟨w.heap.size + 1, 0, none⟩) S.length S.length]) := Lib.hid (by
    have := Blk.new ((w.alloc (.cells #[.slice A S.length c, .slice LA ln lc, .slice A1 Q.length c1, .slice A2 P.length c2] 66)).alloc (.cells (vi (List.replicate S.length 0)).toArray 3)) 23 #[.slice (some ⟨w.heap.size + 1, 0, none⟩) S.length S.length]
    rw [World.size_alloc, World.size_alloc] at this
    exact this)
  have Hb3 := Lib.hid hb3
  have H := Lib.hid h
  have HQ := Lib.hid hq
  have HV := Lib.hid hv
  clear h hq hv hb3 hsz hok hro hvl hfin hQin hsl
  go_enter Try.func87, Try.ntmps87
  go_wp2_with fail
  generalize hW : ((w.alloc (.cells #[.slice A S.length c, .slice LA ln lc, .slice A1 Q.length c1, .slice A2 P.length c2] 66)).alloc (.cells (vi (List.replicate S.length 0)).toArray 3)).alloc (.cells #[.slice (some ⟨w.heap.size + 1, 0, none⟩) S.length S.length] 23) = W
  rw [hW] at HK0 HKc HKb Hb3
  have hWs : w.heap.size + 1 + 1 + 1 = W.heap.size := by rw [← hW]; simp
  clear hW hmk
  obtain ⟨g, hg⟩ : ∃ g, g = w.heap.size + 1 := ⟨_, rfl⟩
  obtain ⟨bn, hbn⟩ : ∃ g, g = w.heap.size + 1 + 1 := ⟨_, rfl⟩
  rw [← hg] at HKc
  rw [← hbn, ← hg] at HKb
  rw [← hbn, ← hg]
  have HG := Lib.hid (And.intro hg hbn)
  obtain ⟨R0, hR0⟩ : ∃ r, r = refsV l l.length := ⟨_, rfl⟩
  have hr := refsAmong_c l VA vc LV w.heap.size W (by omega) (by omega) (HV.out.below (Hb3.out.mono (Nat.le_refl _)))
  rw [← hR0] at hr HRin hRle
  have Hr := Lib.hid hr
  have HR0 := Lib.hid hR0
  clear hr hR0 hg hbn
  go_wp2_with fail
  refine Hr.out.mono ?_
  rintro e w2 ⟨RA, rc, rfl, hro, hb2⟩
  have hK0 := HK0.out.below hb2 HK0.out.lt
  have hKc := HKc.out.below hb2 HKc.out.lt
  have hKb := HKb.out.below hb2 HKb.out.lt
  have hIL := hro.ilg (by unfold maxLen; omega)
  have Hcn := Lib.hid (count_n S.length (List.replicate S.length 0) R0 (by simp) RA rc W.heap.size w2.heap.size g bn 0 w2 (by omega) hIL (.inl HKc.out.lt) HRin.out (Sm.zero _) (by omega) (by have := HG.out; omega) (hKb.cel 0 rfl) hKc (by omega))
  have Hb02 := Lib.hid (Hb3.out.trans (hb2.mono Hb3.out.size))
  have HK02 := Lib.hid hK0
  have HKb2 := Lib.hid hKb
  clear hro hb2 hK0 hKc hKb hIL Hr HK0 HKc HKb
  go_wp2_with fail
  refine Hcn.out.mono ?_
  rintro e w3 ⟨⟨ev, rfl⟩, hc3, ht3⟩
  obtain ⟨C1, hC1⟩ : ∃ c, c = bumps (List.replicate S.length 0) R0 := ⟨_, rfl⟩
  rw [← hC1] at hc3
  have hC1l : C1.length = S.length := by rw [hC1, bumps_len]; simp
  have hC1s : Sm C1 500 := by
    have h1 := (Sm.zero S.length).bumps R0
    rw [← hC1] at h1
    intro i hi
    have := h1 i hi
    omega
  have HC1 := Lib.hid hC1
  have HC1l := Lib.hid hC1l
  have HC1s := Lib.hid hC1s
  have Hc3 := Lib.hid hc3
  have HK03 := Lib.hid (show Blk w3 w.heap.size 66 #[.slice A S.length c, .slice LA ln lc, .slice A1 Q.length c1, .slice A2 P.length c2] from (ht3.block _ (by have := HG.out; omega)).trans HK02.out)
  have HKb3 := Lib.hid (show Blk w3 bn 23 #[.slice (some ⟨g, 0, none⟩) S.length S.length] from (ht3.block _ (by have := HG.out; omega)).trans HKb2.out)
  have Hb03 := Lib.hid (Hb02.out.trans (ht3.below (by have := HG.out; omega)))
  have q0 := HK03.out.cel 0 (v := .slice A S.length c) rfl
  clear hC1 hC1l hC1s hc3 ht3 Hcn HK02 HKb2 Hb02
  go_wp2_with fail
  go_loopw [21] (fun i wr => ∃ k : Nat, k ≤ S.length ∧ i = .int .i64 k ∧ Hid (Blk wr g 3 (vi (bumps C1 (flTo S k))).toArray) ∧ Hid (Blk wr w.heap.size 66 #[.slice A S.length c, .slice LA ln lc, .slice A1 Q.length c1, .slice A2 P.length c2]) ∧ Hid (Blk wr bn 23 #[.slice (some ⟨g, 0, none⟩) S.length S.length]) ∧ Hid (Below w.heap.size w wr)) (fun i _ => S.length - (intOf i).toNat)
  case atStart => exact ⟨0, Nat.zero_le _, rfl, Hc3, HK03, HKb3, Hb03⟩
  case round =>
    obtain ⟨k, hk, rfl, hcR, hkR, hbR, hbw⟩ := hrel
    have hfl := flTo_bd Hsl.out hk
    have hsm := HC1s.out.bumps (flTo S k)
    have hbl : (bumps C1 (flTo S k)).length = S.length := by rw [bumps_len]; exact HC1l.out
    obtain ⟨C2, hC2⟩ : ∃ c, c = bumps C1 (flTo S k) := ⟨_, rfl⟩
    rw [← hC2] at hcR hsm hbl
    have HC2 := Lib.hid hC2
    have Hsm := Lib.hid hsm
    have Hbl := Lib.hid hbl
    clear hC2 hsm hbl
    by_cases hlt : k < S.length
    · obtain ⟨ad, rfl, _, hbk, hat⟩ := (H.out.below hbw.out).2 (by omega)
      obtain ⟨x0, x1, x2, x3, ⟨d0, d1, d2, d3⟩, rfl, rfl, rfl, FA, fc, rfl, hF⟩ := hat k hlt
      have hfz : S[k].fs.length ≤ 1048576 := by
        have h1 := sum_get slSz hlt
        have h2 : S[k].fs.length ≤ slSz S[k] := by unfold slSz fsSz; omega
        have h3 := Hsl.out
        unfold slsSz at h3
        omega
      have hsuc := flTo_succ hlt
      have hrin := Hfin.out k hlt
      have hrle := refsTo_le S[k].fs S[k].fs.length
      have hbo := blw1 wr (.cells #[.bool S[k].live, .int .i64 S[k].gen, .int .i64 S[k].count, .slice FA S[k].fs.length fc] 107)
      have Hkc := Lib.hid (slotKids_c S[k] FA fc 0 w.heap.size (wr.alloc (.cells #[.bool S[k].live, .int .i64 S[k].gen, .int .i64 S[k].count, .slice FA S[k].fs.length fc] 107)) (Nat.le_trans hbw.out.size hbo.size) hfz (hF.below (hbo.mono hbw.out.size)))
      have Hcc := Lib.hid (hcR.out.below hbo hcR.out.lt)
      have Hkk := Lib.hid (hkR.out.below hbo hkR.out.lt)
      have Hbb := Lib.hid (hbR.out.below hbo hbR.out.lt)
      have Hbo := Lib.hid (hbw.out.trans (hbo.mono hbw.out.size))
      obtain ⟨sl, hsl⟩ : ∃ s, s = S[k] := ⟨_, rfl⟩
      rw [← hsl] at d0 d1 d2 d3 Hkc Hcc Hkk Hbb Hbo hsuc hrin hrle
      obtain ⟨lv, gn, ct, fs⟩ := sl
      dsimp only at *
      obtain ⟨K, hK⟩ : ∃ r, r = refsTo fs fs.length := ⟨_, rfl⟩
      rw [← hK] at Hkc hsuc hrin hrle
      obtain ⟨fl, hfle⟩ : ∃ n, n = fs.length := ⟨_, rfl⟩
      rw [← hfle] at d3 Hkc Hcc Hkk Hbb Hbo hrle
      have hkle : K.length ≤ 1048576 := by
        have : fl ≤ 1048576 := by rw [hfle]; rw [← hsl] at hfz; exact hfz
        omega
      have Hsuc := Lib.hid hsuc
      have Hrin := Lib.hid hrin
      clear hat hF hsl hK hfle hfz hsuc hrin hrle hbo hcR hkR hbR
      go_wp2_with fail
      refine Hkc.out.mono ?_
      rintro e w4 ⟨KA, kc, rfl, hko, hb4⟩
      have h1 := Hcc.out.below hb4 Hcc.out.lt
      have h2 := Hkk.out.below hb4 Hkk.out.lt
      have h3 := Hbb.out.below hb4 Hbb.out.lt
      have hgl := Hcc.out.lt
      have Hcn := Lib.hid (count_n S.length C2 K Hbl.out KA kc _ w4.heap.size g bn (500 + (flTo S k).length) w4 hkle (hko.ilg (by unfold maxLen; omega)) (.inl hgl) Hrin.out Hsm.out (by omega) (by have := HG.out; omega) (h3.cel 0 rfl) h1 (by omega))
      have H2 := Lib.hid h2
      have H3 := Lib.hid h3
      have Hb4 := Lib.hid (Hbo.out.trans (hb4.mono Hbo.out.size))
      clear h1 h2 h3 hko hb4 hgl Hkc Hcc Hkk Hbb Hbo
      go_wp2_with fail
      refine Hcn.out.mono ?_
      rintro e w5 ⟨⟨ev2, rfl⟩, hc5, ht5⟩
      have Hc5 : Hid (Blk w5 g 3 (vi (bumps C1 (flTo S (k + 1)))).toArray) := Lib.hid (by rw [Hsuc.out, bumps_app, ← HC2.out]; exact hc5)
      have Hk5 := Lib.hid (show Blk w5 w.heap.size 66 #[.slice (some ad) S.length c, .slice LA ln lc, .slice A1 Q.length c1, .slice A2 P.length c2] from (ht5.block _ (by have := HG.out; omega)).trans H2.out)
      have Hb5 := Lib.hid (show Blk w5 bn 23 #[.slice (some ⟨g, 0, none⟩) S.length S.length] from (ht5.block _ (by have := HG.out; omega)).trans H3.out)
      have Hw5 := Lib.hid (Hb4.out.trans (ht5.below (by have := HG.out; omega)))
      clear hc5 ht5 Hcn H2 H3 Hb4
      go_wp2
      go_roundw
      case rel => exact ⟨k + 1, by omega, by go_num, Hc5, Hk5, Hb5, Hw5⟩
      case measure => simp [intOf]; omega
    · obtain rfl : k = S.length := by omega
      have p2 := hkR.out.cel 2 (v := .slice A1 Q.length c1) rfl
      have Hcn := Lib.hid (count_n S.length C2 Q Hbl.out A1 c1 LQ w.heap.size g bn (500 + (flTo S S.length).length) wr (by omega) (HQ.out.below hbw.out) (.inr (by have := HG.out; omega)) HQin.out Hsm.out (by omega) (by have := HG.out; omega) (hbR.out.cel 0 rfl) hcR.out (by omega))
      go_wp2_with fail
      refine Hcn.out.mono ?_
      rintro e w5 ⟨⟨ev2, rfl⟩, hc5, ht5⟩
      have hb5 : Blk w5 bn 23 #[.slice (some ⟨g, 0, none⟩) S.length S.length] := (ht5.block _ (by have := HG.out; omega)).trans hbR.out
      have r0 := hb5.cel 0 (v := .slice (some ⟨g, 0, none⟩) S.length S.length) rfl
      have Hw5 := Lib.hid (hbw.out.trans (ht5.below (by have := HG.out; omega)))
      have Hc5 := Lib.hid hc5
      have Hlen : Hid ((cntR S Q l).length = S.length) := Lib.hid (cntR_len S Q l)
      have Hcd : Hid (cntR S Q l = bumps C2 Q) := Lib.hid (by unfold cntR; rw [HC2.out, HC1.out, HR0.out])
      clear hc5 ht5 hb5 Hcn p2
      go_wp2
      go_ret
      refine ⟨some ⟨g, 0, none⟩, S.length, by rw [Hlen.out]; rfl, fun hn => ⟨g, _, rfl, Hc5.out, by have := HG.out; omega, ?_, fun i hi => ?_⟩, Hw5.out⟩
      · rw [Hcd.out]; simp [vi_len]
      · rw [Hcd.out] at hi ⊢
        have : (vi (bumps C2 Q))[i]? = some (.int .i64 (gI (bumps C2 Q) i)) := by rw [vi_get, List.getElem?_eq_getElem hi, gI_get hi]; rfl
        simpa using this
end Go.Proofs.Ytiofabnicdlceaa
