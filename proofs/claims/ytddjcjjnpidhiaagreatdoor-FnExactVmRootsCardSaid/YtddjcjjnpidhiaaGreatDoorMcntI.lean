/-
  The program's counting.
-/
import Derived.Test.YtddjcjjnpidhiaaGreatDoorMcnt
import Derived.Test.YtddjcjjnpidhiaaGreatDoorMroomOf
import Derived.Test.YtddjcjjnpidhiaaGreatDoorMrow
import Derived.Test.YtddjcjjnpidhiaaGreatDoorMcntS
namespace Go.Proofs.YtddjcjjnpidhiaaGreatDoor
open Go.RowKit
set_option linter.unusedVariables false
set_option linter.unusedSimpArgs false

set_option maxRecDepth 100000 in
set_option maxHeartbeats 2000000 in
theorem count_c (c l : List Int) (A : Option Addr) (cp L B g Bn m : Nat) (w : World) (hl : l.length ≤ 1048576) (h : IL w L B A l) (hg : g < L ∨ B ≤ g) (hr : InR c.length l) (hm : Sm c m) (hmb : m + l.length ≤ 1000000000)
    (hne : Bn ≠ g) (hb : w.cell? ⟨Bn, 0, none⟩ = some (.slice (some ⟨g, 0, none⟩) c.length c.length)) (hc : Blk w g 3 (vi c).toArray) (hcl : c.length ≤ 1048576) :
    Calls Tryz.prog 98 #[.slice A l.length cp, .pointer (some ⟨Bn, 0, none⟩)] w fun e w' => (∃ v, e = .returned v) ∧ Blk w' g 3 (vi (bumps c l)).toArray ∧ Tch g w w' := by
  go_enter Tryz.func98, Tryz.ntmps98
  go_wp2_with fail
  go_loopw [7] (fun i wr => ∃ k : Nat, k ≤ l.length ∧ i = .int .i64 k ∧ Hid (Blk wr g 3 (vi (bumps c (l.take k))).toArray) ∧ Hid (Tch g w wr)) (fun i _ => l.length - (intOf i).toNat)
  case atStart => exact ⟨0, Nat.zero_le _, rfl, Lib.hid hc, Lib.hid (Tch.refl _ _)⟩
  case round =>
    obtain ⟨k, hk, rfl, hblk, htch⟩ := hrel
    by_cases hlt : k < l.length
    · obtain ⟨ad, rfl, hLa, hBa, hat⟩ := (h.keep (w' := wr) (fun p h1 h2 => htch.out.cell (by rcases hg with h | h <;> omega))).2 (by omega)
      have d0 := hat k hlt
      obtain ⟨j, hj⟩ : ∃ j : Nat, l[k] = (j : Int) := ⟨l[k].toNat, by have := hr k hlt; omega⟩
      have hjl : j < c.length := by have := hr k hlt; omega
      rw [hj] at d0
      have p0 : wr.cell? ⟨Bn, 0, none⟩ = some (.slice (some ⟨g, 0, none⟩) c.length c.length) := (htch.out.cell (p := ⟨Bn, 0, none⟩) hne).trans hb
      have hsn := bumps_snoc c hlt
      rw [hj] at hsn
      have hbl : (bumps c (l.take k)).length = c.length := bumps_len _ _
      have hsm := hm.bumps (l.take k) j (by rw [hbl]; exact hjl)
      have htk : (l.take k).length = k := by simp; omega
      obtain ⟨z, hz⟩ : ∃ z, z = (bumps c (l.take k))[j]'(by rw [hbl]; exact hjl) := ⟨_, rfl⟩
      rw [← hz, htk] at hsm
      have q0 : wr.cell? ⟨g, j, none⟩ = some (.int .i64 z) := by
        rw [hblk.out.cell]
        simp [vi, List.getElem?_eq_getElem (show j < (bumps c (l.take k)).length by rw [hbl]; exact hjl), hz]
      have f0 : wr.frozen? ⟨g, j, none⟩ = false := hblk.out.frozen j
      have hnew : Hid (Blk (wr.setCell ⟨g, j, none⟩ (.int .i64 (z + 1))) g 3 (vi (bumps c (l.take (k + 1)))).toArray) := Lib.hid (by
        have h1 := hblk.out.set_ j (.int .i64 (z + 1))
        rw [vi_set] at h1
        rw [hsn]
        unfold bump1
        rw [Int.toNat_natCast, List.getD_eq_getElem?_getD, List.getElem?_eq_getElem (show j < (bumps c (l.take k)).length by rw [hbl]; exact hjl), ← hz]
        exact h1)
      have Ht := Lib.hid (htch.out.set_ j (.int .i64 (z + 1)))
      have hz0 := hsm.1
      have hz1 : z ≤ 1000000000 := by omega
      clear hat hj hsn hbl hsm htk hz hblk htch
      go_wp2
      go_roundw
      case rel => exact ⟨k + 1, by omega, by go_num, hnew, Ht⟩
      case measure => simp [intOf]; omega
    · obtain rfl : k = l.length := by omega
      have hb2 := hblk.out
      rw [List.take_length] at hb2
      have Hb2 := Lib.hid hb2
      clear hb2
      go_wp2
      refine bodyPost_end (results_none rfl _ _ _) rfl ?_
      exact ⟨⟨_, rfl⟩, Hb2.out, htch.out⟩
end Go.Proofs.YtddjcjjnpidhiaaGreatDoor

namespace Go.Proofs.YtddjcjjnpidhiaaGreatDoor
open Go.RowKit
set_option linter.unusedVariables false
set_option linter.unusedSimpArgs false

theorem count_n (N : Nat) (c l : List Int) (hN : c.length = N) (A : Option Addr) (cp L B g Bn m : Nat) (w : World) (hl : l.length ≤ 1048576) (h : IL w L B A l) (hg : g < L ∨ B ≤ g) (hr : InR N l) (hm : Sm c m) (hmb : m + l.length ≤ 1000000000)
    (hne : Bn ≠ g) (hb : w.cell? ⟨Bn, 0, none⟩ = some (.slice (some ⟨g, 0, none⟩) N N)) (hc : Blk w g 3 (vi c).toArray) (hcl : N ≤ 1048576) :
    Calls Tryz.prog 98 #[.slice A l.length cp, .pointer (some ⟨Bn, 0, none⟩)] w fun e w' => (∃ v, e = .returned v) ∧ Blk w' g 3 (vi (bumps c l)).toArray ∧ Tch g w w' := by
  subst hN
  exact count_c c l A cp L B g Bn m w hl h hg hr hm hmb hne hb hc hcl

set_option maxRecDepth 100000 in
set_option maxHeartbeats 8000000 in
theorem refs_c (a : Ar) (A LA A1 A2 : Option Addr) (c ln lc c1 c2 : Nat) (l : List Vl) (VA : Option Addr) (vc LV LQ : Nat) (w : World) (hsz : arSz a ≤ 1048576) (hok : arOk a = true) (hro : rootsA a.slots l = true)
    (h : SlL w 0 w.heap.size A a.slots) (hv : VlL w LV w.heap.size VA l) (hq : IL w LQ w.heap.size A1 a.queue) :
    Calls Tryz.prog 73 #[.agg #[.slice A a.slots.length c, .slice LA ln lc, .slice A1 a.queue.length c1, .slice A2 a.purple.length c2], .slice VA l.length vc] w (AnsI w (cntR a.slots a.queue l)) := by
  obtain ⟨S, Q, P⟩ := a
  dsimp only at *
  obtain ⟨hS1, hS16, hQin, hQ500, hfin⟩ := arOk_at hok
  obtain ⟨hl5, hvl⟩ := rootsA_at hro
  dsimp only at hS1 hS16 hQin hQ500 hfin
  have hsl : slsSz S ≤ 1048576 := by unfold arSz at hsz; dsimp only at hsz; omega
  have hmk := run_make_row' (P := Tryz.prog) 26 3 (.int .i64 0) 8 Tryz.underlying26 infoI rfl .i64 .i64 S.length (by omega) (by omega)
  rw [made_zero] at hmk
  have HRin := Lib.hid (refsV_in hvl)
  have hRle := refsV_le l l.length
  have Hsl := Lib.hid hsl
  have Hfin := Lib.hid hfin
  have HQin := Lib.hid hQin
  -- the world behind the three boxes
  have hb3 : Below w.heap.size w (((w.alloc (.cells #[.slice A S.length c, .slice LA ln lc, .slice A1 Q.length c1, .slice A2 P.length c2] 110)).alloc (.cells (vi (List.replicate S.length 0)).toArray 3)).alloc (.cells #[.slice (some ⟨w.heap.size + 1, 0, none⟩) S.length S.length] 26)) :=
    (((Below.refl _ _).alloc (Nat.le_refl _) _).alloc (by simp) _).alloc (by simp; omega) _
  have HK0 := Lib.hid (((Blk.new w 110 #[.slice A S.length c, .slice LA ln lc, .slice A1 Q.length c1, .slice A2 P.length c2]).alloc (.cells (vi (List.replicate S.length 0)).toArray 3)).alloc (.cells #[.slice (some ⟨w.heap.size + 1, 0, none⟩) S.length S.length] 26))
  have HKc : Hid (Blk (((w.alloc (.cells #[.slice A S.length c, .slice LA ln lc, .slice A1 Q.length c1, .slice A2 P.length c2] 110)).alloc (.cells (vi (List.replicate S.length 0)).toArray 3)).alloc (.cells #[.slice (some ⟨w.heap.size + 1, 0, none⟩) S.length S.length] 26)) (w.heap.size + 1) 3 (vi (List.replicate S.length 0)).toArray) := Lib.hid (by
    have := (Blk.new (w.alloc (.cells #[.slice A S.length c, .slice LA ln lc, .slice A1 Q.length c1, .slice A2 P.length c2] 110)) 3 (vi (List.replicate S.length 0)).toArray)
    rw [World.size_alloc] at this
    exact this.alloc _)
  have HKb : Hid (Blk (((w.alloc (.cells #[.slice A S.length c, .slice LA ln lc, .slice A1 Q.length c1, .slice A2 P.length c2] 110)).alloc (.cells (vi (List.replicate S.length 0)).toArray 3)).alloc (.cells #[.slice (some ⟨w.heap.size + 1, 0, none⟩) S.length S.length] 26)) (w.heap.size + 1 + 1) 26 #[.slice (some ⟨w.heap.size + 1, 0, none⟩) S.length S.length]) := Lib.hid (by
    have := Blk.new ((w.alloc (.cells #[.slice A S.length c, .slice LA ln lc, .slice A1 Q.length c1, .slice A2 P.length c2] 110)).alloc (.cells (vi (List.replicate S.length 0)).toArray 3)) 26 #[.slice (some ⟨w.heap.size + 1, 0, none⟩) S.length S.length]
    rw [World.size_alloc, World.size_alloc] at this
    exact this)
  have Hb3 := Lib.hid hb3
  have H := Lib.hid h
  have HQ := Lib.hid hq
  have HV := Lib.hid hv
  clear h hq hv hb3 hsz hok hro hvl hfin hQin hsl
  go_enter Tryz.func73, Tryz.ntmps73
  go_wp2_with fail
  generalize hW : ((w.alloc (.cells #[.slice A S.length c, .slice LA ln lc, .slice A1 Q.length c1, .slice A2 P.length c2] 110)).alloc (.cells (vi (List.replicate S.length 0)).toArray 3)).alloc (.cells #[.slice (some ⟨w.heap.size + 1, 0, none⟩) S.length S.length] 26) = W
  rw [hW] at HK0 HKc HKb Hb3
  have hWs : w.heap.size + 1 + 1 + 1 = W.heap.size := by rw [← hW]; simp
  clear hW hmk
  obtain ⟨g, hg⟩ : ∃ g, g = w.heap.size + 1 := ⟨_, rfl⟩
  obtain ⟨bn, hbn⟩ : ∃ g, g = w.heap.size + 1 + 1 := ⟨_, rfl⟩
  rw [← hg] at HKc
  rw [← hbn, ← hg] at HKb
  rw [← hbn, ← hg]
  have HG := Lib.hid (And.intro hg hbn)
  obtain ⟨R0, hR0⟩ : ∃ r, r = refsV l l.length := ⟨_, rfl⟩
  have hr := refsAmong_c l VA vc LV w.heap.size W (by omega) (by omega) (HV.out.below (Hb3.out.mono (Nat.le_refl _)))
  rw [← hR0] at hr HRin hRle
  have Hr := Lib.hid hr
  have HR0 := Lib.hid hR0
  clear hr hR0 hg hbn
  go_wp2_with fail
  refine Hr.out.mono ?_
  rintro e w2 ⟨RA, rc, rfl, hro, hb2⟩
  have hK0 := HK0.out.below hb2 HK0.out.lt
  have hKc := HKc.out.below hb2 HKc.out.lt
  have hKb := HKb.out.below hb2 HKb.out.lt
  have hIL := hro.ilg (by unfold maxLen; omega)
  have Hcn := Lib.hid (count_n S.length (List.replicate S.length 0) R0 (by simp) RA rc W.heap.size w2.heap.size g bn 0 w2 (by omega) hIL (.inl HKc.out.lt) HRin.out (Sm.zero _) (by omega) (by have := HG.out; omega) (hKb.cel 0 rfl) hKc (by omega))
  have Hb02 := Lib.hid (Hb3.out.trans (hb2.mono Hb3.out.size))
  have HK02 := Lib.hid hK0
  have HKb2 := Lib.hid hKb
  clear hro hb2 hK0 hKc hKb hIL Hr HK0 HKc HKb
  go_wp2_with fail
  refine Hcn.out.mono ?_
  rintro e w3 ⟨⟨ev, rfl⟩, hc3, ht3⟩
  obtain ⟨C1, hC1⟩ : ∃ c, c = bumps (List.replicate S.length 0) R0 := ⟨_, rfl⟩
  rw [← hC1] at hc3
  have hC1l : C1.length = S.length := by rw [hC1, bumps_len]; simp
  have hC1s : Sm C1 500 := by
    have h1 := (Sm.zero S.length).bumps R0
    rw [← hC1] at h1
    intro i hi
    have := h1 i hi
    omega
  have HC1 := Lib.hid hC1
  have HC1l := Lib.hid hC1l
  have HC1s := Lib.hid hC1s
  have Hc3 := Lib.hid hc3
  have HK03 := Lib.hid (show Blk w3 w.heap.size 110 #[.slice A S.length c, .slice LA ln lc, .slice A1 Q.length c1, .slice A2 P.length c2] from (ht3.block _ (by have := HG.out; omega)).trans HK02.out)
  have HKb3 := Lib.hid (show Blk w3 bn 26 #[.slice (some ⟨g, 0, none⟩) S.length S.length] from (ht3.block _ (by have := HG.out; omega)).trans HKb2.out)
  have Hb03 := Lib.hid (Hb02.out.trans (ht3.below (by have := HG.out; omega)))
  have q0 := HK03.out.cel 0 (v := .slice A S.length c) rfl
  clear hC1 hC1l hC1s hc3 ht3 Hcn HK02 HKb2 Hb02
  go_wp2_with fail
  go_loopw [21] (fun i wr => ∃ k : Nat, k ≤ S.length ∧ i = .int .i64 k ∧ Hid (Blk wr g 3 (vi (bumps C1 (flTo S k))).toArray) ∧ Hid (Blk wr w.heap.size 110 #[.slice A S.length c, .slice LA ln lc, .slice A1 Q.length c1, .slice A2 P.length c2]) ∧ Hid (Blk wr bn 26 #[.slice (some ⟨g, 0, none⟩) S.length S.length]) ∧ Hid (Below w.heap.size w wr)) (fun i _ => S.length - (intOf i).toNat)
  case atStart => exact ⟨0, Nat.zero_le _, rfl, Hc3, HK03, HKb3, Hb03⟩
  case round =>
    obtain ⟨k, hk, rfl, hcR, hkR, hbR, hbw⟩ := hrel
    have hfl := flTo_bd Hsl.out hk
    have hsm := HC1s.out.bumps (flTo S k)
    have hbl : (bumps C1 (flTo S k)).length = S.length := by rw [bumps_len]; exact HC1l.out
    obtain ⟨C2, hC2⟩ : ∃ c, c = bumps C1 (flTo S k) := ⟨_, rfl⟩
    rw [← hC2] at hcR hsm hbl
    have HC2 := Lib.hid hC2
    have Hsm := Lib.hid hsm
    have Hbl := Lib.hid hbl
    clear hC2 hsm hbl
    by_cases hlt : k < S.length
    · obtain ⟨ad, rfl, _, hbk, hat⟩ := (H.out.below hbw.out).2 (by omega)
      obtain ⟨x0, x1, x2, x3, ⟨d0, d1, d2, d3⟩, rfl, rfl, rfl, FA, fc, rfl, hF⟩ := hat k hlt
      have hfz : S[k].fs.length ≤ 1048576 := by
        have h1 := sum_get slSz hlt
        have h2 : S[k].fs.length ≤ slSz S[k] := by unfold slSz fsSz; omega
        have h3 := Hsl.out
        unfold slsSz at h3
        omega
      have hsuc := flTo_succ hlt
      have hrin := Hfin.out k hlt
      have hrle := refsTo_le S[k].fs S[k].fs.length
      have hbo := blw1 wr (.cells #[.bool S[k].live, .int .i64 S[k].gen, .int .i64 S[k].count, .slice FA S[k].fs.length fc] 138)
      have Hkc := Lib.hid (slotKids_c S[k] FA fc 0 w.heap.size (wr.alloc (.cells #[.bool S[k].live, .int .i64 S[k].gen, .int .i64 S[k].count, .slice FA S[k].fs.length fc] 138)) (Nat.le_trans hbw.out.size hbo.size) hfz (hF.below (hbo.mono hbw.out.size)))
      have Hcc := Lib.hid (hcR.out.below hbo hcR.out.lt)
      have Hkk := Lib.hid (hkR.out.below hbo hkR.out.lt)
      have Hbb := Lib.hid (hbR.out.below hbo hbR.out.lt)
      have Hbo := Lib.hid (hbw.out.trans (hbo.mono hbw.out.size))
      obtain ⟨sl, hsl⟩ : ∃ s, s = S[k] := ⟨_, rfl⟩
      rw [← hsl] at d0 d1 d2 d3 Hkc Hcc Hkk Hbb Hbo hsuc hrin hrle
      obtain ⟨lv, gn, ct, fs⟩ := sl
      dsimp only at *
      obtain ⟨K, hK⟩ : ∃ r, r = refsTo fs fs.length := ⟨_, rfl⟩
      rw [← hK] at Hkc hsuc hrin hrle
      obtain ⟨fl, hfle⟩ : ∃ n, n = fs.length := ⟨_, rfl⟩
      rw [← hfle] at d3 Hkc Hcc Hkk Hbb Hbo hrle
      have hkle : K.length ≤ 1048576 := by
        have : fl ≤ 1048576 := by rw [hfle]; rw [← hsl] at hfz; exact hfz
        omega
      have Hsuc := Lib.hid hsuc
      have Hrin := Lib.hid hrin
      clear hat hF hsl hK hfle hfz hsuc hrin hrle hbo hcR hkR hbR
      go_wp2_with fail
      refine Hkc.out.mono ?_
      rintro e w4 ⟨KA, kc, rfl, hko, hb4⟩
      have h1 := Hcc.out.below hb4 Hcc.out.lt
      have h2 := Hkk.out.below hb4 Hkk.out.lt
      have h3 := Hbb.out.below hb4 Hbb.out.lt
      have hgl := Hcc.out.lt
      have Hcn := Lib.hid (count_n S.length C2 K Hbl.out KA kc _ w4.heap.size g bn (500 + (flTo S k).length) w4 hkle (hko.ilg (by unfold maxLen; omega)) (.inl hgl) Hrin.out Hsm.out (by omega) (by have := HG.out; omega) (h3.cel 0 rfl) h1 (by omega))
      have H2 := Lib.hid h2
      have H3 := Lib.hid h3
      have Hb4 := Lib.hid (Hbo.out.trans (hb4.mono Hbo.out.size))
      clear h1 h2 h3 hko hb4 hgl Hkc Hcc Hkk Hbb Hbo
      go_wp2_with fail
      refine Hcn.out.mono ?_
      rintro e w5 ⟨⟨ev2, rfl⟩, hc5, ht5⟩
      have Hc5 : Hid (Blk w5 g 3 (vi (bumps C1 (flTo S (k + 1)))).toArray) := Lib.hid (by rw [Hsuc.out, bumps_app, ← HC2.out]; exact hc5)
      have Hk5 := Lib.hid (show Blk w5 w.heap.size 110 #[.slice (some ad) S.length c, .slice LA ln lc, .slice A1 Q.length c1, .slice A2 P.length c2] from (ht5.block _ (by have := HG.out; omega)).trans H2.out)
      have Hb5 := Lib.hid (show Blk w5 bn 26 #[.slice (some ⟨g, 0, none⟩) S.length S.length] from (ht5.block _ (by have := HG.out; omega)).trans H3.out)
      have Hw5 := Lib.hid (Hb4.out.trans (ht5.below (by have := HG.out; omega)))
      clear hc5 ht5 Hcn H2 H3 Hb4
      go_wp2
      go_roundw
      case rel => exact ⟨k + 1, by omega, by go_num, Hc5, Hk5, Hb5, Hw5⟩
      case measure => simp [intOf]; omega
    · obtain rfl : k = S.length := by omega
      have p2 := hkR.out.cel 2 (v := .slice A1 Q.length c1) rfl
      have Hcn := Lib.hid (count_n S.length C2 Q Hbl.out A1 c1 LQ w.heap.size g bn (500 + (flTo S S.length).length) wr (by omega) (HQ.out.below hbw.out) (.inr (by have := HG.out; omega)) HQin.out Hsm.out (by omega) (by have := HG.out; omega) (hbR.out.cel 0 rfl) hcR.out (by omega))
      go_wp2_with fail
      refine Hcn.out.mono ?_
      rintro e w5 ⟨⟨ev2, rfl⟩, hc5, ht5⟩
      have hb5 : Blk w5 bn 26 #[.slice (some ⟨g, 0, none⟩) S.length S.length] := (ht5.block _ (by have := HG.out; omega)).trans hbR.out
      have r0 := hb5.cel 0 (v := .slice (some ⟨g, 0, none⟩) S.length S.length) rfl
      have Hw5 := Lib.hid (hbw.out.trans (ht5.below (by have := HG.out; omega)))
      have Hc5 := Lib.hid hc5
      have Hlen : Hid ((cntR S Q l).length = S.length) := Lib.hid (cntR_len S Q l)
      have Hcd : Hid (cntR S Q l = bumps C2 Q) := Lib.hid (by unfold cntR; rw [HC2.out, HC1.out, HR0.out])
      clear hc5 ht5 hb5 Hcn p2
      go_wp2
      go_ret
      refine ⟨some ⟨g, 0, none⟩, S.length, by rw [Hlen.out]; rfl, fun hn => ⟨g, _, rfl, Hc5.out, by have := HG.out; omega, ?_, fun i hi => ?_⟩, Hw5.out⟩
      · rw [Hcd.out]; simp [vi_len]
      · rw [Hcd.out] at hi ⊢
        have : (vi (bumps C2 Q))[i]? = some (.int .i64 (gI (bumps C2 Q) i)) := by rw [vi_get, List.getElem?_eq_getElem hi, gI_get hi]; rfl
        simpa using this
end Go.Proofs.YtddjcjjnpidhiaaGreatDoor

namespace Go.Proofs.YtddjcjjnpidhiaaGreatDoor
open Go.RowKit
set_option linter.unusedVariables false
set_option linter.unusedSimpArgs false

set_option maxRecDepth 100000 in
set_option maxHeartbeats 2000000 in
theorem counts_c (S : List Sl) (A LA A1 A2 : Option Addr) (c ln lc q1 c1 q2 c2 : Nat) (w : World) (hS : S.length ≤ 1048576) (h : SlL w 0 w.heap.size A S) :
    Calls Tryz.prog 72 #[.agg #[.slice A S.length c, .slice LA ln lc, .slice A1 q1 c1, .slice A2 q2 c2]] w (AnsI w (cntTo S S.length)) := by
  obtain ⟨i0, hi, hz0, hz1, hz2⟩ := info_parts infoI
  have hbr := blw1 w (.cells #[.slice A S.length c, .slice LA ln lc, .slice A1 q1 c1, .slice A2 q2 c2] 110)
  have H := Lib.hid (h.below hbr)
  have Hb := Lib.hid hbr
  clear h hbr
  go_enter Tryz.func72, Tryz.ntmps72
  go_wp2_with fail
  generalize hW : w.alloc (.cells #[.slice A S.length c, .slice LA ln lc, .slice A1 q1 c1, .slice A2 q2 c2] 110) = W
  rw [hW] at H Hb
  have hWs : w.heap.size ≤ W.heap.size := by rw [← hW]; simp
  have HWs := Lib.hid hWs
  clear hW hWs
  go_loopw [3, 9] (fun n i wr => ∃ k : Nat, k ≤ S.length ∧ i = .int .i64 k ∧ Hid (IRow wr W.heap.size n (cntTo S k)) ∧ Below W.heap.size W wr) (fun _ i _ => S.length - (intOf i).toNat)
  case atStart => exact ⟨0, Nat.zero_le _, rfl, Lib.hid (IRow.nil _ _), Below.refl _ _⟩
  case round =>
    obtain ⟨k, hk, rfl, hrow, hbl⟩ := hrel
    obtain ⟨A', c', rfl, hlc⟩ := hrow.out.form
    have hll := cntTo_len hk
    have hws := hbl.size
    by_cases hlt : k < S.length
    · obtain ⟨ad, rfl, _, hbk, hat⟩ := (H.out.below (hbl.mono HWs.out)).2 (by omega)
      obtain ⟨x0, x1, x2, x3, ⟨d0, d1, d2, d3⟩, rfl, rfl, rfl, FA, fc, rfl, -⟩ := hat k hlt
      have Hn := Lib.hid (cntTo_succ hlt)
      obtain ⟨fs, hfs⟩ : ∃ f, f = S[k].fs.length := ⟨_, rfl⟩
      obtain ⟨sl, hsl⟩ : ∃ f, f = S[k].live := ⟨_, rfl⟩
      obtain ⟨gn, hgn⟩ : ∃ f, f = S[k].gen := ⟨_, rfl⟩
      obtain ⟨ct, hct⟩ : ∃ f, f = S[k].count := ⟨_, rfl⟩
      rw [← hfs] at d3
      rw [← hsl] at d0
      rw [← hgn] at d1
      rw [← hct] at d2 Hn
      clear hat hfs hsl hgn hct
      have hr1 := hrow.out.alloc (.cells #[.bool sl, .int .i64 gn, .int .i64 ct, .slice FA fs fc] 138)
      have hbl1 := hbl.trans ((blw1 wr (.cells #[.bool sl, .int .i64 gn, .int .i64 ct, .slice FA fs fc] 138)).mono hws)
      have HO := Lib.hid (hr1.alloc (.cells #[.int .i64 ct] 3))
      have Hcell := Lib.hid (cell_one_new (wr.alloc (.cells #[.bool sl, .int .i64 gn, .int .i64 ct, .slice FA fs fc] 138)) (.int .i64 ct) 3)
      have Hbl1 := Lib.hid hbl1
      clear hr1 hbl hbl1
      go_wp2_with (at_builtin; refine wpList_append_own _ rfl (.tmp 13) (.tmp 17) 26 rfl W.heap.size 3 i0 _ 1 8 Tryz.underlying26 hi hz0 hz1 hz2 rfl (by omega) _ _ _ rfl HO.out ⟨wr.heap.size + 1, 0, none⟩ 1 1 [.int .i64 ct] rfl rfl (by have := Hcell.out; rw [World.size_alloc] at this; exact this) (by simp [Value.oneCell']) (by unfold maxLen; omega) (by omega) (by simp; omega) ?_; intro v' w4 hown' hgrow _)
      have hbn : Below W.heap.size W w4 := HO.out.grown (Hbl1.out.alloc (by simp; omega) _) (by simp; omega) hgrow
      have Hnew := Lib.hid (IRow.snoc hown')
      have Hbn := Lib.hid hbn
      clear hown' hgrow hbn HO Hcell Hbl1
      go_roundw
      case rel => exact ⟨k + 1, by omega, by go_num, by rw [Hn.out]; exact Hnew, Hbn.out⟩
      case measure => simp [intOf]; omega
    · obtain rfl : k = S.length := by omega
      have Hbw := Lib.hid (Hb.out.trans (hbl.mono HWs.out))
      clear hbl
      go_wp2
      go_ret
      exact ⟨_, _, rfl, (hrow.out.own).lo_le HWs.out, Hbw.out⟩

end Go.Proofs.YtddjcjjnpidhiaaGreatDoor

namespace Go.Proofs.YtddjcjjnpidhiaaGreatDoor
open Go.RowKit
set_option linter.unusedVariables false
set_option linter.unusedSimpArgs false

section
variable (a : Ar) (A0 A1 A2 : Option Addr) (c0 c1 c2 L B : Nat) (w : World)
set_option maxRecDepth 100000 in
set_option maxHeartbeats 4000000 in
theorem implCounted_c (l : List Vl) (VA : Option Addr) (vc LV BV : Nat) (hB : B ≤ w.heap.size) (hBV : BV ≤ w.heap.size) (h : ArL w L B A0 A1 A2 a) (hsz : arSz a ≤ 1048576) (hv : VlL w LV BV VA l) (hl : l.length ≤ 1048576) :
    Calls Tryz.prog 41 #[.agg #[.slice A0 a.slots.length c0, .slice A1 a.queue.length c1, .slice A2 a.purple.length c2], .slice VA l.length vc] w fun e w' => e = .returned (.bool (cntedA a l)) ∧ Below w.heap.size w w' := by
  have hbW := blw1 w (.cells #[.slice A0 a.slots.length c0, .slice A1 a.queue.length c1, .slice A2 a.purple.length c2] 40)
  have HR := Lib.hid (roomAt a A0 A1 A2 c0 c1 c2 L B w _ h hsz (hbW.mono hB) (Nat.le_trans hB hbW.size))
  have HbW := Lib.hid hbW
  have Hsz := Lib.hid hsz
  have HQ := Lib.hid h.2.1
  have HV := Lib.hid hv
  have HSl : Hid (a.slots.length ≤ 1048576) := Lib.hid (by unfold arSz slsSz at hsz; omega)
  clear h hsz hbW hv
  go_enter Tryz.func41, Tryz.ntmps41
  go_wp2_with fail
  refine HR.out.mono ?_
  rintro e w1 ⟨u0, u1, u2, u3, rfl, hb, hu, hyes⟩
  have Hb := Lib.hid (HbW.out.trans (hb.mono HbW.out.size))
  cases hok : arOk a
  · have E := Lib.hid (show cntedA a l = false by unfold cntedA; rw [hok]; rfl)
    obtain ⟨_, _, _, rfl⟩ := hu u0 (by simp)
    obtain ⟨_, _, _, rfl⟩ := hu u1 (by simp)
    obtain ⟨_, _, _, rfl⟩ := hu u2 (by simp)
    obtain ⟨_, _, _, rfl⟩ := hu u3 (by simp)
    clear hu hb HbW HR hyes hok
    go_wp2
    go_ret
    exact ⟨by rw [E.out]; rfl, Hb.out.alloc Hb.out.size _⟩
  · obtain ⟨A, c, rfl, hsl, -, rfl, rfl⟩ := hyes hok
    obtain ⟨LA, ln, lc, rfl⟩ := hu u1 (by simp)
    have hbr := blw1 w1 (.cells #[.slice A a.slots.length c, .slice LA ln lc, .slice A1 a.queue.length c1, .slice A2 a.purple.length c2] 110)
    have KR := Lib.hid (Blk.new w1 110 #[.slice A a.slots.length c, .slice LA ln lc, .slice A1 a.queue.length c1, .slice A2 a.purple.length c2])
    have Hb2 := Lib.hid (Hb.out.trans (hbr.mono Hb.out.size))
    have hS2 := (hsl.below hbr).more (Nat.le_refl _) hbr.size
    have HS := Lib.hid hS2
    have Hro := Lib.hid (rootsOk_c a.slots A LA A1 A2 c ln lc a.queue.length c1 a.purple.length c2 l VA vc LV BV (w1.alloc (.cells #[.slice A a.slots.length c, .slice LA ln lc, .slice A1 a.queue.length c1, .slice A2 a.purple.length c2] 110)) (Nat.le_trans hBV Hb2.out.size) hl hS2 (HV.out.below (Hb2.out.mono hBV)))
    have Hok := Lib.hid hok
    clear hu hb HbW HR hyes hok hsl hbr hS2
    go_wp2_with fail
    refine Hro.out.mono ?_
    rintro e w2 ⟨rfl, hb2⟩
    have K2 := KR.out.below hb2 KR.out.lt
    have Hb3 := Lib.hid (Hb2.out.trans (hb2.mono Hb2.out.size))
    cases hrt : rootsA a.slots l
    · have E := Lib.hid (show cntedA a l = false by unfold cntedA; rw [Hok.out, hrt]; rfl)
      clear hrt hb2 K2 Hro KR
      go_wp2
      go_ret
      exact ⟨by rw [E.out]; rfl, Hb3.out⟩
    · have E := Lib.hid (show cntedA a l = decide (cntTo a.slots a.slots.length = cntR a.slots a.queue l) by unfold cntedA cntEq; rw [Hok.out, hrt]; rfl)
      have HK2 := Lib.hid K2
      have hgo : Hid (∀ d, Calls Tryz.prog 72 #[.agg #[.slice A a.slots.length c, .slice LA ln lc, .slice A1 a.queue.length c1, .slice A2 a.purple.length c2]] (w2.drewN d) (AnsI (w2.drewN d) (cntTo a.slots a.slots.length))) :=
        Lib.hid (fun d => counts_c a.slots A LA A1 A2 c ln lc a.queue.length c1 a.purple.length c2 (w2.drewN d) HSl.out (((HS.out.below hb2).more (Nat.le_refl _) hb2.size).keep (fun _ _ _ => rfl)))
      have HS3 := Lib.hid ((HS.out.below hb2).more (Nat.le_refl _) hb2.size)
      have hml : (cntTo a.slots a.slots.length).length ≤ maxLen := by have := cntTo_len (Nat.le_refl a.slots.length); have := HSl.out; unfold maxLen; omega
      have Hrf : Hid (∀ X : World, Below w2.heap.size w2 X → Calls Tryz.prog 73 #[.agg #[.slice A a.slots.length c, .slice LA ln lc, .slice A1 a.queue.length c1, .slice A2 a.purple.length c2], .slice VA l.length vc] X (AnsI X (cntR a.slots a.queue l))) :=
        Lib.hid (fun X hX => refs_c a A LA A1 A2 c ln lc c1 c2 l VA vc LV L X Hsz.out Hok.out hrt ((HS3.out.below hX).more (Nat.le_refl _) hX.size) ((HV.out.below ((Hb3.out.trans (hX.mono Hb3.out.size)).mono hBV)).more (Nat.le_refl _) (Nat.le_trans hBV (Nat.le_trans Hb3.out.size hX.size))) ((HQ.out.below ((Hb3.out.trans (hX.mono Hb3.out.size)).mono hB)).more (Nat.le_refl _) (Nat.le_trans hB (Nat.le_trans Hb3.out.size hX.size))))
      have hmr : (cntR a.slots a.queue l).length ≤ maxLen := by have := cntR_len a.slots a.queue l; have := HSl.out; unfold maxLen; omega
      obtain ⟨s, hs⟩ : ∃ s, cntTo a.slots a.slots.length = s := ⟨_, rfl⟩
      obtain ⟨r, hr⟩ : ∃ s, cntR a.slots a.queue l = s := ⟨_, rfl⟩
      rw [hs] at E hgo hml
      rw [hr] at E Hrf hmr
      have Hml := Lib.hid hml
      have Hmr := Lib.hid hmr
      obtain ⟨q0, q1, q2, q3⟩ : w2.cell? ⟨w1.heap.size, 0, none⟩ = some (.slice A a.slots.length c) ∧ w2.cell? ⟨w1.heap.size, 1, none⟩ = some (.slice LA ln lc) ∧ w2.cell? ⟨w1.heap.size, 2, none⟩ = some (.slice A1 a.queue.length c1) ∧ w2.cell? ⟨w1.heap.size, 3, none⟩ = some (.slice A2 a.purple.length c2) :=
        ⟨K2.cel 0 rfl, K2.cel 1 rfl, K2.cel 2 rfl, K2.cel 3 rfl⟩
      clear hrt hb2 K2 Hro KR HS HS3 hs hr hml hmr HSl Hsz HQ HV Hok
      go_upto_region 4 with fail
      go_cut [4] (fun b wx => b = .bool (decide (s = r)) ∧ Hid (Below w2.heap.size w2 wx))
      case first =>
        go_region_with (first
          | (go_at_call 72; refine (hgo.out _).mono ?_; rintro e w3 ⟨A3, c3, rfl, ho3, hb3⟩; have Hb23 := Lib.hid (show Below w2.heap.size w2 w3 from ⟨hb3.os, hb3.tape, hb3.output, hb3.size, hb3.block⟩); have K3 := HK2.out.below Hb23.out HK2.out.lt; obtain ⟨q0, q1, q2, q3⟩ : w3.cell? ⟨w1.heap.size, 0, none⟩ = some (.slice A a.slots.length c) ∧ w3.cell? ⟨w1.heap.size, 1, none⟩ = some (.slice LA ln lc) ∧ w3.cell? ⟨w1.heap.size, 2, none⟩ = some (.slice A1 a.queue.length c1) ∧ w3.cell? ⟨w1.heap.size, 3, none⟩ = some (.slice A2 a.purple.length c2) := ⟨K3.cel 0 rfl, K3.cel 1 rfl, K3.cel 2 rfl, K3.cel 3 rfl⟩; have Ho3 := Lib.hid ho3; have Hrf3 := Lib.hid (Hrf.out w3 Hb23.out); clear hb3 ho3 K3 hgo)
          | (go_at_call 73; refine Hrf3.out.mono ?_; rintro e w4 ⟨A4, c4, rfl, ho4, hb4⟩; have Heq := Lib.hid (slEqual_c s r A3 A4 c3 c4 _ _ _ _ w4 ((Ho3.out.ilg Hml.out).below hb4) (ho4.ilg Hmr.out)); have Hb24 := Lib.hid (Hb23.out.trans (hb4.mono Hb23.out.size)); clear ho4 hb4)
          | (go_at_call 71; refine Heq.out.mono ?_; rintro e w5 ⟨rfl, n5, hw5⟩))
        all_goals
          try go_wp2_with fail
          go_meet
          case rel => exact ⟨by simp, Lib.hid (by have := Hb24.out; subst hw5; exact ⟨this.os, this.tape, this.output, this.size, this.block⟩)⟩
      case rest =>
        obtain ⟨rfl, hb5⟩ := hcut
        go_wp2
        go_ret
        exact ⟨by rw [E.out]; rfl, Hb3.out.trans (hb5.out.mono Hb3.out.size)⟩
end
end Go.Proofs.YtddjcjjnpidhiaaGreatDoor
