/-
  The model's l5gray and l5trial.
-/
import Derived.Test.YtiofabnicdlceaaMarkS
import Derived.Test.YtiofabnicdlceaaTrialD
namespace Go.Proofs.Ytiofabnicdlceaa
open Go.RowKit
set_option linter.unusedVariables false
set_option linter.unusedSimpArgs false

theorem Apart.blk_ne {w w' : World} {g b : Nat} {t : TypeId} {cs : Array Value} (h : Blk w b t cs) (ha : Apart (fun k => k = g) w w') (hne : b ≠ g) : Blk w' b t cs := h.apart ha hne

set_option maxRecDepth 100000 in
set_option maxHeartbeats 8000000 in
theorem l5gray_c (a : Ar) (A0 A1 A2 : Option Addr) (c0 c1 c2 L B : Nat) (w : World) (hB : B ≤ w.heap.size) (h : ArL w L B A0 A1 A2 a) (hsz : arSz a ≤ 1048576) (hok : arOk a = true) :
    Calls Try.prog 47 #[.agg #[.slice A0 a.slots.length c0, .slice A1 a.queue.length c1, .slice A2 a.purple.length c2]] w (AnsO w (grayS a.slots a.purple)) := by
  obtain ⟨hS1, hS16, -⟩ := arOk_at hok
  have HS := Lib.hid (InS.of_ok hok)
  have Hpu := Lib.hid (purple_in hok)
  have Hsz := Lib.hid hsz
  have hmk := run_make_row' (P := Try.prog) 43 4 (.bool false) 1 Try.underlying43 infoBo rfl .i64 .i64 a.slots.length (by omega) (by omega)
  rw [made_false] at hmk
  have hP16 := Hpu.out.2
  -- the worlds ahead of the loop
  have HN : Hid (Blk ((w.alloc (.cells #[.slice A0 a.slots.length c0, .slice A1 a.queue.length c1, .slice A2 a.purple.length c2] 32)).alloc (.cells (vo (List.replicate a.slots.length false)).toArray 4)) (w.heap.size + 1) 4 (vo (List.replicate a.slots.length false)).toArray) := Lib.hid (by
    have := Blk.new (w.alloc (.cells #[.slice A0 a.slots.length c0, .slice A1 a.queue.length c1, .slice A2 a.purple.length c2] 32)) 4 (vo (List.replicate a.slots.length false)).toArray
    rwa [World.size_alloc] at this)
  have HK := Lib.hid ((Blk.new w 32 #[.slice A0 a.slots.length c0, .slice A1 a.queue.length c1, .slice A2 a.purple.length c2]).alloc (.cells (vo (List.replicate a.slots.length false)).toArray 4))
  have Hb2 : Hid (Below w.heap.size w ((w.alloc (.cells #[.slice A0 a.slots.length c0, .slice A1 a.queue.length c1, .slice A2 a.purple.length c2] 32)).alloc (.cells (vo (List.replicate a.slots.length false)).toArray 4))) := Lib.hid (((Below.refl _ _).alloc (Nat.le_refl _) _).alloc (by simp) _)
  have Hd := Lib.hid (Dpa.start a.slots)
  have H := Lib.hid h
  clear h hsz hok
  go_enter Try.func47, Try.ntmps47
  go_wp2_with fail
  obtain ⟨gB, hgB⟩ : ∃ g, g = w.heap.size + 1 := ⟨_, rfl⟩
  rw [← hgB] at HN
  rw [← hgB]
  have HgB := Lib.hid hgB
  clear hgB
  go_loopw [4] (fun x wr => ∃ (k : Nat) (m : List Bool), k ≤ a.purple.length ∧ x = .int .i64 k ∧ Hid (Dpa a.slots (a.purple.take k) m) ∧ Hid (Blk wr gB 4 (vo m).toArray) ∧ Hid (Blk wr w.heap.size 32 #[.slice A0 a.slots.length c0, .slice A1 a.queue.length c1, .slice A2 a.purple.length c2]) ∧ Hid (Below w.heap.size w wr)) (fun x _ => a.purple.length - (intOf x).toNat)
  case atStart => exact ⟨0, _, Nat.zero_le _, rfl, Hd, HN, HK, Hb2⟩
  case round =>
    obtain ⟨k, m, hk, rfl, hd, hbR, hkR, hbw⟩ := hrel
    have hBr : B ≤ wr.heap.size := Nat.le_trans hB hbw.out.size
    have hL := H.out.below (hbw.out.mono hB)
    have k2 := hkR.out.cel 2 (v := .slice A2 a.purple.length c2) rfl
    by_cases hlt : k < a.purple.length
    · obtain ⟨ad, rfl, _, hbk, hat⟩ := hL.2.2.2 (by omega)
      have d0 := hat k hlt
      have hin := Hpu.out.1 k hlt
      obtain ⟨n, hn⟩ : ∃ n : Nat, a.purple[k] = (n : Int) := ⟨a.purple[k].toNat, by omega⟩
      have hnS : n < a.slots.length := by omega
      have Htk := Lib.hid (show a.purple.take (k + 1) = a.purple.take k ++ [(n : Int)] by rw [List.take_succ_eq_append_getElem hlt, hn])
      rw [hn] at d0
      have k0 := hkR.out.cel 0 (v := .slice A0 a.slots.length c0) rfl
      have k1 := hkR.out.cel 1 (v := .slice A1 a.queue.length c1) rfl
      have k2 := hkR.out.cel 2 (v := .slice (some ad) a.purple.length c2) rfl
      have Hc := Lib.hid (fun x => l4mark_c a A0 A1 (some ad) c0 c1 c2 L B gB Hsz.out HS.out (.inr (by have := HgB.out; omega)) _ m n (wr.drewN x) (Nat.le_refl _) hnS hd.out.len hBr (hL.keep (w' := wr.drewN x) fun _ _ _ => rfl) (hbR.out.drewN x))
      clear hat hn hin hL hbR
      go_upto_region 5 with fail
      go_region_with (go_at_call 68; refine (Hc.out 1).mono ?_; rintro e w5 ⟨v, m', rfl, hdd, hb5, ha5⟩)
      all_goals
        have Hd5 : Hid (Dpa a.slots (a.purple.take (k + 1)) m') := Lib.hid (by rw [Htk.out]; exact hd.out.step hdd)
        have Hb5 := Lib.hid hb5
        have Hk5 := Lib.hid ((hkR.out.drewN 1).apart ha5 (by have := HgB.out; omega))
        have Hw5 := Lib.hid (hbw.out.trans ((apart_drewN 1 ha5).below hbw.out.size (fun j hj => by have := HgB.out; omega)))
        clear hdd hb5 ha5 Hc Htk k0 k1 k2 hd hkR hbw
        go_wp2
        go_roundw
        case rel => exact ⟨k + 1, m', by omega, by go_num, Hd5, Hb5, Hk5, Hw5⟩
        case measure => simp [intOf]; omega
    · obtain rfl : k = a.purple.length := by omega
      have hm : m = grayS a.slots a.purple := by
        have := hd.out
        rw [List.take_length] at this
        exact this.eq
      subst hm
      have Ho := Lib.hid (OwnO.of_blk hbR.out (show w.heap.size ≤ gB by have := HgB.out; omega))
      have Hl := Lib.hid (grayS_len a.slots a.purple)
      clear hd hbR hkR hL
      go_wp2
      go_ret
      exact ⟨_, _, by rw [Hl.out]; rfl, Ho.out, hbw.out⟩

/-- counts of the first k, noughts behind -/
def cntPut (S : List Sl) (k : Nat) : List Int := cntTo S k ++ List.replicate (S.length - k) 0
theorem cntPut_zero (S : List Sl) : cntPut S 0 = List.replicate S.length 0 := rfl
theorem cntPut_all (S : List Sl) : cntPut S S.length = cntTo S S.length := by unfold cntPut; simp
theorem cntPut_len {S : List Sl} {k : Nat} (h : k ≤ S.length) : (cntPut S k).length = S.length := by
  unfold cntPut
  rw [List.length_append, cntTo_len h, List.length_replicate]
  omega
theorem cntPut_set {S : List Sl} {k : Nat} (h : k < S.length) : (cntPut S k).set k S[k].count = cntPut S (k + 1) := by
  unfold cntPut
  rw [List.set_append_right _ _ (by rw [cntTo_len (by omega)]; exact Nat.le_refl _), cntTo_len (by omega), Nat.sub_self, cntTo_succ h, show S.length - k = (S.length - (k + 1)) + 1 by omega, List.replicate_succ]
  simp

set_option maxRecDepth 100000 in
set_option maxHeartbeats 8000000 in
theorem l5trial_c (a : Ar) (O : List Bool) (A0 A1 A2 GA : Option Addr) (c0 c1 c2 gc L B LG BG : Nat) (w : World) (hB : B ≤ w.heap.size) (hBG : BG ≤ w.heap.size) (h : ArL w L B A0 A1 A2 a) (hsz : arSz a ≤ 1048576) (hok : arOk a = true) (hO : O.length = a.slots.length) (hG : OL w LG BG GA O) :
    Calls Try.prog 52 #[.agg #[.slice A0 a.slots.length c0, .slice A1 a.queue.length c1, .slice A2 a.purple.length c2], .slice GA O.length gc] w (AnsI w (leftL a.slots O)) := by
  obtain ⟨S, Q, P⟩ := a
  dsimp only at *
  obtain ⟨hS1, hS16, -⟩ := arOk_at hok
  dsimp only at hS1 hS16
  have hS : InS S := InS.of_ok hok
  have HS := Lib.hid hS
  have hsl : slsSz S ≤ 1048576 := by unfold arSz at hsz; dsimp only at hsz; omega
  have Hsl := Lib.hid hsl
  have HC := Lib.hid (show Lb (cntTo S S.length) 0 from cnt_lb (a := ⟨S, Q, P⟩) hok)
  have hmk := run_make_row' (P := Try.prog) 23 3 (.int .i64 0) 8 Try.underlying23 infoI rfl .i64 .i64 S.length (by omega) (by omega)
  rw [made_zero] at hmk
  have HN : Hid (Blk ((w.alloc (.cells #[.slice A0 S.length c0, .slice A1 Q.length c1, .slice A2 P.length c2] 32)).alloc (.cells (vi (List.replicate S.length 0)).toArray 3)) (w.heap.size + 1) 3 (vi (List.replicate S.length 0)).toArray) := Lib.hid (by
    have := Blk.new (w.alloc (.cells #[.slice A0 S.length c0, .slice A1 Q.length c1, .slice A2 P.length c2] 32)) 3 (vi (List.replicate S.length 0)).toArray
    rwa [World.size_alloc] at this)
  have HK := Lib.hid ((Blk.new w 32 #[.slice A0 S.length c0, .slice A1 Q.length c1, .slice A2 P.length c2]).alloc (.cells (vi (List.replicate S.length 0)).toArray 3))
  have Hb2 : Hid (Below w.heap.size w ((w.alloc (.cells #[.slice A0 S.length c0, .slice A1 Q.length c1, .slice A2 P.length c2] 32)).alloc (.cells (vi (List.replicate S.length 0)).toArray 3))) := Lib.hid (((Below.refl _ _).alloc (Nat.le_refl _) _).alloc (by simp) _)
  have H := Lib.hid h
  have HGr := Lib.hid hG
  rw [← cntPut_zero] at HN
  clear h hsz hok hG hS hsl
  go_enter Try.func52, Try.ntmps52
  go_wp2_with fail
  obtain ⟨gB, hgB⟩ : ∃ g, g = w.heap.size + 1 := ⟨_, rfl⟩
  rw [← cntPut_zero]
  rw [← hgB] at HN
  rw [← hgB]
  have HgB := Lib.hid hgB
  rw [← cntPut_zero] at HK Hb2
  clear hgB hmk
  go_loopw [6] (fun x wr => ∃ k : Nat, k ≤ S.length ∧ x = .int .i64 k ∧ Hid (Blk wr gB 3 (vi (cntPut S k)).toArray) ∧ Hid (Blk wr w.heap.size 32 #[.slice A0 S.length c0, .slice A1 Q.length c1, .slice A2 P.length c2]) ∧ Hid (Below w.heap.size w wr)) (fun x _ => S.length - (intOf x).toNat)
  case atStart => exact ⟨0, Nat.zero_le _, rfl, HN, HK, Hb2⟩
  case round =>
    obtain ⟨k, hk, rfl, hcR, hkR, hbw⟩ := hrel
    have p0 := hkR.out.cel 0 (v := .slice A0 S.length c0) rfl
    by_cases hlt : k < S.length
    · obtain ⟨ad, rfl, _, hbk, hat⟩ := (H.out.1.below (hbw.out.mono hB)).2 (by simp only; omega)
      obtain ⟨x0, x1, x2, x3, ⟨d0, d1, d2, d3⟩, rfl, rfl, rfl, _⟩ := hat k hlt
      have hcl := cntPut_len hk
      have q0 : wr.cell? ⟨gB, k, none⟩ = some (.int .i64 ((cntPut S k)[k]'(by omega))) := by
        rw [hcR.out.cell]; simp [vi, List.getElem?_eq_getElem (show k < (cntPut S k).length by omega)]
      have f0 := hcR.out.frozen k
      have Hn : Hid (Blk (wr.setCell ⟨gB, k, none⟩ (.int .i64 S[k].count)) gB 3 (vi (cntPut S (k + 1))).toArray) := Lib.hid (by
        have h1 := hcR.out.set_ k (.int .i64 S[k].count)
        rw [vi_set, cntPut_set hlt] at h1
        exact h1)
      have Hk2 := Lib.hid (hkR.out.far (p := ⟨gB, k, none⟩) (by have := HgB.out; simp; omega) (.int .i64 S[k].count))
      have Hw2 := Lib.hid (hbw.out.setCell (p := ⟨gB, k, none⟩) (by have := HgB.out; simp; omega) (.int .i64 S[k].count))
      dsimp only at d2
      obtain ⟨ct, hct⟩ : ∃ c, c = S[k].count := ⟨_, rfl⟩
      obtain ⟨z, hz⟩ : ∃ c, c = (cntPut S k)[k]'(by omega) := ⟨_, rfl⟩
      rw [← hct] at d2 Hn Hk2 Hw2
      rw [← hz] at q0
      clear hat d0 d1 d3 hcl hct hz hcR hkR hbw
      go_wp2
      go_roundw
      case rel => exact ⟨k + 1, by omega, by go_num, Hn, Hk2, Hw2⟩
      case measure => simp [intOf]; omega
    · obtain rfl : k = S.length := by omega
      rw [cntPut_all] at hcR
      obtain ⟨C0, hC0⟩ : ∃ c, c = cntTo S S.length := ⟨_, rfl⟩
      rw [← hC0] at hcR HC
      have HC0 := Lib.hid hC0
      have HCl := Lib.hid (show C0.length = S.length by rw [hC0]; exact cntTo_len (Nat.le_refl _))
      clear hC0
      go_wp2_with fail
      go_loopw [7] (fun x wr => ∃ k : Nat, k ≤ S.length ∧ x = .int .i64 k ∧ Hid (Blk wr gB 3 (vi (unbs C0 (grayTo S O k))).toArray) ∧ Hid (Blk wr w.heap.size 32 #[.slice A0 S.length c0, .slice A1 Q.length c1, .slice A2 P.length c2]) ∧ Hid (Below w.heap.size w wr)) (fun x _ => S.length - (intOf x).toNat)
      case atStart => exact ⟨0, Nat.zero_le _, rfl, hcR, hkR, hbw⟩
      case round =>
        obtain ⟨k, hk, rfl, hcR, hkR, hbw⟩ := hrel
        have hgl := grayTo_bd (O := O) Hsl.out hk
        have hsm := Lib.hid (HC.out.unbs (grayTo S O k))
        have hbl2 := Lib.hid (show (unbs C0 (grayTo S O k)).length = S.length by rw [unbs_len]; exact HCl.out)
        have Hy := Lib.hid (fun h => grayTo_yes (S := S) (O := O) (k := k) h)
        have Hno := Lib.hid (fun h => grayTo_no (S := S) (O := O) (k := k) h)
        obtain ⟨gl, hgle⟩ : ∃ n, n = (grayTo S O k).length := ⟨_, rfl⟩
        rw [← hgle] at hgl hsm
        obtain ⟨C2, hC2⟩ : ∃ c, c = unbs C0 (grayTo S O k) := ⟨_, rfl⟩
        rw [← hC2] at hcR hsm hbl2
        have HC2 := Lib.hid hC2
        clear hC2 hgle
        have p0 := hkR.out.cel 0 (v := .slice A0 S.length c0) rfl
        by_cases hlt : k < S.length
        · have hfz : S[k].fs.length ≤ 1048576 := by
            have h1 := sum_get slSz hlt
            have h2 : S[k].fs.length ≤ slSz S[k] := by unfold slSz fsSz; omega
            have h3 := Hsl.out
            unfold slsSz at h3
            omega
          obtain ⟨ga, rfl, _, hgb, hgat⟩ := HGr.out.2 (by omega)
          have hkO : k < O.length := by omega
          have Hgo := Lib.hid (hgat k hkO)
          have Hgg := Lib.hid (gO_get hkO)
          obtain ⟨fs, hfs⟩ : ∃ f, f = S[k].fs := ⟨_, rfl⟩
          have Hkid := Lib.hid (kidsOf_get hlt)
          rw [← hfs] at hfz Hkid
          have Hfs := Lib.hid hfs
          obtain ⟨ob, hob⟩ : ∃ b, b = O[k] := ⟨_, rfl⟩
          rw [← hob] at Hgo Hgg
          clear hfs hob hgat
          go_wp2_with fail
          go_loopw [8] (fun x wr => ∃ j : Nat, j ≤ fs.length ∧ x = .int .i64 j ∧ (ob = false → j = 0) ∧ Hid (Blk wr gB 3 (vi (unbs C2 (refsTo fs j))).toArray) ∧ Hid (Blk wr w.heap.size 32 #[.slice A0 S.length c0, .slice A1 Q.length c1, .slice A2 P.length c2]) ∧ Hid (Below w.heap.size w wr)) (fun x _ => fs.length - (intOf x).toNat)
          case atStart => exact ⟨0, Nat.zero_le _, rfl, fun _ => rfl, hcR, hkR, hbw⟩
          case round =>
            obtain ⟨j, hj, rfl, hj0, hcR, hkR, hbw⟩ := hrel
            have hrl := refsTo_le fs j
            have hsm2 := Lib.hid (hsm.out.unbs (refsTo fs j))
            have hbl3 := Lib.hid (show (unbs C2 (refsTo fs j)).length = S.length by rw [unbs_len]; exact hbl2.out)
            obtain ⟨ad, rfl, _, hbk, hat⟩ := (H.out.1.below (hbw.out.mono hB)).2 (by simp only; omega)
            obtain ⟨x0, x1, x2, x3, ⟨d0, d1, d2, d3⟩, rfl, rfl, rfl, FA, fc, rfl, hF⟩ := hat k hlt
            dsimp only at d3 hF
            rw [← Hfs.out] at d3 hF
            have p0 := hkR.out.cel 0 (v := .slice (some ad) S.length c0) rfl
            have o0 : wr.cell? (ga.add k) = some (.bool ob) := ((hbw.out.mono hBG).cell (p := ga.add k) (by rw [block_of_add]; exact hgb)).trans Hgo.out
            clear hat d0 d1 d2
            by_cases hjl : j < fs.length
            · cases ob
              · have hj00 := hj0 rfl
                subst hj00
                have Hn : Hid (Blk wr gB 3 (vi (unbs C0 (grayTo S O (k + 1)))).toArray) := Lib.hid (by
                  rw [Hno.out Hgg.out, ← HC2.out]; exact hcR.out)
                clear hcR hF hj0
                go_wp2
                go_roundw
                case rel => exact ⟨k + 1, by omega, by go_num, Hn, hkR, hbw⟩
                case measure => simp [intOf]; omega
              · obtain ⟨fd, rfl, _, hfb, hfat⟩ := hF.2 (by omega)
                obtain ⟨y0, y1, y2, y3, ⟨f0, f1, f2, f3⟩, NA, nc, rfl, -, -, rfl, rfl, rfl⟩ := hfat j hjl
                have Hyf := Lib.hid (fun h => refsTo_yes (l := fs) hjl h)
                have Hnf := Lib.hid (fun h => refsTo_no (l := fs) hjl h)
                have Hin : Hid (fs[j].k = 2 → 0 ≤ fs[j].n ∧ fs[j].n < (S.length : Int)) := Lib.hid (fun h2 => by
                  refine HS.out k hlt _ ?_
                  rw [Hkid.out]
                  unfold refsTo
                  rw [List.take_length, List.mem_map]
                  exact ⟨fs[j], List.mem_filter.2 ⟨List.getElem_mem hjl, by simpa using h2⟩, rfl⟩)
                obtain ⟨fk, hfk⟩ : ∃ f, f = fs[j].k := ⟨_, rfl⟩
                obtain ⟨fn, hfn⟩ : ∃ f, f = fs[j].n := ⟨_, rfl⟩
                obtain ⟨fg, hfg⟩ : ∃ f, f = fs[j].g := ⟨_, rfl⟩
                rw [← hfk] at f1 Hyf Hnf Hin
                rw [← hfn] at f2 Hyf Hin
                rw [← hfg] at f3
                clear hfat hF hfk hfn hfg f0
                have hbo := blw1 wr (.cells #[.int .i64 fk, .int .i64 fn, .int .i64 fg] 60)
                have hc4 := hcR.out.below hbo hcR.out.lt
                have hk4 := hkR.out.below hbo hkR.out.lt
                have hw4 := hbw.out.trans (hbo.mono hbw.out.size)
                by_cases he : fk = 2
                · subst he
                  obtain ⟨i, z, rfl, hiN, hz0, hzm, q0, fz, hnb⟩ := unb_at hc4 hbl3.out hsm2.out (Hin.out rfl)
                  have Hn : Hid (Blk ((wr.alloc (.cells #[.int .i64 2, .int .i64 (i : Int), .int .i64 fg] 60)).setCell ⟨gB, i, none⟩ (.int .i64 (z - 1))) gB 3 (vi (unbs C2 (refsTo fs (j + 1)))).toArray) := Lib.hid (by rw [Hyf.out rfl, unbs_one]; exact hnb)
                  have Hk2 := Lib.hid (hk4.far (p := ⟨gB, i, none⟩) (by have := HgB.out; simp; omega) (.int .i64 (z - 1)))
                  have Hw2 := Lib.hid (hw4.setCell (p := ⟨gB, i, none⟩) (by have := HgB.out; simp; omega) (.int .i64 (z - 1)))
                  have hzb : -3000000 ≤ z := by omega
                  clear hnb hz0 hrl Hyf Hnf Hin hcR hkR hbw hbo hc4 hk4 hw4
                  go_wp2
                  go_roundw
                  case rel => exact ⟨j + 1, by omega, by go_num, (by intro h; cases h), Hn, Hk2, Hw2⟩
                  case measure => simp [intOf]; omega
                · have Hn : Hid (Blk (wr.alloc (.cells #[.int .i64 fk, .int .i64 fn, .int .i64 fg] 60)) gB 3 (vi (unbs C2 (refsTo fs (j + 1)))).toArray) := Lib.hid (by rw [Hnf.out he]; exact hc4)
                  have Hk2 := Lib.hid hk4
                  have Hw2 := Lib.hid hw4
                  clear Hyf Hnf Hin hcR hkR hbw hbo hc4 hk4 hw4 hrl
                  go_wp2
                  go_roundw
                  case rel => exact ⟨j + 1, by omega, by go_num, (by intro h; cases h), Hn, Hk2, Hw2⟩
                  case measure => simp [intOf]; omega
            · have Hn : Hid (Blk wr gB 3 (vi (unbs C0 (grayTo S O (k + 1)))).toArray) := Lib.hid (by
                have e : j = fs.length := by omega
                have hcc := hcR.out
                cases ob
                · have hj00 := hj0 rfl
                  subst hj00
                  rw [Hno.out Hgg.out, ← HC2.out]; exact hcc
                · rw [Hy.out Hgg.out, unbs_app, ← HC2.out, Hkid.out, ← e]; exact hcc)
              obtain rfl : j = fs.length := by omega
              clear hcR hF hj0
              go_wp2
              go_roundw
              case rel => exact ⟨k + 1, by omega, by go_num, Hn, hkR, hbw⟩
              case measure => simp [intOf]; omega
        · obtain rfl : k = S.length := by omega
          have E : Hid (leftL S O = C2) := Lib.hid (by unfold leftL; rw [← HC0.out, HC2.out])
          have hlen := hbl2.out
          have Ho : Hid (OwnI wr w.heap.size (some ⟨gB, 0, none⟩) C2.length (gI C2)) := Lib.hid (fun hn => ⟨gB, _, rfl, hcR.out, by have := HgB.out; omega, by simp [vi_len], fun i hi => by
            have : (vi C2)[i]? = some (.int .i64 (gI C2 i)) := by rw [vi_get, List.getElem?_eq_getElem hi, gI_get hi]; rfl
            simpa using this⟩)
          have Hlen := Lib.hid hlen
          clear hcR hlen Hy Hno
          go_wp2
          go_ret
          rw [E.out]
          exact ⟨_, _, by rw [Hlen.out]; rfl, Ho.out, hbw.out⟩
end Go.Proofs.Ytiofabnicdlceaa
