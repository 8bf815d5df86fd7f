/-
  White: may it be drained, and which colours
-/
import Derived.Test.YtiofabnicdlceaaWhich
import Derived.Test.YtiofabnicdlceaaTrialS
import Derived.Test.YtiofabnicdlceaaCountedE
import Derived.Test.YtiofabnicdlceaaTrialD
import Derived.Test.YtiofabnicdlceaaL4refs
import Derived.Test.YtiofabnicdlceaaRefs1
import Derived.Test.YtiofabnicdlceaaTrialI
namespace Go.Proofs.Ytiofabnicdlceaa
open Go.RowKit
set_option linter.unusedVariables false
set_option linter.unusedSimpArgs false

theorem isW_c (c : Int) (w : World) : Calls Try.prog 56 #[.int .i64 c] w fun e w' => e = .returned (.bool (isW c)) ∧ w = w' := by
  unfold isW
  go_enter Try.func56, Try.ntmps56
  go_wp2
  go_ret
  exact ⟨rfl, rfl⟩

set_option maxRecDepth 100000 in
set_option maxHeartbeats 4000000 in
theorem which_isW_c (col : List Int) (N : Nat) (CA : Option Addr) (cn cc gC : Nat) (w : World) (hN : col.length = N) (hl : N ≤ 1048576) (hc : Blk w gC 82 (vi col).toArray) :
    Calls Try.prog 50 #[.agg #[.slice (some ⟨gC, 0, none⟩) N N, .slice CA cn cc], .func (.func 56) #[] #[]] w (AnsO w (col.map isW)) := by
  obtain ⟨i0, hi, hz0, hz1, hz2⟩ := info_parts infoBo
  have hbW := blw1 w (.cells #[.slice (some ⟨gC, 0, none⟩) N N, .slice CA cn cc] 77)
  have HC := Lib.hid (hc.alloc (.cells #[.slice (some ⟨gC, 0, none⟩) N N, .slice CA cn cc] 77))
  have HK := Lib.hid (Blk.new w 77 #[.slice (some ⟨gC, 0, none⟩) N N, .slice CA cn cc])
  have HbW := Lib.hid hbW
  have HN := Lib.hid hN
  have hx := fun c w => isW_c c w
  have Hx := Lib.hid hx
  clear hc hbW hN hx
  go_enter Try.func50, Try.ntmps50
  go_wp2_with fail
  generalize hW : w.alloc (.cells #[.slice (some ⟨gC, 0, none⟩) N N, .slice CA cn cc] 77) = W
  rw [hW] at HC HK HbW
  clear hW
  go_loopw [5, 11] (fun n i wr => ∃ k : Nat, k ≤ N ∧ i = .int .i64 k ∧ Hid (BRow wr W.heap.size n (mapTo isW col k)) ∧ Hid (Below W.heap.size W wr)) (fun _ i _ => N - (intOf i).toNat)
  case atStart => exact ⟨0, Nat.zero_le _, rfl, Lib.hid (BRow.nil _ _), Lib.hid (Below.refl _ _)⟩
  case round =>
    obtain ⟨k, hk, rfl, hrow, hbl⟩ := hrel
    obtain ⟨A', c', rfl, hlc⟩ := hrow.out.form
    have hws := hbl.out.size
    have Hll := Lib.hid (mapTo_len (p := isW) (show k ≤ col.length by rw [HN.out]; exact hk))
    by_cases hlt : k < N
    · have hkc : k < col.length := by rw [HN.out]; exact hlt
      have q0 : wr.cell? ⟨gC, k, none⟩ = some (.int .i64 col[k]) := by
        rw [(HC.out.below hbl.out HC.out.lt).cell]
        have : (vi col)[k]? = some (.int .i64 col[k]) := by rw [vi_get, List.getElem?_eq_getElem hkc]; rfl
        simpa using this
      have Hn := Lib.hid (mapTo_succ (p := isW) hkc)
      have Hc := Lib.hid (Hx.out col[k] wr)
      obtain ⟨z, hz⟩ : ∃ z, z = col[k] := ⟨_, rfl⟩
      rw [← hz] at q0 Hn Hc
      obtain ⟨b, hb⟩ : ∃ b, b = isW z := ⟨_, rfl⟩
      rw [← hb] at Hn Hc
      have Hcell := Lib.hid (cell_one_new wr (.bool b) 4)
      have HO := Lib.hid (hrow.out.alloc (.cells #[.bool b] 4))
      clear hz hb hkc
      go_wp2_with fail
      refine Hc.out.mono ?_
      rintro e w' ⟨rfl, rfl⟩
      go_wp2_with (at_builtin; refine wpList_append_own _ rfl (.tmp 15) (.tmp 19) 43 rfl W.heap.size 4 i0 _ 1 1 Try.underlying43 hi hz0 hz1 hz2 rfl (by omega) _ _ _ rfl HO.out ⟨wr.heap.size, 0, none⟩ 1 1 [.bool b] rfl rfl Hcell.out (by simp [Value.oneCell']) (by have := Hll.out; unfold maxLen; omega) (by have := Hll.out; omega) (by simp; omega) ?_; intro v' w4 hown' hgrow _)
      have hbn : Below W.heap.size W w4 := HO.out.grown (hbl.out.alloc hws _) (by simp; omega) hgrow
      have Hnew := Lib.hid (BRow.snoc hown')
      have Hbn := Lib.hid hbn
      clear hown' hgrow hbn HO Hcell
      go_roundw
      case rel => exact ⟨k + 1, by omega, by go_num, by rw [Hn.out]; exact Hnew, Hbn⟩
      case measure => simp [intOf]; omega
    · obtain rfl : k = N := by omega
      have e : mapTo isW col k = col.map isW := by rw [← HN.out]; exact mapTo_all _ _
      have ho := hrow.out.own
      rw [e] at ho
      have Ho := Lib.hid (ho.lo_le HbW.out.size)
      have E := Lib.hid e
      have Hbw := Lib.hid (HbW.out.trans (hbl.out.mono HbW.out.size))
      clear hrow ho e
      go_wp2
      go_ret
      exact ⟨_, _, by rw [← E.out]; rfl, Ho.out, Hbw.out⟩
end Go.Proofs.Ytiofabnicdlceaa

namespace Go.Proofs.Ytiofabnicdlceaa
open Go.RowKit
set_option linter.unusedVariables false
set_option linter.unusedSimpArgs false

/-- white ones among the first k, gray ones behind -/
def mixW (O K : List Bool) (k : Nat) (i : Nat) : Bool := if i < k then gO O i && !gO K i else gO O i
theorem OwnO.put {w : World} {lo n k : Nat} {A : Option Addr} {O K : List Bool} (h : OwnO w lo A n (mixW O K k)) (hk : k < n) : ∃ g, A = some ⟨g, 0, none⟩ ∧ lo ≤ g ∧ g < w.heap.size ∧ w.cell? ⟨g, k, none⟩ = some (.bool (gO O k)) ∧ w.frozen? ⟨g, k, none⟩ = false ∧ OwnO (w.setCell ⟨g, k, none⟩ (.bool (gO O k && !gO K k))) lo A n (mixW O K (k + 1)) := by
  obtain ⟨g, cs, rfl, hB, hl, hcs, hat⟩ := h (by omega)
  refine ⟨g, rfl, hl, hB.lt, ?_, hB.frozen k, fun _ => ⟨g, _, rfl, hB.set_ k _, hl, by simpa using hcs, fun i hi => ?_⟩⟩
  · rw [hB.cell, hat k hk]
    unfold mixW
    rw [if_neg (by omega)]
  · by_cases e : i = k
    · subst e
      rw [Array.getElem?_setIfInBounds_self_of_lt (by omega)]
      unfold mixW
      rw [if_pos (by omega)]
    · rw [Array.getElem?_setIfInBounds_ne (by omega), hat i hi]
      unfold mixW
      by_cases h1 : i < k
      · rw [if_pos h1, if_pos (by omega)]
      · rw [if_neg h1, if_neg (by omega)]
theorem gI_ilat {w : World} {L B : Nat} {A : Option Addr} {C : List Int} (h : IL w L B A C) {k : Nat} (hk : k < C.length) : ∃ ad, A = some ad ∧ ad.block < B ∧ w.cell? (ad.add k) = some (.int .i64 (gI C k)) := by
  obtain ⟨ad, e, _, hb, hc⟩ := h.2 (by omega)
  exact ⟨ad, e, hb, by rw [hc k hk, gI_get hk]⟩

set_option maxRecDepth 100000 in
set_option maxHeartbeats 8000000 in
theorem l5white_c (a : Ar) (A0 A1 A2 : Option Addr) (c0 c1 c2 L B : Nat) (w : World) (hB : B ≤ w.heap.size) (h : ArL w L B A0 A1 A2 a) (hsz : arSz a ≤ 1048576) (hok : arOk a = true) :
    Calls Try.prog 54 #[.agg #[.slice A0 a.slots.length c0, .slice A1 a.queue.length c1, .slice A2 a.purple.length c2]] w (AnsO w (whiteS a.slots a.purple)) := by
  obtain ⟨hS1, hS16, -⟩ := arOk_at hok
  have HS := Lib.hid (InS.of_ok hok)
  have Hsz := Lib.hid hsz
  have Hok := Lib.hid hok
  have hmk := run_make_row' (P := Try.prog) 43 4 (.bool false) 1 Try.underlying43 infoBo rfl .i64 .i64 a.slots.length (by omega) (by omega)
  rw [made_false] at hmk
  have hbA := blw1 w (.cells #[.slice A0 a.slots.length c0, .slice A1 a.queue.length c1, .slice A2 a.purple.length c2] 32)
  have HK := Lib.hid (Blk.new w 32 #[.slice A0 a.slots.length c0, .slice A1 a.queue.length c1, .slice A2 a.purple.length c2])
  have Hg := Lib.hid (l5gray_c a A0 A1 A2 c0 c1 c2 L B (w.alloc (.cells #[.slice A0 a.slots.length c0, .slice A1 a.queue.length c1, .slice A2 a.purple.length c2] 32)) (Nat.le_trans hB hbA.size) (h.below (hbA.mono hB)) hsz hok)
  have hOl := grayS_len a.slots a.purple
  have H := Lib.hid h
  have HbA := Lib.hid hbA
  have Hwd : Hid (∀ m, Dpa a.slots (keptI a.slots (grayS a.slots a.purple) (leftL a.slots (grayS a.slots a.purple)) a.slots.length) m → m = blackS a.slots a.purple) := Lib.hid (fun m hm => hm.eq)
  have Hww : Hid (∀ j, j < a.slots.length → gO (whiteS a.slots a.purple) j = (gO (grayS a.slots a.purple) j && !gO (blackS a.slots a.purple) j)) := Lib.hid (fun j hj => whiteS_at hj)
  have Hwl := Lib.hid (whiteS_len a.slots a.purple)
  have hCl := leftL_len a.slots (grayS a.slots a.purple)
  have Hlb := Lib.hid (left_lb hok hsz (grayS a.slots a.purple))
  obtain ⟨K, hK⟩ : ∃ k, k = blackS a.slots a.purple := ⟨_, rfl⟩
  obtain ⟨Wh, hW⟩ : ∃ k, k = whiteS a.slots a.purple := ⟨_, rfl⟩
  rw [← hK] at Hwd Hww
  rw [← hW] at Hww Hwl
  rw [← hW]
  obtain ⟨O, hO⟩ : ∃ o, o = grayS a.slots a.purple := ⟨_, rfl⟩
  rw [← hO] at Hg hOl Hwd Hww hCl Hlb
  have Ht := Lib.hid (fun (GA : Option Addr) (gc LG BG : Nat) (w : World) (hB : B ≤ w.heap.size) (hBG : BG ≤ w.heap.size) (h : ArL w L B A0 A1 A2 a) (hG : OL w LG BG GA O) => l5trial_c a O A0 A1 A2 GA c0 c1 c2 gc L B LG BG w hB hBG h hsz hok hOl hG)
  obtain ⟨C, hC⟩ : ∃ c, c = leftL a.slots O := ⟨_, rfl⟩
  rw [← hC] at Ht Hwd hCl Hlb
  clear h hsz hok hbA hO hC hK hW
  have hm : O.length ≤ maxLen := by unfold maxLen; omega
  have HOl := Lib.hid hOl
  have HCl := Lib.hid hCl
  have hO16 : O.length ≤ 16 := by omega
  have hO1 : 0 < O.length := by omega
  clear hOl hCl
  go_enter Try.func54, Try.ntmps54
  go_wp2_with fail
  refine Hg.out.mono ?_
  rintro e w1 ⟨GA, gc, rfl, hgo, hb1⟩
  have hbw1 := HbA.out.trans (hb1.mono HbA.out.size)
  have K1 := HK.out.below hb1 HK.out.lt
  have k0 := K1.cel 0 (v := .slice A0 a.slots.length c0) rfl
  have k1 := K1.cel 1 (v := .slice A1 a.queue.length c1) rfl
  have k2 := K1.cel 2 (v := .slice A2 a.purple.length c2) rfl
  have Htr := Lib.hid (Ht.out GA gc _ _ w1 (Nat.le_trans hB hbw1.size) (Nat.le_refl _) (H.out.below (hbw1.mono hB)) (hgo.olg hm))
  have Hgo := Lib.hid (hgo.lo_le HbA.out.size)
  have HK1 := Lib.hid K1
  have Hb1 := Lib.hid hbw1
  clear hgo hb1 hbw1 K1 Hg HK HbA Ht
  go_wp2_with fail
  refine Htr.out.mono ?_
  rintro e w2 ⟨CA, cc, rfl, hco, hb2⟩
  have Hgo2 := Lib.hid (Hgo.out.below hb2)
  have K2 := HK1.out.below hb2 HK1.out.lt
  have k0 := K2.cel 0 (v := .slice A0 a.slots.length c0) rfl
  have HC2 := Lib.hid (hco.ilg (by have := HCl.out; unfold maxLen; omega))
  have Hb2 := Lib.hid (Hb1.out.trans (hb2.mono Hb1.out.size))
  have Hn := Lib.hid (Blk.new w2 4 (vo (List.replicate a.slots.length false)).toArray)
  have Hk := Lib.hid (K2.alloc (.cells (vo (List.replicate a.slots.length false)).toArray 4))
  have Ha := Lib.hid ((Apart.refl (fun k => k = w2.heap.size) w2).alloc (.cells (vo (List.replicate a.slots.length false)).toArray 4))
  have HKl := Lib.hid K2.lt
  have Hd := Lib.hid (Dpa.start a.slots)
  clear hco hb2 K2 HK1 Hb1 Hgo Htr k1 k2
  go_wp2_with fail
  go_loopw [6] (fun x wr => ∃ (k : Nat) (m : List Bool), k ≤ O.length ∧ x = .int .i64 k ∧ Hid (Dpa a.slots (keptI a.slots O C k) m) ∧ Hid (Blk wr w2.heap.size 4 (vo m).toArray) ∧ Hid (Blk wr w.heap.size 32 #[.slice A0 a.slots.length c0, .slice A1 a.queue.length c1, .slice A2 a.purple.length c2]) ∧ Hid (Apart (fun k => k = w2.heap.size) w2 wr)) (fun x _ => O.length - (intOf x).toNat)
  case atStart => exact ⟨0, _, Nat.zero_le _, rfl, Hd, Hn, Hk, Ha⟩
  case round =>
    obtain ⟨k, m, hk, rfl, hd, hbR, hkR, haR⟩ := hrel
    have hb2r : Below w2.heap.size w2 wr := haR.out.below (Nat.le_refl _) (fun j hj => by omega)
    by_cases hlt : k < O.length
    · obtain ⟨ga, rfl, _, hgb, hgat⟩ := ((Hgo2.out.olg hm).below hb2r).2 (by omega)
      have o0 := hgat k hlt
      rw [← gO_get hlt] at o0
      have hkC : k < C.length := by have := HCl.out; have := HOl.out; omega
      obtain ⟨ca, rfl, hcb, hcat⟩ := gI_ilat (HC2.out.below hb2r) hkC
      have Hy := Lib.hid (fun h => keptI_yes (S := a.slots) (O := O) (C := C) (k := k) h)
      have Hno := Lib.hid (fun h => keptI_no (S := a.slots) (O := O) (C := C) (k := k) h)
      obtain ⟨ob, hob⟩ : ∃ b, b = gO O k := ⟨_, rfl⟩
      obtain ⟨z, hz⟩ : ∃ z, z = gI C k := ⟨_, rfl⟩
      rw [← hob] at o0 Hy Hno
      rw [← hz] at hcat Hy Hno
      clear hgat hob hz
      cases ob
      · have Hd5 : Hid (Dpa a.slots (keptI a.slots O C (k + 1)) m) := Lib.hid (by rw [Hno.out rfl]; exact hd.out)
        clear Hy Hno hd hb2r
        go_wp2
        go_roundw
        case rel => exact ⟨k + 1, m, by omega, by go_num, Hd5, hbR, hkR, haR⟩
        case measure => simp [intOf]; omega
      · by_cases hz0 : 0 < z
        · have hkN : k < a.slots.length := by have := HOl.out; omega
          have hB2 := Hb2.out.size
          have hbwr := Hb2.out.trans (hb2r.mono Hb2.out.size)
          have Hc := Lib.hid (l4mark_c a A0 A1 A2 c0 c1 c2 L B w2.heap.size Hsz.out HS.out (.inr (Nat.le_trans hB hB2)) _ m k wr (Nat.le_refl _) hkN hd.out.len (Nat.le_trans hB hbwr.size) (H.out.below (hbwr.mono hB)) hbR.out)
          have Hst : Hid (∀ m', Dps a.slots m m' k → Dpa a.slots (keptI a.slots O C (k + 1)) m') := Lib.hid (fun m' hdd => by rw [Hy.out (by rw [decide_eq_true hz0]; rfl)]; exact hd.out.step hdd)
          have k0 := hkR.out.cel 0 (v := .slice A0 a.slots.length c0) rfl
          have k1 := hkR.out.cel 1 (v := .slice A1 a.queue.length c1) rfl
          have k2 := hkR.out.cel 2 (v := .slice A2 a.purple.length c2) rfl
          clear Hy Hno hd hbR hb2r hbwr
          go_wp2_with fail
          refine Hc.out.mono ?_
          rintro e w5 ⟨v, m', rfl, hdd, hb5, ha5⟩
          have Hd5 := Lib.hid (Hst.out m' hdd)
          have Hb5 := Lib.hid hb5
          have Ha5 := Lib.hid (haR.out.trans ha5)
          have Hk5 := Lib.hid (hkR.out.apart ha5 (by have := HKl.out; omega))
          clear hdd hb5 ha5 Hc Hst k0 k1 k2 hkR haR
          go_wp2
          go_roundw
          case rel => exact ⟨k + 1, m', by omega, by go_num, Hd5, Hb5, Hk5, Ha5⟩
          case measure => simp [intOf]; omega
        · have Hd5 : Hid (Dpa a.slots (keptI a.slots O C (k + 1)) m) := Lib.hid (by rw [Hno.out (by rw [decide_eq_false hz0]; rfl)]; exact hd.out)
          clear Hy Hno hd hb2r
          go_wp2
          go_roundw
          case rel => exact ⟨k + 1, m, by omega, by go_num, Hd5, hbR, hkR, haR⟩
          case measure => simp [intOf]; omega
    · obtain rfl : k = O.length := by omega
      obtain ⟨w3, hw3⟩ : ∃ x, x = wr := ⟨_, rfl⟩
      subst hw3
      have hm2 : m = K := Hwd.out m (by have e := HOl.out; rw [e] at hd; exact hd.out)
      subst hm2
      have HKlen := Lib.hid hd.out.len
      have HKm := Lib.hid (show OL w3 w2.heap.size w3.heap.size (some ⟨w2.heap.size, 0, none⟩) m from (OwnO.of_blk hbR.out (Nat.le_refl _)).olg (by have := HKlen.out; unfold maxLen; omega))
      have Hgr : Hid (OwnO w3 w.heap.size GA O.length (mixW O m 0)) := Lib.hid ((Hgo2.out.below hb2r).ext (fun i hi => by unfold mixW; rw [if_neg (by omega)]))
      have HgN : Hid (∀ ad, GA = some ad → ad.block < w2.heap.size) := Lib.hid (fun ad e => by
        obtain ⟨g, cs, e2, hBg, _⟩ := Hgo2.out (by omega)
        rw [e2] at e
        cases e
        exact hBg.lt)
      have Hbw := Lib.hid (Hb2.out.trans (hb2r.mono Hb2.out.size))
      clear hd hbR hb2r haR hkR
      go_wp2_with fail
      go_loopw [7] (fun x wq => ∃ k : Nat, k ≤ O.length ∧ x = .int .i64 k ∧ Hid (OwnO wq w.heap.size GA O.length (mixW O m k)) ∧ Hid (OL wq w2.heap.size w3.heap.size (some ⟨w2.heap.size, 0, none⟩) m) ∧ Hid (Below w.heap.size w wq)) (fun x _ => O.length - (intOf x).toNat)
      case atStart => exact ⟨0, Nat.zero_le _, rfl, Hgr, HKm, Hbw⟩
      case round =>
        obtain ⟨k, hk, rfl, hg, hKm, hbw⟩ := hrel
        by_cases hlt : k < O.length
        · obtain ⟨g, rfl, hgl, hglt, o0, z0, hnew⟩ := hg.out.put hlt
          have hgn := HgN.out _ rfl
          have hkm : k < m.length := by have := HKlen.out; have := HOl.out; omega
          have hkN : k < a.slots.length := by have := HOl.out; omega
          obtain ⟨ka, e, _, hkb, hkat⟩ := hKm.out.2 (by omega)
          cases e
          have b0 := hkat k hkm
          rw [← gO_get hkm, add_zero_] at b0
          have Hnew := Lib.hid hnew
          have Hkn : Hid (OL (wr.setCell ⟨g, k, none⟩ (.bool (gO O k && !gO m k))) w2.heap.size w3.heap.size (some ⟨w2.heap.size, 0, none⟩) m) := Lib.hid (hKm.out.keep (fun p h1 _ => World.cell?_setCell_other _ _ _ _ (fun e => by rw [← e] at h1; simp at h1 hgn; omega)))
          have Hbn := Lib.hid (hbw.out.setCell (p := ⟨g, k, none⟩) hgl (.bool (gO O k && !gO m k)))
          obtain ⟨ob, hob⟩ : ∃ b, b = gO O k := ⟨_, rfl⟩
          obtain ⟨kb, hkbe⟩ : ∃ b, b = gO m k := ⟨_, rfl⟩
          rw [← hob] at o0 Hnew Hkn Hbn
          rw [← hkbe] at b0 Hnew Hkn Hbn
          clear hkat hob hkbe hnew hg hKm hbw
          cases ob <;> cases kb
          all_goals
            simp only [Bool.not_true, Bool.not_false, Bool.and_true, Bool.and_false, Bool.true_and, Bool.false_and] at Hnew Hkn Hbn
            go_wp2
            go_roundw
            case rel => exact ⟨k + 1, by omega, by go_num, Hnew, Hkn, Hbn⟩
            case measure => simp [intOf]; omega
        · obtain rfl : k = O.length := by omega
          have Ho : Hid (OwnO wr w.heap.size GA Wh.length (gO Wh)) := Lib.hid (by
            rw [Hwl.out, ← HOl.out]
            refine hg.out.ext fun i hi => ?_
            rw [Hww.out i (by have := HOl.out; omega)]
            unfold mixW
            rw [if_pos hi])
          have Hl : Hid (O.length = Wh.length) := Lib.hid (by rw [Hwl.out, HOl.out])
          clear hg hKm
          go_wp2
          go_ret
          exact ⟨_, _, by rw [← Hl.out]; rfl, Ho.out, hbw.out⟩
end Go.Proofs.Ytiofabnicdlceaa

namespace Go.Proofs.Ytiofabnicdlceaa
open Go.RowKit
set_option linter.unusedVariables false
set_option linter.unusedSimpArgs false

def cntLe (S : List Sl) (Q : List Int) : Bool := (List.range S.length).all fun i => decide ((cntR S Q []).getD i 0 ≤ (cntTo S S.length).getD i 0)
theorem cntLe_no {S : List Sl} {Q : List Int} {i : Nat} (h : i < S.length) (hn : S[i].count < (cntR S Q []).getD i 0) : cntLe S Q = false := by
  unfold cntLe
  refine range_not h ?_
  rw [cntTo_get h]
  exact decide_eq_false (by omega)
theorem roots_nil (S : List Sl) : rootsA S [] = true := by simp [rootsA]
theorem cntLe_yes {a : Ar} (hok : arOk a = true) (h : ∀ i (hi : i < a.slots.length), a.slots[i].live = true → ¬ a.slots[i].count < (cntR a.slots a.queue []).getD i 0) : cntLe a.slots a.queue = true := by
  unfold cntLe
  rw [List.all_eq_true]
  intro i hi
  rw [List.mem_range] at hi
  rw [cntTo_get hi]
  refine decide_eq_true ?_
  cases hl : a.slots[i].live
  · have h0 := ((arOk_live hok).1 _ (List.getElem_mem hi)).2 hl
    have h1 := cntR_dead hok (roots_nil a.slots) hi hl
    rw [h0, h1.1]; exact Int.le_refl _
  · have := h i hi hl
    omega
def mayA (a : Ar) : Bool := arOk a && cntLe a.slots a.queue
noncomputable def whiteA (a : Ar) : List Bool := if (mayA a && decide (a.queue.length = 0)) = true then whiteS a.slots a.purple else []
theorem whiteA_bd (a : Ar) (h : arSz a ≤ 1048576) : (whiteA a).length ≤ 1048576 := by
  unfold whiteA
  split
  · rw [whiteS_len]; unfold arSz slsSz at h; omega
  · simp
theorem VlL.nil_ (w : World) (L B : Nat) (A : Option Addr) : VlL w L B A [] := ⟨Nat.zero_le _, fun h => absurd h (by simp)⟩
end Go.Proofs.Ytiofabnicdlceaa

namespace Go.Proofs.Ytiofabnicdlceaa
open Go.RowKit
set_option linter.unusedVariables false
set_option linter.unusedSimpArgs false

section
variable (a : Ar) (A0 A1 A2 : Option Addr) (c0 c1 c2 L B : Nat) (w : World)

set_option maxRecDepth 100000 in
set_option maxHeartbeats 4000000 in
theorem l5counted_c (hB : B ≤ w.heap.size) (h : ArL w L B A0 A1 A2 a) (hsz : arSz a ≤ 1048576) (hok : arOk a = true) :
    Calls Try.prog 53 #[.agg #[.slice A0 a.slots.length c0, .slice A1 a.queue.length c1, .slice A2 a.purple.length c2]] w fun e w' => e = .returned (.bool (cntLe a.slots a.queue)) ∧ Below w.heap.size w w' := by
  have hbW := blw1 w (.cells #[.slice A0 a.slots.length c0, .slice A1 a.queue.length c1, .slice A2 a.purple.length c2] 32)
  have HKA := Lib.hid (Blk.new w 32 #[.slice A0 a.slots.length c0, .slice A1 a.queue.length c1, .slice A2 a.purple.length c2])
  have Hc := Lib.hid (l4refs_c a A0 A1 A2 c0 c1 c2 [] none 0 0 0 0 (w.alloc (.cells #[.slice A0 a.slots.length c0, .slice A1 a.queue.length c1, .slice A2 a.purple.length c2] 32)) hsz hok (roots_nil _) ((h.1.below (hbW.mono hB)).more (Nat.zero_le _) (Nat.le_trans hB hbW.size)) (VlL.nil_ _ _ _ _) ((h.2.1.below (hbW.mono hB)).more (Nat.zero_le _) (Nat.le_trans hB hbW.size)))
  have HbW := Lib.hid hbW
  have HS := Lib.hid h.1
  have hS : a.slots.length ≤ 1048576 := by unfold arSz slsSz at hsz; omega
  have Hno := Lib.hid (fun (i : Nat) (hi : i < a.slots.length) => cntLe_no (Q := a.queue) hi)
  have Hyes := Lib.hid (cntLe_yes hok)
  have hlen := cntR_len a.slots a.queue []
  obtain ⟨r, hr⟩ : ∃ r, cntR a.slots a.queue [] = r := ⟨_, rfl⟩
  obtain ⟨b, hb⟩ : ∃ b, cntLe a.slots a.queue = b := ⟨_, rfl⟩
  obtain ⟨S, Q, P⟩ := a
  dsimp only at *
  rw [hr] at Hc Hno Hyes hlen
  rw [hb] at Hno Hyes
  rw [hb]
  have HL := Lib.hid hlen
  clear h hsz hbW hok hr hb hlen
  simp only [List.length_nil] at Hc
  go_enter Try.func53, Try.ntmps53
  go_wp2_with fail
  refine Hc.out.mono ?_
  rintro e w1 ⟨Ar, cr, rfl, hor, hb1⟩
  have hmr : r.length ≤ maxLen := by have := HL.out; unfold maxLen; omega
  have HIr := Lib.hid (hor.ilg hmr)
  have hb01 := HbW.out.trans (hb1.mono HbW.out.size)
  have HK1 := Lib.hid (HKA.out.below hb1 HKA.out.lt)
  have HS1 := Lib.hid (HS.out.below (hb01.mono hB))
  have Hb01 := Lib.hid hb01
  rw [HL.out]
  clear hor hb1 hb01 HKA HbW HS Hc hmr
  go_wp2_with fail
  go_loopw [4] (fun i wr => ∃ k : Nat, k ≤ S.length ∧ i = .int .i64 k ∧ Hid (∀ j (hj : j < S.length), j < k → S[j].live = true → ¬ S[j].count < r.getD j 0) ∧ ∃ n, wr = w1.drewN n) (fun i _ => S.length - (intOf i).toNat)
  case atStart => exact ⟨0, Nat.zero_le _, rfl, Lib.hid (fun j hj h => by omega), 0, rfl⟩
  case round =>
    obtain ⟨k, hk, rfl, hall, n, rfl⟩ := hrel
    have p0 := HK1.out.cel 0 (v := .slice A0 S.length c0) rfl
    by_cases hlt : k < S.length
    · obtain ⟨ad, rfl, _, hbk, hat⟩ := HS1.out.2 (by omega)
      obtain ⟨x0, x1, x2, x3, ⟨d0, d1, d2, d3⟩, rfl, rfl, rfl, _⟩ := hat k hlt
      obtain ⟨ar, rfl, _, hbr, hatr⟩ := HIr.out.2 (by have := HL.out; omega)
      have e0 := hatr k (by have := HL.out; omega)
      have hge : r[k]'(by have := HL.out; omega) = r.getD k 0 := by rw [List.getD_eq_getElem?_getD, List.getElem?_eq_getElem (by have := HL.out; omega)]; rfl
      rw [hge] at e0
      have Hk := Lib.hid (Hno.out k hlt)
      have Hs : Hid ((S[k].live = true → ¬ S[k].count < r.getD k 0) → ∀ j (hj : j < S.length), j < k + 1 → S[j].live = true → ¬ S[j].count < r.getD j 0) := Lib.hid (fun e j hj h => by
        by_cases ej : j = k
        · subst ej; exact e
        · exact hall.out j hj (by omega))
      obtain ⟨lv, hlv⟩ : ∃ x, S[k].live = x := ⟨_, rfl⟩
      obtain ⟨ct, hct⟩ : ∃ x, S[k].count = x := ⟨_, rfl⟩
      obtain ⟨y, hy⟩ : ∃ x, r.getD k 0 = x := ⟨_, rfl⟩
      rw [hlv] at d0 Hs
      rw [hct] at d2 Hk Hs
      rw [hy] at e0 Hk Hs
      clear hat hatr hge hlv hct hy hall d1 d3
      cases lv
      · have Hnew := Lib.hid (Hs.out (fun h => by cases h))
        clear Hs Hk
        go_wp2
        go_quiet (fail)
        go_wp2
        go_roundw
        case rel => exact ⟨k + 1, by omega, by go_num, Lib.hid (fun j hj h1 h2 => Int.not_lt.mpr (Hnew.out j hj h1 h2)), _, rfl⟩
        case measure => simp [intOf]; omega
      · by_cases hxy : ct < y
        · have Hr := Lib.hid (Hk.out hxy)
          have hd : decide (ct < y) = true := decide_eq_true hxy
          clear Hs Hk
          go_wp2
          go_quiet (fail)
          go_wp2
          go_ret
          exact ⟨by rw [Hr.out]; rfl, ⟨Hb01.out.os, Hb01.out.tape, Hb01.out.output, Hb01.out.size, Hb01.out.block⟩⟩
        · have Hnew := Lib.hid (Hs.out (fun _ => hxy))
          have hd : decide (ct < y) = false := decide_eq_false hxy
          clear Hs Hk
          go_wp2
          go_quiet (fail)
          go_wp2
          go_roundw
          case rel => exact ⟨k + 1, by omega, by go_num, Lib.hid (fun j hj h1 h2 => Int.not_lt.mpr (Hnew.out j hj h1 h2)), _, rfl⟩
          case measure => simp [intOf]; omega
    · have Hr := Lib.hid (Hyes.out (fun j hj h1 => Int.not_lt.mp (hall.out j hj (by omega) h1)))
      clear hall
      go_wp2
      go_ret
      exact ⟨by rw [Hr.out]; rfl, ⟨Hb01.out.os, Hb01.out.tape, Hb01.out.output, Hb01.out.size, Hb01.out.block⟩⟩

set_option maxRecDepth 100000 in
set_option maxHeartbeats 4000000 in
theorem specWhite_c (hB : B ≤ w.heap.size) (h : ArL w L B A0 A1 A2 a) (hsz : arSz a ≤ 1048576) (hc : a.purple.length ≤ c2) :
    Calls Try.prog 28 #[.agg #[.slice A0 a.slots.length c0, .slice A1 a.queue.length c1, .slice A2 a.purple.length c2]] w (AnsO w (whiteA a)) := by
  have hbW := blw1 w (.cells #[.slice A0 a.slots.length c0, .slice A1 a.queue.length c1, .slice A2 a.purple.length c2] 32)
  have HR := Lib.hid (okAt a A0 A1 A2 c0 c1 c2 L B w _ h hsz hc (hbW.mono hB) (Nat.le_trans hB hbW.size))
  have HbW := Lib.hid hbW
  have HKA := Lib.hid (Blk.new w 32 #[.slice A0 a.slots.length c0, .slice A1 a.queue.length c1, .slice A2 a.purple.length c2])
  have H := Lib.hid h
  have Hsz := Lib.hid hsz
  clear h hsz hbW
  go_enter Try.func28, Try.ntmps28
  go_wp2_with fail
  refine HR.out.mono ?_
  rintro e w1 ⟨rfl, hb⟩
  have hb1 := HbW.out.trans (hb.mono HbW.out.size)
  have KA1 := HKA.out.below hb HKA.out.lt
  have q0 := KA1.cel 0 (v := .slice A0 a.slots.length c0) rfl
  have q1 := KA1.cel 1 (v := .slice A1 a.queue.length c1) rfl
  have q2 := KA1.cel 2 (v := .slice A2 a.purple.length c2) rfl
  cases hok : arOk a
  · have E := Lib.hid (show whiteA a = [] by unfold whiteA mayA; rw [hok]; rfl)
    have Hb := Lib.hid hb1
    clear hb HbW HR hb1 KA1 HKA hok
    go_wp2
    go_ret
    rw [E.out]
    exact AnsO.nil Hb.out
  · have Hcd := Lib.hid (l5counted_c a A0 A1 A2 c0 c1 c2 L B w1 (Nat.le_trans hB hb1.size) (H.out.below (hb1.mono hB)) Hsz.out hok)
    have Hb := Lib.hid hb1
    have HK := Lib.hid KA1
    have Hok := Lib.hid hok
    clear hb HbW HR hb1 KA1 HKA hok
    go_wp2_with fail
    refine Hcd.out.mono ?_
    rintro e w2 ⟨rfl, hb⟩
    have hb2 := Hb.out.trans (hb.mono Hb.out.size)
    have K2 := HK.out.below hb HK.out.lt
    have q0 := K2.cel 0 (v := .slice A0 a.slots.length c0) rfl
    have q1 := K2.cel 1 (v := .slice A1 a.queue.length c1) rfl
    have q2 := K2.cel 2 (v := .slice A2 a.purple.length c2) rfl
    have Hb2 := Lib.hid hb2
    cases hcl : cntLe a.slots a.queue
    · have E := Lib.hid (show whiteA a = [] by unfold whiteA mayA; rw [hcl]; simp)
      clear hb hb2 K2 HK Hb Hcd hcl
      go_wp2
      go_ret
      rw [E.out]
      exact AnsO.nil Hb2.out
    · by_cases hq : 0 < a.queue.length
      · have E := Lib.hid (show whiteA a = [] by unfold whiteA; rw [show decide (a.queue.length = 0) = false from decide_eq_false (by omega)]; simp)
        have hqi : (0 : Int) < (a.queue.length : Int) := by omega
        clear hb hb2 K2 HK Hb Hcd hcl
        go_wp2
        go_ret
        rw [E.out]
        exact AnsO.nil Hb2.out
      · have E := Lib.hid (show whiteA a = whiteS a.slots a.purple by unfold whiteA mayA; rw [Hok.out, hcl, show decide (a.queue.length = 0) = true from decide_eq_true (by omega)]; rfl)
        have hqi : ¬ (0 : Int) < (a.queue.length : Int) := by omega
        have Hw := Lib.hid (l5white_c a A0 A1 A2 c0 c1 c2 L B w2 (Nat.le_trans hB hb2.size) (H.out.below (hb2.mono hB)) Hsz.out Hok.out)
        obtain ⟨O, hO⟩ : ∃ o, o = whiteS a.slots a.purple := ⟨_, rfl⟩
        rw [← hO] at E Hw
        clear hb hb2 K2 HK Hb Hcd hcl hO
        go_wp2_with fail
        refine Hw.out.mono ?_
        rintro e w3 ⟨OA, oc, rfl, ho, hb3⟩
        have Ho := Lib.hid (ho.lo_le Hb2.out.size)
        have Hb3 := Lib.hid (Hb2.out.trans (hb3.mono Hb2.out.size))
        clear ho hb3 Hw
        go_wp2
        go_ret
        rw [E.out]
        exact ⟨_, _, rfl, Ho.out, Hb3.out⟩
end
end Go.Proofs.Ytiofabnicdlceaa

namespace Go.Proofs.Ytiofabnicdlceaa
open Go.RowKit
set_option linter.unusedVariables false
set_option linter.unusedSimpArgs false

theorem col_white (S : List Sl) (P : List Int) : (colF S P).map isW = whiteS S P := by
  refine gO_ext (by rw [List.length_map, colF_len, whiteS_len]) fun j hj => ?_
  rw [List.length_map, colF_len] at hj
  have e : gO ((colF S P).map isW) j = isW (gI (colF S P) j) := by
    rw [gO_get (by rw [List.length_map, colF_len]; exact hj), List.getElem_map, gI_get (by rw [colF_len]; exact hj)]
  rw [e, colF_at hj, whiteS_at hj]
  cases gO (grayS S P) j
  · simp [isW]
  · cases gO (blackS S P) j <;> simp [isW]
section
variable (a : Ar) (A0 A1 A2 : Option Addr) (c0 c1 c2 L B : Nat) (w : World)

set_option maxRecDepth 100000 in
set_option maxHeartbeats 4000000 in
theorem mayDrain_c (hB : B ≤ w.heap.size) (h : ArL w L B A0 A1 A2 a) (hsz : arSz a ≤ 1048576) :
    Calls Try.prog 55 #[.agg #[.slice A0 a.slots.length c0, .slice A1 a.queue.length c1, .slice A2 a.purple.length c2]] w fun e w' => e = .returned (.bool (mayA a)) ∧ Below w.heap.size w w' := by
  have hbW := blw1 w (.cells #[.slice A0 a.slots.length c0, .slice A1 a.queue.length c1, .slice A2 a.purple.length c2] 32)
  have HR := Lib.hid (roomAt a A0 A1 A2 c0 c1 c2 L B w _ h hsz (hbW.mono hB) (Nat.le_trans hB hbW.size))
  have HbW := Lib.hid hbW
  have Hsz := Lib.hid hsz
  have HQ := Lib.hid h.2.1
  clear h hsz hbW
  go_enter Try.func55, Try.ntmps55
  go_wp2_with fail
  refine HR.out.mono ?_
  rintro e w1 ⟨u0, u1, u2, u3, rfl, hb, hu, hyes⟩
  have Hb := Lib.hid (HbW.out.trans (hb.mono HbW.out.size))
  cases hok : arOk a
  · have E := Lib.hid (show mayA a = false by unfold mayA; rw [hok]; rfl)
    obtain ⟨_, _, _, rfl⟩ := hu u0 (by simp)
    obtain ⟨_, _, _, rfl⟩ := hu u1 (by simp)
    obtain ⟨_, _, _, rfl⟩ := hu u2 (by simp)
    obtain ⟨_, _, _, rfl⟩ := hu u3 (by simp)
    clear hu hb HbW HR hyes hok
    go_wp2
    go_ret
    exact ⟨by rw [E.out]; rfl, Hb.out.alloc Hb.out.size _⟩
  · obtain ⟨A, c, rfl, hsl, -, rfl, rfl⟩ := hyes hok
    obtain ⟨LA, ln, lc, rfl⟩ := hu u1 (by simp)
    have hbr := blw1 w1 (.cells #[.slice A a.slots.length c, .slice LA ln lc, .slice A1 a.queue.length c1, .slice A2 a.purple.length c2] 66)
    have KR := Lib.hid (Blk.new w1 66 #[.slice A a.slots.length c, .slice LA ln lc, .slice A1 a.queue.length c1, .slice A2 a.purple.length c2])
    have Hb2 := Lib.hid (Hb.out.trans (hbr.mono Hb.out.size))
    have HS2 := Lib.hid ((hsl.below hbr).more (Nat.le_refl _) hbr.size)
    have Hrf := Lib.hid (refs_c a A LA A1 A2 c ln lc c1 c2 [] none 0 0 L (w1.alloc (.cells #[.slice A a.slots.length c, .slice LA ln lc, .slice A1 a.queue.length c1, .slice A2 a.purple.length c2] 66)) Hsz.out hok (roots_nil _) HS2.out (VlL.nil_ _ _ _ _) ((HQ.out.below (Hb2.out.mono hB)).more (Nat.le_refl _) (Nat.le_trans hB Hb2.out.size)))
    have hS16 := (arOk_at hok).2.1
    have E := Lib.hid (show mayA a = cntLe a.slots a.queue by unfold mayA; rw [hok]; rfl)
    have Hno := Lib.hid (fun (i : Nat) (hi : i < a.slots.length) => cntLe_no (Q := a.queue) hi)
    have Hyes := Lib.hid (fun h => cntLe_yes hok h)
    have hlen := cntR_len a.slots a.queue []
    obtain ⟨r, hr⟩ : ∃ r, cntR a.slots a.queue [] = r := ⟨_, rfl⟩
    obtain ⟨b, hbe⟩ : ∃ b, cntLe a.slots a.queue = b := ⟨_, rfl⟩
    rw [hr] at Hrf Hno Hyes hlen
    rw [hbe] at Hno Hyes E
    have HL := Lib.hid hlen
    clear hu hb HbW HR hyes hok hsl hbr hr hbe hlen
    simp only [List.length_nil] at Hrf
    go_wp2_with fail
    refine Hrf.out.mono ?_
    rintro e w2 ⟨RA, rc, rfl, hro, hb2⟩
    have hmr : r.length ≤ maxLen := by have := HL.out; unfold maxLen; omega
    have HIr := Lib.hid (hro.ilg hmr)
    have HK2 := Lib.hid (KR.out.below hb2 KR.out.lt)
    have HS3 := Lib.hid (HS2.out.below hb2)
    have Hb3 := Lib.hid (Hb2.out.trans (hb2.mono Hb2.out.size))
    have p0 := HK2.out.cel 0 (v := .slice A a.slots.length c) rfl
    rw [HL.out]
    clear hro hb2 KR HS2 Hrf hmr
    go_wp2_with fail
    go_loopw [17] (fun i wr => ∃ k : Nat, k ≤ a.slots.length ∧ i = .int .i64 k ∧ Hid (∀ j (hj : j < a.slots.length), j < k → ¬ a.slots[j].count < r.getD j 0) ∧ ∃ n, wr = w2.drewN n) (fun i _ => a.slots.length - (intOf i).toNat)
    case atStart => exact ⟨0, Nat.zero_le _, rfl, Lib.hid (fun j hj h => by omega), 0, rfl⟩
    case round =>
      obtain ⟨k, hk, rfl, hall, n, rfl⟩ := hrel
      by_cases hlt : k < a.slots.length
      · obtain ⟨ad, rfl, _, hbk, hat⟩ := HS3.out.2 (by omega)
        obtain ⟨x0, x1, x2, x3, ⟨d0, d1, d2, d3⟩, rfl, rfl, rfl, _⟩ := hat k hlt
        obtain ⟨ar, rfl, _, hbr, hatr⟩ := HIr.out.2 (by have := HL.out; omega)
        have e0 := hatr k (by have := HL.out; omega)
        have hge : r[k]'(by have := HL.out; omega) = r.getD k 0 := by rw [List.getD_eq_getElem?_getD, List.getElem?_eq_getElem (by have := HL.out; omega)]; rfl
        rw [hge] at e0
        have Hk := Lib.hid (Hno.out k hlt)
        have Hs : Hid (¬ a.slots[k].count < r.getD k 0 → ∀ j (hj : j < a.slots.length), j < k + 1 → ¬ a.slots[j].count < r.getD j 0) := Lib.hid (fun e j hj h => by
          by_cases ej : j = k
          · subst ej; exact e
          · exact hall.out j hj (by omega))
        obtain ⟨ct, hct⟩ : ∃ x, a.slots[k].count = x := ⟨_, rfl⟩
        obtain ⟨y, hy⟩ : ∃ x, r.getD k 0 = x := ⟨_, rfl⟩
        rw [hct] at d2 Hk Hs
        rw [hy] at e0 Hk Hs
        clear hat hatr hge hct hy hall d0 d1 d3
        by_cases hxy : ct < y
        · have Hr := Lib.hid (Hk.out hxy)
          clear Hs Hk
          go_wp2
          go_ret
          exact ⟨by rw [E.out, Hr.out]; rfl, ⟨Hb3.out.os, Hb3.out.tape, Hb3.out.output, Hb3.out.size, Hb3.out.block⟩⟩
        · have Hnew := Lib.hid (Hs.out hxy)
          clear Hs Hk
          go_wp2
          go_roundw
          case rel => exact ⟨k + 1, by omega, by go_num, Hnew, _, rfl⟩
          case measure => simp [intOf]; omega
      · have Hr := Lib.hid (Hyes.out (fun j hj _ => Int.not_lt.mp (hall.out j hj (by omega))))
        clear hall
        go_wp2
        go_ret
        exact ⟨by rw [E.out, Hr.out]; rfl, ⟨Hb3.out.os, Hb3.out.tape, Hb3.out.output, Hb3.out.size, Hb3.out.block⟩⟩

set_option maxRecDepth 100000 in
set_option maxHeartbeats 4000000 in
theorem implWhite_c (hB : B ≤ w.heap.size) (h : ArL w L B A0 A1 A2 a) (hsz : arSz a ≤ 1048576) :
    Calls Try.prog 29 #[.agg #[.slice A0 a.slots.length c0, .slice A1 a.queue.length c1, .slice A2 a.purple.length c2]] w (AnsO w (whiteA a)) := by
  have hbW := blw1 w (.cells #[.slice A0 a.slots.length c0, .slice A1 a.queue.length c1, .slice A2 a.purple.length c2] 32)
  have HR := Lib.hid (mayDrain_c a A0 A1 A2 c0 c1 c2 L B (w.alloc (.cells #[.slice A0 a.slots.length c0, .slice A1 a.queue.length c1, .slice A2 a.purple.length c2] 32)) (Nat.le_trans hB hbW.size) (h.below (hbW.mono hB)) hsz)
  have HbW := Lib.hid hbW
  have HKA := Lib.hid (Blk.new w 32 #[.slice A0 a.slots.length c0, .slice A1 a.queue.length c1, .slice A2 a.purple.length c2])
  have H := Lib.hid h
  have Hsz := Lib.hid hsz
  clear h hsz hbW
  go_enter Try.func29, Try.ntmps29
  go_wp2_with fail
  refine HR.out.mono ?_
  rintro e w1 ⟨rfl, hb⟩
  have hb1 := HbW.out.trans (hb.mono HbW.out.size)
  have KA1 := HKA.out.below hb HKA.out.lt
  have q0 := KA1.cel 0 (v := .slice A0 a.slots.length c0) rfl
  have q1 := KA1.cel 1 (v := .slice A1 a.queue.length c1) rfl
  have q2 := KA1.cel 2 (v := .slice A2 a.purple.length c2) rfl
  have Hb := Lib.hid hb1
  cases hmy : mayA a
  · have E := Lib.hid (show whiteA a = [] by unfold whiteA; rw [hmy]; rfl)
    clear hb HbW HR hb1 KA1 HKA hmy
    go_wp2
    go_ret
    rw [E.out]
    exact AnsO.nil Hb.out
  · by_cases hq : 0 < a.queue.length
    · have E := Lib.hid (show whiteA a = [] by unfold whiteA; rw [show decide (a.queue.length = 0) = false from decide_eq_false (by omega)]; simp)
      have hqi : (0 : Int) < (a.queue.length : Int) := by omega
      clear hb HbW HR hb1 KA1 HKA hmy
      go_wp2
      go_ret
      rw [E.out]
      exact AnsO.nil Hb.out
    · have E := Lib.hid (show whiteA a = whiteS a.slots a.purple by unfold whiteA; rw [hmy, show decide (a.queue.length = 0) = true from decide_eq_true (by omega)]; rfl)
      have hqi : ¬ (0 : Int) < (a.queue.length : Int) := by omega
      have hok : arOk a = true := by unfold mayA at hmy; rw [Bool.and_eq_true] at hmy; exact hmy.1
      have HL1 := Lib.hid (H.out.below (hb1.mono hB))
      have Htr := Lib.hid (trialOf_c a.slots a.queue a.purple A0 A1 A2 c0 c1 c2 L B w1 (Nat.le_trans hB hb1.size) HL1.out Hsz.out hok (fun X hX hBX => roomAt a A0 A1 A2 c0 c1 c2 L B w1 X HL1.out Hsz.out hX hBX))
      have HM : Hid ((colF a.slots a.purple).map isW = whiteS a.slots a.purple) := Lib.hid (col_white _ _)
      have hS16 := (arOk_at hok).2.1
      have HCF := Lib.hid (colF_len a.slots a.purple)
      obtain ⟨col, hcol⟩ : ∃ c, c = colF a.slots a.purple := ⟨_, rfl⟩
      unfold TriQ at Htr
      rw [← hcol] at HM HCF Htr
      clear hb HbW HR hb1 KA1 HKA hok hcol HL1 hmy
      go_wp2_with fail
      refine Htr.out.mono ?_
      rintro e w2 ⟨gC, CA, cc, rfl, hC, hge, ho, hb2⟩
      have Hw := Lib.hid (which_isW_c col a.slots.length CA a.slots.length cc gC w2 HCF.out (by omega) hC)
      rw [HM.out] at Hw
      have Hb2 := Lib.hid (Hb.out.trans (hb2.mono Hb.out.size))
      clear hC hge ho hb2 Htr
      go_wp2_with fail
      refine Hw.out.mono ?_
      rintro e w3 ⟨OA, oc, rfl, ho, hb3⟩
      have Ho := Lib.hid (ho.lo_le Hb2.out.size)
      have Hb3 := Lib.hid (Hb2.out.trans (hb3.mono Hb2.out.size))
      clear ho hb3 Hw
      go_wp2
      go_ret
      rw [E.out]
      exact ⟨_, _, rfl, Ho.out, Hb3.out⟩
end
end Go.Proofs.Ytiofabnicdlceaa
