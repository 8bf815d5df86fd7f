/-
  The program's fieldOk and GetField.
-/
import Derived.Test.YtmjpcgainoflbaaGetF
import Derived.Test.YtmjpcgainoflbaaImplVal
namespace Go.Proofs.Ytmjpcgainoflbaa
open Go.RowKit
set_option linter.unusedVariables false
set_option linter.unusedSimpArgs false

set_option maxRecDepth 100000 in
set_option maxHeartbeats 4000000 in
theorem valueIn_c (fs : List Fd) (b : List UInt8) (FA NA : Option Addr) (fc nc L B BN : Nat) (w : World) (hB : B ≤ w.heap.size) (hBN : BN ≤ w.heap.size) (hl : fs.length ≤ 1048576) (hs : Srt fs) (h : FdL w L B FA fs) (hn : RB w BN NA b) :
    Calls Try.prog 57 #[.slice FA fs.length fc, .slice NA b.length nc] w fun e w' => e = .returned (.agg #[.int .i64 (getAt fs b).k, .int .i64 (getAt fs b).n, .int .i64 (getAt fs b).g]) ∧ Below w.heap.size w w' := by
  have hbw := blw1 w (.cells #[.int .i64 0, .int .i64 0, .int .i64 0] 30)
  have Hc := Lib.hid (findField_c fs b FA NA fc nc L B BN (w.alloc (.cells #[.int .i64 0, .int .i64 0, .int .i64 0] 30)) (Nat.le_trans hB hbw.size) (Nat.le_trans hBN hbw.size) hl hs (h.below (hbw.mono hB)) (hn.below (hbw.mono hBN)))
  have HR := Lib.hid (Blk.new w 30 #[.int .i64 0, .int .i64 0, .int .i64 0])
  have HS := Lib.hid hs
  have H := Lib.hid h
  have Hb := Lib.hid hbw
  clear hs h hn hbw
  go_enter Try.func57, Try.ntmps57
  go_wp2_with fail
  refine Hc.out.mono ?_
  rintro e w2 ⟨i, f, rfl, hf, hb⟩
  have KR2 := HR.out.below hb HR.out.lt
  have Hb2 := Lib.hid (Hb.out.trans (hb.mono Hb.out.size))
  have z0 := KR2.cel 0 (v := .int .i64 0) rfl
  have z1 := KR2.cel 1 (v := .int .i64 0) rfl
  have z2 := KR2.cel 2 (v := .int .i64 0) rfl
  have y0 := KR2.frozen 0
  have y1 := KR2.frozen 1
  have y2 := KR2.frozen 2
  clear hb Hc Hb HR
  cases f
  · have E2 := Lib.hid (show getAt fs b = ⟨0, 0, 0⟩ from getAt_none (fun j hj => beq_eq_false_iff_ne.2 (hf.2.2 rfl j hj)))
    clear hf KR2 H
    go_wp2
    refine bodyPost_ret (v := .agg #[.int .i64 0, .int .i64 0, .int .i64 0]) (by simp [results, Try.results57, go_sem, z0, z1, z2]) rfl ⟨by rw [E2.out], ?_⟩
    exact ((Hb2.out.setCell (p := ⟨w.heap.size, 0, none⟩) (by simp) _).setCell (p := ⟨w.heap.size, 1, none⟩) (by simp) _).setCell (p := ⟨w.heap.size, 2, none⟩) (by simp) _
  · obtain ⟨hi, hnm⟩ := hf.2.1 rfl
    obtain ⟨fd, rfl, _, hfb, hfat⟩ := (H.out.below (Hb2.out.mono hB)).2 (by omega)
    obtain ⟨v0, v1, v2, v3, ⟨f0, f1, f2, f3⟩, NF, nfc, rfl, -, -, rfl, rfl, rfl⟩ := hfat i hi
    have E2 : Hid (getAt fs b = ⟨fs[i].k, fs[i].n, fs[i].g⟩) := Lib.hid (getAt_hit hi (fun j hj hji => beq_eq_false_iff_ne.2 (fun e => by
        have := HS.out j i hj hi hji
        rw [e, hnm, bl_irrefl] at this
        cases this)) (beq_iff_eq.2 hnm))
    obtain ⟨fk, hfk⟩ : ∃ x, fs[i].k = x := ⟨_, rfl⟩
    obtain ⟨fn, hfn⟩ : ∃ x, fs[i].n = x := ⟨_, rfl⟩
    obtain ⟨fg, hfg⟩ : ∃ x, fs[i].g = x := ⟨_, rfl⟩
    rw [hfk, hfn, hfg] at E2
    rw [hfk] at f1
    rw [hfn] at f2
    rw [hfg] at f3
    clear hfat hf hnm hfk hfn hfg f0 KR2 H HS
    go_wp2
    refine bodyPost_ret (v := .agg #[.int .i64 fk, .int .i64 fn, .int .i64 fg]) (by simp [results, Try.results57, go_sem, z0, z1, z2]) rfl ⟨by rw [E2.out], ?_⟩
    exact ((Hb2.out.setCell (p := ⟨w.heap.size, 0, none⟩) (by simp) _).setCell (p := ⟨w.heap.size, 1, none⟩) (by simp) _).setCell (p := ⟨w.heap.size, 2, none⟩) (by simp) _

section
variable (a : Ar) (A0 A1 A2 : Option Addr) (c0 c1 c2 L B : Nat) (w : World)

set_option maxRecDepth 100000 in
set_option maxHeartbeats 2000000 in
theorem fieldOk_c (k n g : Int) (b : List UInt8) (NA : Option Addr) (nc BN : Nat) (hB : B ≤ w.heap.size) (hBN : BN ≤ w.heap.size) (h : ArL w L B A0 A1 A2 a) (hsz : arSz a ≤ 1048576) (hn : RB w BN NA b) (hbl : b.length ≤ 1048576) :
    Calls Try.prog 56 #[.agg #[.slice A0 a.slots.length c0, .slice A1 a.queue.length c1, .slice A2 a.purple.length c2], .agg #[.int .i64 k, .int .i64 n, .int .i64 g], .slice NA b.length nc] w fun e w' => e = .returned (.bool (getOk a k n g b)) ∧ Below w.heap.size w w' := by
  have hbw : Below w.heap.size w ((w.alloc (.cells #[.slice A0 a.slots.length c0, .slice A1 a.queue.length c1, .slice A2 a.purple.length c2] 35)).alloc (.cells #[.int .i64 k, .int .i64 n, .int .i64 g] 30)) :=
    ((Below.refl _ _).alloc (Nat.le_refl _) _).alloc (by simp) _
  have HV := Lib.hid (implValOk_c a A0 A1 A2 c0 c1 c2 L B ((w.alloc (.cells #[.slice A0 a.slots.length c0, .slice A1 a.queue.length c1, .slice A2 a.purple.length c2] 35)).alloc (.cells #[.int .i64 k, .int .i64 n, .int .i64 g] 30)) k n g (Nat.le_trans hB hbw.size) (h.below (hbw.mono hB)) hsz)
  have Hb := Lib.hid hbw
  have HN := Lib.hid hn
  clear h hsz hn hbw
  go_enter Try.func56, Try.ntmps56
  by_cases hk : k = 2
  case neg =>
    have E := Lib.hid (show getOk a k n g b = false by unfold getOk; rw [beq_eq_false_iff_ne.2 hk]; simp)
    clear HV
    go_wp2
    go_ret
    exact ⟨by rw [E.out]; rfl, Hb.out⟩
  subst hk
  go_wp2_with fail
  refine HV.out.mono ?_
  rintro e w1 ⟨rfl, hb⟩
  have Hb1 := Lib.hid (Hb.out.trans (hb.mono Hb.out.size))
  have Hw := Lib.hid (implWordOk_c b NA nc BN w1 (by omega) (HN.out.below (Hb1.out.mono hBN)))
  clear hb HV Hb
  cases hv : arOk a && valOk a.slots 2 n g
  · have E := Lib.hid (show getOk a 2 n g b = false by unfold getOk; rw [hv]; rfl)
    clear hv Hw
    go_wp2
    go_ret
    exact ⟨by rw [E.out]; rfl, Hb1.out⟩
  · have E := Lib.hid (show getOk a 2 n g b = wordOk b by unfold getOk; rw [hv]; simp)
    clear hv
    obtain ⟨wb, hwb⟩ : ∃ x, wordOk b = x := ⟨_, rfl⟩
    rw [hwb] at E Hw
    clear hwb
    go_wp2_with fail
    refine Hw.out.mono ?_
    rintro e w2 ⟨rfl, rfl⟩
    clear Hw
    cases wb
    · go_wp2
      go_ret
      exact ⟨by rw [E.out]; rfl, Hb1.out⟩
    · go_wp2
      go_ret
      exact ⟨by rw [E.out]; rfl, Hb1.out⟩

set_option maxRecDepth 100000 in
set_option maxHeartbeats 4000000 in
theorem implGetField_c (k n g : Int) (b : List UInt8) (NA : Option Addr) (nc BN : Nat) (hB : B ≤ w.heap.size) (hBN : BN ≤ w.heap.size) (h : ArL w L B A0 A1 A2 a) (hsz : arSz a ≤ 1048576) (hn : RB w BN NA b) (hbl : b.length ≤ 1048576) :
    Calls Try.prog 15 #[.agg #[.slice A0 a.slots.length c0, .slice A1 a.queue.length c1, .slice A2 a.purple.length c2], .agg #[.int .i64 k, .int .i64 n, .int .i64 g], .slice NA b.length nc] w fun e w' => e = .returned (.tuple #[.agg #[.int .i64 (getA a k n g b).k, .int .i64 (getA a k n g b).n, .int .i64 (getA a k n g b).g], .bool (getOk a k n g b)]) ∧ Below w.heap.size w w' := by
  have hbw : Below w.heap.size w (((w.alloc (.cells #[.slice A0 a.slots.length c0, .slice A1 a.queue.length c1, .slice A2 a.purple.length c2] 35)).alloc (.cells #[.int .i64 k, .int .i64 n, .int .i64 g] 30)).alloc (.cells #[.int .i64 0, .int .i64 0, .int .i64 0] 30)) :=
    (((Below.refl _ _).alloc (Nat.le_refl _) _).alloc (by simp) _).alloc (by simp; omega) _
  have HR := Lib.hid (fieldOk_c a A0 A1 A2 c0 c1 c2 L B (((w.alloc (.cells #[.slice A0 a.slots.length c0, .slice A1 a.queue.length c1, .slice A2 a.purple.length c2] 35)).alloc (.cells #[.int .i64 k, .int .i64 n, .int .i64 g] 30)).alloc (.cells #[.int .i64 0, .int .i64 0, .int .i64 0] 30)) k n g b NA nc BN (Nat.le_trans hB hbw.size) (Nat.le_trans hBN hbw.size) (h.below (hbw.mono hB)) hsz (hn.below (hbw.mono hBN)) hbl)
  have HKA := Lib.hid (((Blk.new w 35 #[.slice A0 a.slots.length c0, .slice A1 a.queue.length c1, .slice A2 a.purple.length c2]).alloc (.cells #[.int .i64 k, .int .i64 n, .int .i64 g] 30)).alloc (.cells #[.int .i64 0, .int .i64 0, .int .i64 0] 30))
  have HKV := Lib.hid (((Blk.new (w.alloc (.cells #[.slice A0 a.slots.length c0, .slice A1 a.queue.length c1, .slice A2 a.purple.length c2] 35)) 30 #[.int .i64 k, .int .i64 n, .int .i64 g])).alloc (.cells #[.int .i64 0, .int .i64 0, .int .i64 0] 30))
  have HKR := Lib.hid (Blk.new ((w.alloc (.cells #[.slice A0 a.slots.length c0, .slice A1 a.queue.length c1, .slice A2 a.purple.length c2] 35)).alloc (.cells #[.int .i64 k, .int .i64 n, .int .i64 g] 30)) 30 #[.int .i64 0, .int .i64 0, .int .i64 0])
  rw [World.size_alloc] at HKV
  rw [World.size_alloc, World.size_alloc] at HKR
  have HbW := Lib.hid hbw
  have H := Lib.hid h
  have HN := Lib.hid hn
  have Hsz := Lib.hid hsz
  clear h hsz hbw hn
  go_enter Try.func15, Try.ntmps15
  go_wp2_with fail
  refine HR.out.mono ?_
  rintro e w1 ⟨rfl, hb⟩
  have hb1 := HbW.out.trans (hb.mono HbW.out.size)
  have KA1 := HKA.out.below hb HKA.out.lt
  have KV1 := HKV.out.below hb HKV.out.lt
  have KR1 := HKR.out.below hb HKR.out.lt
  have Hb := Lib.hid hb1
  have HR1 := Lib.hid KR1
  have z0 := KR1.cel 0 (v := .int .i64 0) rfl
  have z1 := KR1.cel 1 (v := .int .i64 0) rfl
  have z2 := KR1.cel 2 (v := .int .i64 0) rfl
  have y0 := KR1.frozen 0
  have y1 := KR1.frozen 1
  have y2 := KR1.frozen 2
  cases hok : getOk a k n g b
  · have E := Lib.hid hok
    have E2 := Lib.hid (show getA a k n g b = ⟨0, 0, 0⟩ by unfold getA; rw [hok]; rfl)
    clear hb HbW HR hb1 KA1 KV1 KR1 HKA HKV HKR hok
    go_wp2
    refine bodyPost_ret (v := .tuple #[.agg #[.int .i64 0, .int .i64 0, .int .i64 0], .bool false]) (by simp [results, Try.results15, go_sem, z0, z1, z2]) rfl ⟨by rw [E2.out, E.out], ?_⟩
    exact ((Hb.out.setCell (p := ⟨w.heap.size + 1 + 1, 0, none⟩) (by simp; omega) _).setCell (p := ⟨w.heap.size + 1 + 1, 1, none⟩) (by simp; omega) _).setCell (p := ⟨w.heap.size + 1 + 1, 2, none⟩) (by simp; omega) _
  have E := Lib.hid hok
  have hpar : arOk a = true ∧ valOk a.slots k n g = true ∧ k = 2 ∧ wordOk b = true := by
    unfold getOk at hok
    simp only [Bool.and_eq_true, beq_iff_eq] at hok
    exact ⟨hok.1.1.1, hok.1.1.2, hok.1.2, hok.2⟩
  obtain ⟨hao, hvo, rfl, -⟩ := hpar
  obtain ⟨m, hm, rfl⟩ : ∃ m : Nat, m < a.slots.length ∧ n = m := by
    have h2 := hvo
    unfold valOk at h2
    simp only [show ¬ (2 : Int) = 0 by decide, show ¬ (2 : Int) = 1 by decide, if_false, if_true] at h2
    rcases slotAt_cases a.slots n with ⟨e, _⟩ | ⟨m, hm, rfl, _⟩
    · rw [e] at h2; cases h2
    · exact ⟨m, hm, rfl⟩
  have E0 := Lib.hid (show getA a 2 m g b = getAt a.slots[m].fs b by unfold getA; rw [hok, if_pos rfl, getV_at hm])
  have hsr : Srt a.slots[m].fs := by
    unfold arOk at hao
    simp only [Bool.and_eq_true, decide_eq_true_eq] at hao
    have h7 := hao.1.1.2
    rw [List.all_eq_true] at h7
    have := h7 _ (List.getElem_mem hm)
    unfold slOk at this
    rw [Bool.and_eq_true] at this
    exact fdsOk_srt this.2
  have hfl : a.slots[m].fs.length ≤ 1048576 := by
    have h1 := sum_get slSz hm
    have h2 : a.slots[m].fs.length ≤ slSz a.slots[m] := by unfold slSz fsSz; omega
    have h3 := Hsz.out
    unfold arSz slsSz at h3
    omega
  have hSl : a.slots.length ≤ 1048576 := by have := Hsz.out; unfold arSz slsSz at this; omega
  obtain ⟨ad, rfl, _, hbk, hat⟩ := (H.out.1.below (hb1.mono hB)).2 (by omega)
  obtain ⟨x0, x1, x2, x3, ⟨d0, d1, d2, d3⟩, rfl, rfl, rfl, FA, fc, rfl, hF⟩ := hat m hm
  obtain ⟨fs, hfs⟩ : ∃ f, f = a.slots[m].fs := ⟨_, rfl⟩
  rw [← hfs] at d3 hF hfl hsr E0
  have p0 := KA1.cel 0 (v := .slice (some ad) a.slots.length c0) rfl
  have r1 := KV1.cel 1 (v := .int .i64 (m : Int)) rfl
  have Hc := Lib.hid (valueIn_c fs b FA NA fc nc L B BN w1 (Nat.le_trans hB hb1.size) (Nat.le_trans hBN hb1.size) hfl hsr hF (HN.out.below (hb1.mono hBN)))
  obtain ⟨⟨gk, gn, gg⟩, hge⟩ : ∃ x, getAt fs b = x := ⟨_, rfl⟩
  rw [hge] at Hc E0
  clear hat hF hfs d0 d1 d2 hsr hb HbW HR hb1 KA1 KV1 KR1 HKA HKV HKR hok hvo hao hge
  go_wp2_with fail
  refine Hc.out.mono ?_
  rintro e w2 ⟨rfl, hb⟩
  have KR2 := HR1.out.below hb HR1.out.lt
  have Hb2 := Lib.hid (Hb.out.trans (hb.mono Hb.out.size))
  have z0 := KR2.cel 0 (v := .int .i64 0) rfl
  have z1 := KR2.cel 1 (v := .int .i64 0) rfl
  have z2 := KR2.cel 2 (v := .int .i64 0) rfl
  have y0 := KR2.frozen 0
  have y1 := KR2.frozen 1
  have y2 := KR2.frozen 2
  clear hb Hc p0 r1 d3 KR2
  go_wp2
  refine bodyPost_ret (v := .tuple #[.agg #[.int .i64 gk, .int .i64 gn, .int .i64 gg], .bool true]) (by simp [results, Try.results15, go_sem, z0, z1, z2]) rfl ⟨by rw [E0.out, E.out], ?_⟩
  exact ((Hb2.out.setCell (p := ⟨w.heap.size + 1 + 1, 0, none⟩) (by simp; omega) _).setCell (p := ⟨w.heap.size + 1 + 1, 1, none⟩) (by simp; omega) _).setCell (p := ⟨w.heap.size + 1 + 1, 2, none⟩) (by simp; omega) _
end
end Go.Proofs.Ytmjpcgainoflbaa
