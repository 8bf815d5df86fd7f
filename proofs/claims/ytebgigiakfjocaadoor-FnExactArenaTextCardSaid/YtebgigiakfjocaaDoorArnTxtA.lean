/-
  The program's text of a slot.
-/
import Derived.Test.YtebgigiakfjocaaDoorAppS
import Derived.Test.YtebgigiakfjocaaDoorArnTxt
namespace Go.Proofs.YtebgigiakfjocaaDoor
open Go.RowKit
set_option linter.unusedVariables false
set_option linter.unusedSimpArgs false

section
variable (lv : Bool) (gn ct : Int) (w : World)
set_option maxRecDepth 100000 in
set_option maxHeartbeats 2000000 in
theorem state_c (h0 : 0 ≤ ct) (h1 : ct ≤ 1000000) (htab : Lib.TabBelow Tryd.prog w.heap.size w "internal/strconv.uint64pow10" .u64 Lib.pow10Tab) :
    Calls Tryd.prog 82 #[.agg #[.bool lv, .int .i64 gn, .int .i64 ct]] w fun e w' => e = .returned (.string ⟨(slHead ⟨lv, gn, ct, []⟩).toArray⟩) ∧ Below w.heap.size w w' := by
  have hbW : Below w.heap.size w (w.alloc (.cells #[.bool lv, .int .i64 gn, .int .i64 ct] 86)) := (Below.refl _ _).alloc (Nat.le_refl _) _
  have HbW := Lib.hid hbW
  cases lv
  · clear htab hbW
    go_enter Tryd.func82, Tryd.ntmps82
    go_wp2
    go_ret
    exact ⟨rfl, HbW.out⟩
  · obtain ⟨n, rfl⟩ : ∃ n : Nat, ct = n := ⟨ct.toNat, by omega⟩
    have hi := Tryd.strconv_Itoa n (by omega) (by omega) (w.alloc (.cells #[.bool true, .int .i64 gn, .int .i64 n] 86)) (htab _ hbW)
    rw [Lib.itoa_nonneg] at hi
    have Hi := Lib.hid hi
    have hres : slHead ⟨true, gn, n, []⟩ = liveB ++ Lib.decDigits n := by unfold slHead; simp
    have Hl := Lib.hid (show (ByteArray.mk #[108, 105, 118, 101, 32] ++ ByteArray.mk (Lib.decDigits n).toArray) = ByteArray.mk (liveB ++ Lib.decDigits n).toArray from by
      apply ByteArray.ext
      simp [liveB])
    have hdl : ¬ 9223372036854775807 < 5 + (Lib.decDigits n).length := by have := dig_len n (by omega); omega
    rw [hres]
    clear htab hbW hi hres
    go_enter Tryd.func82, Tryd.ntmps82
    go_wp2_with fail
    refine Hi.out.mono ?_
    rintro e w1 ⟨rfl, k, os, rfl⟩
    go_wp2
    go_ret
    refine ⟨?_, HbW.out.trans (Lib.below_grow w.heap.size _ (by simp) k os)⟩
    rw [Hl.out]
    rfl
end
theorem slHead_fs (s : Sl) : slHead ⟨s.live, s.gen, s.count, []⟩ = slHead s := rfl
section
variable (s : Sl) (FA : Option Addr) (fc L B : Nat) (w : World)
set_option maxRecDepth 100000 in
set_option maxHeartbeats 4000000 in
theorem slText_c (hs : SlB s) (hfl : s.fs.length ≤ 1048576) (hB : B ≤ w.heap.size) (h : FdL w L B FA s.fs) (htab : Lib.TabBelow Tryd.prog w.heap.size w "internal/strconv.uint64pow10" .u64 Lib.pow10Tab) :
    Calls Tryd.prog 46 #[.agg #[.bool s.live, .int .i64 s.gen, .int .i64 s.count, .slice FA s.fs.length fc]] w (AnsT w (slTxt s)) := by
  obtain ⟨fs, hfs⟩ : ∃ f, s.fs = f := ⟨_, rfl⟩
  obtain ⟨hd, hhd⟩ : ∃ x, slHead s = x := ⟨_, rfl⟩
  have hres : slTxt s = hd ++ fdsTo fs fs.length := by unfold slTxt; rw [hhd, hfs]
  have hhl : hd.length ≤ 15 := hhd ▸ slHead_len hs
  have hfb : ∀ j (hj : j < fs.length), FdB fs[j] := by subst hfs; exact hs.2.2
  rw [hfs] at hfl h ⊢
  obtain ⟨ct, hct⟩ : ∃ x, s.count = x := ⟨_, rfl⟩
  obtain ⟨gn, hgn⟩ : ∃ x, s.gen = x := ⟨_, rfl⟩
  obtain ⟨lv, hlv⟩ : ∃ x, s.live = x := ⟨_, rfl⟩
  have hbW : Below w.heap.size w (w.alloc (.cells #[.bool lv, .int .i64 gn, .int .i64 ct, .slice FA fs.length fc] 88)) := (Below.refl _ _).alloc (Nat.le_refl _) _
  have hst := state_c lv gn ct (w.alloc (.cells #[.bool lv, .int .i64 gn, .int .i64 ct, .slice FA fs.length fc] 88)) (hct ▸ hs.1) (hct ▸ hs.2.1) (fun w' h' => htab w' (hbW.trans (h'.mono (by simp))))
  rw [← hct, ← hgn, ← hlv, slHead_fs, hhd, hct, hgn, hlv] at hst
  rw [hct, hgn, hlv]
  have Hst := Lib.hid hst
  have Hfb := Lib.hid hfb
  have H := Lib.hid h
  have HK := Lib.hid (Blk.new w 88 #[.bool lv, .int .i64 gn, .int .i64 ct, .slice FA fs.length fc])
  have HbW := Lib.hid hbW
  have Hres := Lib.hid hres
  clear hst hfb h hbW htab hs hhd hres hfs hct hgn hlv
  go_enter Tryd.func46, Tryd.ntmps46
  go_wp2_with fail
  refine Hst.out.mono ?_
  rintro e w1 ⟨rfl, hb1⟩
  obtain ⟨A2, c2, w2, hcv, hO2, hb2⟩ := convT w1 ⟨hd.toArray⟩ (by simp only [ByteArray.size, List.size_toArray]; unfold maxLen; omega)
  have e2 : (ByteArray.mk hd.toArray).data.toList = hd := by simp
  rw [e2] at hcv hO2
  have hs1 := hb1.size
  have hs2 := hb2.size
  simp only [World.size_alloc] at hs1
  have hK2 := (HK.out.below hb1 (by simp)).below hb2 (by omega)
  have HO2 := Lib.hid (hO2.less (show w.heap.size ≤ w1.heap.size by omega))
  have HS2 := Lib.hid (Say.of (HbW.out.trans ((hb1.mono (by simp)).trans (hb2.mono (by omega)))) (Nat.le_refl _))
  have q1 := hK2.cel 3 (v := .slice FA fs.length fc) rfl
  have q0 := hK2.cel 0 (v := .bool lv) rfl
  clear hb1 hb2 hO2 e2 hK2 HK HbW Hst
  go_wp2_with fail
  go_loopw [3, 13] (fun t i wr => ∃ (j : Nat) (x : List UInt8) (A : Option Addr) (c : Nat), j ≤ fs.length ∧ i = .int .i64 j ∧ t = .slice A x.length c ∧ Hid (x = hd ++ fdsTo fs j) ∧ Hid (OwnT wr w.heap.size (.slice A x.length c) x) ∧ Hid (Say w.heap.size w wr)) (fun _ i _ => fs.length - (intOf i).toNat)
  case atStart => exact ⟨0, hd, A2, c2, Nat.zero_le _, rfl, rfl, Lib.hid (by simp [fdsTo]), HO2, HS2⟩
  case round =>
    obtain ⟨j, x, A, c, hj, rfl, rfl, hx, hO, hS⟩ := hrel
    have hxl : x.length ≤ 18 * j + 15 := by
      have := hx.out
      rw [this, List.length_append]
      have := fdsTo_len Hfb.out j hj
      omega
    have hsz := hS.out.size
    by_cases hlt : j < fs.length
    · obtain ⟨fd, rfl, _, hfdb, hfat⟩ := (H.out.below (hS.out.below.mono hB)).2 (by omega)
      obtain ⟨y0, y1, y2, y3, ⟨f0, f1, f2, f3⟩, NA, nc, rfl, hN, hnm, rfl, rfl, rfl⟩ := hfat j hlt
      have hF := Hfb.out j hlt
      have hnext : hd ++ fdsTo fs (j + 1) = x ++ [32] ++ fs[j].name ++ refTxt fs[j] := by rw [fdsTo_succ hlt, hx.out]; unfold fdTxt; simp
      obtain ⟨nm, hnme⟩ : ∃ n, fs[j].name = n := ⟨_, rfl⟩
      obtain ⟨fk, hfk⟩ : ∃ n, fs[j].k = n := ⟨_, rfl⟩
      obtain ⟨fn, hfn⟩ : ∃ n, fs[j].n = n := ⟨_, rfl⟩
      obtain ⟨fg, hfg⟩ : ∃ n, fs[j].g = n := ⟨_, rfl⟩
      obtain ⟨hF1, hF2⟩ := hF
      rw [hnme] at f0 hF1 hN hnext
      rw [hfk] at f1 hF2
      rw [hfn] at f2 hF2
      rw [hfg] at f3
      obtain ⟨y, hy⟩ : ∃ y, x ++ [32] = y := ⟨_, rfl⟩
      obtain ⟨z, hz⟩ : ∃ z, y ++ nm = z := ⟨_, rfl⟩
      have hyl : y.length ≤ 18 * j + 16 := by rw [← hy, List.length_append]; simp only [List.length_cons, List.length_nil]; omega
      have hzl : z.length ≤ 18 * j + 22 := by rw [← hz, List.length_append]; omega
      rw [hy, hz] at hnext
      have Hy := Lib.hid hy
      have Hz := Lib.hid hz
      have Hnext := Lib.hid hnext
      have HN := Lib.hid hN
      have HOa := Lib.hid (hO.out.alloc (.cells #[.slice NA nm.length nc, .int .i64 fk, .int .i64 fn, .int .i64 fg] 76))
      have HSa := Lib.hid (hS.out.alloc hsz (.cells #[.slice NA nm.length nc, .int .i64 fk, .int .i64 fn, .int .i64 fg] 76))
      have HSa0 := Lib.hid ((Say.refl w.heap.size wr).alloc hsz (.cells #[.slice NA nm.length nc, .int .i64 fk, .int .i64 fn, .int .i64 fg] 76))
      have HKf := Lib.hid (Blk.new wr 76 #[.slice NA nm.length nc, .int .i64 fk, .int .i64 fn, .int .i64 fg])
      have hsa : w.heap.size ≤ (wr.alloc (.cells #[.slice NA nm.length nc, .int .i64 fk, .int .i64 fn, .int .i64 fg] 76)).heap.size := by simp; omega
      have Hsame : Hid (refTxt fs[j] = if fk = 2 then 62 :: Lib.decDigits fn.toNat else []) := Lib.hid (by unfold refTxt; rw [hfk, hfn])
      clear hfat hy hz hnext hN hx hO hS hnme hfk hfn hfg
      by_cases h2 : fk = 2
      · subst h2
        obtain ⟨hf0, hf1⟩ := hF2 rfl
        obtain ⟨u, rfl⟩ : ∃ u : Nat, fn = u := ⟨fn.toNat, by omega⟩
        obtain ⟨p, hp⟩ : ∃ p, z ++ [62] = p := ⟨_, rfl⟩
        have hpl : p.length ≤ 18 * j + 23 := by rw [← hp, List.length_append]; simp only [List.length_cons, List.length_nil]; omega
        have hend : hd ++ fdsTo fs (j + 1) = p ++ Lib.decDigits u := by rw [Hnext.out, Hsame.out, if_pos rfl, ← hp]; simp
        have Hend := Lib.hid hend
        have Hp := Lib.hid hp
        have Hint := Lib.hid (fun v w' hb h => appIntS_c p v u w.heap.size w' (by omega) hb (by omega) h)
        clear hend hp hF2
        go_wp2_with (first
        | (at_builtin; refine wpList_oneT (b := 32) rfl (.tmp 17) (.tmp 18) rfl rfl HOa.out 32 rfl rfl (by first | rfl | simp) Hy.out (by omega) hsa ?_; intro A4 c4 w4 hO4 hS4; have HO4 := Lib.hid hO4; have hK4 := HKf.out.say hS4 (by decide); obtain ⟨r0, r1, r2, r3⟩ := hK4.four; have HK4 := Lib.hid hK4; have HS4 := Lib.hid (HSa.out.trans hS4); have hs4 := hS4.size; have HN4 := Lib.hid ((HN.out.1.below (HSa0.out.below.mono hB)).below (hS4.below.mono hB)); clear hO4 hS4 hK4)
        | (at_builtin; refine wpList_rowT rfl (.tmp 20) (.tmp 22) rfl rfl HO4.out rfl HN4.out Hz.out (by omega) (by omega) ?_; intro A5 c5 w5 hO5 hS5; have HO5 := Lib.hid hO5; have hK5 := HK4.out.say hS5 (by decide); obtain ⟨s0, s1, s2, s3⟩ := hK5.four; have HK5 := Lib.hid hK5; have HS5 := Lib.hid (HS4.out.trans hS5); have hs5 := hS5.size; clear hO5 hS5 hK5)
        | (at_builtin; refine wpList_oneT (b := 62) rfl (.tmp 28) (.tmp 29) rfl rfl HO5.out 62 rfl rfl (by first | rfl | simp) Hp.out (by omega) (by omega) ?_; intro A6 c6 w6 hO6 hS6; have hs6 := hS6.size; have hK6 := HK5.out.say hS6 (by decide); obtain ⟨t0, t1, t2, t3⟩ := hK6.four; have HS6 := Lib.hid (HS5.out.trans hS6); have Hint6 := Lib.hid (Hint.out _ w6 (by omega) hO6); clear hO6 hS6 hK6)
        | (go_at_call 45; refine Hint6.out.mono ?_; rintro e w7 ⟨A7, c7, rfl, hO7, hS7⟩; have HO7 := Lib.hid hO7; have HS7 := Lib.hid (HS6.out.trans hS7); clear hO7 hS7))
        go_roundw
        case rel => exact ⟨j + 1, p ++ Lib.decDigits u, A7, c7, by omega, by go_num, by rw [List.length_append], Lib.hid Hend.out.symm, HO7, HS7⟩
        case measure => simp [intOf]; omega
      · have hend : hd ++ fdsTo fs (j + 1) = z := by rw [Hnext.out, Hsame.out, if_neg h2, List.append_nil]
        have Hend := Lib.hid hend
        have h2' : (fk == 2) = false := by simpa using h2
        clear hend hF2 h2
        go_wp2_with (first
        | (at_builtin; refine wpList_oneT (b := 32) rfl (.tmp 17) (.tmp 18) rfl rfl HOa.out 32 rfl rfl (by first | rfl | simp) Hy.out (by omega) hsa ?_; intro A4 c4 w4 hO4 hS4; have HO4 := Lib.hid hO4; have hK4 := HKf.out.say hS4 (by decide); obtain ⟨r0, r1, r2, r3⟩ := hK4.four; have HK4 := Lib.hid hK4; have HS4 := Lib.hid (HSa.out.trans hS4); have hs4 := hS4.size; have HN4 := Lib.hid ((HN.out.1.below (HSa0.out.below.mono hB)).below (hS4.below.mono hB)); clear hO4 hS4 hK4)
        | (at_builtin; refine wpList_rowT rfl (.tmp 20) (.tmp 22) rfl rfl HO4.out rfl HN4.out Hz.out (by omega) (by omega) ?_; intro A5 c5 w5 hO5 hS5; have HO5 := Lib.hid hO5; have hK5 := HK4.out.say hS5 (by decide); obtain ⟨s0, s1, s2, s3⟩ := hK5.four; have HK5 := Lib.hid hK5; have HS5 := Lib.hid (HS4.out.trans hS5); have hs5 := hS5.size; clear hO5 hS5 hK5))
        go_roundw
        case rel => exact ⟨j + 1, z, A5, c5, by omega, by go_num, rfl, Lib.hid Hend.out.symm, HO5, HS5⟩
        case measure => simp [intOf]; omega
    · obtain rfl : j = fs.length := by omega
      go_wp2
      go_ret
      rw [Hres.out, ← hx.out]
      exact ⟨A, c, rfl, hO.out, hS.out.below⟩
end
end Go.Proofs.YtebgigiakfjocaaDoor
