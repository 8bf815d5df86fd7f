/-
  Children: the program's and the model's.
-/
import Derived.Test.YtpepikjcbgkcfaaRoomAt
import Derived.Test.YtpepikjcbgkcfaaOkAt
import Derived.Test.YtpepikjcbgkcfaaVals
namespace Go.Proofs.Ytpepikjcbgkcfaa
open Go.RowKit
set_option linter.unusedVariables false
set_option linter.unusedSimpArgs false

theorem infoVl : (Try.prog.info? 55).map (fun i => (i.zero, i.size, i.bytes)) = some (some (.agg #[.int .i64 0, .int .i64 0, .int .i64 0]), 3, 24) := by kernel_rfl

set_option maxRecDepth 100000 in
set_option maxHeartbeats 2000000 in
theorem slotKids_c (s : Sl) (FA : Option Addr) (fc L B : Nat) (w : World) (hB : B ≤ w.heap.size) (hl : s.fs.length ≤ 1048576) (h : FdL w L B FA s.fs) :
    Calls Try.prog 58 #[.agg #[.bool s.live, .int .i64 s.gen, .int .i64 s.count, .slice FA s.fs.length fc]] w (AnsI w (refsTo s.fs s.fs.length)) := by
  obtain ⟨i0, hi, hz0, hz1, hz2⟩ := info_parts infoVl
  obtain ⟨fs, hfs⟩ : ∃ f, f = s.fs := ⟨_, rfl⟩
  rw [← hfs] at h hl
  rw [← hfs]
  obtain ⟨sl, hsl⟩ : ∃ f, f = s.live := ⟨_, rfl⟩
  obtain ⟨gn, hgn⟩ : ∃ f, f = s.gen := ⟨_, rfl⟩
  obtain ⟨ct, hct⟩ : ∃ f, f = s.count := ⟨_, rfl⟩
  rw [← hsl, ← hgn, ← hct]
  clear hsl hgn hct hfs
  have hbr := blw1 w (.cells #[.bool sl, .int .i64 gn, .int .i64 ct, .slice FA fs.length fc] 96)
  have H := Lib.hid (h.below (hbr.mono hB))
  have Hb := Lib.hid hbr
  clear h hbr
  go_enter Try.func58, Try.ntmps58
  go_wp2_with fail
  generalize hW : w.alloc (.cells #[.bool sl, .int .i64 gn, .int .i64 ct, .slice FA fs.length fc] 96) = W
  rw [hW] at H Hb
  have hWs : w.heap.size ≤ W.heap.size := by rw [← hW]; simp
  have HWs := Lib.hid hWs
  clear hW hWs
  go_loopw [3, 9] (fun n i wr => ∃ k : Nat, k ≤ fs.length ∧ i = .int .i64 k ∧ Hid (VRow wr W.heap.size n (valsTo fs k)) ∧ Below W.heap.size W wr) (fun _ i _ => fs.length - (intOf i).toNat)
  case atStart => exact ⟨0, Nat.zero_le _, rfl, Lib.hid (VRow.nil _ _), Below.refl _ _⟩
  case round =>
    obtain ⟨k, hk, rfl, hrow, hbl⟩ := hrel
    obtain ⟨A', c', rfl, hlc⟩ := hrow.out.form
    have hll := valsTo_len hk
    have hws := hbl.size
    by_cases hlt : k < fs.length
    · obtain ⟨ad, rfl, _, hbk, hat⟩ := (H.out.below (hbl.mono (Nat.le_trans hB HWs.out))).2 (by omega)
      obtain ⟨y0, y1, y2, y3, ⟨f0, f1, f2, f3⟩, NA, nc, rfl, -, -, rfl, rfl, rfl⟩ := hat k hlt
      have Hn := Lib.hid (valsTo_succ hlt)
      obtain ⟨fk, hfk⟩ : ∃ f, f = fs[k].k := ⟨_, rfl⟩
      obtain ⟨fn, hfn⟩ : ∃ f, f = fs[k].n := ⟨_, rfl⟩
      obtain ⟨fg, hfg⟩ : ∃ f, f = fs[k].g := ⟨_, rfl⟩
      obtain ⟨nl, hnl⟩ : ∃ f, f = fs[k].name.length := ⟨_, rfl⟩
      rw [← hnl] at f0
      rw [← hfk] at f1 Hn
      rw [← hfn] at f2 Hn
      rw [← hfg] at f3 Hn
      clear hat hfk hfn hfg hnl
      have hr1 := hrow.out.alloc (.cells #[.slice NA nl nc, .int .i64 fk, .int .i64 fn, .int .i64 fg] 91)
      have hbl1 := hbl.trans ((blw1 wr (.cells #[.slice NA nl nc, .int .i64 fk, .int .i64 fn, .int .i64 fg] 91)).mono hws)
      have HO := Lib.hid (hr1.alloc (.cells #[.int .i64 fk, .int .i64 fn, .int .i64 fg] 55))
      have hcell : ∀ j u, [Value.int .i64 fk, .int .i64 fn, .int .i64 fg][j]? = some u → ((wr.alloc (.cells #[.slice NA nl nc, .int .i64 fk, .int .i64 fn, .int .i64 fg] 91)).alloc (.cells #[.int .i64 fk, .int .i64 fn, .int .i64 fg] 55)).cell? ((⟨wr.heap.size + 1, 0, none⟩ : Addr).add j) = some u := fun j u hj => by
        have hB2 := Blk.new (wr.alloc (.cells #[.slice NA nl nc, .int .i64 fk, .int .i64 fn, .int .i64 fg] 91)) 55 #[.int .i64 fk, .int .i64 fn, .int .i64 fg]
        rw [World.size_alloc] at hB2
        rw [add_zero_, hB2.cell]
        simpa using hj
      have Hcell := Lib.hid hcell
      have Hbl1 := Lib.hid hbl1
      clear hr1 hbl hbl1 hcell
      go_wp2_with (at_builtin; refine wpList_append_own _ rfl (.tmp 13) (.tmp 16) 42 rfl W.heap.size 55 i0 _ 3 24 Try.underlying42 hi hz0 hz1 hz2 rfl (by omega) _ _ _ rfl HO.out ⟨wr.heap.size + 1, 0, none⟩ 1 1 [.int .i64 fk, .int .i64 fn, .int .i64 fg] rfl rfl Hcell.out (by simp [Value.oneCell']) (by unfold maxLen; omega) (by omega) (by simp; omega) ?_; intro v' w4 hown' hgrow _)
      have hbn : Below W.heap.size W w4 := HO.out.grown (Hbl1.out.alloc (by simp; omega) _) (by simp; omega) hgrow
      have Hnew := Lib.hid (VRow.snoc (x := ⟨fk, fn, fg⟩) hown')
      have Hbn := Lib.hid hbn
      clear hown' hgrow hbn HO Hcell Hbl1
      go_roundw
      case rel => exact ⟨k + 1, by omega, by go_num, by rw [Hn.out]; exact Hnew, Hbn.out⟩
      case measure => simp [intOf]; omega
    · obtain rfl : k = fs.length := by omega
      have hrow := hrow.out
      have hrv := refsV_vals fs
      obtain ⟨vs, hvs⟩ : ∃ v, v = valsTo fs fs.length := ⟨_, rfl⟩
      rw [← hvs] at hrow hll hrv hlc
      rw [← hvs]
      have hr := refsAmong_c vs A' c' W.heap.size wr.heap.size wr (Nat.le_refl _) (by omega) (hrow.vl (by unfold maxLen; omega))
      rw [hrv] at hr
      clear hvs hrv hll
      have Hr := Lib.hid hr
      have Hbw := Lib.hid (Hb.out.trans (hbl.mono HWs.out))
      clear hr hbl
      go_wp2_with fail
      refine Hr.out.mono ?_
      rintro e w2 ⟨A2, c2, rfl, ho, hb2⟩
      have Hb3 := Lib.hid (Hbw.out.trans (hb2.mono Hbw.out.size))
      have Ho := Lib.hid (ho.lo_le Hbw.out.size)
      clear ho hb2 Hr
      go_wp2
      go_ret
      exact ⟨_, _, rfl, Ho.out, Hb3.out⟩

theorem kidsA_none {a : Ar} {z : Int} (h : ¬ (arOk a = true ∧ 0 ≤ z ∧ z < a.slots.length)) : kidsA a z = [] := by unfold kidsA; rw [dif_neg h]
theorem kidsA_some {a : Ar} {k : Nat} (hok : arOk a = true) (hk : k < a.slots.length) : kidsA a (k : Int) = refsTo a.slots[k].fs a.slots[k].fs.length := by
  unfold kidsA
  rw [dif_pos ⟨hok, by omega, by omega⟩]
  simp
theorem slots_fs {a : Ar} (h : arSz a ≤ 1048576) {k : Nat} (hk : k < a.slots.length) : a.slots[k].fs.length ≤ 1048576 := by
  have h1 : sumIn slSz a.slots (k + 1) ≤ sumIn slSz a.slots a.slots.length := by
    unfold sumIn
    rw [List.take_length]
    conv => rhs; rw [← List.take_append_drop (k + 1) a.slots, List.map_append, List.sum_append]
    omega
  have h2 := sumIn_step slSz hk
  have h3 : sumIn slSz a.slots a.slots.length = (a.slots.map slSz).sum := by unfold sumIn; rw [List.take_length]
  have h4 : a.slots[k].fs.length ≤ slSz a.slots[k] := by unfold slSz fsSz; omega
  unfold arSz slsSz at h
  omega
theorem kidsA_bd (a : Ar) (z : Int) (h : arSz a ≤ 1048576) : (kidsA a z).length ≤ 1048576 := by
  by_cases hv : arOk a = true ∧ 0 ≤ z ∧ z < a.slots.length
  · obtain ⟨k, rfl⟩ : ∃ k : Nat, z = k := ⟨z.toNat, by omega⟩
    have hk : k < a.slots.length := by omega
    rw [kidsA_some hv.1 hk]
    exact Nat.le_trans (refsTo_le _ _) (slots_fs h hk)
  · rw [kidsA_none hv]; simp

section
variable (a : Ar) (A0 A1 A2 : Option Addr) (c0 c1 c2 L B : Nat) (w : World)
set_option maxRecDepth 100000 in
set_option maxHeartbeats 2000000 in
theorem implChildren_c (z : Int) (hB : B ≤ w.heap.size) (h : ArL w L B A0 A1 A2 a) (hsz : arSz a ≤ 1048576) :
    Calls Try.prog 23 #[.agg #[.slice A0 a.slots.length c0, .slice A1 a.queue.length c1, .slice A2 a.purple.length c2], .int .i64 z] w (AnsI w (kidsA a z)) := by
  have hbW := blw1 w (.cells #[.slice A0 a.slots.length c0, .slice A1 a.queue.length c1, .slice A2 a.purple.length c2] 30)
  have HR := Lib.hid (roomAt a A0 A1 A2 c0 c1 c2 L B w _ h hsz (hbW.mono hB) (Nat.le_trans hB hbW.size))
  have HbW := Lib.hid hbW
  have hSl : a.slots.length ≤ 1048576 := by unfold arSz slsSz at hsz; omega
  have Hsz := Lib.hid hsz
  clear h hsz hbW
  go_enter Try.func23, Try.ntmps23
  go_wp2_with fail
  refine HR.out.mono ?_
  rintro e w1 ⟨u0, u1, u2, u3, rfl, hb, hu, hyes⟩
  have Hb := Lib.hid (HbW.out.trans (hb.mono HbW.out.size))
  cases hok : arOk a
  · have E := Lib.hid (kidsA_none (a := a) (z := z) (by rw [hok]; simp))
    obtain ⟨_, _, _, rfl⟩ := hu u0 (by simp)
    obtain ⟨_, _, _, rfl⟩ := hu u1 (by simp)
    obtain ⟨_, _, _, rfl⟩ := hu u2 (by simp)
    obtain ⟨_, _, _, rfl⟩ := hu u3 (by simp)
    clear hu hb HbW HR hyes hok
    go_wp2
    go_ret
    rw [E.out]
    exact AnsI.nil (Hb.out.alloc Hb.out.size _)
  · obtain ⟨A, c, rfl, hsl, -, rfl, rfl⟩ := hyes hok
    obtain ⟨LA, ln, lc, rfl⟩ := hu u1 (by simp)
    have Hok := Lib.hid hok
    have hbr := blw1 w1 (.cells #[.slice A a.slots.length c, .slice LA ln lc, .slice A1 a.queue.length c1, .slice A2 a.purple.length c2] 84)
    have KR := Lib.hid (Blk.new w1 84 #[.slice A a.slots.length c, .slice LA ln lc, .slice A1 a.queue.length c1, .slice A2 a.purple.length c2])
    have Hh := Lib.hid (fun X => roomHas_c A a.slots.length c (.slice LA ln lc) (.slice A1 a.queue.length c1) (.slice A2 a.purple.length c2) rfl rfl rfl z X (by unfold maxLen; omega))
    have H := Lib.hid (hsl.below hbr)
    have Hb2 := Lib.hid (Hb.out.trans (hbr.mono Hb.out.size))
    have Hs1 := Lib.hid hbr.size
    clear hu hb HbW HR hyes hok hsl hbr
    go_wp2_with fail
    refine (Hh.out _).mono ?_
    rintro e w2 ⟨rfl, hb2⟩
    have K2 := KR.out.below hb2 KR.out.lt
    by_cases hv : 0 ≤ z ∧ z < a.slots.length
    · obtain ⟨k, rfl⟩ : ∃ k : Nat, z = k := ⟨z.toNat, by omega⟩
      have hk : k < a.slots.length := by omega
      rw [decide_eq_true hv.1, decide_eq_true hv.2, Bool.and_true]
      have E := Lib.hid (kidsA_some Hok.out hk)
      have q0 := K2.cel 0 (v := .slice A a.slots.length c) rfl
      have hb02 := Hb2.out.trans (hb2.mono Hb2.out.size)
      obtain ⟨ad, rfl, _, hbk, hat⟩ := (H.out.below (hb2.mono Hs1.out)).2 (by omega)
      obtain ⟨x0, x1, x2, x3, ⟨d0, d1, d2, d3⟩, rfl, rfl, rfl, FA, fc, rfl, hF⟩ := hat k hk
      have Hk := Lib.hid (slotKids_c a.slots[k] FA fc 0 w1.heap.size w2 (Nat.le_trans Hs1.out hb2.size) (slots_fs Hsz.out hk) hF)
      have Hb02 := Lib.hid hb02
      obtain ⟨sl, hsl⟩ : ∃ s, s = a.slots[k] := ⟨_, rfl⟩
      rw [← hsl] at d0 d1 d2 d3 Hk E
      obtain ⟨fn, hfn⟩ : ∃ f, f = sl.fs.length := ⟨_, rfl⟩
      obtain ⟨lv, hlv⟩ : ∃ f, f = sl.live := ⟨_, rfl⟩
      obtain ⟨gn, hgn⟩ : ∃ f, f = sl.gen := ⟨_, rfl⟩
      obtain ⟨ct, hct⟩ : ∃ f, f = sl.count := ⟨_, rfl⟩
      rw [← hlv, ← hgn, ← hct] at Hk
      obtain ⟨an, han⟩ : ∃ l, l = refsTo sl.fs sl.fs.length := ⟨_, rfl⟩
      rw [← han] at Hk E
      rw [← hfn] at Hk
      rw [← hlv] at d0
      rw [← hgn] at d1
      rw [← hct] at d2
      rw [← hfn] at d3
      clear hat hF hb2 K2 hb02 hsl hfn hlv hgn hct han Hh
      go_wp2_with fail
      refine Hk.out.mono ?_
      rintro e w3 ⟨A3, c3, rfl, ho, hb3⟩
      have Hb3 := Lib.hid (Hb02.out.trans (hb3.mono Hb02.out.size))
      have Ho := Lib.hid (ho.lo_le Hb02.out.size)
      clear ho hb3 Hk
      go_wp2
      go_ret
      rw [E.out]
      exact ⟨_, _, rfl, Ho.out, Hb3.out⟩
    · have E := Lib.hid (kidsA_none (a := a) (z := z) (fun h => hv h.2))
      have hd : (decide (0 ≤ z) && decide (z < a.slots.length)) = false := by
        cases h : (decide (0 ≤ z) && decide (z < a.slots.length))
        · rfl
        · simp at h; exact absurd h hv
      rw [hd]
      have Hb3 := Lib.hid (Hb2.out.trans (hb2.mono Hb2.out.size))
      clear hd hv hb2 Hh K2
      go_wp2
      go_ret
      rw [E.out]
      exact AnsI.nil Hb3.out

set_option maxRecDepth 100000 in
set_option maxHeartbeats 4000000 in
theorem specChildren_c (z : Int) (hB : B ≤ w.heap.size) (h : ArL w L B A0 A1 A2 a) (hsz : arSz a ≤ 1048576) (hc : a.purple.length ≤ c2) :
    Calls Try.prog 22 #[.agg #[.slice A0 a.slots.length c0, .slice A1 a.queue.length c1, .slice A2 a.purple.length c2], .int .i64 z] w (AnsI w (kidsA a z)) := by
  obtain ⟨i0, hi, hz0, hz1, hz2⟩ := info_parts infoI
  have hbW := blw1 w (.cells #[.slice A0 a.slots.length c0, .slice A1 a.queue.length c1, .slice A2 a.purple.length c2] 30)
  have HR := Lib.hid (okAt a A0 A1 A2 c0 c1 c2 L B w _ h hsz hc (hbW.mono hB) (Nat.le_trans hB hbW.size))
  have HbW := Lib.hid hbW
  have HKA := Lib.hid (Blk.new w 30 #[.slice A0 a.slots.length c0, .slice A1 a.queue.length c1, .slice A2 a.purple.length c2])
  have H := Lib.hid h
  have hS : a.slots.length ≤ 1048576 := by unfold arSz slsSz at hsz; omega
  have Hsz := Lib.hid hsz
  clear h hsz hbW
  go_enter Try.func22, Try.ntmps22
  go_wp2_with fail
  refine HR.out.mono ?_
  rintro e w1 ⟨rfl, hb⟩
  have hbB := HbW.out.trans (hb.mono HbW.out.size)
  have KA1 := HKA.out.below hb HKA.out.lt
  cases hok : arOk a
  · have E := Lib.hid (kidsA_none (a := a) (z := z) (by rw [hok]; simp))
    have Hb := Lib.hid hbB
    clear hb HbW HR hbB KA1 HKA hok
    go_wp2
    go_ret
    rw [E.out]
    exact AnsI.nil Hb.out
  · have Hok := Lib.hid hok
    have Hb := Lib.hid hbB
    have HK := Lib.hid KA1
    have p0 := KA1.cel 0 (v := .slice A0 a.slots.length c0) rfl
    clear hb HbW HR hbB KA1 HKA hok
    by_cases hv0 : 0 ≤ z
    · obtain ⟨s, rfl⟩ : ∃ s : Nat, z = s := ⟨z.toNat, by omega⟩
      have hd0 : decide ((s : Int) < 0) = false := decide_eq_false (by omega)
      by_cases hs : s < a.slots.length
      · have E := Lib.hid (kidsA_some Hok.out hs)
        have hfl := slots_fs Hsz.out hs
        have hd1 : decide ((a.slots.length : Int) ≤ (s : Int)) = false := decide_eq_false (by omega)
        have hd2 : decide (a.slots.length ≤ s) = false := decide_eq_false (by omega)
        obtain ⟨fs, hfs⟩ : ∃ f, f = a.slots[s].fs := ⟨_, rfl⟩
        rw [← hfs] at hfl E
        have Hfs := Lib.hid hfs
        clear hfs
        go_wp2_with fail
        go_loopw [5, 6] (fun n i wr => ∃ k : Nat, k ≤ fs.length ∧ i = .int .i64 k ∧ Hid (IRow wr w1.heap.size n (refsTo fs k)) ∧ Below w1.heap.size w1 wr) (fun _ i _ => fs.length - (intOf i).toNat)
        case atStart => exact ⟨0, Nat.zero_le _, rfl, Lib.hid (IRow.nil _ _), Below.refl _ _⟩
        case round =>
          obtain ⟨k, hk, rfl, hrow, hbl⟩ := hrel
          obtain ⟨A, c, rfl, hlc⟩ := hrow.out.form
          have hll := refsTo_le fs k
          have hbw := Hb.out.trans (hbl.mono Hb.out.size)
          have KR := HK.out.below hbl HK.out.lt
          have r0 := KR.cel 0 (v := .slice A0 a.slots.length c0) rfl
          have hws := hbl.size
          obtain ⟨ad, rfl, _, hbk, hat⟩ := (H.out.1.below (hbw.mono hB)).2 (by omega)
          obtain ⟨x0, x1, x2, x3, ⟨d0, d1, d2, d3⟩, rfl, rfl, rfl, FA, fc, rfl, hF⟩ := hat s hs
          rw [← Hfs.out] at d3 hF
          have HF := Lib.hid hF
          have Hbl := Lib.hid hbl
          have Hbw := Lib.hid hbw
          clear hat d0 d1 d2 hF hbl hbw KR
          by_cases hlt : k < fs.length
          · obtain ⟨fd, rfl, _, hfb, hfat⟩ := HF.out.2 (by omega)
            obtain ⟨y0, y1, y2, y3, ⟨f0, f1, f2, f3⟩, NA, nc, rfl, -, -, rfl, rfl, rfl⟩ := hfat k hlt
            have Hy := Lib.hid (fun h => refsTo_yes (l := fs) hlt h)
            have Hno := Lib.hid (fun h => refsTo_no (l := fs) hlt h)
            obtain ⟨fk, hfk⟩ : ∃ f, f = fs[k].k := ⟨_, rfl⟩
            obtain ⟨fn, hfn⟩ : ∃ f, f = fs[k].n := ⟨_, rfl⟩
            obtain ⟨fg, hfg⟩ : ∃ f, f = fs[k].g := ⟨_, rfl⟩
            rw [← hfk] at f1 Hy Hno
            rw [← hfn] at f2 Hy
            rw [← hfg] at f3
            clear hfat hfk hfn hfg f0
            have hr1 := hrow.out.alloc (.cells #[.int .i64 fk, .int .i64 fn, .int .i64 fg] 55)
            have hbl1 := Hbl.out.trans ((blw1 wr (.cells #[.int .i64 fk, .int .i64 fn, .int .i64 fg] 55)).mono hws)
            by_cases he : fk = 2
            · subst he
              have Hn := Lib.hid (Hy.out rfl)
              have HO := Lib.hid (hr1.alloc (.cells #[.int .i64 fn] 3))
              have Hcell := Lib.hid (cell_one_new (wr.alloc (.cells #[.int .i64 2, .int .i64 fn, .int .i64 fg] 55)) (.int .i64 fn) 3)
              have Hbl1 := Lib.hid hbl1
              clear hr1 hbl1 Hy Hno Hbl
              go_wp2_with (at_builtin; refine wpList_append_own _ rfl (.tmp 46) (.tmp 49) 23 rfl w1.heap.size 3 i0 _ 1 8 Try.underlying23 hi hz0 hz1 hz2 rfl (by omega) _ _ _ rfl HO.out ⟨wr.heap.size + 1, 0, none⟩ 1 1 [.int .i64 fn] rfl rfl (by have := Hcell.out; rw [World.size_alloc] at this; exact this) (by simp [Value.oneCell']) (by unfold maxLen; omega) (by omega) (by simp; omega) ?_; intro v' w4 hown' hgrow _)
              have hbn : Below w1.heap.size w1 w4 := HO.out.grown (Hbl1.out.alloc (by simp; omega) _) (by simp; omega) hgrow
              have Hnew := Lib.hid (IRow.snoc hown')
              have Hbn := Lib.hid hbn
              clear hown' hgrow hbn HO Hcell Hbl1
              go_roundw
              case rel => exact ⟨k + 1, by omega, by go_num, by rw [Hn.out]; exact Hnew, Hbn.out⟩
              case measure => simp [intOf]; omega
            · have Hn := Lib.hid (Hno.out he)
              have Hr1 := Lib.hid hr1
              have Hbl1 := Lib.hid hbl1
              clear hr1 hbl1 Hy Hno hrow Hbl
              go_wp2
              go_roundw
              case rel => exact ⟨k + 1, by omega, by go_num, by rw [Hn.out]; exact Hr1, Hbl1.out⟩
              case measure => simp [intOf]; omega
          · obtain rfl : k = fs.length := by omega
            clear Hbl
            go_wp2
            go_ret
            rw [E.out]
            exact ⟨_, _, rfl, (hrow.out.own).lo_le Hb.out.size, Hbw.out⟩
      · have E := Lib.hid (kidsA_none (a := a) (z := (s : Int)) (fun h => hs (by omega)))
        have hd1 : decide ((a.slots.length : Int) ≤ (s : Int)) = true := decide_eq_true (by omega)
        have hd2 : decide (a.slots.length ≤ s) = true := decide_eq_true (by omega)
        go_wp2
        go_ret
        rw [E.out]
        exact AnsI.nil Hb.out
    · have E := Lib.hid (kidsA_none (a := a) (z := z) (fun h => hv0 h.2.1))
      have hn0 : z < 0 := by omega
      go_wp2
      go_ret
      rw [E.out]
      exact AnsI.nil Hb.out
end
end Go.Proofs.Ytpepikjcbgkcfaa
