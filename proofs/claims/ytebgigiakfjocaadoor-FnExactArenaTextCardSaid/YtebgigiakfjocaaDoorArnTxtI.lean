/-
  The program's ArenaText.
-/
import Derived.Test.YtebgigiakfjocaaDoorArnTxtA
import Derived.Test.YtebgigiakfjocaaDoorRoomAt
namespace Go.Proofs.YtebgigiakfjocaaDoor
open Go.RowKit
set_option linter.unusedVariables false
set_option linter.unusedSimpArgs false

theorem slLine_eq (i : Nat) (s : Sl) (x : List UInt8) : x ++ slLine i s = x ++ Lib.decDigits i ++ [32] ++ slTxt s ++ [10] := by unfold slLine; simp
section
variable (a : Ar) (A0 A1 A2 : Option Addr) (c0 c1 c2 L B : Nat) (w : World)
set_option maxRecDepth 100000 in
set_option maxHeartbeats 4000000 in
theorem implArenaText_c (hB : B ≤ w.heap.size) (h : ArL w L B A0 A1 A2 a) (hsz : arSz a ≤ 1048576) (htab : Lib.TabBelow Tryd.prog w.heap.size w "internal/strconv.uint64pow10" .u64 Lib.pow10Tab) :
    Calls Tryd.prog 12 #[.agg #[.slice A0 a.slots.length c0, .slice A1 a.queue.length c1, .slice A2 a.purple.length c2]] w (AnsT w (arTxt a)) := by
  have hbW := blw1 w (.cells #[.slice A0 a.slots.length c0, .slice A1 a.queue.length c1, .slice A2 a.purple.length c2] 31)
  have HR := Lib.hid (roomAt a A0 A1 A2 c0 c1 c2 L B w _ h hsz (hbW.mono hB) (Nat.le_trans hB hbW.size))
  have HbW := Lib.hid hbW
  have Hsz := Lib.hid hsz
  have Htab := Lib.hid htab
  clear h hsz hbW htab
  go_enter Tryd.func12, Tryd.ntmps12
  go_wp2_with fail
  refine HR.out.mono ?_
  rintro e w1 ⟨u0, u1, u2, u3, rfl, hb, hu, hyes⟩
  have Hb := Lib.hid (HbW.out.trans (hb.mono HbW.out.size))
  have hs1 := Hb.out.size
  cases hok : arOk a
  · have E := Lib.hid (show arTxt a = [] by unfold arTxt; rw [hok]; rfl)
    obtain ⟨_, _, _, rfl⟩ := hu u0 (by simp)
    obtain ⟨_, _, _, rfl⟩ := hu u1 (by simp)
    obtain ⟨_, _, _, rfl⟩ := hu u2 (by simp)
    obtain ⟨_, _, _, rfl⟩ := hu u3 (by simp)
    clear hu hb HbW HR hyes hok
    go_wp2
    go_ret
    rw [E.out]
    exact AnsT.nil (Hb.out.alloc Hb.out.size _)
  · have E := Lib.hid (show arTxt a = slsTo a.slots a.slots.length by unfold arTxt; rw [hok]; rfl)
    obtain ⟨h16, hSl⟩ := arOk_txt hok
    have HSl := Lib.hid hSl
    obtain ⟨A, c, rfl, hsl, -, rfl, rfl⟩ := hyes hok
    obtain ⟨LA, ln, lc, rfl⟩ := hu u1 (by simp)
    have hbr := blw1 w1 (.cells #[.slice A a.slots.length c, .slice LA ln lc, .slice A1 a.queue.length c1, .slice A2 a.purple.length c2] 82)
    have hK := Blk.new w1 82 #[.slice A a.slots.length c, .slice LA ln lc, .slice A1 a.queue.length c1, .slice A2 a.purple.length c2]
    have HL := Lib.hid (hsl.below hbr)
    have Hb2 := Lib.hid (Hb.out.trans (hbr.mono Hb.out.size))
    have hsW : w1.heap.size < (w1.alloc (.cells #[.slice A a.slots.length c, .slice LA ln lc, .slice A1 a.queue.length c1, .slice A2 a.purple.length c2] 82)).heap.size := by simp
    obtain ⟨q0, -, -, -⟩ := hK.four
    obtain ⟨W, hW⟩ : ∃ W, W = w1.alloc (.cells #[.slice A a.slots.length c, .slice LA ln lc, .slice A1 a.queue.length c1, .slice A2 a.purple.length c2] 82) := ⟨_, rfl⟩
    rw [← hW] at HL Hb2 hsW q0
    have HW := Lib.hid hW
    have HtabW := Lib.hid (show Lib.TabBelow Tryd.prog W.heap.size W "internal/strconv.uint64pow10" .u64 Lib.pow10Tab from fun w' h' => Htab.out w' (Hb2.out.trans (h'.mono Hb2.out.size)))
    clear hu hb HbW HR hyes hok hsl hbr hSl hK hW
    rw [HW.out] at q0
    go_wp2_with fail
    rw [← HW.out]
    obtain ⟨S, hS⟩ : ∃ S, a.slots = S := ⟨_, rfl⟩
    have Hfl := Lib.hid (fun j (hj : j < a.slots.length) => fs_len Hsz.out hj)
    rw [hS] at HL E h16 HSl Hfl ⊢
    have hsL : w1.heap.size ≤ W.heap.size := by omega
    have hbd := Lib.hid (fun k hk => slsTo_len h16 (fun j hj => ⟨HSl.out j hj, Hfl.out j hj⟩) k hk)
    clear hS
    go_loopw [5, 18] (fun t i wr => ∃ (k : Nat) (x : List UInt8) (A : Option Addr) (c : Nat), k ≤ S.length ∧ i = .int .i64 k ∧ t = .slice A x.length c ∧ Hid (x = slsTo S k) ∧ Hid (OwnT wr W.heap.size (.slice A x.length c) x) ∧ Hid (Say W.heap.size W wr)) (fun _ i _ => S.length - (intOf i).toNat)
    case atStart => exact ⟨0, [], none, 0, Nat.zero_le _, rfl, rfl, Lib.hid rfl, Lib.hid (OwnT.nil _ _), Lib.hid (Say.refl _ _)⟩
    case round =>
      obtain ⟨k, x, At, ct', hk, rfl, rfl, hx, hO, hY⟩ := hrel
      have hxl : x.length ≤ 20000020 * k := hx.out ▸ hbd.out k hk
      have hsz := hY.out.size
      by_cases hlt : k < S.length
      · obtain ⟨ad, rfl, _, hbk, hat⟩ := (HL.out.below (hY.out.below.mono hsL)).2 (by omega)
        obtain ⟨x0, x1, x2, x3, ⟨d0, d1, d2, d3⟩, rfl, rfl, rfl, FA, fc, rfl, hF⟩ := hat k hlt
        have hnext : slsTo S (k + 1) = x ++ Lib.decDigits k ++ [32] ++ slTxt S[k] ++ [10] := by rw [slsTo_succ hlt, ← hx.out, slLine_eq]
        have htl := slTxt_len (HSl.out k hlt) (Hfl.out k hlt)
        have Htx := Lib.hid (fun FA fc B w' hB h ht => slText_c (S[k]'hlt) FA fc 0 B w' (HSl.out k hlt) (Hfl.out k hlt) hB h ht)
        obtain ⟨tx, htx⟩ : ∃ y, slTxt S[k] = y := ⟨_, rfl⟩
        rw [htx] at hnext htl
        simp only [htx] at Htx
        obtain ⟨fs, hfs⟩ : ∃ y, S[k].fs = y := ⟨_, rfl⟩
        obtain ⟨sl, hsl⟩ : ∃ y, S[k].live = y := ⟨_, rfl⟩
        obtain ⟨gn, hgn⟩ : ∃ y, S[k].gen = y := ⟨_, rfl⟩
        obtain ⟨ct, hct⟩ : ∃ y, S[k].count = y := ⟨_, rfl⟩
        simp only [hfs, hsl, hgn, hct] at Htx
        rw [hfs] at d3 hF
        rw [hsl] at d0
        rw [hgn] at d1
        rw [hct] at d2
        obtain ⟨y, hy⟩ : ∃ y, x ++ Lib.decDigits k = y := ⟨_, rfl⟩
        obtain ⟨z, hz⟩ : ∃ z, y ++ [32] = z := ⟨_, rfl⟩
        obtain ⟨u, hu⟩ : ∃ u, z ++ tx = u := ⟨_, rfl⟩
        obtain ⟨v, hv⟩ : ∃ v, u ++ [10] = v := ⟨_, rfl⟩
        have hyl : y.length ≤ 20000020 * k + 2 := by rw [← hy, List.length_append]; have := dig_small (u := k) (by omega); omega
        have hzl : z.length ≤ 20000020 * k + 3 := by rw [← hz, List.length_append]; simp only [List.length_cons, List.length_nil]; omega
        have hul : u.length ≤ 40000020 * k + 20000003 := by rw [← hu, List.length_append]; omega
        have hnext' : slsTo S (k + 1) = v := by rw [hnext, hy, hz, hu, hv]
        have Hnext := Lib.hid hnext'
        have Hy := Lib.hid hy
        have Hz := Lib.hid hz
        have Hu := Lib.hid hu
        have Hv := Lib.hid hv
        obtain ⟨nf, hnf⟩ : ∃ n, fs.length = n := ⟨_, rfl⟩
        rw [hnf] at d3
        have Hnf := Lib.hid hnf
        have HF := Lib.hid hF
        have HOa := Lib.hid (hO.out.alloc (.cells #[.bool sl, .int .i64 gn, .int .i64 ct, .slice FA nf fc] 88))
        have HY0 := Lib.hid ((Say.refl W.heap.size wr).alloc hsz (.cells #[.bool sl, .int .i64 gn, .int .i64 ct, .slice FA nf fc] 88))
        have HYa := Lib.hid (hY.out.alloc hsz (.cells #[.bool sl, .int .i64 gn, .int .i64 ct, .slice FA nf fc] 88))
        have HKs := Lib.hid (Blk.new wr 88 #[.bool sl, .int .i64 gn, .int .i64 ct, .slice FA nf fc])
        have hsa : W.heap.size ≤ (wr.alloc (.cells #[.bool sl, .int .i64 gn, .int .i64 ct, .slice FA nf fc] 88)).heap.size := by simp; omega
        have Ha := Lib.hid (appIntS_c x (.slice At x.length ct') k W.heap.size (wr.alloc (.cells #[.bool sl, .int .i64 gn, .int .i64 ct, .slice FA nf fc] 88)) (by omega) hsa (by omega) HOa.out)
        rw [hy] at Ha
        have hsa' : (wr.alloc (.cells #[.bool sl, .int .i64 gn, .int .i64 ct, .slice FA nf fc] 88)).heap.size = wr.heap.size + 1 := by simp
        clear hat hnext hnext' hx hO hY hfs hsl hgn hct htx hy hz hu hv hF hnf HOa
        go_wp2_with (first
          | (go_at_call 45; refine Ha.out.mono ?_; rintro e w3 ⟨A3, c3, rfl, hO3, hY3⟩; have HO3 := Lib.hid hO3; have HK3 := Lib.hid (HKs.out.say hY3 (by decide)); have HY3 := Lib.hid (HYa.out.trans hY3); have HY03 := Lib.hid (HY0.out.trans hY3); have hs3 := hY3.size; rw [hsa'] at hs3; clear hO3 hY3 Ha)
          | (at_builtin; refine wpList_oneT (b := 32) rfl (.tmp 26) (.tmp 27) rfl rfl HO3.out 32 rfl rfl (by first | rfl | simp) Hz.out (by omega) (by omega) ?_; intro A4 c4 w4 hO4 hY4; have HO4 := Lib.hid hO4; have hK4 := HK3.out.say hY4 (by decide); obtain ⟨r0, r1, r2, r3⟩ := hK4.four; have HY4 := Lib.hid (HY3.out.trans hY4); have hs4 := hY4.size; have Htx4 := Lib.hid (Htx.out FA fc w1.heap.size w4 (by omega) ((HF.out.below (HY03.out.below.mono hsL)).below (hY4.below.mono hsL)) (fun w' h' => HtabW.out w' (HY4.out.below.trans (h'.mono (by omega))))); rw [Hnf.out] at Htx4; clear hO4 hY4 hK4)
          | (go_at_call 46; refine Htx4.out.mono ?_; rintro e w5 ⟨A5, c5, rfl, hO5, hb5⟩; have HR5 := Lib.hid hO5.ownU.rb; have HO5 := Lib.hid (HO4.out.below hb5); have hs5 := hb5.size; have HY5 := Lib.hid (HY4.out.trans (Say.of hb5 (by omega))); clear hO5 hb5 Htx4)
          | (at_builtin; refine wpList_rowT rfl (.tmp 29) (.tmp 31) rfl rfl HO5.out rfl HR5.out Hu.out (by omega) (by omega) ?_; intro A6 c6 w6 hO6 hY6; have HO6 := Lib.hid hO6; have HY6 := Lib.hid (HY5.out.trans hY6); have hs6 := hY6.size; clear hO6 hY6)
          | (at_builtin; refine wpList_oneT (b := 10) rfl (.tmp 33) (.tmp 34) rfl rfl HO6.out 10 rfl rfl (by first | rfl | simp) Hv.out (by omega) (by omega) ?_; intro A7 c7 w7 hO7 hY7; have HO7 := Lib.hid hO7; have HY7 := Lib.hid (HY6.out.trans hY7); clear hO7 hY7))
        go_roundw
        case rel => exact ⟨k + 1, v, A7, c7, by omega, by go_num, rfl, Lib.hid Hnext.out.symm, HO7, HY7⟩
        case measure => simp [intOf]; omega
      · obtain rfl : k = S.length := by omega
        go_wp2
        go_ret
        rw [E.out, ← hx.out]
        exact ⟨_, _, rfl, hO.out.less Hb2.out.size, Hb2.out.trans (hY.out.below.mono Hb2.out.size)⟩
end
end Go.Proofs.YtebgigiakfjocaaDoor
