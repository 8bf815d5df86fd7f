/-
  The model's ArenaText.
-/
import Derived.Test.YtebgigiakfjocaaDoorAppD
import Derived.Test.YtebgigiakfjocaaDoorDigB
import Derived.Test.YtebgigiakfjocaaDoorArnTxt
import Derived.Test.YtebgigiakfjocaaDoorRes
import Derived.Test.YtebgigiakfjocaaDoorSpecArnOk
import Derived.Deep.RegionWith
import Derived.Deep.DeepCutAuto
namespace Go.Proofs.YtebgigiakfjocaaDoor
open Go.RowKit
set_option linter.unusedVariables false
set_option linter.unusedSimpArgs false

section
variable (S : List Sl) (Q P : List Int) (A0 A1 A2 : Option Addr) (c0 c1 c2 L B : Nat) (w : World)
set_option maxRecDepth 100000 in
set_option maxHeartbeats 8000000 in
theorem specArenaText0 (hB : B ≤ w.heap.size) (h : ArL w L B A0 A1 A2 ⟨S, Q, P⟩) (hsz : arSz ⟨S, Q, P⟩ ≤ 1048576) (hc : P.length ≤ c2) :
    Calls Tryd.prog 10 #[.agg #[.slice A0 S.length c0, .slice A1 Q.length c1, .slice A2 P.length c2]] w (AnsT w (arTxt ⟨S, Q, P⟩)) := by
  have hbW := blw1 w (.cells #[.slice A0 S.length c0, .slice A1 Q.length c1, .slice A2 P.length c2] 31)
  have hsl : slsSz S ≤ 1048576 := by unfold arSz at hsz; dsimp only at hsz; omega
  have HR := Lib.hid (specArenaOk_c S Q P A0 A1 A2 c0 c1 c2 L B _ (Nat.le_trans hB hbW.size) hsl hc (h.1.below (hbW.mono hB)) (h.2.1.below (hbW.mono hB)) (h.2.2.below (hbW.mono hB)))
  have HbW := Lib.hid hbW
  have Hsz := Lib.hid hsz
  have H := Lib.hid (show SlL w L B A0 S from h.1)
  have HKA := Lib.hid (Blk.new w 31 #[.slice A0 S.length c0, .slice A1 Q.length c1, .slice A2 P.length c2])
  clear h hsz hbW hsl
  go_enter Tryd.func10, Tryd.ntmps10
  go_wp2_with fail
  refine HR.out.mono ?_
  rintro e W ⟨rfl, hb⟩
  have Hb := Lib.hid (HbW.out.trans (hb.mono HbW.out.size))
  have hs1 := Hb.out.size
  have hKA := HKA.out.below hb HKA.out.lt
  cases hok : arOk ⟨S, Q, P⟩
  · have E := Lib.hid (show arTxt ⟨S, Q, P⟩ = [] by unfold arTxt; rw [hok]; rfl)
    clear hb HbW HR hok hKA HKA
    go_wp2
    go_ret
    rw [E.out]
    exact AnsT.nil Hb.out
  · have E := Lib.hid (show arTxt ⟨S, Q, P⟩ = slsTo S S.length by unfold arTxt; rw [hok]; rfl)
    obtain ⟨h16, hSl⟩ := arOk_txt hok
    have HSl := Lib.hid hSl
    obtain ⟨q0, q1, q2⟩ := hKA.three
    have HKA1 := Lib.hid hKA
    have HL := Lib.hid (H.out.below (Hb.out.mono hB))
    have Hfl := Lib.hid (fun j (hj : j < S.length) => fs_len (a := ⟨S, Q, P⟩) Hsz.out hj)
    dsimp only at HSl h16
    have hbd := Lib.hid (fun k hk => slsTo_len h16 (fun j hj => ⟨HSl.out j hj, Hfl.out j hj⟩) k hk)
    have hwW : w.heap.size < W.heap.size := hKA.lt
    have hBW : B ≤ W.heap.size := by omega
    clear hb HbW HR hok hKA HKA hSl H
    go_wp2_with fail
    go_loopw [3, 4] (fun t i wr => ∃ (k : Nat) (x : List UInt8) (A : Option Addr) (c : Nat), k ≤ S.length ∧ i = .int .i64 k ∧ t = .slice A x.length c ∧ Hid (x = slsTo S k) ∧ Hid (OwnT wr W.heap.size (.slice A x.length c) x) ∧ Hid (Say W.heap.size W wr)) (fun _ i _ => S.length - (intOf i).toNat)
    case atStart => exact ⟨0, [], none, 0, Nat.zero_le _, rfl, rfl, Lib.hid rfl, Lib.hid (OwnT.nil _ _), Lib.hid (Say.refl _ _)⟩
    case round =>
      obtain ⟨k, x, At, ct', hk, rfl, rfl, hx, hO, hY⟩ := hrel
      have hxl : x.length ≤ 20000020 * k := hx.out ▸ hbd.out k hk
      have hsz := hY.out.size
      obtain ⟨q0, q1, q2⟩ := (HKA1.out.below hY.out.below HKA1.out.lt).three
      by_cases hlt : k < S.length
      · obtain ⟨ad, rfl, _, hbk, hat⟩ := (HL.out.below (hY.out.below.mono hBW)).2 (by omega)
        obtain ⟨x0, x1, x2, x3, ⟨d0, d1, d2, d3⟩, rfl, rfl, rfl, FA, fc, rfl, hF⟩ := hat k hlt
        have hSk := HSl.out k hlt
        have hnext : slsTo S (k + 1) = x ++ Lib.decDigits k ++ [32] ++ slTxt S[k] ++ [10] := by rw [slsTo_succ hlt, ← hx.out]; unfold slLine; simp
        have htx : slTxt S[k] = slHead S[k] ++ fdsTo S[k].fs S[k].fs.length := rfl
        have hhd : slHead S[k] = if S[k].live then liveB ++ Lib.decDigits S[k].count.toNat else emptyB := rfl
        have hhl := slHead_len hSk
        have hfb := hSk.2.2
        have hfl := Hfl.out k hlt
        have hc0 := hSk.1
        have hc1 := hSk.2.1
        obtain ⟨hd, hhd'⟩ : ∃ y, slHead S[k] = y := ⟨_, rfl⟩
        rw [htx, hhd'] at hnext
        rw [hhd'] at hhd hhl
        obtain ⟨fs, hfs⟩ : ∃ y, S[k].fs = y := ⟨_, rfl⟩
        obtain ⟨sl, hsl⟩ : ∃ y, S[k].live = y := ⟨_, rfl⟩
        obtain ⟨gn, hgn⟩ : ∃ y, S[k].gen = y := ⟨_, rfl⟩
        obtain ⟨ct, hct⟩ : ∃ y, S[k].count = y := ⟨_, rfl⟩
        have hfb' : ∀ j (hj : j < fs.length), FdB fs[j] := by subst hfs; exact hfb
        rw [hfs] at d3 hF hnext hfl
        rw [hsl] at d0 hhd
        rw [hgn] at d1
        rw [hct] at d2 hhd hc0 hc1
        obtain ⟨y, hy⟩ : ∃ y, x ++ Lib.decDigits k = y := ⟨_, rfl⟩
        obtain ⟨z, hz⟩ : ∃ z, y ++ [32] = z := ⟨_, rfl⟩
        obtain ⟨u, hu⟩ : ∃ u, z ++ hd = u := ⟨_, rfl⟩
        have hdk : (Lib.decDigits k).length ≤ 10 := dig_len k (by omega)
        have hyl : y.length ≤ 20000020 * k + 10 := by rw [← hy, List.length_append]; omega
        have hzl : z.length ≤ 20000020 * k + 11 := by rw [← hz, List.length_append]; simp only [List.length_cons, List.length_nil]; omega
        have hul : u.length ≤ 20000020 * k + 26 := by rw [← hu, List.length_append]; omega
        obtain ⟨ct, rfl⟩ : ∃ n : Nat, ct = n := ⟨ct.toNat, by omega⟩
        have Hnext := Lib.hid (show slsTo S (k + 1) = u ++ fdsTo fs fs.length ++ [10] by rw [hnext, hy, hz, ← hu]; simp)
        have Hy := Lib.hid hy
        have Hz := Lib.hid hz
        have Hu := Lib.hid hu
        have Hhd := Lib.hid hhd
        have Hfb := Lib.hid hfb'
        obtain ⟨nf, hnf⟩ : ∃ n, fs.length = n := ⟨_, rfl⟩
        rw [hnf] at d3 hfl
        have Hnf := Lib.hid hnf
        have HF := Lib.hid hF
        have HO := Lib.hid (hO.out.alloc (.cells #[.bool sl, .int .i64 gn, .int .i64 ct, .slice FA nf fc] 72))
        have HY := Lib.hid (hY.out.alloc hsz (.cells #[.bool sl, .int .i64 gn, .int .i64 ct, .slice FA nf fc] 72))
        have HYF := Lib.hid (hF.below ((blOne wr (.cells #[.bool sl, .int .i64 gn, .int .i64 ct, .slice FA nf fc] 72)).mono (by omega)))
        have HKs := Lib.hid (Blk.new wr 72 #[.bool sl, .int .i64 gn, .int .i64 ct, .slice FA nf fc])
        have hsa : (wr.alloc (.cells #[.bool sl, .int .i64 gn, .int .i64 ct, .slice FA nf fc] 72)).heap.size = wr.heap.size + 1 := by simp
        have Hd1 := Lib.hid (l1digitsB_c (k + 1) k (wr.alloc (.cells #[.bool sl, .int .i64 gn, .int .i64 ct, .slice FA nf fc] 72)) (by omega) (by omega))
        clear hat hnext hhd hfb hfb' htx hx hO hY hfs hsl hgn hct hy hz hu hF hnf hhd' hSk
        go_upto_if 29 with (first
          | (go_at_call 41; refine Hd1.out.mono ?_; rintro e w3 ⟨v3, rfl, hO3, hb3⟩; obtain ⟨A3, c3, rfl, hR3⟩ := hO3.form; have HR3 := Lib.hid hR3; have HO3 := Lib.hid (HO.out.below hb3); have HK3 := Lib.hid (HKs.out.below hb3 HKs.out.lt); have hs3 := hb3.size; rw [hsa] at hs3; have HY3 := Lib.hid (HY.out.trans (Say.of hb3 (by omega))); have HF3 := Lib.hid (HYF.out.below (hb3.mono (by omega))); clear hR3 hO3 hb3 Hd1)
          | (at_builtin; refine wpList_rowT rfl (.tmp 22) (.tmp 24) rfl rfl HO3.out rfl HR3.out Hy.out (by omega) (by omega) ?_; intro A4 c4 w4 hO4 hY4; have HO4 := Lib.hid hO4; have HK4 := Lib.hid (HK3.out.say hY4 (by decide)); have HY4 := Lib.hid (HY3.out.trans hY4); have hs4 := hY4.size; have HF4 := Lib.hid (HF3.out.below (hY4.below.mono hBW)); clear hO4 hY4)
          | (at_builtin; refine wpList_oneT (b := 32) rfl (.tmp 25) (.tmp 26) rfl rfl HO4.out 32 rfl rfl (by first | rfl | simp) Hz.out (by omega) (by omega) ?_; intro A5 c5 w5 hO5 hY5; have HO5 := Lib.hid hO5; have hK5 := HK4.out.say hY5 (by decide); obtain ⟨r0, r1, r2, r3⟩ := hK5.four; have HK5 := Lib.hid hK5; have HY5 := Lib.hid (HY4.out.trans hY5); have hs5 := hY5.size; have HF5 := Lib.hid (HF4.out.below (hY5.below.mono hBW)); clear hO5 hY5 hK5))
        go_cut [3] (fun t wx => ∃ A c, t = .slice A u.length c ∧ Hid (OwnT wx W.heap.size (.slice A u.length c) u) ∧ Hid (Say W.heap.size W wx) ∧ Hid (FdL wx L B FA fs) ∧ Hid (Blk wx wr.heap.size 72 #[.bool sl, .int .i64 gn, .int .i64 ct, .slice FA nf fc]))
        case first =>
          cases sl
          · have Hu' := Lib.hid (show z ++ emptyB = u from by rw [← Hu.out, Hhd.out]; rfl)
            go_wp2_with (at_builtin; refine wpList_strT rfl (.tmp 36) _ rfl rfl HO5.out rfl (r := emptyB) rfl Hu'.out (by unfold emptyB; simp; omega) (by omega) ?_; intro A6 c6 w6 hO6 hY6; have HO6 := Lib.hid hO6; have HY6 := Lib.hid (HY5.out.trans hY6); have HF6 := Lib.hid (HF5.out.below (hY6.below.mono hBW)); have HK6 := Lib.hid (HK5.out.say hY6 (by decide)); clear hO6 hY6)
            go_meet
            case rel => exact ⟨A6, c6, rfl, HO6, HY6, HF6, HK6⟩
          · obtain ⟨p, hp⟩ : ∃ p, z ++ liveB = p := ⟨_, rfl⟩
            have hu' : p ++ Lib.decDigits ct = u := by rw [← Hu.out, Hhd.out, ← hp]; simp
            have hpl : p.length ≤ 20000020 * k + 16 := by rw [← hp, List.length_append]; show _ + 5 ≤ _; omega
            have Hp := Lib.hid hp
            have Hu' := Lib.hid hu'
            have Hd2 := Lib.hid (fun w => l1digitsB_c (ct + 1) ct w (by omega) (by omega))
            have hdc : (Lib.decDigits ct).length ≤ 10 := dig_len ct (by omega)
            clear hp hu'
            go_wp2_with fail
            go_region_law (first
              | (refine step_strT rfl (.tmp 30) (.const (.string ⟨#[108, 105, 118, 101, 32]⟩)) rfl (show OwnT w5.drew _ _ _ from HO5.out) (s := ⟨#[108, 105, 118, 101, 32]⟩) (r := liveB) rfl Hp.out (by unfold liveB; simp; omega) (by show W.heap.size ≤ w5.heap.size; omega) (by simp [Act.eval, Act.put]) (by simp [Act.eval, Act.put]) ?_; intro A6 c6 w6 hO6 hY6'; have hY6 := hY6'.undrew; have HO6 := Lib.hid hO6; have hK6 := HK5.out.say hY6 (by decide); obtain ⟨s0, s1, s2, s3⟩ := hK6.four; have HK6 := Lib.hid hK6; have HY6 := Lib.hid (HY5.out.trans hY6); have hs6 : w5.heap.size ≤ w6.heap.size := hY6.size; have HF6 := Lib.hid (HF5.out.below (hY6.below.mono hBW)); clear hO6 hY6 hY6' hK6)
              | (refine step_rowT (c0 := c7) rfl (.tmp 31) (.tmp 34) rfl HO7.out HR7.out Hu'.out (by omega) (by omega) (by simp [Act.eval, Act.put]) (by simp [Act.eval, Act.put]) ?_; intro A8 c8 w8 hO8 hY8; have HO8 := Lib.hid hO8; have HK8 := Lib.hid (HK7.out.say hY8 (by decide)); have HY8 := Lib.hid (HY7.out.trans hY8); have HF8 := Lib.hid (HF7.out.below (hY8.below.mono hBW)); clear hO8 hY8)
              | (go_simp; go_at_call 41; refine (Hd2.out _).mono ?_; rintro e w7 ⟨v7, rfl, hO7, hb7⟩; obtain ⟨A7, c7, rfl, hR7⟩ := hO7.form; have HR7 := Lib.hid hR7; have HO7 := Lib.hid (HO6.out.below hb7); have HK7 := Lib.hid (HK6.out.below hb7 HK6.out.lt); have hs7 := hb7.size; have HY7 := Lib.hid (HY6.out.trans (Say.of hb7 (by omega))); have HF7 := Lib.hid (HF6.out.below (hb7.mono (by omega))); clear hR7 hO7 hb7 Hd2))
            all_goals
              try go_wp2_with fail
              go_meet
              case rel => exact ⟨A8, c8, rfl, HO8, HY8, HF8, HK8⟩
        case rest =>
          obtain ⟨Ac, cc, rfl, HOc, HYc, HFc, HKc⟩ := hcut
          obtain ⟨gb, hgb⟩ : ∃ g, wr.heap.size = g := ⟨_, rfl⟩
          rw [hgb] at HKc
          simp only [hgb]
          have hgbW : W.heap.size ≤ gb := by omega
          clear HO3 HR3 HK3 HY3 HF3 HO4 HK4 HY4 HF4 HO5 HK5 HY5 HF5 r0 r1 r2 r3 HO HY HKs HYF HF hsa hs3 hs4 hs5 hgb hsz d0 d1 d2 d3 q0 q1 q2 hxl
          go_wp2_with fail
          go_loopw [3, 6] (fun t i wr => ∃ (j : Nat) (y : List UInt8) (A : Option Addr) (c : Nat), j ≤ nf ∧ i = .int .i64 j ∧ t = .slice A y.length c ∧ Hid (y = u ++ fdsTo fs j) ∧ Hid (OwnT wr W.heap.size (.slice A y.length c) y) ∧ Hid (Say W.heap.size W wr) ∧ Hid (FdL wr L B FA fs) ∧ Hid (Blk wr gb 72 #[.bool sl, .int .i64 gn, .int .i64 ct, .slice FA nf fc])) (fun _ i _ => nf - (intOf i).toNat)
          case atStart => exact ⟨0, u, Ac, cc, Nat.zero_le _, rfl, rfl, Lib.hid (by simp [fdsTo]), HOc, HYc, HFc, HKc⟩
          case round =>
            obtain ⟨j, yy, Aj, cj, hj, rfl, rfl, hx, hO, hY, hF, hK⟩ := hrel
            obtain ⟨r0, r1, r2, r3⟩ := hK.out.four
            have hxl : yy.length ≤ 20000020 * k + 26 + 18 * j := by
              rw [hx.out, List.length_append]
              have := fdsTo_len Hfb.out j (by rw [Hnf.out]; exact hj)
              omega
            have hszi := hY.out.size
            by_cases hltj : j < nf
            · have hltf : j < fs.length := by rw [Hnf.out]; exact hltj
              obtain ⟨fd, rfl, _, hfdb, hfat⟩ := hF.out.2 (by omega)
              obtain ⟨y0, y1, y2, y3, ⟨f0, f1, f2, f3⟩, NA, nc, rfl, hN, hnm, rfl, rfl, rfl⟩ := hfat j hltf
              obtain ⟨hF1, hF2⟩ := Hfb.out j hltf
              have hnext : u ++ fdsTo fs (j + 1) = yy ++ [32] ++ fs[j].name ++ refTxt fs[j] := by rw [fdsTo_succ hltf, hx.out]; unfold fdTxt; simp
              have hsame : refTxt fs[j] = if fs[j].k = 2 then 62 :: Lib.decDigits fs[j].n.toNat else [] := rfl
              obtain ⟨nm, hnme⟩ : ∃ n, fs[j].name = n := ⟨_, rfl⟩
              obtain ⟨fk, hfk⟩ : ∃ n, fs[j].k = n := ⟨_, rfl⟩
              obtain ⟨fn, hfn⟩ : ∃ n, fs[j].n = n := ⟨_, rfl⟩
              obtain ⟨fg, hfg⟩ : ∃ n, fs[j].g = n := ⟨_, rfl⟩
              rw [hnme] at f0 hF1 hN hnext
              rw [hfk] at f1 hF2 hsame
              rw [hfn] at f2 hF2 hsame
              rw [hfg] at f3
              obtain ⟨p1, hp1⟩ : ∃ y, yy ++ [32] = y := ⟨_, rfl⟩
              obtain ⟨p2, hp2⟩ : ∃ z, p1 ++ nm = z := ⟨_, rfl⟩
              have hpl1 : p1.length ≤ 20000020 * k + 27 + 18 * j := by rw [← hp1, List.length_append]; simp only [List.length_cons, List.length_nil]; omega
              have hpl2 : p2.length ≤ 20000020 * k + 33 + 18 * j := by rw [← hp2, List.length_append]; omega
              rw [hp1, hp2] at hnext
              have Hp1 := Lib.hid hp1
              have Hp2 := Lib.hid hp2
              have Hnx := Lib.hid hnext
              have Hsame := Lib.hid hsame
              have HN := Lib.hid hN.1
              have Hcells := Lib.hid (fun (X : World) (hX : Below B wr X) => show X.cell? (fd.add (j * 4)) = some (.slice NA nm.length nc) ∧ X.cell? ⟨(fd.add (j * 4)).block, (fd.add (j * 4)).off + 1, none⟩ = some (.int .i64 fk) ∧ X.cell? ⟨(fd.add (j * 4)).block, (fd.add (j * 4)).off + 2, none⟩ = some (.int .i64 fn) from
                have hb : (fd.add (j * 4)).block < B := by rw [block_of_add]; exact hfdb
                ⟨(hX.cell hb).trans f0, (hX.cell (p := ⟨(fd.add (j * 4)).block, (fd.add (j * 4)).off + 1, none⟩) hb).trans f1, (hX.cell (p := ⟨(fd.add (j * 4)).block, (fd.add (j * 4)).off + 2, none⟩) hb).trans f2⟩)
              have b3 := fun o => ((hK.out.alloc o).four).2.2.2
              have hBr : B ≤ wr.heap.size := by omega
              have e0 := fun o => (Hcells.out (wr.alloc o) ((Below.refl B wr).alloc hBr o)).1
              clear hfat hp1 hp2 hnext hN hx hsame hnme hfk hfn hfg
              go_upto_region 15 with fail
              go_cut [3] (fun t wx => ∃ A c, t = .slice A p2.length c ∧ Hid (OwnT wx W.heap.size (.slice A p2.length c) p2) ∧ Hid (Say W.heap.size wr wx))
              case first =>
                go_region_law (first
                  | (refine step_oneT (b := 32) rfl (.tmp 45) (.tmp 46) rfl (hO.out.ad _) 32 rfl (g := wr.heap.size) (Blk.new_d wr 5 _) Hp1.out (by omega) (by show W.heap.size ≤ (wr.alloc _).heap.size; simp; omega) (by simp [Act.eval, Act.put]) (by simp [Act.eval, Act.put]) ?_; intro A6 c6 w6 hO6 hY6'; have hY6 := hY6'.ad hszi; have HO6 := Lib.hid hO6; obtain ⟨s0, s1, s2, s3⟩ := (hK.out.say hY6 (by decide)).four; have hs6 : wr.heap.size ≤ w6.heap.size := hY6.size; have hbB := hY6.below.mono hBW; obtain ⟨g0, -, -⟩ := Hcells.out w6 hbB; have HN6 := Lib.hid (HN.out.below hbB); have HY6 := Lib.hid hY6; clear hO6 hY6 hY6' hbB)
                  | (refine step_rowT (c0 := nc) rfl (.tmp 47) (.tmp 53) rfl HO6.out HN6.out Hp2.out (by omega) (by omega) (by simp [Act.eval, Act.put]) (by simp [Act.eval, Act.put]) ?_; intro A8 c8 w8 hO8 hY8; have HO8 := Lib.hid hO8; have HY8 := Lib.hid (HY6.out.trans hY8); clear hO8 hY8))
                all_goals
                  try go_wp2_with fail
                  go_meet
                  case rel => exact ⟨A8, c8, rfl, HO8, HY8⟩
              case rest =>
                obtain ⟨Ax, cx, rfl, HOx, HYx⟩ := hcut
                have hsx := HYx.out.size
                have hbx := HYx.out.below.mono hBW
                have hKx := hK.out.say HYx.out (by decide)
                obtain ⟨t0, t1, t2, t3⟩ := hKx.four
                obtain ⟨m0, m1, m2⟩ := Hcells.out wc hbx
                have HKx := Lib.hid hKx
                have HFx := Lib.hid (hF.out.below hbx)
                have HYW := Lib.hid (hY.out.trans HYx.out)
                have hsw : W.heap.size ≤ wc.heap.size := by omega
                have b3' := fun o => ((hKx.alloc o).four).2.2.2
                have e2 := fun o => (Hcells.out (wc.alloc o) (hbx.alloc (by omega) o)).2.2
                clear b3 e0 r0 r1 r2 r3 f0 f1 f2 f3 hO hY hK hF hbx hKx HN
                by_cases h2 : fk = 2
                · subst h2
                  obtain ⟨hn0, hn1⟩ := hF2 rfl
                  obtain ⟨n, rfl⟩ : ∃ n : Nat, fn = n := ⟨fn.toNat, by omega⟩
                  obtain ⟨p3, hp3⟩ : ∃ z, p2 ++ [62] = z := ⟨_, rfl⟩
                  have hpl3 : p3.length ≤ 20000020 * k + 34 + 18 * j := by rw [← hp3, List.length_append]; simp only [List.length_cons, List.length_nil]; omega
                  obtain ⟨p4, hp4⟩ : ∃ z, p3 ++ Lib.decDigits n = z := ⟨_, rfl⟩
                  have hdn : (Lib.decDigits n).length ≤ 10 := dig_len n (by omega)
                  have hend : u ++ fdsTo fs (j + 1) = p4 := by rw [Hnx.out, Hsame.out, if_pos rfl, ← hp4, ← hp3]; simp
                  have Hend := Lib.hid hend
                  have Hp3 := Lib.hid hp3
                  have Hp4 := Lib.hid hp4
                  have Hd3 := Lib.hid (fun w => l1digitsB_c (n + 1) n w (by omega) (by omega))
                  clear hp3 hp4 hend hF2
                  go_wp2_with fail
                  go_region_law (first
                    | (refine step_oneT (b := 62) rfl (.tmp 63) (.tmp 64) rfl (HOx.out.ad _) 62 rfl (g := wc.heap.size) (Blk.new_d wc 5 _) Hp3.out (by omega) (by show W.heap.size ≤ (wc.alloc _).heap.size; simp; omega) (by simp [Act.eval, Act.put]) (by simp [Act.eval, Act.put]) ?_; intro A6 c6 w6 hO6 hY6'; have hY6 := hY6'.ad hsw; have HO6 := Lib.hid hO6; have hK6 := HKx.out.say hY6 (by decide); obtain ⟨s0, s1, s2, s3⟩ := hK6.four; have HK6 := Lib.hid hK6; have hs6 : wc.heap.size ≤ w6.heap.size := hY6.size; have HF6 := Lib.hid (HFx.out.below (hY6.below.mono hBW)); obtain ⟨g0, g1, g2⟩ := Hcells.out w6 ((HYx.out.trans hY6).below.mono hBW); have HY6 := Lib.hid (HYW.out.trans hY6); clear hO6 hY6 hY6' hK6)
                    | (refine step_rowT (c0 := c7) rfl (.tmp 65) (.tmp 73) rfl HO7.out HR7.out Hp4.out (by omega) (by omega) (by simp [Act.eval, Act.put]) (by simp [Act.eval, Act.put]) ?_; intro A8 c8 w8 hO8 hY8; have HO8 := Lib.hid hO8; have HK8 := Lib.hid (HK7.out.say hY8 (by decide)); have HF8 := Lib.hid (HF7.out.below (hY8.below.mono hBW)); have HY8 := Lib.hid (HY7.out.trans hY8); clear hO8 hY8)
                    | (go_simp; go_at_call 41; refine (Hd3.out _).mono ?_; rintro e w7 ⟨v7, rfl, hO7, hb7⟩; obtain ⟨A7, c7, rfl, hR7⟩ := hO7.form; have HR7 := Lib.hid hR7; have HO7 := Lib.hid (HO6.out.below hb7); have HK7 := Lib.hid (HK6.out.below hb7 HK6.out.lt); have hs7 := hb7.size; have HY7 := Lib.hid (HY6.out.trans (Say.of hb7 (by omega))); have HF7 := Lib.hid (HF6.out.below (hb7.mono (by omega))); clear hR7 hO7 hb7 Hd3))
                  all_goals
                    try go_wp2_with fail
                    go_roundw
                    case rel => exact ⟨j + 1, p4, A8, c8, by omega, by go_num, rfl, Lib.hid Hend.out.symm, HO8, HY8, HF8, HK8⟩
                    case measure => simp [intOf]; omega
                · have hend : u ++ fdsTo fs (j + 1) = p2 := by rw [Hnx.out, Hsame.out, if_neg h2, List.append_nil]
                  have Hend := Lib.hid hend
                  have h2' : (fk == 2) = false := by simpa using h2
                  clear hend hF2 h2
                  go_wp2
                  go_roundw
                  case rel => exact ⟨j + 1, p2, Ax, cx, by omega, by go_num, rfl, Lib.hid Hend.out.symm, HOx, HYW, HFx, HKx⟩
                  case measure => simp [intOf]; omega
            · obtain rfl : j = nf := by omega
              have hv : yy ++ [10] = slsTo S (k + 1) := by rw [Hnext.out, hx.out, Hnf.out]
              have Hv := Lib.hid hv
              have hsW : W.heap.size ≤ wr.heap.size := hszi
              obtain ⟨v, hve⟩ : ∃ v, v = slsTo S (k + 1) := ⟨_, rfl⟩
              rw [← hve] at Hv
              have Hve := Lib.hid hve
              clear hv hve
              go_wp2_with (at_builtin; refine wpList_oneT (b := 10) rfl (.tmp 75) (.tmp 76) rfl rfl hO.out 10 rfl rfl (by first | rfl | simp) Hv.out (by omega) hszi ?_; intro A9 c9 w9 hO9 hY9; have HO9 := Lib.hid hO9; have HY9 := Lib.hid (hY.out.trans hY9); clear hO9 hY9)
              go_roundw
              case rel => exact ⟨k + 1, v, A9, c9, by omega, by go_num, rfl, Lib.hid Hve.out, HO9, HY9⟩
              case measure => simp [intOf]; omega
      · obtain rfl : k = S.length := by omega
        go_wp2
        go_ret
        rw [E.out, ← hx.out]
        exact ⟨_, _, rfl, hO.out.less Hb.out.size, Hb.out.trans (hY.out.below.mono Hb.out.size)⟩
end
theorem specArenaText_c (a : Ar) (A0 A1 A2 : Option Addr) (c0 c1 c2 L B : Nat) (w : World) (hB : B ≤ w.heap.size) (h : ArL w L B A0 A1 A2 a) (hsz : arSz a ≤ 1048576) (hc : a.purple.length ≤ c2) :
    Calls Tryd.prog 10 #[.agg #[.slice A0 a.slots.length c0, .slice A1 a.queue.length c1, .slice A2 a.purple.length c2]] w (AnsT w (arTxt a)) :=
  specArenaText0 a.slots a.queue a.purple A0 A1 A2 c0 c1 c2 L B w hB h hsz hc
end Go.Proofs.YtebgigiakfjocaaDoor
