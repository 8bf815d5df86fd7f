/-
  The model's counting.
-/
import Derived.Test.YtddjcjjnpidhiaaGreatDoorMcnt
import Derived.Test.YtddjcjjnpidhiaaGreatDoorOkAt
import Derived.Test.YtddjcjjnpidhiaaGreatDoorMrow
namespace Go.Proofs.YtddjcjjnpidhiaaGreatDoor
open Go.RowKit
set_option linter.unusedVariables false
set_option linter.unusedSimpArgs false

/-- one count is bumped -/
theorem bump_at {wr : World} {g : Nat} {C : List Int} {N m : Nat} (hB : Blk wr g 3 (vi C).toArray) (hN : C.length = N) (hs : Sm C m) {n : Int} (hn : 0 ≤ n ∧ n < N) :
    ∃ (j : Nat) (z : Int), n = (j : Int) ∧ j < N ∧ 0 ≤ z ∧ z ≤ m ∧ wr.cell? ⟨g, j, none⟩ = some (.int .i64 z) ∧ wr.frozen? ⟨g, j, none⟩ = false ∧ Blk (wr.setCell ⟨g, j, none⟩ (.int .i64 (z + 1))) g 3 (vi (bump1 C (j : Int))).toArray := by
  obtain ⟨j, rfl⟩ : ∃ j : Nat, n = j := ⟨n.toNat, by omega⟩
  have hj : j < C.length := by omega
  have h1 := hs j hj
  refine ⟨j, C[j], rfl, by omega, h1.1, h1.2, ?_, hB.frozen j, ?_⟩
  · rw [hB.cell]; simp [vi, hj]
  · have h2 := hB.set_ j (.int .i64 (C[j] + 1))
    rw [vi_set] at h2
    unfold bump1
    rw [Int.toNat_natCast, List.getD_eq_getElem?_getD, List.getElem?_eq_getElem hj]
    exact h2
theorem bumps_one (c l : List Int) (n : Int) : bumps c (l ++ [n]) = bump1 (bumps c l) n := by rw [bumps_app]; rfl

set_option maxRecDepth 100000 in
set_option maxHeartbeats 8000000 in
theorem l4refs_c (a : Ar) (A A1 A2 : Option Addr) (c0 c1 c2 : Nat) (l : List Vl) (VA : Option Addr) (vc LV LS LQ : Nat) (w : World) (hsz : arSz a ≤ 1048576) (hok : arOk a = true) (hro : rootsA a.slots l = true)
    (h : SlL w LS w.heap.size A a.slots) (hv : VlL w LV w.heap.size VA l) (hq : IL w LQ w.heap.size A1 a.queue) :
    Calls Tryz.prog 62 #[.agg #[.slice A a.slots.length c0, .slice A1 a.queue.length c1, .slice A2 a.purple.length c2], .slice VA l.length vc] w (AnsI w (cntR a.slots a.queue l)) := by
  obtain ⟨S, Q, P⟩ := a
  dsimp only at *
  obtain ⟨hS1, hS16, hQin, hQ500, hfin⟩ := arOk_at hok
  obtain ⟨hl5, hvl⟩ := rootsA_at hro
  dsimp only at hS1 hS16 hQin hQ500 hfin
  have hsl : slsSz S ≤ 1048576 := by unfold arSz at hsz; dsimp only at hsz; omega
  have hmk := run_make_row' (P := Tryz.prog) 26 3 (.int .i64 0) 8 Tryz.underlying26 infoI rfl .i64 .i64 S.length (by omega) (by omega)
  rw [made_zero] at hmk
  have Hsl := Lib.hid hsl
  have Hfin := Lib.hid hfin
  have HQin := Lib.hid hQin
  have Hvl := Lib.hid hvl
  have hb2 : Below w.heap.size w ((w.alloc (.cells #[.slice A S.length c0, .slice A1 Q.length c1, .slice A2 P.length c2] 40)).alloc (.cells (vi (List.replicate S.length 0)).toArray 3)) :=
    ((Below.refl _ _).alloc (Nat.le_refl _) _).alloc (by simp) _
  have HK0 := Lib.hid ((Blk.new w 40 #[.slice A S.length c0, .slice A1 Q.length c1, .slice A2 P.length c2]).alloc (.cells (vi (List.replicate S.length 0)).toArray 3))
  have HKc : Hid (Blk ((w.alloc (.cells #[.slice A S.length c0, .slice A1 Q.length c1, .slice A2 P.length c2] 40)).alloc (.cells (vi (List.replicate S.length 0)).toArray 3)) (w.heap.size + 1) 3 (vi (List.replicate S.length 0)).toArray) := Lib.hid (by
    have := (Blk.new (w.alloc (.cells #[.slice A S.length c0, .slice A1 Q.length c1, .slice A2 P.length c2] 40)) 3 (vi (List.replicate S.length 0)).toArray)
    rw [World.size_alloc] at this
    exact this)
  have Hb2 := Lib.hid hb2
  have H := Lib.hid h
  have HQ := Lib.hid hq
  have HV := Lib.hid hv
  clear h hq hv hb2 hsz hok hro hvl hfin hQin hsl
  go_enter Tryz.func62, Tryz.ntmps62
  go_wp2_with fail
  generalize hW : (w.alloc (.cells #[.slice A S.length c0, .slice A1 Q.length c1, .slice A2 P.length c2] 40)).alloc (.cells (vi (List.replicate S.length 0)).toArray 3) = W
  rw [hW] at HK0 HKc Hb2
  clear hW hmk
  obtain ⟨g, hg⟩ : ∃ g, g = w.heap.size + 1 := ⟨_, rfl⟩
  rw [← hg] at HKc
  rw [← hg]
  have HG := Lib.hid hg
  clear hg
  obtain ⟨Z, hZ⟩ : ∃ z, z = List.replicate S.length (0 : Int) := ⟨_, rfl⟩
  rw [← hZ] at HKc
  have HZ := Lib.hid hZ
  have HZs := Lib.hid (show Sm Z 0 by rw [hZ]; exact Sm.zero _)
  have HZl := Lib.hid (show Z.length = S.length by rw [hZ]; simp)
  clear hZ
  go_loopw [6] (fun i wr => ∃ k : Nat, k ≤ l.length ∧ i = .int .i64 k ∧ Hid (Blk wr g 3 (vi (bumps Z (refsV l k))).toArray) ∧ Hid (Blk wr w.heap.size 40 #[.slice A S.length c0, .slice A1 Q.length c1, .slice A2 P.length c2]) ∧ Hid (Below w.heap.size w wr)) (fun i _ => l.length - (intOf i).toNat)
  case atStart => exact ⟨0, Nat.zero_le _, rfl, HKc, HK0, Hb2⟩
  case round =>
    obtain ⟨k, hk, rfl, hcR, hkR, hbw⟩ := hrel
    have hsm := Lib.hid (HZs.out.bumps (refsV l k))
    have hbl := Lib.hid (show (bumps Z (refsV l k)).length = S.length by rw [bumps_len]; exact HZl.out)
    have hle := refsV_le l k
    by_cases hlt : k < l.length
    · obtain ⟨ad, rfl, _, hbk, hat⟩ := (HV.out.below hbw.out).2 (by omega)
      obtain ⟨d0, d1, d2⟩ := hat k hlt
      have Hy := Lib.hid (fun h => refsV_yes (l := l) (k := k) hlt h)
      have Hno := Lib.hid (fun h => refsV_no (l := l) (k := k) hlt h)
      have Hvo := Lib.hid (Hvl.out k hlt)
      obtain ⟨x, hx⟩ : ∃ x, x = l[k] := ⟨_, rfl⟩
      rw [← hx] at d0 d1 d2 Hy Hno Hvo
      obtain ⟨vk, vn, vg⟩ := x
      dsimp only at *
      clear hat hx d2
      by_cases he : vk = 2
      · subst he
        have hin := val2_in (S := S) (n := vn) (g := vg) Hvo.out
        obtain ⟨j, z, rfl, hjN, hz0, hzm, q0, f0, hnb⟩ := bump_at hcR.out hbl.out hsm.out hin
        have Hn : Hid (Blk (wr.setCell ⟨g, j, none⟩ (.int .i64 (z + 1))) g 3 (vi (bumps Z (refsV l (k + 1)))).toArray) := Lib.hid (by rw [Hy.out rfl, bumps_one]; exact hnb)
        have Hk2 := Lib.hid (hkR.out.far (p := ⟨g, j, none⟩) (by have := HG.out; simp; omega) (.int .i64 (z + 1)))
        have Hw2 := Lib.hid (hbw.out.setCell (p := ⟨g, j, none⟩) (by have := HG.out; simp; omega) (.int .i64 (z + 1)))
        have hzb : z ≤ 1000000000 := by omega
        clear hin hnb hzm Hy Hno Hvo hcR hkR hbw hle
        go_wp2
        go_roundw
        case rel => exact ⟨k + 1, by omega, by go_num, Hn, Hk2, Hw2⟩
        case measure => simp [intOf]; omega
      · have Hn : Hid (Blk wr g 3 (vi (bumps Z (refsV l (k + 1)))).toArray) := Lib.hid (by rw [Hno.out he]; exact hcR.out)
        clear Hy Hno Hvo hcR hle
        go_wp2
        go_roundw
        case rel => exact ⟨k + 1, by omega, by go_num, Hn, hkR, hbw⟩
        case measure => simp [intOf]; omega
    · obtain rfl : k = l.length := by omega
      obtain ⟨C1, hC1⟩ : ∃ c, c = bumps Z (refsV l l.length) := ⟨_, rfl⟩
      rw [← hC1] at hcR hsm hbl
      have HC1 := Lib.hid hC1
      have HC1s := Lib.hid (show Sm C1 500 from fun i hi => by have := hsm.out i hi; omega)
      clear hC1 hsm hle
      go_wp2_with fail
      go_loopw [7] (fun i wr => ∃ k : Nat, k ≤ S.length ∧ i = .int .i64 k ∧ Hid (Blk wr g 3 (vi (bumps C1 (flTo S k))).toArray) ∧ Hid (Blk wr w.heap.size 40 #[.slice A S.length c0, .slice A1 Q.length c1, .slice A2 P.length c2]) ∧ Hid (Below w.heap.size w wr)) (fun i _ => S.length - (intOf i).toNat)
      case atStart => exact ⟨0, Nat.zero_le _, rfl, hcR, hkR, hbw⟩
      case round =>
        obtain ⟨k, hk, rfl, hcR, hkR, hbw⟩ := hrel
        have hfl := flTo_bd Hsl.out hk
        have hsm := Lib.hid (HC1s.out.bumps (flTo S k))
        have hbl2 := Lib.hid (show (bumps C1 (flTo S k)).length = S.length by rw [bumps_len]; exact hbl.out)
        obtain ⟨C2, hC2⟩ : ∃ c, c = bumps C1 (flTo S k) := ⟨_, rfl⟩
        rw [← hC2] at hcR hsm hbl2
        have HC2 := Lib.hid hC2
        clear hC2
        have p0 := hkR.out.cel 0 (v := .slice A S.length c0) rfl
        by_cases hlt : k < S.length
        · have hfz : S[k].fs.length ≤ 1048576 := by
            have h1 := sum_get slSz hlt
            have h2 : S[k].fs.length ≤ slSz S[k] := by unfold slSz fsSz; omega
            have h3 := Hsl.out
            unfold slsSz at h3
            omega
          have Hsuc := Lib.hid (flTo_succ hlt)
          have Hrin := Lib.hid (Hfin.out k hlt)
          obtain ⟨fs, hfs⟩ : ∃ f, f = S[k].fs := ⟨_, rfl⟩
          rw [← hfs] at hfz Hsuc Hrin
          have Hfs := Lib.hid hfs
          clear hfs
          go_wp2_with fail
          go_loopw [8] (fun i wr => ∃ j : Nat, j ≤ fs.length ∧ i = .int .i64 j ∧ Hid (Blk wr g 3 (vi (bumps C2 (refsTo fs j))).toArray) ∧ Hid (Blk wr w.heap.size 40 #[.slice A S.length c0, .slice A1 Q.length c1, .slice A2 P.length c2]) ∧ Hid (Below w.heap.size w wr)) (fun i _ => fs.length - (intOf i).toNat)
          case atStart => exact ⟨0, Nat.zero_le _, rfl, hcR, hkR, hbw⟩
          case round =>
            obtain ⟨j, hj, rfl, hcR, hkR, hbw⟩ := hrel
            have hrl := refsTo_le fs j
            have hsm2 := Lib.hid (hsm.out.bumps (refsTo fs j))
            have hbl3 := Lib.hid (show (bumps C2 (refsTo fs j)).length = S.length by rw [bumps_len]; exact hbl2.out)
            obtain ⟨ad, rfl, _, hbk, hat⟩ := (H.out.below hbw.out).2 (by omega)
            obtain ⟨x0, x1, x2, x3, ⟨d0, d1, d2, d3⟩, rfl, rfl, rfl, FA, fc, rfl, hF⟩ := hat k hlt
            rw [← Hfs.out] at d3 hF
            have p0 := hkR.out.cel 0 (v := .slice (some ad) S.length c0) rfl
            clear hat d0 d1 d2
            by_cases hjl : j < fs.length
            · obtain ⟨fd, rfl, _, hfb, hfat⟩ := hF.2 (by omega)
              obtain ⟨y0, y1, y2, y3, ⟨f0, f1, f2, f3⟩, NA, nc, rfl, -, -, rfl, rfl, rfl⟩ := hfat j hjl
              have Hy := Lib.hid (fun h => refsTo_yes (l := fs) hjl h)
              have Hno := Lib.hid (fun h => refsTo_no (l := fs) hjl h)
              have Hin : Hid (fs[j].k = 2 → 0 ≤ fs[j].n ∧ fs[j].n < (S.length : Int)) := Lib.hid (fun h2 => by
                have hm : fs[j].n ∈ refsTo fs fs.length := by
                  unfold refsTo
                  rw [List.take_length, List.mem_map]
                  exact ⟨fs[j], List.mem_filter.2 ⟨List.getElem_mem hjl, by simpa using h2⟩, rfl⟩
                obtain ⟨i, hi, e⟩ := List.mem_iff_getElem.1 hm
                have := Hrin.out i hi
                rw [e] at this
                exact this)
              obtain ⟨fk, hfk⟩ : ∃ f, f = fs[j].k := ⟨_, rfl⟩
              obtain ⟨fn, hfn⟩ : ∃ f, f = fs[j].n := ⟨_, rfl⟩
              obtain ⟨fg, hfg⟩ : ∃ f, f = fs[j].g := ⟨_, rfl⟩
              rw [← hfk] at f1 Hy Hno Hin
              rw [← hfn] at f2 Hy Hin
              rw [← hfg] at f3
              clear hfat hF hfk hfn hfg f0
              have hbo := blw1 wr (.cells #[.int .i64 fk, .int .i64 fn, .int .i64 fg] 77)
              have hc4 := hcR.out.below hbo hcR.out.lt
              have hk4 := hkR.out.below hbo hkR.out.lt
              have hw4 := hbw.out.trans (hbo.mono hbw.out.size)
              by_cases he : fk = 2
              · subst he
                obtain ⟨i, z, rfl, hiN, hz0, hzm, q0, fz, hnb⟩ := bump_at hc4 hbl3.out hsm2.out (Hin.out rfl)
                have Hn : Hid (Blk ((wr.alloc (.cells #[.int .i64 2, .int .i64 (i : Int), .int .i64 fg] 77)).setCell ⟨g, i, none⟩ (.int .i64 (z + 1))) g 3 (vi (bumps C2 (refsTo fs (j + 1)))).toArray) := Lib.hid (by rw [Hy.out rfl, bumps_one]; exact hnb)
                have Hk2 := Lib.hid (hk4.far (p := ⟨g, i, none⟩) (by have := HG.out; simp; omega) (.int .i64 (z + 1)))
                have Hw2 := Lib.hid (hw4.setCell (p := ⟨g, i, none⟩) (by have := HG.out; simp; omega) (.int .i64 (z + 1)))
                have hzb : z ≤ 1000000000 := by omega
                clear hnb hzm Hy Hno Hin hcR hkR hbw hbo hc4 hk4 hw4
                go_wp2
                go_roundw
                case rel => exact ⟨j + 1, by omega, by go_num, Hn, Hk2, Hw2⟩
                case measure => simp [intOf]; omega
              · have Hn : Hid (Blk (wr.alloc (.cells #[.int .i64 fk, .int .i64 fn, .int .i64 fg] 77)) g 3 (vi (bumps C2 (refsTo fs (j + 1)))).toArray) := Lib.hid (by rw [Hno.out he]; exact hc4)
                have Hk2 := Lib.hid hk4
                have Hw2 := Lib.hid hw4
                clear Hy Hno Hin hcR hkR hbw hbo hc4 hk4 hw4
                go_wp2
                go_roundw
                case rel => exact ⟨j + 1, by omega, by go_num, Hn, Hk2, Hw2⟩
                case measure => simp [intOf]; omega
            · have Hn : Hid (Blk wr g 3 (vi (bumps C1 (flTo S (k + 1)))).toArray) := Lib.hid (by
                have e : j = fs.length := by omega
                rw [Hsuc.out, bumps_app, ← HC2.out, ← e]; exact hcR.out)
              obtain rfl : j = fs.length := by omega
              clear hcR hF
              go_wp2
              go_roundw
              case rel => exact ⟨k + 1, by omega, by go_num, Hn, hkR, hbw⟩
              case measure => simp [intOf]; omega
        · obtain rfl : k = S.length := by omega
          go_wp2_with fail
          go_loopw [10] (fun i wr => ∃ k : Nat, k ≤ Q.length ∧ i = .int .i64 k ∧ Hid (Blk wr g 3 (vi (bumps C2 (Q.take k))).toArray) ∧ Hid (Blk wr w.heap.size 40 #[.slice A S.length c0, .slice A1 Q.length c1, .slice A2 P.length c2]) ∧ Hid (Below w.heap.size w wr)) (fun i _ => Q.length - (intOf i).toNat)
          case atStart => exact ⟨0, Nat.zero_le _, rfl, hcR, hkR, hbw⟩
          case round =>
            obtain ⟨k, hk, rfl, hcR, hkR, hbw⟩ := hrel
            have hsm2 := Lib.hid (hsm.out.bumps (Q.take k))
            have hbl3 := Lib.hid (show (bumps C2 (Q.take k)).length = S.length by rw [bumps_len]; exact hbl2.out)
            have p1 := hkR.out.cel 1 (v := .slice A1 Q.length c1) rfl
            by_cases hlt : k < Q.length
            · obtain ⟨ad, rfl, _, hbk, hat⟩ := (HQ.out.below hbw.out).2 (by omega)
              have d0 := hat k hlt
              have htk : (Q.take k).length ≤ 500 := by simp; omega
              have Hsn := Lib.hid (bumps_snoc C2 hlt)
              obtain ⟨i, z, hi, hiN, hz0, hzm, q0, fz, hnb⟩ := bump_at hcR.out hbl3.out hsm2.out (HQin.out k hlt)
              rw [hi] at d0
              have Hn : Hid (Blk (wr.setCell ⟨g, i, none⟩ (.int .i64 (z + 1))) g 3 (vi (bumps C2 (Q.take (k + 1)))).toArray) := Lib.hid (by rw [Hsn.out, hi]; exact hnb)
              have Hk2 := Lib.hid (hkR.out.far (p := ⟨g, i, none⟩) (by have := HG.out; simp; omega) (.int .i64 (z + 1)))
              have Hw2 := Lib.hid (hbw.out.setCell (p := ⟨g, i, none⟩) (by have := HG.out; simp; omega) (.int .i64 (z + 1)))
              have hzb : z ≤ 1000000000 := by omega
              clear hat hnb hzm hcR hkR hbw hi htk
              go_wp2
              go_roundw
              case rel => exact ⟨k + 1, by omega, by go_num, Hn, Hk2, Hw2⟩
              case measure => simp [intOf]; omega
            · obtain rfl : k = Q.length := by omega
              have hc5 := hcR.out
              rw [List.take_length] at hc5
              have Hc5 := Lib.hid hc5
              have Hlen : Hid ((cntR S Q l).length = S.length) := Lib.hid (cntR_len S Q l)
              have Hcd : Hid (cntR S Q l = bumps C2 Q) := Lib.hid (by unfold cntR; rw [HC2.out, HC1.out, HZ.out])
              clear hc5 hcR
              go_wp2
              go_ret
              refine ⟨some ⟨g, 0, none⟩, S.length, by rw [Hlen.out]; rfl, fun hn => ⟨g, _, rfl, Hc5.out, by have := HG.out; omega, ?_, fun i hi => ?_⟩, hbw.out⟩
              · rw [Hcd.out]; simp [vi_len]
              · rw [Hcd.out] at hi ⊢
                have : (vi (bumps C2 Q))[i]? = some (.int .i64 (gI (bumps C2 Q) i)) := by rw [vi_get, List.getElem?_eq_getElem hi, gI_get hi]; rfl
                simpa using this
end Go.Proofs.YtddjcjjnpidhiaaGreatDoor

namespace Go.Proofs.YtddjcjjnpidhiaaGreatDoor
open Go.RowKit
set_option linter.unusedVariables false
set_option linter.unusedSimpArgs false


set_option maxHeartbeats 1000000 in
theorem slEqual_c (l l' : List Int) (A A' : Option Addr) (c c' L B L' B' : Nat) (w : World) (h : IL w L B A l) (h' : IL w L' B' A' l') :
    Calls Tryz.prog 71 #[.slice A l.length c, .slice A' l'.length c'] w fun e w' => e = .returned (.bool (decide (l = l'))) ∧ ∃ n, w' = w.drewN n := by
  have hm := h.1
  have hm' := h'.1
  unfold maxLen at hm hm'
  by_cases hll : l.length = l'.length
  · have Heq : Hid ((∀ j (hj : j < l.length), l.getD j 0 = l'.getD j 0) → decide (l = l') = true) := Lib.hid (fun hh => decide_eq_true (List.ext_getElem hll (fun i h1 h2 => by
      have := hh i h1
      rw [List.getD_eq_getElem?_getD, List.getD_eq_getElem?_getD, List.getElem?_eq_getElem h1, List.getElem?_eq_getElem h2] at this
      exact this)))
    have Hne : Hid (∀ j, ¬ l.getD j 0 = l'.getD j 0 → decide (l = l') = false) := Lib.hid (fun j hn => decide_eq_false (fun e => hn (by rw [e])))
    have Hg : Hid (∀ j (hj : j < l.length), l[j] = l.getD j 0) := Lib.hid (fun j hj => by rw [List.getD_eq_getElem?_getD, List.getElem?_eq_getElem hj]; rfl)
    have Hg' : Hid (∀ j (hj : j < l'.length), l'[j] = l'.getD j 0) := Lib.hid (fun j hj => by rw [List.getD_eq_getElem?_getD, List.getElem?_eq_getElem hj]; rfl)
    have HL := Lib.hid hll
    have H' := Lib.hid h'
    rw [← hll]
    clear hll hm' h'
    obtain ⟨b, hb⟩ : ∃ b, decide (l = l') = b := ⟨_, rfl⟩
    rw [hb] at Heq Hne
    rw [hb]
    clear hb
    go_enter Tryz.func71, Tryz.ntmps71
    go_wp2
    go_loopw [13] (fun i wr => ∃ (k : Nat), k ≤ l.length ∧ i = .int .i64 k ∧ Hid (∀ j, j < k → l.getD j 0 = l'.getD j 0) ∧ ∃ n, wr = w.drewN n) (fun i _ => l.length - (intOf i).toNat)
    case atStart => exact ⟨0, Nat.zero_le _, rfl, Lib.hid (fun j hj => by omega), 0, rfl⟩
    case round =>
      obtain ⟨k, hk, rfl, hall, n, rfl⟩ := hrel
      by_cases hlt : k < l.length
      · obtain ⟨ad, rfl, _, hb, hcell⟩ := h.2 (by omega)
        obtain ⟨ad', rfl, _, hb', hcell'⟩ := H'.out.2 (by have := HL.out; omega)
        have h1 := hcell k hlt
        have h2 := hcell' k (by have := HL.out; omega)
        rw [Hg.out k hlt] at h1
        rw [Hg'.out k (by have := HL.out; omega)] at h2
        have Hk := Lib.hid (Hne.out k)
        have Hs : Hid (l.getD k 0 = l'.getD k 0 → ∀ j, j < k + 1 → l.getD j 0 = l'.getD j 0) := Lib.hid (fun e j hj => by
          by_cases ej : j = k
          · subst ej; exact e
          · exact hall.out j (by omega))
        obtain ⟨x, hx⟩ : ∃ x, l.getD k 0 = x := ⟨_, rfl⟩
        obtain ⟨y, hy⟩ : ∃ x, l'.getD k 0 = x := ⟨_, rfl⟩
        rw [hx] at h1 Hk Hs
        rw [hy] at h2 Hk Hs
        clear hcell hcell' hx hy hall
        by_cases hxy : x = y
        · subst hxy
          have Hnew := Lib.hid (Hs.out rfl)
          clear Hs Hk
          go_wp2
          go_quiet (fail)
          go_wp2
          go_roundw
          case rel => exact ⟨k + 1, by omega, by go_num, Hnew, _, rfl⟩
          case measure => simp [intOf]; omega
        · have Hr := Lib.hid (Hk.out hxy)
          clear Hs Hk
          go_wp2
          go_quiet (fail)
          go_wp2
          go_ret
          exact ⟨by rw [Hr.out]; rfl, _, World.drewN_drewN _ _ _⟩
      · have Hr := Lib.hid (Heq.out (fun j hj => hall.out j (by omega)))
        clear hall
        go_wp2
        go_ret
        exact ⟨by rw [Hr.out]; rfl, _, rfl⟩
  · have Hr : Hid (decide (l = l') = false) := Lib.hid (decide_eq_false (fun e => hll (by rw [e])))
    have h0 : ¬ ((l.length : Int) = (l'.length : Int)) := by omega
    clear hll
    go_enter Tryz.func71, Tryz.ntmps71
    go_wp2
    go_ret
    exact ⟨by rw [Hr.out]; rfl, 0, rfl⟩
end Go.Proofs.YtddjcjjnpidhiaaGreatDoor

namespace Go.Proofs.YtddjcjjnpidhiaaGreatDoor
open Go.RowKit
set_option linter.unusedVariables false
set_option linter.unusedSimpArgs false

section
variable (a : Ar) (A0 A1 A2 : Option Addr) (c0 c1 c2 L B : Nat) (w : World)

set_option maxRecDepth 100000 in
set_option maxHeartbeats 4000000 in
theorem l4counted_c (l : List Vl) (VA : Option Addr) (vc LV BV : Nat) (hB : B ≤ w.heap.size) (hBV : BV ≤ w.heap.size) (h : ArL w L B A0 A1 A2 a) (hsz : arSz a ≤ 1048576) (hok : arOk a = true) (hro : rootsA a.slots l = true) (hv : VlL w LV BV VA l) :
    Calls Tryz.prog 33 #[.agg #[.slice A0 a.slots.length c0, .slice A1 a.queue.length c1, .slice A2 a.purple.length c2], .slice VA l.length vc] w fun e w' => e = .returned (.bool (cntEq a.slots a.queue l)) ∧ Below w.heap.size w w' := by
  have hbW := blw1 w (.cells #[.slice A0 a.slots.length c0, .slice A1 a.queue.length c1, .slice A2 a.purple.length c2] 40)
  have HKA := Lib.hid (Blk.new w 40 #[.slice A0 a.slots.length c0, .slice A1 a.queue.length c1, .slice A2 a.purple.length c2])
  have Hc := Lib.hid (l4refs_c a A0 A1 A2 c0 c1 c2 l VA vc 0 0 0 (w.alloc (.cells #[.slice A0 a.slots.length c0, .slice A1 a.queue.length c1, .slice A2 a.purple.length c2] 40)) hsz hok hro ((h.1.below (hbW.mono hB)).more (Nat.zero_le _) (Nat.le_trans hB hbW.size)) ((hv.below (hbW.mono hBV)).more (Nat.zero_le _) (Nat.le_trans hBV hbW.size)) ((h.2.1.below (hbW.mono hB)).more (Nat.zero_le _) (Nat.le_trans hB hbW.size)))
  have HbW := Lib.hid hbW
  have HS := Lib.hid h.1
  have hS : a.slots.length ≤ 1048576 := by unfold arSz slsSz at hsz; omega
  have Hno := Lib.hid (fun (i : Nat) (hi : i < a.slots.length) => cntEq_no (Q := a.queue) (l := l) hi)
  have Hyes := Lib.hid (cntEq_yes hok hro)
  have hlen := cntR_len a.slots a.queue l
  obtain ⟨r, hr⟩ : ∃ r, cntR a.slots a.queue l = r := ⟨_, rfl⟩
  obtain ⟨b, hb⟩ : ∃ b, cntEq a.slots a.queue l = b := ⟨_, rfl⟩
  obtain ⟨S, Q, P⟩ := a
  dsimp only at *
  rw [hr] at Hc Hno Hyes hlen
  rw [hb] at Hno Hyes
  rw [hb]
  have HL := Lib.hid hlen
  clear h hsz hbW hv hok hro hr hb hlen
  go_enter Tryz.func33, Tryz.ntmps33
  go_wp2_with fail
  refine Hc.out.mono ?_
  rintro e w1 ⟨Ar, cr, rfl, hor, hb1⟩
  have hmr : r.length ≤ maxLen := by have := HL.out; unfold maxLen; omega
  have HIr := Lib.hid (hor.ilg hmr)
  have hb01 := HbW.out.trans (hb1.mono HbW.out.size)
  have HK1 := Lib.hid (HKA.out.below hb1 HKA.out.lt)
  have HS1 := Lib.hid (HS.out.below (hb01.mono hB))
  have Hb01 := Lib.hid hb01
  rw [HL.out]
  clear hor hb1 hb01 HKA HbW HS Hc hmr
  go_wp2_with fail
  go_loopw [6] (fun i wr => ∃ k : Nat, k ≤ S.length ∧ i = .int .i64 k ∧ Hid (∀ j (hj : j < S.length), j < k → S[j].live = true → S[j].count = r.getD j 0) ∧ ∃ n, wr = w1.drewN n) (fun i _ => S.length - (intOf i).toNat)
  case atStart => exact ⟨0, Nat.zero_le _, rfl, Lib.hid (fun j hj h => by omega), 0, rfl⟩
  case round =>
    obtain ⟨k, hk, rfl, hall, n, rfl⟩ := hrel
    have p0 := HK1.out.cel 0 (v := .slice A0 S.length c0) rfl
    by_cases hlt : k < S.length
    · obtain ⟨ad, rfl, _, hbk, hat⟩ := HS1.out.2 (by omega)
      obtain ⟨x0, x1, x2, x3, ⟨d0, d1, d2, d3⟩, rfl, rfl, rfl, _⟩ := hat k hlt
      obtain ⟨ar, rfl, _, hbr, hatr⟩ := HIr.out.2 (by have := HL.out; omega)
      have e0 := hatr k (by have := HL.out; omega)
      have hge : r[k]'(by have := HL.out; omega) = r.getD k 0 := by rw [List.getD_eq_getElem?_getD, List.getElem?_eq_getElem (by have := HL.out; omega)]; rfl
      rw [hge] at e0
      have Hk := Lib.hid (Hno.out k hlt)
      have Hs : Hid ((S[k].live = true → S[k].count = r.getD k 0) → ∀ j (hj : j < S.length), j < k + 1 → S[j].live = true → S[j].count = r.getD j 0) := Lib.hid (fun e j hj h => by
        by_cases ej : j = k
        · subst ej; exact e
        · exact hall.out j hj (by omega))
      obtain ⟨lv, hlv⟩ : ∃ x, S[k].live = x := ⟨_, rfl⟩
      obtain ⟨ct, hct⟩ : ∃ x, S[k].count = x := ⟨_, rfl⟩
      obtain ⟨y, hy⟩ : ∃ x, r.getD k 0 = x := ⟨_, rfl⟩
      rw [hlv] at d0 Hs
      rw [hct] at d2 Hk Hs
      rw [hy] at e0 Hk Hs
      clear hat hatr hge hlv hct hy hall d1 d3
      cases lv
      · have Hnew := Lib.hid (Hs.out (fun h => by cases h))
        clear Hs Hk
        go_wp2
        go_quiet (fail)
        go_wp2
        go_roundw
        case rel => exact ⟨k + 1, by omega, by go_num, Hnew, _, rfl⟩
        case measure => simp [intOf]; omega
      · by_cases hxy : ct = y
        · subst hxy
          have Hnew := Lib.hid (Hs.out (fun _ => rfl))
          clear Hs Hk
          go_wp2
          go_quiet (fail)
          go_wp2
          go_roundw
          case rel => exact ⟨k + 1, by omega, by go_num, Hnew, _, rfl⟩
          case measure => simp [intOf]; omega
        · have Hr := Lib.hid (Hk.out hxy)
          clear Hs Hk
          go_wp2
          go_quiet (fail)
          go_wp2
          go_ret
          exact ⟨by rw [Hr.out]; rfl, ⟨Hb01.out.os, Hb01.out.tape, Hb01.out.output, Hb01.out.size, Hb01.out.block⟩⟩
    · have Hr := Lib.hid (Hyes.out (fun j hj => hall.out j hj (by omega)))
      clear hall
      go_wp2
      go_ret
      exact ⟨by rw [Hr.out]; rfl, ⟨Hb01.out.os, Hb01.out.tape, Hb01.out.output, Hb01.out.size, Hb01.out.block⟩⟩

end
end Go.Proofs.YtddjcjjnpidhiaaGreatDoor
