/-
  The model's CodeOk, all units.
-/
import Derived.Test.YtebgigiakfjocaaDoorSpecCode
import Derived.Test.YtebgigiakfjocaaDoorRegion
namespace Go.Proofs.YtebgigiakfjocaaDoor
open Go.RowKit
set_option linter.unusedVariables false
set_option linter.unusedSimpArgs false
namespace Cod

theorem slastOp_get {l : List In} (h : 0 < l.length) : lastOp l = (l[l.length - 1]'(by omega)).op := by
  unfold lastOp
  rw [List.getD_eq_getElem?_getD, List.getElem?_eq_getElem (by omega)]; rfl
theorem sunit_sz {C : List Un} (h : unsSz C ≤ 1048576) {k : Nat} (hk : k < C.length) : insSz C[k].l ≤ 1048576 ∧ C[k].l.length ≤ 1048576 := by
  have h1 := sum_get unSz hk
  have h2 : unSz C[k] = insSz C[k].l := rfl
  have h3 : C[k].l.length ≤ insSz C[k].l := by unfold insSz; omega
  unfold unsSz at h
  omega
theorem sadd0 (a : Addr) : a.add 0 = a := by unfold Addr.add; simp

set_option maxRecDepth 100000 in
set_option maxHeartbeats 16000000 in
theorem specCodeOk_c (C : List Un) (CA : Option Addr) (cc L B : Nat) (w : World) (hB : B ≤ w.heap.size) (hsz : unsSz C ≤ 1048576) (hC : UnL w L B CA C) :
    Calls Tryd.prog 55 #[.agg #[.slice CA C.length cc]] w
      fun e w' => e = .returned (.bool (codeOk C)) ∧ Below w.heap.size w w' := by
  have hCl : C.length ≤ 1048576 := by unfold unsSz at hsz; omega
  have hb1 := blwC w (.cells #[.slice CA C.length cc] 56)
  have Hb1 := Lib.hid hb1
  by_cases h1 : C.length < 1
  · have Hres := Lib.hid (show codeOk C = false by unfold codeOk; rw [decide_eq_false (by omega)]; rfl)
    obtain ⟨nl, hnl⟩ : ∃ n, n = C.length := ⟨_, rfl⟩
    rw [← hnl] at Hb1 h1
    rw [← hnl]
    clear hnl hC hb1
    obtain rfl : nl = 0 := by omega
    go_enter Tryd.func55, Tryd.ntmps55
    go_wp2
    go_ret
    exact ⟨by rw [Hres.out]; first | rfl | simp, Hb1.out⟩
  by_cases h2 : 4 < C.length
  · have Hres := Lib.hid (show codeOk C = false by unfold codeOk; rw [decide_eq_false (by omega)]; rfl)
    clear hC hb1
    go_enter Tryd.func55, Tryd.ntmps55
    go_wp2
    go_ret
    exact ⟨by rw [Hres.out]; first | rfl | simp, Hb1.out⟩
  have hC2 := hC.below (hb1.mono hB)
  obtain ⟨ad, rfl, _, hbk, hat⟩ := hC2.2 (by omega)
  obtain ⟨y0, y1, y2, ⟨d0, -, -⟩, rfl, -, -, -, -, -⟩ := hat 0 (by omega)
  have hp0 : pOf C 0 = C[0].params := by unfold pOf; rw [List.getD_eq_getElem?_getD]; simp [(by omega : 0 < C.length)]
  rw [← hp0] at d0
  rw [Nat.zero_mul, sadd0] at d0
  have d0' := d0
  rw [← sadd0 ad] at d0'
  have HC := Lib.hid hC2
  clear hat hp0 hC2
  obtain ⟨z, hz⟩ : ∃ z, z = pOf C 0 := ⟨_, rfl⟩
  rw [← hz] at d0 d0'
  by_cases h3 : ¬ z = 0
  · have Hres := Lib.hid (show codeOk C = false by unfold codeOk; rw [← hz, decide_eq_false h3]; simp)
    have hb3 : (z != 0) = true := by simpa using h3
    clear hC hb1 hz HC
    go_enter Tryd.func55, Tryd.ntmps55
    go_wp2
    go_ret
    exact ⟨by rw [Hres.out]; first | rfl | simp, Hb1.out⟩
  obtain rfl : z = 0 := Decidable.not_not.1 h3
  have Hall : Hid (∀ k (hk : k < C.length), unitOk C C[k] = false → codeOk C = false) := Lib.hid (fun k hk h => by unfold codeOk; rw [all_not hk h]; simp)
  have Hyes : Hid ((∀ k (hk : k < C.length), unitOk C C[k] = true) → codeOk C = true) := Lib.hid (fun h => by unfold codeOk; rw [← hz, all_at h, decide_eq_true (by omega : 1 ≤ C.length ∧ C.length ≤ 4)]; rfl)
  have HK := Lib.hid (Blk.new w 56 #[.slice (some ad) C.length cc])
  have Hins := Lib.hid (fun (u : Un) (o : In) (UA NA : Option Addr) (uc nc : Nat) (X : World) (hX : Below w.heap.size w X) (hl : u.l.length ≤ 1048576) (hr : 1 ≤ u.regs ∧ u.regs ≤ 24) (hN : RB X B NA o.name) (hn : o.name.length ≤ 1048576) =>
    l6ins_c C u o (some ad) UA NA cc uc nc L B X (Nat.le_trans hB hX.size) (hC.below (hX.mono hB)) hl hCl hr hN hn)
  have Hsz := Lib.hid hsz
  clear hC hsz hb1 hz h3
  go_enter Tryd.func55, Tryd.ntmps55
  go_wp2_with fail
  generalize hW : w.alloc (.cells #[.slice (some ad) C.length cc] 56) = W
  rw [hW] at HC Hb1 HK
  have hWs : w.heap.size ≤ W.heap.size := by rw [← hW]; simp
  have HWs := Lib.hid hWs
  clear hW hWs d0 d0'
  go_loopw [3] (fun i wr => ∃ k : Nat, k ≤ C.length ∧ i = .int .i64 k ∧ Hid (∀ j (hj : j < C.length), j < k → unitOk C C[j] = true) ∧ Below W.heap.size W wr) (fun i _ => C.length - (intOf i).toNat)
  case atStart => exact ⟨0, Nat.zero_le _, rfl, Lib.hid (fun j hj h => by omega), Below.refl _ _⟩
  case round =>
    obtain ⟨k, hk, rfl, hall, hbl⟩ := hrel
    have hws := hbl.size
    have KC1 := HK.out.below hbl HK.out.lt
    have c0 := KC1.cel 0 (v := .slice (some ad) C.length cc) rfl
    by_cases hlt : k < C.length
    · obtain ⟨ad', e', _, hbk', hat⟩ := (HC.out.below (hbl.mono (Nat.le_trans hB HWs.out))).2 (by omega)
      injection e' with e'
      subst e'
      obtain ⟨x0, x1, x2, ⟨d0, d1, d2⟩, rfl, rfl, UA, uc, rfl, hI⟩ := hat k hlt
      have hus := sunit_sz Hsz.out hlt
      have Hk := Lib.hid (Hall.out k hlt)
      obtain ⟨oo, hoo⟩ : ∃ o, o = C[k] := ⟨_, rfl⟩
      have Hoo := Lib.hid hoo
      rw [← hoo] at d0 d1 d2 Hk hI hus
      clear hat hoo
      obtain ⟨pm, rg, ul⟩ := oo
      dsimp only at *
      obtain ⟨nl, hnl⟩ : ∃ n, n = ul.length := ⟨_, rfl⟩
      rw [← hnl] at d2
      have Hnl := Lib.hid hnl
      have Hus := Lib.hid hus
      have hnl2 : nl ≤ 1048576 := by rw [hnl]; exact hus.2
      have hbo := blwC wr (.cells #[.int .i64 pm, .int .i64 rg, .slice UA nl uc] 102)
      have Hbw := Lib.hid (hbl.trans (hbo.mono hws))
      have HI2 := Lib.hid (hI.below (hbo.mono (Nat.le_trans (Nat.le_trans hB HWs.out) hws)))
      have KU := Blk.new wr 102 #[.int .i64 pm, .int .i64 rg, .slice UA nl uc]
      have HKU := Lib.hid KU
      have hwo : wr.heap.size ≤ (wr.alloc (.cells #[.int .i64 pm, .int .i64 rg, .slice UA nl uc] 102)).heap.size := hbo.size
      clear hnl hus hI hbl KC1 KU hbo
      by_cases h1 : pm < 0
      · have Hres := Lib.hid (Hk.out (by unfold unitOk headOk; rw [decide_eq_false (by dsimp only; omega)]; rfl))
        have Hbe := Lib.hid (Hb1.out.trans (Hbw.out.mono HWs.out))
        clear HI2 Hk
        go_wp2
        go_ret
        exact ⟨by rw [Hres.out]; first | rfl | simp, Hbe.out⟩
      by_cases h2 : 3 < pm
      · have Hres := Lib.hid (Hk.out (by unfold unitOk headOk; rw [decide_eq_false (by dsimp only; omega)]; rfl))
        have Hbe := Lib.hid (Hb1.out.trans (Hbw.out.mono HWs.out))
        clear HI2 Hk
        go_wp2
        go_ret
        exact ⟨by rw [Hres.out]; first | rfl | simp, Hbe.out⟩
      by_cases h3 : rg < 1
      · have Hres := Lib.hid (Hk.out (by unfold unitOk headOk; rw [decide_eq_false (by dsimp only; omega)]; rfl))
        have Hbe := Lib.hid (Hb1.out.trans (Hbw.out.mono HWs.out))
        clear HI2 Hk
        go_wp2
        go_ret
        exact ⟨by rw [Hres.out]; first | rfl | simp, Hbe.out⟩
      by_cases h4 : rg < pm
      · have Hres := Lib.hid (Hk.out (by unfold unitOk headOk; rw [decide_eq_false (by dsimp only; omega)]; rfl))
        have Hbe := Lib.hid (Hb1.out.trans (Hbw.out.mono HWs.out))
        clear HI2 Hk
        go_wp2
        go_ret
        exact ⟨by rw [Hres.out]; first | rfl | simp, Hbe.out⟩
      by_cases h5 : 24 < rg
      · have Hres := Lib.hid (Hk.out (by unfold unitOk headOk; rw [decide_eq_false (by dsimp only; omega)]; rfl))
        have Hbe := Lib.hid (Hb1.out.trans (Hbw.out.mono HWs.out))
        clear HI2 Hk
        go_wp2
        go_ret
        exact ⟨by rw [Hres.out]; first | rfl | simp, Hbe.out⟩
      by_cases h6 : nl < 1
      · have Hres := Lib.hid (Hk.out (by unfold unitOk bodyOk; rw [decide_eq_false (by dsimp only; rw [← Hnl.out]; omega)]; simp))
        have Hbe := Lib.hid (Hb1.out.trans (Hbw.out.mono HWs.out))
        obtain rfl : nl = 0 := by omega
        clear HI2 Hk
        go_wp2
        go_ret
        exact ⟨by rw [Hres.out]; first | rfl | simp, Hbe.out⟩
      by_cases h7 : 300 < nl
      · have Hres := Lib.hid (Hk.out (by unfold unitOk bodyOk; rw [decide_eq_false (by dsimp only; rw [← Hnl.out]; omega)]; simp))
        have Hbe := Lib.hid (Hb1.out.trans (Hbw.out.mono HWs.out))
        clear HI2 Hk
        go_wp2
        go_ret
        exact ⟨by rw [Hres.out]; first | rfl | simp, Hbe.out⟩
      have Hh := Lib.hid (show headOk ⟨pm, rg, ul⟩ = true by unfold headOk; exact decide_eq_true (by dsimp only; omega))
      obtain ⟨da, rfl, _, hdk, hdat⟩ := HI2.out.2 (by rw [← Hnl.out]; omega)
      have hla := slastOp_get (l := ul) (by rw [← Hnl.out]; omega)
      obtain ⟨z0, z1, z2, z3, z4, ⟨g0, -, -, -, -⟩, rfl, -, -, -, -⟩ := hdat (ul.length - 1) (by rw [← Hnl.out]; omega)
      rw [← hla, ← Hnl.out] at g0
      obtain ⟨lo, hlo⟩ : ∃ z, z = lastOp ul := ⟨_, rfl⟩
      rw [← hlo] at g0
      clear hdat hla
      by_cases h8 : ¬ lo = 11
      · have Hres := Lib.hid (Hk.out (by unfold unitOk bodyOk; dsimp only; rw [← hlo, decide_eq_false h8]; simp))
        have Hbe := Lib.hid (Hb1.out.trans (Hbw.out.mono HWs.out))
        have hb8 : (lo != 11) = true := by simpa using h8
        clear hlo
        clear HI2 Hk
        go_wp2
        go_ret
        exact ⟨by rw [Hres.out]; first | rfl | simp, Hbe.out⟩
      obtain rfl : lo = 11 := Decidable.not_not.1 h8
      have Hbd := Lib.hid (show bodyOk ⟨pm, rg, ul⟩ = true by unfold bodyOk; dsimp only; rw [← hlo, decide_eq_true (by rw [← Hnl.out]; omega : 1 ≤ ul.length ∧ ul.length ≤ 300)]; rfl)
      clear h8 hlo
      have Hno : Hid (∀ j (hj : j < ul.length), ordOk C ⟨pm, rg, ul⟩ ul[j] = false → codeOk C = false) := Lib.hid (fun j hj h => Hk.out (by unfold unitOk; rw [all_not (l := (⟨pm, rg, ul⟩ : Un).l) hj h]; simp))
      have Hya : Hid ((∀ j (hj : j < ul.length), ordOk C ⟨pm, rg, ul⟩ ul[j] = true) → unitOk C ⟨pm, rg, ul⟩ = true) := Lib.hid (fun h => by unfold unitOk; rw [Hh.out, Hbd.out, all_at (l := (⟨pm, rg, ul⟩ : Un).l) h]; rfl)
      have Hrr := Lib.hid (show 1 ≤ rg ∧ rg ≤ 24 by omega)
      clear Hk
      go_wp2_with fail
      generalize hW1 : wr.alloc (.cells #[.int .i64 pm, .int .i64 rg, .slice (some da) nl uc] 102) = W1
      rw [hW1] at HI2 Hbw HKU hwo
      clear hW1 d0 d1 d2 g0
      have HKC := Lib.hid (HK.out.below Hbw.out HK.out.lt)
      obtain ⟨wo, hwo2⟩ : ∃ x, x = wr := ⟨_, rfl⟩
      rw [← hwo2] at HKU hwo
      rw [← hwo2]
      clear hwo2
      go_loopw [5] (fun i wr' => ∃ j : Nat, j ≤ nl ∧ i = .int .i64 j ∧ Hid (∀ q (hq : q < ul.length), q < j → ordOk C ⟨pm, rg, ul⟩ ul[q] = true) ∧ Below W1.heap.size W1 wr') (fun i _ => nl - (intOf i).toNat)
      case atStart => exact ⟨0, Nat.zero_le _, rfl, Lib.hid (fun q hq h => by omega), Below.refl _ _⟩
      case round =>
        obtain ⟨j, hj, rfl, hord, hbj⟩ := hrel
        have hjs := hbj.size
        have KU2 := HKU.out.below hbj HKU.out.lt
        have KC2 := HKC.out.below hbj HKC.out.lt
        have p2 := KU2.cel 2 (v := .slice (some da) nl uc) rfl
        have HKU2 := Lib.hid KU2
        have HKC2 := Lib.hid KC2
        have Hbn := Lib.hid (Hbw.out.trans (hbj.mono Hbw.out.size))
        have Hbj := Lib.hid hbj
        have HI3 := Lib.hid (HI2.out.below (hbj.mono (Nat.le_trans (Nat.le_trans hB HWs.out) Hbw.out.size)))
        clear KU2 KC2 hbj
        by_cases hjl : j < nl
        · have hjl' : j < ul.length := by rw [← Hnl.out]; exact hjl
          obtain ⟨da', e', _, hdk', hat⟩ := HI3.out.2 (by omega)
          injection e' with e'
          subst e'
          obtain ⟨x0, x1, x2, x3, x4, ⟨g0, g1, g2, g3, g4⟩, rfl, rfl, rfl, rfl, NA, nc, rfl, hN, hnm⟩ := hat j hjl'
          have hn1 : ul[j].name.length ≤ 1048576 := by
            have h1 := sum_get inSz hjl'
            have h2 := Hus.out.1
            unfold insSz at h2
            have h3 : ul[j].name.length = inSz ul[j] := rfl
            rw [h3]
            omega
          have Hnj := Lib.hid (Hno.out j hjl')
          have Hl0 := Lib.hid (fun u : Wn wr => Hb1.out.trans ((Hbn.out.trans (u.prop.mono (Nat.le_trans Hbw.out.size hjs))).mono HWs.out))
          have hlow : B ≤ wr.heap.size := Nat.le_trans (Nat.le_trans hB HWs.out) (Nat.le_trans Hbw.out.size hjs)
          have Hcall := Lib.hid (fun u : Wn wr => Hins.out ⟨pm, rg, ul⟩ ul[j] (some da) NA uc nc u.val (Hl0.out u) Hus.out.2 Hrr.out ((hN.keep (fun p _ hp => (u.prop.mono hlow).cell hp)).1) hn1)
          obtain ⟨oi, hoi⟩ : ∃ o, o = ul[j] := ⟨_, rfl⟩
          have Hoi := Lib.hid hoi
          rw [← hoi] at g0 g1 g2 g3 g4 Hcall Hnj
          clear hat hN hnm hoi hn1
          obtain ⟨op, oa, ob, oc, nm⟩ := oi
          dsimp only at *
          have Hcl : Hid (∀ u : Wn wr, Calls Tryd.prog 86 #[.agg #[.slice (some ad) C.length cc], .agg #[.int .i64 pm, .int .i64 rg, .slice (some da) nl uc], .agg #[.int .i64 op, .int .i64 oa, .int .i64 ob, .int .i64 oc, .slice NA nm.length nc]] u.val
              fun e w' => e = .returned (.bool (ordOk C ⟨pm, rg, ul⟩ ⟨op, oa, ob, oc, nm⟩)) ∧ Below u.val.heap.size u.val w') := Lib.hid (fun u => by have h := Hcall.out u; rw [← Hnl.out] at h; exact h)
          obtain ⟨ml, hml⟩ : ∃ n, n = nm.length := ⟨_, rfl⟩
          rw [← hml] at g4 Hcl
          clear hml Hcall
          have q0 : ∀ u : Wn wr, u.val.cell? ⟨w.heap.size, 0, none⟩ = some (.slice (some ad) C.length cc) := fun u => (HKC2.out.below u.prop HKC2.out.lt).cel 0 rfl
          have q1 : ∀ u : Wn wr, u.val.cell? ⟨wo.heap.size, 0, none⟩ = some (.int .i64 pm) := fun u => (HKU2.out.below u.prop HKU2.out.lt).cel 0 rfl
          have q2 : ∀ u : Wn wr, u.val.cell? ⟨wo.heap.size, 1, none⟩ = some (.int .i64 rg) := fun u => (HKU2.out.below u.prop HKU2.out.lt).cel 1 rfl
          have q3 : ∀ u : Wn wr, u.val.cell? ⟨wo.heap.size, 2, none⟩ = some (.slice (some da) nl uc) := fun u => (HKU2.out.below u.prop HKU2.out.lt).cel 2 rfl
          have hdl : (da.add (j * 5)).block < wr.heap.size := by rw [block_of_add]; omega
          have r0 : ∀ u : Wn wr, u.val.cell? (da.add (j * 5)) = some (.int .i64 op) := fun u => (u.prop.cell (p := da.add (j * 5)) hdl).trans g0
          have r1 : ∀ u : Wn wr, u.val.cell? ⟨(da.add (j * 5)).block, (da.add (j * 5)).off + 1, none⟩ = some (.int .i64 oa) := fun u => (u.prop.cell (p := ⟨(da.add (j * 5)).block, _, none⟩) hdl).trans g1
          have r2 : ∀ u : Wn wr, u.val.cell? ⟨(da.add (j * 5)).block, (da.add (j * 5)).off + 2, none⟩ = some (.int .i64 ob) := fun u => (u.prop.cell (p := ⟨(da.add (j * 5)).block, _, none⟩) hdl).trans g2
          have r3 : ∀ u : Wn wr, u.val.cell? ⟨(da.add (j * 5)).block, (da.add (j * 5)).off + 3, none⟩ = some (.int .i64 oc) := fun u => (u.prop.cell (p := ⟨(da.add (j * 5)).block, _, none⟩) hdl).trans g3
          have r4 : ∀ u : Wn wr, u.val.cell? ⟨(da.add (j * 5)).block, (da.add (j * 5)).off + 4, none⟩ = some (.slice NA ml nc) := fun u => (u.prop.cell (p := ⟨(da.add (j * 5)).block, _, none⟩) hdl).trans g4
          clear g0 g1 g2 g3 g4 hdl hlow
          cases ho : ordOk C ⟨pm, rg, ul⟩ ⟨op, oa, ob, oc, nm⟩
          · have Hres := Lib.hid (Hnj.out ho)
            rw [ho] at Hcl
            have Hc := Lib.hid (fun u => Calls.there u (Hcl.out u))
            clear ho Hcl
            go_wp2_with fail
            refine region_below (by kernel_rfl) (by kernel_rfl) ?_
            repeat (go_big_quiet_step ((go_at_call 86; exact Hc.out _)))
            refine wpQuiet_nil ?_
            intro w2 hw2
            obtain ⟨⟨w2, hb2⟩, rfl⟩ := hw2
            clear q0 q1 q2 q3 r0 r1 r2 r3 r4
            go_wp2
            go_ret
            exact ⟨by rw [Hres.out]; first | rfl | simp, Hl0.out ⟨w2, hb2⟩⟩
          · have Hnew : Hid (∀ q (hq : q < ul.length), q < j + 1 → ordOk C ⟨pm, rg, ul⟩ ul[q] = true) := Lib.hid (fun q hq h => by
              by_cases e : q = j
              · subst e; rw [← Hoi.out]; exact ho
              · exact hord.out q hq (by omega))
            rw [ho] at Hcl
            have Hc := Lib.hid (fun u => Calls.there u (Hcl.out u))
            clear ho Hcl
            go_wp2_with fail
            refine region_below (by kernel_rfl) (by kernel_rfl) ?_
            repeat (go_big_quiet_step ((go_at_call 86; exact Hc.out _)))
            refine wpQuiet_nil ?_
            intro w2 hw2
            obtain ⟨⟨w2, hb2⟩, rfl⟩ := hw2
            clear q0 q1 q2 q3 r0 r1 r2 r3 r4
            go_wp2
            go_roundw
            case rel => exact ⟨j + 1, by omega, by go_num, Hnew, Hbj.out.trans (hb2.mono hjs)⟩
            case measure => simp [intOf]; omega
        · obtain rfl : j = nl := by omega
          have Hyu := Lib.hid (Hya.out (fun q hq => hord.out q hq (by rw [Hnl.out]; exact hq)))
          have Hnew : Hid (∀ q (hq : q < C.length), q < k + 1 → unitOk C C[q] = true) := Lib.hid (fun q hq h => by
            by_cases e : q = k
            · subst e; rw [← Hoo.out]; exact Hyu.out
            · exact hall.out q hq (by omega))
          go_wp2
          go_roundw
          case rel => exact ⟨k + 1, by omega, by go_num, Hnew, Hbn.out⟩
          case measure => simp [intOf]; omega
    · obtain rfl : k = C.length := by omega
      have Hres := Lib.hid (Hyes.out (fun j hj => hall.out j hj hj))
      have Hbe := Lib.hid (Hb1.out.trans (hbl.mono HWs.out))
      clear hbl
      go_wp2
      go_ret
      exact ⟨by rw [Hres.out]; first | rfl | simp, Hbe.out⟩
end Cod
end Go.Proofs.YtebgigiakfjocaaDoor
