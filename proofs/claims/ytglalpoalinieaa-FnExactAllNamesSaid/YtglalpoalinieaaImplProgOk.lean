/-
  The program's ProgOk.
-/
import Derived.Test.YtglalpoalinieaaImplHold
import Derived.Test.YtglalpoalinieaaImplCalls
namespace Go.Proofs.Ytglalpoalinieaa
open Go.RowKit Go.Shelf
set_option linter.unusedVariables false

theorem progOk_form {l : List Fn} (h : formOk l = false) : progOk l = false := by unfold progOk; rw [h]; rfl
theorem progOk_first {l : List Fn} (hl : 0 < l.length) (h : 0 < l[0].params.length) : progOk l = false := by
  have : decide ((l[0]?.map fun f => f.params.length) = some 0) = false := by
    rw [List.getElem?_eq_getElem hl]
    simp; intro e; rw [e] at h; simp at h
  unfold progOk; rw [this]; simp
theorem progOk_unl {l : List Fn} (h : unl (namesOf l) = false) : progOk l = false := by simp [progOk, h]
theorem progOk_fn {l : List Fn} {k : Nat} (hk : k < l.length) (h : fnOk l l[k] = false) : progOk l = false := by
  have : l.all (fnOk l) = false := by rw [List.all_eq_false]; exact ⟨l[k], List.getElem_mem hk, by rw [h]; simp⟩
  unfold progOk; rw [this]; simp
theorem progOk_yes {l : List Fn} (h1 : formOk l = true) (hl : 0 < l.length) (h2 : l[0].params.length = 0) (h3 : unl (namesOf l) = true) (h4 : ∀ f ∈ l, fnOk l f = true) : progOk l = true := by
  have e2 : decide ((l[0]?.map fun f => f.params.length) = some 0) = true := by
    rw [List.getElem?_eq_getElem hl]
    simpa using h2
  have e4 : l.all (fnOk l) = true := by rw [List.all_eq_true]; exact h4
  unfold progOk
  rw [h1, e2, h3, e4]; rfl
theorem fnOk_eq (l : List Fn) (f : Fn) : fnOk l f = (unl f.params && decide ((localsOf f).length ≤ 8) && hold f.params (flatSts f.body) && (fnEx f).all (callOk l)) := rfl

set_option maxRecDepth 100000 in
set_option maxHeartbeats 8000000 in
theorem implProgOk_c (l : List Fn) (A : Option Addr) (cp L B : Nat) (w : World) (hB : B ≤ w.heap.size) (hsz : fnsSz l ≤ 1048576) (h : FnL w L B A l) :
    Calls Try.prog 17 #[.agg #[.slice A l.length cp]] w fun r w' => r = .returned (.bool (progOk l)) ∧ Below w.heap.size w w' := by
  have hn := h.1
  unfold maxLen at hn
  have hb0 : Below w.heap.size w (w.alloc (.cells #[.slice A l.length cp] 29)) := (Below.refl _ _).alloc (Nat.le_refl _) _
  have KP := Blk.new w 29 #[.slice A l.length cp]
  have hc := implFormOk_c l A cp L B _ (Nat.le_trans hB hb0.size) hsz (h.below (hb0.mono hB))
  cases hf : formOk l
  · rw [hf] at hc
    have Hc := Lib.hid hc
    rw [progOk_form hf]
    clear hc hf h
    go_enter Try.func17, Try.ntmps17
    go_wp2_with fail
    refine Hc.out.mono ?_
    rintro r w1 ⟨rfl, hb1⟩
    go_wp2
    go_ret
    exact ⟨rfl, hb0.trans (hb1.mono hb0.size)⟩
  rw [hf] at hc
  have Hc := Lib.hid hc
  have hl1 : 1 ≤ l.length ∧ l.length ≤ 4 := by
    have := hf
    unfold formOk at this
    simp only [Bool.and_eq_true, decide_eq_true_eq] at this
    omega
  obtain ⟨ad, rfl, _, hbk, hat⟩ := h.2 (by omega)
  obtain ⟨v0, v1, v2, ⟨_, c1, _⟩, hv⟩ := hat 0 (by omega)
  obtain ⟨fA, fc, fA1, fc1, fA2, fc2, rfl, rfl, rfl, _, _, fp0, _⟩ := hv
  rw [Nat.zero_mul, show ad.add 0 = ad from by simp [Addr.add]] at c1
  have hm0 := fp0.1
  unfold maxLen at hm0
  have Hf := Lib.hid hf
  clear hc hat fp0 hf
  by_cases h0 : 0 < l[0].params.length
  · rw [progOk_first (by omega) h0]
    have hbc : ad.block < w.heap.size := by omega
    have C1 := Lib.hid c1
    have hgt : decide ((0 : Int) < (l[0].params.length : Int)) = true := decide_eq_true (by omega)
    have hne : ¬ l[0].params = [] := fun e => by rw [e] at h0; simp at h0
    have hpz : 0 < l[0].params.length := h0
    go_enter Try.func17, Try.ntmps17
    go_wp2_with fail
    refine Hc.out.mono ?_
    rintro r w1 ⟨rfl, hb1⟩
    have hb01 := hb0.trans (hb1.mono hb0.size)
    have p0 := (KP.below hb1 KP.lt).cell_of 0 (v := .slice (some ad) l.length cp) rfl
    have c1' := (hb01.cell (p := ⟨ad.block, ad.off + 1, none⟩) hbc).trans C1.out
    clear c1
    go_wp2
    go_ret
    exact ⟨rfl, hb01⟩
  have h0' : l[0].params.length = 0 := by omega
  have hbc : ad.block < w.heap.size := by omega
  have hgt : decide ((0 : Int) < (l[0].params.length : Int)) = false := decide_eq_false (by omega)
  have hnil : l[0].params = [] := List.length_eq_zero_iff.1 h0'
  rw [h0'] at c1
  have C1 := Lib.hid c1
  have H := Lib.hid h
  cases hu : unl (namesOf l)
  · rw [progOk_unl hu]
    have Hu := Lib.hid hu
    clear hu h0 h0' h
    go_enter Try.func17, Try.ntmps17
    go_wp2_with fail
    refine Hc.out.mono ?_
    rintro r w1 ⟨rfl, hb1⟩
    have hb01 := hb0.trans (hb1.mono hb0.size)
    have p0 := (KP.below hb1 KP.lt).cell_of 0 (v := .slice (some ad) l.length cp) rfl
    have c1' := (hb01.cell (p := ⟨ad.block, ad.off + 1, none⟩) hbc).trans C1.out
    have hfn := funcNames_c l (some ad) cp L B w1 (Nat.le_trans hB hb01.size) (by omega) (H.out.below (hb01.mono hB))
    have Hfn := Lib.hid hfn
    clear c1 hfn Hc
    go_wp2_with fail
    refine Hfn.out.mono ?_
    rintro r w2 ⟨A', c', rfl, hlc, hcm, hbs, hb2⟩
    have hx := unlike_c (namesOf l) A' c' 0 w2.heap.size w2 (by unfold namesOf; rw [List.length_map]; exact hlc) hcm (Nat.le_refl _) hbs
    rw [Hu.out, show (namesOf l).length = l.length by unfold namesOf; rw [List.length_map]] at hx
    have Hx := Lib.hid hx
    clear hx Hfn
    go_wp2_with fail
    refine Hx.out.mono ?_
    rintro r w3 ⟨rfl, hb3⟩
    have hb03 := hb01.trans ((hb2.trans (hb3.mono hb2.size)).mono hb01.size)
    go_wp2
    go_ret
    exact ⟨rfl, hb03⟩
  have Hu := Lib.hid hu
  have H0' := Lib.hid h0'
  clear hu h0 h0' h
  go_enter Try.func17, Try.ntmps17
  go_wp2_with fail
  refine Hc.out.mono ?_
  rintro r w1 ⟨rfl, hb1⟩
  have hb01 := hb0.trans (hb1.mono hb0.size)
  have KP1 := KP.below hb1 KP.lt
  have p0 := KP1.cell_of 0 (v := .slice (some ad) l.length cp) rfl
  have c1' := (hb01.cell (p := ⟨ad.block, ad.off + 1, none⟩) hbc).trans C1.out
  have hfn := funcNames_c l (some ad) cp L B w1 (Nat.le_trans hB hb01.size) (by omega) (H.out.below (hb01.mono hB))
  have Hfn := Lib.hid hfn
  clear c1 hfn Hc
  go_wp2_with fail
  refine Hfn.out.mono ?_
  rintro r w2 ⟨A', c', rfl, hlc, hcm, hbs, hb2⟩
  have hx := unlike_c (namesOf l) A' c' 0 w2.heap.size w2 (by unfold namesOf; rw [List.length_map]; exact hlc) hcm (Nat.le_refl _) hbs
  rw [Hu.out, show (namesOf l).length = l.length by unfold namesOf; rw [List.length_map]] at hx
  have Hx := Lib.hid hx
  clear hx Hfn
  go_wp2_with fail
  refine Hx.out.mono ?_
  rintro r w3 ⟨rfl, hb3⟩
  have hb13 := hb2.trans (hb3.mono hb2.size)
  have hb03 := hb01.trans (hb13.mono hb01.size)
  have KP3 := KP1.below hb13 KP1.lt
  have p3 := KP3.cell_of 0 (v := .slice (some ad) l.length cp) rfl
  have hw3 : w.heap.size + 1 ≤ w3.heap.size := by have := hb1.size; have := hb13.size; simp at *; omega
  clear Hx hbs p0 c1' C1
  go_wp2
  clear p3
  go_loopw [26] (fun i wr => ∃ k : Nat, k ≤ l.length ∧ i = .int .i64 k ∧ Below w.heap.size w wr ∧ Blk wr w.heap.size 29 #[.slice (some ad) l.length cp] ∧ Hid (∀ f ∈ l.take k, fnOk l f = true)) (fun i _ => l.length - (intOf i).toNat)
  case atStart => exact ⟨0, Nat.zero_le _, rfl, hb03, KP3, Lib.hid (by simp)⟩
  case round =>
    obtain ⟨k, hk, rfl, hbl, hKP, hall⟩ := hrel
    by_cases hlt : k < l.length
    · obtain ⟨ad', e, _, hbk', hat⟩ := (H.out.below (hbl.mono hB)).2 (by omega)
      injection e with e
      subst e
      obtain ⟨v0, v1, v2, ⟨c0, c1, c2⟩, hv⟩ := hat k hlt
      have hv' := hv
      obtain ⟨fA, fc, fA1, fc1, fA2, fc2, rfl, rfl, rfl, fR, fm, fp, fb, fcp⟩ := hv
      have hfz := fnsSz_get hlt
      have hfrm := fnForm_of Hf.out hlt
      have hgf := (fnsGood_get hlt (by have := Hf.out; unfold formOk at this; simp only [Bool.and_eq_true, decide_eq_true_eq] at this; exact this.1.2)).2
      have KF := Blk.new wr 48 #[.slice fA l[k].name.length fc, .slice fA1 l[k].params.length fc1, .slice fA2 l[k].body.length fc2]
      obtain ⟨W, hW⟩ : ∃ W, wr.alloc (.cells #[.slice fA l[k].name.length fc, .slice fA1 l[k].params.length fc1, .slice fA2 l[k].body.length fc2] 48) = W := ⟨_, rfl⟩
      have hbW : Below wr.heap.size wr W := by rw [← hW]; exact (Below.refl _ _).alloc (Nat.le_refl _) _
      have hws := hbl.size
      have hbW' := hbl.trans (hbW.mono hws)
      have hBW : B ≤ W.heap.size := Nat.le_trans hB hbW'.size
      have hu1 := unlike_c l[k].params fA1 fc1 L B W fcp.1 fcp.2 hBW (fp.below (hbW.mono (by omega)))
      subst hW
      have Hu1 := Lib.hid hu1
      have hvW := hv'.below (hbW.mono (by omega))
      have Hv := Lib.hid hvW
      have hlo := fun (w' : World) (hb : Below wr.heap.size wr w') => implLocals_c l[k] _ _ _ L B w' (Nat.le_trans (Nat.le_trans hB hws) hb.size) (by omega) hfrm (hv'.below (hb.mono (by omega)))
      have hho := fun (w' : World) (hb : Below wr.heap.size wr w') => namesHold_c l[k] _ _ _ L B w' (Nat.le_trans (Nat.le_trans hB hws) hb.size) (by omega) hfrm (hv'.below (hb.mono (by omega)))
      have hca := fun (w' : World) (hb : Below wr.heap.size wr w') => callsHold_c l (some ad) cp l[k] _ _ _ L B w' (Nat.le_trans (Nat.le_trans hB hws) hb.size) (by omega) hgf ((H.out.below (hbl.mono hB)).below (hb.mono (by omega))) (hv'.below (hb.mono (by omega)))
      have Hlo := Lib.hid hlo
      have Hho := Lib.hid hho
      have Hca := Lib.hid hca
      have hbz := fnOk_eq l l[k]
      clear hu1 hvW hlo hho hca hv' fR fp fb hat
      have step : ∀ b, fnOk l l[k] = b → b = true → ∀ f ∈ l.take (k + 1), fnOk l f = true := fun b hb hbt f hf => by
        rw [List.take_succ_eq_append_getElem hlt, List.mem_append] at hf
        rcases hf with hf | hf
        · exact hall.out f hf
        · rw [List.mem_singleton.1 hf, hb, hbt]
      have Step := Lib.hid step
      have Hbz := Lib.hid hbz
      clear step hbz
      cases h1 : unl l[k].params
      · have hno := progOk_fn hlt (by rw [Hbz.out, h1]; rfl)
        rw [h1] at Hu1
        have Hno := Lib.hid hno
        clear hno h1
        go_wp2_with fail
        refine Hu1.out.mono ?_
        rintro r w4 ⟨rfl, hb4⟩
        have hb04 := hbW'.trans (hb4.mono hbW'.size)
        go_wp2
        go_ret
        exact ⟨by rw [Hno.out]; rfl, hb04⟩
      rw [h1] at Hu1
      have H1 := Lib.hid h1
      clear h1
      by_cases h2 : 8 < (localsOf l[k]).length
      · have hno := progOk_fn hlt (by rw [Hbz.out, H1.out, show decide ((localsOf l[k]).length ≤ 8) = false from decide_eq_false (by omega)]; rfl)
        have Hno := Lib.hid hno
        have h2' : decide ((8 : Int) < ((localsOf l[k]).length : Int)) = true := decide_eq_true (by omega)
        clear hno
        go_wp2_with fail
        refine Hu1.out.mono ?_
        rintro r w4 ⟨rfl, hb4⟩
        have hb14 := hbW.trans (hb4.mono hbW.size)
        have KF4 := KF.below hb4 KF.lt
        have f0 := KF4.cell_of 0 (v := .slice fA l[k].name.length fc) rfl
        have f1 := KF4.cell_of 1 (v := .slice fA1 l[k].params.length fc1) rfl
        have f2 := KF4.cell_of 2 (v := .slice fA2 l[k].body.length fc2) rfl
        have Hl := Lib.hid (Hlo.out w4 hb14)
        go_wp2_with fail
        refine Hl.out.mono ?_
        rintro r w5 ⟨v', rfl, hrow, hb5⟩
        obtain ⟨A5, c5, rfl, _⟩ := hrow.bsl
        have hb05 := hbl.trans ((hb14.trans (hb5.mono hb14.size)).mono hws)
        clear hrow f0 f1 f2
        go_wp2
        go_ret
        exact ⟨by rw [Hno.out]; rfl, hb05⟩
      have h2' : decide ((8 : Int) < ((localsOf l[k]).length : Int)) = false := decide_eq_false (by omega)
      have H2 := Lib.hid (show decide ((localsOf l[k]).length ≤ 8) = true from decide_eq_true (by omega))
      have h2n : (localsOf l[k]).length ≤ 8 := by omega
      clear h2
      cases h3 : hold l[k].params (flatSts l[k].body)
      · have hno := progOk_fn hlt (by rw [Hbz.out, h3]; simp)
        have Hno := Lib.hid hno
        have H3 := Lib.hid h3
        clear hno h3
        go_wp2_with fail
        refine Hu1.out.mono ?_
        rintro r w4 ⟨rfl, hb4⟩
        have hb14 := hbW.trans (hb4.mono hbW.size)
        have KF4 := KF.below hb4 KF.lt
        have f0 := KF4.cell_of 0 (v := .slice fA l[k].name.length fc) rfl
        have f1 := KF4.cell_of 1 (v := .slice fA1 l[k].params.length fc1) rfl
        have f2 := KF4.cell_of 2 (v := .slice fA2 l[k].body.length fc2) rfl
        have Hl := Lib.hid (Hlo.out w4 hb14)
        go_wp2_with fail
        refine Hl.out.mono ?_
        rintro r w5 ⟨v', rfl, hrow, hb5⟩
        obtain ⟨A5, c5, rfl, _⟩ := hrow.bsl
        have hb15 := hb14.trans (hb5.mono hb14.size)
        have KF5 := KF4.below hb5 KF4.lt
        have g0 := KF5.cell_of 0 (v := .slice fA l[k].name.length fc) rfl
        have g1 := KF5.cell_of 1 (v := .slice fA1 l[k].params.length fc1) rfl
        have g2 := KF5.cell_of 2 (v := .slice fA2 l[k].body.length fc2) rfl
        have Hh := Lib.hid (Hho.out w5 hb15)
        clear hrow f0 f1 f2
        rw [H3.out] at Hh
        go_wp2_with fail
        refine Hh.out.mono ?_
        rintro r w6 ⟨rfl, hb6⟩
        have hb06 := hbl.trans ((hb15.trans (hb6.mono hb15.size)).mono hws)
        go_wp2
        go_ret
        exact ⟨by rw [Hno.out]; rfl, hb06⟩
      have H3 := Lib.hid h3
      clear h3
      cases h4 : (fnEx l[k]).all (callOk l)
      · have hno := progOk_fn hlt (by rw [Hbz.out, h4]; simp)
        have Hno := Lib.hid hno
        have H4 := Lib.hid h4
        clear hno h4
        go_wp2_with fail
        refine Hu1.out.mono ?_
        rintro r w4 ⟨rfl, hb4⟩
        have hb14 := hbW.trans (hb4.mono hbW.size)
        have KF4 := KF.below hb4 KF.lt
        have f0 := KF4.cell_of 0 (v := .slice fA l[k].name.length fc) rfl
        have f1 := KF4.cell_of 1 (v := .slice fA1 l[k].params.length fc1) rfl
        have f2 := KF4.cell_of 2 (v := .slice fA2 l[k].body.length fc2) rfl
        have Hl := Lib.hid (Hlo.out w4 hb14)
        go_wp2_with fail
        refine Hl.out.mono ?_
        rintro r w5 ⟨v', rfl, hrow, hb5⟩
        obtain ⟨A5, c5, rfl, _⟩ := hrow.bsl
        have hb15 := hb14.trans (hb5.mono hb14.size)
        have KF5 := KF4.below hb5 KF4.lt
        have g0 := KF5.cell_of 0 (v := .slice fA l[k].name.length fc) rfl
        have g1 := KF5.cell_of 1 (v := .slice fA1 l[k].params.length fc1) rfl
        have g2 := KF5.cell_of 2 (v := .slice fA2 l[k].body.length fc2) rfl
        have Hh := Lib.hid (Hho.out w5 hb15)
        clear hrow f0 f1 f2
        rw [H3.out] at Hh
        go_wp2_with fail
        refine Hh.out.mono ?_
        rintro r w6 ⟨rfl, hb6⟩
        have hb16 := hb15.trans (hb6.mono hb15.size)
        have KF6 := KF5.below hb6 KF5.lt
        have e0 := KF6.cell_of 0 (v := .slice fA l[k].name.length fc) rfl
        have e1 := KF6.cell_of 1 (v := .slice fA1 l[k].params.length fc1) rfl
        have e2 := KF6.cell_of 2 (v := .slice fA2 l[k].body.length fc2) rfl
        have p6 := (hKP.below hb16 hKP.lt).cell_of 0 (v := .slice (some ad) l.length cp) rfl
        have Hk := Lib.hid (Hca.out w6 hb16)
        clear g0 g1 g2
        rw [H4.out] at Hk
        go_wp2_with fail
        refine Hk.out.mono ?_
        rintro r w7 ⟨rfl, hb7⟩
        have hb07 := hbl.trans ((hb16.trans (hb7.mono hb16.size)).mono hws)
        go_wp2
        go_ret
        exact ⟨by rw [Hno.out]; rfl, hb07⟩
      · have hyes : fnOk l l[k] = true := by rw [Hbz.out, H1.out, H2.out, H3.out, h4]; rfl
        have Hyes := Lib.hid hyes
        have H4 := Lib.hid h4
        clear hyes h4
        go_wp2_with fail
        refine Hu1.out.mono ?_
        rintro r w4 ⟨rfl, hb4⟩
        have hb14 := hbW.trans (hb4.mono hbW.size)
        have KF4 := KF.below hb4 KF.lt
        have f0 := KF4.cell_of 0 (v := .slice fA l[k].name.length fc) rfl
        have f1 := KF4.cell_of 1 (v := .slice fA1 l[k].params.length fc1) rfl
        have f2 := KF4.cell_of 2 (v := .slice fA2 l[k].body.length fc2) rfl
        have Hl := Lib.hid (Hlo.out w4 hb14)
        go_wp2_with fail
        refine Hl.out.mono ?_
        rintro r w5 ⟨v', rfl, hrow, hb5⟩
        obtain ⟨A5, c5, rfl, _⟩ := hrow.bsl
        have hb15 := hb14.trans (hb5.mono hb14.size)
        have KF5 := KF4.below hb5 KF4.lt
        have g0 := KF5.cell_of 0 (v := .slice fA l[k].name.length fc) rfl
        have g1 := KF5.cell_of 1 (v := .slice fA1 l[k].params.length fc1) rfl
        have g2 := KF5.cell_of 2 (v := .slice fA2 l[k].body.length fc2) rfl
        have Hh := Lib.hid (Hho.out w5 hb15)
        clear hrow f0 f1 f2
        rw [H3.out] at Hh
        go_wp2_with fail
        refine Hh.out.mono ?_
        rintro r w6 ⟨rfl, hb6⟩
        have hb16 := hb15.trans (hb6.mono hb15.size)
        have KF6 := KF5.below hb6 KF5.lt
        have e0 := KF6.cell_of 0 (v := .slice fA l[k].name.length fc) rfl
        have e1 := KF6.cell_of 1 (v := .slice fA1 l[k].params.length fc1) rfl
        have e2 := KF6.cell_of 2 (v := .slice fA2 l[k].body.length fc2) rfl
        have p6 := (hKP.below hb16 hKP.lt).cell_of 0 (v := .slice (some ad) l.length cp) rfl
        have Hk := Lib.hid (Hca.out w6 hb16)
        clear g0 g1 g2
        rw [H4.out] at Hk
        go_wp2_with fail
        refine Hk.out.mono ?_
        rintro r w7 ⟨rfl, hb7⟩
        have hb17 := hb16.trans (hb7.mono hb16.size)
        have hb07 := hbl.trans (hb17.mono hws)
        clear e0 e1 e2 p6 Hk Hh Hl
        go_wp2
        go_roundw
        case rel => exact ⟨k + 1, by omega, by go_num, hb07, hKP.below hb17 hKP.lt, Lib.hid (Step.out true Hyes.out rfl)⟩
        case measure => simp [intOf]; omega
    · go_wp2
      go_ret
      have hkl : k = l.length := by omega
      subst hkl
      have h1 := hall.out
      rw [List.take_length] at h1
      exact ⟨by rw [progOk_yes Hf.out (by omega) H0'.out Hu.out h1]; rfl, hbl⟩
end Go.Proofs.Ytglalpoalinieaa
