/-
  The model's ProgOk.
-/
import Derived.Test.YtglalpoalinieaaSpecScope
import Derived.Test.YtglalpoalinieaaSpecFormAll
import Derived.Deep.RegionWith
import Derived.Deep.DeepCutAuto
namespace Go.Proofs.Ytglalpoalinieaa
open Go.RowKit Go.Shelf
set_option linter.unusedVariables false

theorem place_own {l : List (List UInt8)} {i : Nat} (hi : i < l.length) : placeOf l l[i] = (i : Int) ↔ placeOf (l.take i) l[i] < 0 := by
  constructor
  · intro h
    have hx : ∀ x ∈ l.take i, (x == l[i]) = false := fun x hx => by
      obtain ⟨j, hj, rfl⟩ := List.mem_take_iff_getElem.1 hx
      have hji : j < i := by omega
      unfold placeOf at h
      cases hf : l.findIdx? (fun x => x == l[i]) with
      | none => rw [hf] at h; simp at h
      | some q =>
        rw [hf] at h
        have h : (q : Int) = (i : Int) := h
        obtain rfl : q = i := by omega
        rw [List.findIdx?_eq_some_iff_getElem] at hf
        obtain ⟨_, _, h3⟩ := hf
        have := h3 j hji
        simpa using this
    rw [place_none hx]; omega
  · intro h
    refine place_hit hi (fun x hx => ?_) (by simp)
    cases hc : (x == l[i]) with
    | false => rfl
    | true =>
      have : l[i] ∈ l.take i := by rw [← eq_of_beq hc]; exact hx
      have := (place_mem _ _).2 this
      omega
theorem foldl_unl {l : List (List UInt8)} (h : unl l = true) : l.foldl withN [] = l := by
  have hp : ∀ k (hk : k < l.length), placeOf (l.take k) l[k] < 0 := fun k hk => by
    unfold unl at h
    rw [List.all_eq_true] at h
    have := h k (List.mem_range.2 hk)
    rw [List.getElem?_eq_getElem hk] at this
    simpa using this
  have key : ∀ k, k ≤ l.length → (l.take k).foldl withN [] = l.take k := by
    intro k
    induction k with
    | zero => intro _; simp
    | succ k ih =>
      intro hk
      have hk' : k < l.length := by omega
      rw [List.take_succ_eq_append_getElem hk', List.foldl_append, ih (by omega)]
      have := hp k hk'
      simp only [List.foldl_cons, List.foldl_nil]
      unfold withN
      rw [if_neg (by omega)]
  have := key l.length (Nat.le_refl _)
  rwa [List.take_length] at this
theorem hold_lets : ∀ (sts : List St) (known : List (List UInt8)), hold known sts = true → (letsOf sts).foldl withN known = known ++ letsOf sts
  | [], known, _ => by simp [letsOf]
  | .mk k name e f x y :: r, known, h => by
    rw [hold_cons, Bool.and_eq_true] at h
    have h2 := h.2
    rw [letsOf_cons]
    by_cases hk : k = 0
    · rw [if_pos hk, Bool.and_eq_true] at h2
      rw [if_pos hk, List.foldl_cons]
      have h3 : withN known name = known ++ [name] := by
        unfold withN
        have := h2.1
        simp only [decide_eq_true_eq] at this
        rw [if_neg (by omega)]
      rw [h3, hold_lets r _ h2.2, List.append_assoc]; rfl
    · rw [if_neg hk] at h2
      rw [if_neg hk]
      by_cases hk1 : k = 1
      · rw [if_pos hk1, Bool.and_eq_true] at h2
        exact hold_lets r known h2.2
      · rw [if_neg hk1] at h2
        exact hold_lets r known h2
/-- a right function, as the model asks -/
def fnOk2 (l : List Fn) (f : Fn) : Bool := unl f.params && (scopeOk l f.params (flatSts f.body) && decide ((f.params ++ letsOf (flatSts f.body)).length ≤ 8))
theorem fnOk2_eq (l : List Fn) (f : Fn) : fnOk l f = fnOk2 l f := by
  unfold fnOk fnOk2
  rw [scopeOk_eq]
  cases hu : unl f.params with
  | false => rfl
  | true =>
    cases hh : hold f.params (flatSts f.body) with
    | false => simp
    | true =>
      have e : localsOf f = f.params ++ letsOf (flatSts f.body) := by
        unfold localsOf
        rw [foldl_unl hu, hold_lets _ _ hh]
      rw [e]
      generalize decide ((f.params ++ letsOf (flatSts f.body)).length ≤ 8) = a
      unfold fnEx
      generalize (stsEx (flatSts f.body)).all (callOk l) = b
      cases a <;> cases b <;> rfl
theorem sprogOk_form {l : List Fn} (h : formOk l = false) : progOk l = false := by unfold progOk; rw [h]; rfl
theorem sprogOk_first {l : List Fn} (hl : 0 < l.length) (h : 0 < l[0].params.length) : progOk l = false := by
  have : decide ((l[0]?.map fun f => f.params.length) = some 0) = false := by
    rw [List.getElem?_eq_getElem hl]
    simp; intro e; rw [e] at h; simp at h
  unfold progOk; rw [this]; simp
theorem sprogOk_unl {l : List Fn} (h : unl (namesOf l) = false) : progOk l = false := by simp [progOk, h]
theorem sprogOk_fn {l : List Fn} {k : Nat} (hk : k < l.length) (h : fnOk2 l l[k] = false) : progOk l = false := by
  have : l.all (fnOk l) = false := by rw [List.all_eq_false]; exact ⟨l[k], List.getElem_mem hk, by rw [fnOk2_eq, h]; simp⟩
  unfold progOk; rw [this]; simp
theorem sprogOk_yes {l : List Fn} (h1 : formOk l = true) (hl : 0 < l.length) (h2 : l[0].params.length = 0) (h3 : ∀ k (hk : k < (namesOf l).length), placeOf (namesOf l) (namesOf l)[k] = (k : Int)) (h4 : ∀ f ∈ l, fnOk2 l f = true) : progOk l = true := by
  have e2 : decide ((l[0]?.map fun f => f.params.length) = some 0) = true := by
    rw [List.getElem?_eq_getElem hl]
    simpa using h2
  have e4 : l.all (fnOk l) = true := by rw [List.all_eq_true]; intro f hf; rw [fnOk2_eq]; exact h4 f hf
  have e3 : unl (namesOf l) = true := unl_yes fun k hk => (place_own hk).1 (h3 k hk)
  unfold progOk
  rw [h1, e2, e3, e4]; rfl

set_option maxRecDepth 100000 in
set_option maxHeartbeats 8000000 in
theorem specProgOk_c (l : List Fn) (A : Option Addr) (cp L B : Nat) (w : World) (hB : B ≤ w.heap.size) (hsz : fnsSz l ≤ 1048576) (h : FnL w L B A l) :
    Calls Try.prog 16 #[.agg #[.slice A l.length cp]] w fun r w' => r = .returned (.bool (progOk l)) ∧ Below w.heap.size w w' := by
  have hn := h.1
  unfold maxLen at hn
  have hb0 : Below w.heap.size w (w.alloc (.cells #[.slice A l.length cp] 29)) := (Below.refl _ _).alloc (Nat.le_refl _) _
  have KP := Blk.new w 29 #[.slice A l.length cp]
  have hc := specFormOk_c l A cp L B _ (Nat.le_trans hB hb0.size) hsz (h.below (hb0.mono hB))
  cases hf : formOk l
  · rw [hf] at hc
    have Hc := Lib.hid hc
    rw [sprogOk_form hf]
    clear hc hf h
    go_enter Try.func16, Try.ntmps16
    go_wp2_with fail
    refine Hc.out.mono ?_
    rintro r w1 ⟨rfl, hb1⟩
    go_wp2
    go_ret
    exact ⟨rfl, hb0.trans (hb1.mono hb0.size)⟩
  rw [hf] at hc
  have Hc := Lib.hid hc
  have hl1 : 1 ≤ l.length ∧ l.length ≤ 4 := by
    have := hf
    unfold formOk at this
    simp only [Bool.and_eq_true, decide_eq_true_eq] at this
    omega
  obtain ⟨ad, rfl, _, hbk, hat⟩ := h.2 (by omega)
  obtain ⟨v0, v1, v2, ⟨_, c1, _⟩, hv⟩ := hat 0 (by omega)
  obtain ⟨fA, fc, fA1, fc1, fA2, fc2, rfl, rfl, rfl, _, _, fp0, _⟩ := hv
  rw [Nat.zero_mul, show ad.add 0 = ad from by simp [Addr.add]] at c1
  have hm0 := fp0.1
  unfold maxLen at hm0
  have Hf := Lib.hid hf
  clear hc hat fp0 hf
  have hbc : ad.block < w.heap.size := by omega
  by_cases h0 : 0 < l[0].params.length
  · rw [sprogOk_first (by omega) h0]
    have C1 := Lib.hid c1
    have hgt : decide ((0 : Int) < (l[0].params.length : Int)) = true := decide_eq_true (by omega)
    have hne : ¬ l[0].params = [] := fun e => by rw [e] at h0; simp at h0
    have hpz : 0 < l[0].params.length := h0
    go_enter Try.func16, Try.ntmps16
    go_wp2_with fail
    refine Hc.out.mono ?_
    rintro r w1 ⟨rfl, hb1⟩
    have hb01 := hb0.trans (hb1.mono hb0.size)
    have p0 := (KP.below hb1 KP.lt).cell_of 0 (v := .slice (some ad) l.length cp) rfl
    have c1' := (hb01.cell (p := ⟨ad.block, ad.off + 1, none⟩) hbc).trans C1.out
    clear c1
    go_wp2
    go_ret
    exact ⟨rfl, hb01⟩
  have h0' : l[0].params.length = 0 := by omega
  have hgt : decide ((0 : Int) < (l[0].params.length : Int)) = false := decide_eq_false (by omega)
  have hnil : l[0].params = [] := List.length_eq_zero_iff.1 h0'
  rw [h0'] at c1
  have C1 := Lib.hid c1
  have H := Lib.hid h
  have H0' := Lib.hid h0'
  have hnl : (namesOf l).length = l.length := by unfold namesOf; rw [List.length_map]
  clear h0 h0' h
  go_enter Try.func16, Try.ntmps16
  go_wp2_with fail
  refine Hc.out.mono ?_
  rintro r w1 ⟨rfl, hb1⟩
  have hb01 := hb0.trans (hb1.mono hb0.size)
  have KP1 := KP.below hb1 KP.lt
  have p0 := KP1.cell_of 0 (v := .slice (some ad) l.length cp) rfl
  have c1' := (hb01.cell (p := ⟨ad.block, ad.off + 1, none⟩) hbc).trans C1.out
  have hw1 : w.heap.size + 1 ≤ w1.heap.size := by have := hb1.size; simpa using this
  clear c1 Hc C1
  go_wp2
  clear p0 c1'
  go_loopw [3] (fun i wr => ∃ k : Nat, k ≤ l.length ∧ i = .int .i64 k ∧ Below w.heap.size w wr ∧ Blk wr w.heap.size 29 #[.slice (some ad) l.length cp] ∧ Hid ((∀ j (hj : j < (namesOf l).length), j < k → placeOf (namesOf l) (namesOf l)[j] = (j : Int)) ∧ ∀ f ∈ l.take k, fnOk2 l f = true)) (fun i _ => l.length - (intOf i).toNat)
  case atStart => exact ⟨0, Nat.zero_le _, rfl, hb01, KP1, Lib.hid ⟨fun j _ h => by omega, by simp⟩⟩
  case round =>
    obtain ⟨k, hk, rfl, hbl, hKP, hall⟩ := hrel
    have p0 := hKP.cell_of 0 (v := .slice (some ad) l.length cp) rfl
    by_cases hlt : k < l.length
    · obtain ⟨ad', e, _, hbk', hat⟩ := (H.out.below (hbl.mono hB)).2 (by omega)
      injection e with e
      subst e
      obtain ⟨v0, v1, v2, ⟨c0, c1, c2⟩, hv⟩ := hat k hlt
      have hv' := hv
      obtain ⟨fA, fc, fA1, fc1, fA2, fc2, rfl, rfl, rfl, fR, fm, fp, fb, fcp⟩ := hv
      have hfz := fnsSz_get hlt
      have hgf := (fnsGood_get hlt (by have := Hf.out; unfold formOk at this; simp only [Bool.and_eq_true, decide_eq_true_eq] at this; exact this.1.2)).2
      have hbz : stsSz l[k].body ≤ 1048576 ∧ l[k].params.length ≤ 1048576 := by unfold fnSz bsSz at hfz; omega
      have hltn : k < (namesOf l).length := by omega
      have hget : (namesOf l)[k] = l[k].name := List.getElem_map Fn.name
      have hws := hbl.size
      have hbd : Below w.heap.size w wr.drew := hbl.drew
      have hfu := l2func_c l l[k].name (some ad) fA cp fc L B B wr.drew (Nat.le_trans hB hws) (Nat.le_trans hB hws) (H.out.below (hbd.mono hB)) fR.1.drew
      have C2 := Lib.hid (And.intro c0 (And.intro c1 c2))
      have Hfu := Lib.hid hfu
      have Fb := Lib.hid fb
      have Hv := Lib.hid hv'
      clear hfu hat fR fp fb hv'
      by_cases hpl : placeOf (namesOf l) l[k].name = (k : Int)
      · rw [hpl] at Hfu
        have Hpl := Lib.hid hpl
        clear hpl
        go_upto_region 6 with fail
        go_cut [36] (fun b wx => b = .bool false ∧ Below w.heap.size w wx ∧ Below wr.heap.size wr wx ∧ Blk wx w.heap.size 29 #[.slice (some ad) l.length cp])
        case first =>
          go_region_with (first | (go_at_call 47; refine Hfu.out.mono ?_; rintro r w2 ⟨rfl, hb2⟩))
          all_goals
            try go_wp2_with fail
            go_meet
            case rel => exact ⟨by simp, hbd.trans (hb2.mono hws), ⟨hb2.os, hb2.tape, hb2.output, hb2.size, hb2.block⟩, hKP.drew.below hb2 hKP.lt⟩
        case rest =>
          obtain ⟨rfl, hbx, hbw, KP2⟩ := hcut
          obtain ⟨w2, hw2⟩ : ∃ x, x = wc := ⟨_, rfl⟩
          subst hw2
          have p2 := KP2.cell_of 0 (v := .slice (some ad) l.length cp) rfl
          have d0 := (hbw.cell (p := ad.add (k * 3)) (by rw [block_of_add]; omega)).trans C2.out.1
          have d1 := (hbw.cell (p := ⟨(ad.add (k * 3)).block, (ad.add (k * 3)).off + 1, none⟩) (by show (ad.add (k * 3)).block < _; rw [block_of_add]; omega)).trans C2.out.2.1
          have d2 := (hbw.cell (p := ⟨(ad.add (k * 3)).block, (ad.add (k * 3)).off + 2, none⟩) (by show (ad.add (k * 3)).block < _; rw [block_of_add]; omega)).trans C2.out.2.2
          have hs2 := hbx.size
          have hpa := l2params_c l[k] _ _ _ L B w2 (Nat.le_trans hB hs2) (by omega) (Hv.out.below (hbw.mono (by omega)))
          have Hpa := Lib.hid hpa
          clear hpa
          cases hu : unl l[k].params
          · have hno : progOk l = false := sprogOk_fn hlt (by unfold fnOk2; rw [hu]; rfl)
            have Hno := Lib.hid hno
            rw [hu] at Hpa
            clear hno hu
            go_wp2_with fail
            refine Hpa.out.mono ?_
            rintro r w3 ⟨v', rfl, _, hb3⟩
            have hb03 := hbx.trans (hb3.mono hs2)
            go_wp2
            go_ret
            exact ⟨by rw [Hno.out]; rfl, hb03⟩
          rw [hu] at Hpa
          have Hu := Lib.hid hu
          clear hu
          go_wp2_with fail
          refine Hpa.out.mono ?_
          rintro r w3 ⟨v', rfl, hrw, hb3⟩
          have hrow := hrw (by trivial)
          have hbx3 := hbx.trans (hb3.mono hs2)
          have hbw3 := hbw.trans (hb3.mono hbw.size)
          have KP3 := KP2.below hb3 KP2.lt
          have hs3 := hbx3.size
          have p3 := KP3.cell_of 0 (v := .slice (some ad) l.length cp) rfl
          have e2 := (hb3.cell (p := ⟨(ad.add (k * 3)).block, (ad.add (k * 3)).off + 2, none⟩) (by show (ad.add (k * 3)).block < _; rw [block_of_add]; have := hbw.size; omega)).trans d2
          have hsc := l2scope_c l l[k].body 2 (some ad) cp fA2 fc2 v' l[k].params L B w2.heap.size w3.drew (by omega) hb3.size hgf (by omega) (H.out.below ((hbx3.drew).mono hB)) (Fb.out.below ((hbw3.drew).mono (by omega))) (hrow.keep (Nat.le_refl _) fun _ _ _ => rfl)
          obtain ⟨A5, c5, rfl, _⟩ := hrow.bsl
          have Hsc := Lib.hid hsc
          clear hsc hrw p2 d0 d1 d2 Hpa hrow
          cases hsk : scopeOk l l[k].params (flatSts l[k].body)
          · have hno : progOk l = false := sprogOk_fn hlt (by unfold fnOk2; rw [hsk, Bool.false_and, Bool.and_false])
            have Hno := Lib.hid hno
            rw [hsk] at Hsc
            clear hno hsk
            go_upto_region 11 with fail
            go_cut [6, 7] (fun a ok wx => ok = .bool false ∧ Below w.heap.size w wx)
            case first =>
              go_region_with (first | (go_at_call 49; refine Hsc.out.mono ?_; rintro r w4 ⟨v4, rfl, _, hk4⟩))
              all_goals
                try go_wp2_with fail
                go_meet
                case rel => exact ⟨rfl, hbx3.drew.trans ((hk4.below hb3.size).mono hs2)⟩
            case rest =>
              obtain ⟨rfl, hb04⟩ := hcut
              go_wp2
              go_ret
              exact ⟨by rw [Hno.out]; rfl, hb04⟩
          rw [hsk] at Hsc
          have Hsk := Lib.hid hsk
          clear hsk
          obtain ⟨ql, hql⟩ : ∃ q, l[k].params ++ letsOf (flatSts l[k].body) = q := ⟨_, rfl⟩
          have Hql := Lib.hid hql
          rw [hql] at Hsc
          clear hql
          go_upto_region 11 with fail
          go_cut [6, 7] (fun a ok wx => ok = .bool true ∧ (∃ A6 c6, a = .slice A6 ql.length c6) ∧ Below w.heap.size w wx ∧ Blk wx w.heap.size 29 #[.slice (some ad) l.length cp])
          case first =>
            go_region_with (first | (go_at_call 49; refine Hsc.out.mono ?_; rintro r w4 ⟨v4, rfl, hr4, hk4⟩))
            all_goals
              try go_wp2_with fail
              go_meet
              case rel =>
                obtain ⟨A6, c6, e6, _⟩ := (hr4 (by trivial)).bsl
                exact ⟨rfl, ⟨A6, c6, e6⟩, hbx3.drew.trans ((hk4.below hb3.size).mono hs2), KP3.drew.kb hk4 (.inr ⟨Nat.zero_le _, not_NmT_Prog⟩)⟩
          case rest =>
          obtain ⟨rfl, ⟨A6, c6, rfl⟩, hb04, KP4⟩ := hcut
          clear p3 e2
          by_cases h8 : 8 < ql.length
          · have hno : progOk l = false := sprogOk_fn hlt (by unfold fnOk2; rw [Hql.out, show decide (ql.length ≤ 8) = false from decide_eq_false (by omega), Bool.and_false, Bool.and_false])
            have Hno := Lib.hid hno
            have hd8 : decide ((8 : Int) < (ql.length : Int)) = true := decide_eq_true (by omega)
            clear hno
            go_wp2
            go_ret
            exact ⟨by rw [Hno.out]; rfl, hb04⟩
          · have hyes : fnOk2 l l[k] = true := by unfold fnOk2; rw [Hu.out, Hsk.out, Hql.out, show decide (ql.length ≤ 8) = true from decide_eq_true (by omega)]; rfl
            have Hyes := Lib.hid hyes
            have hd8 : decide ((8 : Int) < (ql.length : Int)) = false := decide_eq_false (by omega)
            have h8' : ql.length ≤ 8 := by omega
            clear hyes h8
            go_wp2
            go_roundw
            case rel =>
              refine ⟨k + 1, by omega, by go_num, hb04, KP4, Lib.hid ⟨fun j hj hjk => ?_, fun f hf => ?_⟩⟩
              · rcases Nat.lt_or_ge j k with h1 | h1
                · exact hall.out.1 j hj h1
                · obtain rfl : j = k := by omega
                  rw [hget]; exact Hpl.out
              · rw [List.take_succ_eq_append_getElem hlt, List.mem_append] at hf
                rcases hf with hf | hf
                · exact hall.out.2 f hf
                · rw [List.mem_singleton.1 hf]; exact Hyes.out
            case measure => simp [intOf]; omega
      · have hno : progOk l = false := sprogOk_unl (by
          refine unl_no hltn ?_
          have h1 := mt (place_own hltn).2 (by rw [hget]; exact hpl)
          omega)
        have hne : (placeOf (namesOf l) l[k].name != (k : Int)) = true := by simp [hpl]
        have Hno := Lib.hid hno
        clear hno
        go_wp2_with fail
        go_region_with (first | (go_at_call 47; refine Hfu.out.mono ?_; rintro r w2 ⟨rfl, hb2⟩))
        all_goals
          have hb02 := hbd.trans (hb2.mono hws)
          go_wp2
          go_ret
          exact ⟨by rw [Hno.out]; rfl, hb02⟩
    · go_wp2
      go_ret
      have hkl : k = l.length := by omega
      have h1 := hall.out
      rw [hkl, List.take_length] at h1
      exact ⟨by rw [sprogOk_yes Hf.out (by omega) H0'.out (fun j hj => h1.1 j hj (by omega)) h1.2]; rfl, hbl⟩
end Go.Proofs.Ytglalpoalinieaa
