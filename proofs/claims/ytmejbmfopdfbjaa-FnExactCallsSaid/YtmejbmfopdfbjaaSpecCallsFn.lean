/-
  The model's Calls of a function.
-/
import Derived.Test.YtmejbmfopdfbjaaSpecCallsSt
namespace Go.Proofs.Ytmejbmfopdfbjaa
open Go.RowKit Go.Shelf
set_option linter.unusedVariables false

theorem callsL_all (P : List UInt8 → Prop) : ∀ (es : List Ex) (l : List (List UInt8)), (∀ x ∈ es, ∀ n name args, x = .mk 5 n name args → P name) → (∀ a ∈ l, P a) → ∀ a ∈ callsL l es, P a
  | [], l, _, hl => hl
  | x :: r, l, he, hl => by
    have h1 : ∀ a ∈ callN l x, P a := by
      cases x with
      | mk k n name args =>
        by_cases h5 : k = 5
        · subst h5
          rw [callN_call]
          unfold withN
          by_cases h : 0 ≤ placeOf l name
          · rw [if_pos h]; exact hl
          · rw [if_neg h]
            intro a ha
            rw [List.mem_append] at ha
            rcases ha with ha | ha
            · exact hl a ha
            · rw [List.mem_singleton.1 ha]
              exact he _ (by simp) n name args rfl
        · rw [callN_other _ _ _ _ _ h5]; exact hl
    exact callsL_all P r (callN l x) (fun y hy => he y (by simp [hy])) h1
mutual
theorem ex_pos : ∀ (s : Ex) (d : Nat), exGood s d = true → ∀ x ∈ flatEx s, ∀ n name args, x = .mk 5 n name args → 0 < name.length ∧ name.length ≤ 6
  | .mk k n name args, d, h, x, hx => by
    rw [exGood_mk] at h
    simp only [Bool.and_eq_true] at h
    rw [flatEx_mk, List.mem_cons] at hx
    rcases hx with hx | hx
    · subst hx
      intro n' name' args' e
      injection e with e1 e2 e3 e4
      subst e1
      subst e3
      have h2 : (n = 0 ∧ nameOk name = true) ∧ args.length ≤ 3 := by simpa [exOk1] using h.1.2
      have h3 := h2.1.2
      unfold nameOk wordOk at h3
      simp only [Bool.and_eq_true, decide_eq_true_eq] at h3
      exact ⟨by omega, by omega⟩
    · exact exs_pos args (d + 1) h.2 x hx
theorem exs_pos : ∀ (l : List Ex) (d : Nat), exsGood l d = true → ∀ x ∈ flatExs l, ∀ n name args, x = .mk 5 n name args → 0 < name.length ∧ name.length ≤ 6
  | [], d, h, x, hx => by simp [flatExs] at hx
  | s :: r, d, h, x, hx => by
    rw [exsGood] at h
    simp only [Bool.and_eq_true] at h
    rw [flatExs, List.mem_append] at hx
    rcases hx with hx | hx
    · exact ex_pos s d h.1 x hx
    · exact exs_pos r d h.2 x hx
end
mutual
theorem st_pos : ∀ (s : St) (d : Nat), stGood s d = true → ∀ x ∈ stsEx (flatSt s), ∀ n name args, x = .mk 5 n name args → 0 < name.length ∧ name.length ≤ 6
  | .mk k name e f body els, d, h, x, hx => by
    rw [stGood_mk] at h
    simp only [Bool.and_eq_true] at h
    have e1 : stsEx (.mk k name e f body els :: (flatSts body ++ flatSts els)) = flatExs (asksL k e f) ++ stsEx (flatSts body ++ flatSts els) := rfl
    rw [flatSt_mk, e1, stsEx_app2, List.mem_append, List.mem_append] at hx
    rcases hx with hx | hx | hx
    · by_cases hk : k = 2
      · unfold asksL at hx
        rw [if_pos hk] at hx
        refine exs_pos [e, f] (d + 1) ?_ x hx
        have h2 := h.1.1.2
        subst hk
        simp [exsGood, h.1.1.1.2]
        simpa using h2
      · unfold asksL at hx
        rw [if_neg hk] at hx
        exact exs_pos [e] (d + 1) (by simp [exsGood, h.1.1.1.2]) x hx
    · exact sts_pos body (d + 1) h.1.2 x hx
    · exact sts_pos els (d + 1) h.2 x hx
theorem sts_pos : ∀ (l : List St) (d : Nat), stsGood l d = true → ∀ x ∈ stsEx (flatSts l), ∀ n name args, x = .mk 5 n name args → 0 < name.length ∧ name.length ≤ 6
  | [], d, h, x, hx => by simp [flatSts, stsEx] at hx
  | s :: r, d, h, x, hx => by
    rw [stsGood] at h
    simp only [Bool.and_eq_true] at h
    rw [flatSts, stsEx_app2, List.mem_append] at hx
    rcases hx with hx | hx
    · exact st_pos s d h.1 x hx
    · exact sts_pos r d h.2 x hx
end

mutual
theorem flatEx_cnt : ∀ s : Ex, (flatEx s).length = exN s
  | .mk k n name args => by rw [flatEx_mk, List.length_cons, exN_mk, flatExs_cnt args]; omega
theorem flatExs_cnt : ∀ l : List Ex, (flatExs l).length = exsN l
  | [] => by simp [flatExs, exsN]
  | s :: r => by rw [flatExs, exsN, List.length_append, flatEx_cnt s, flatExs_cnt r]
end
mutual
theorem stsEx_cnt1 : ∀ s : St, (stsEx (flatSt s)).length ≤ stN s
  | .mk k name e f body els => by
    have h1 := stsEx_cnt body
    have h2 := stsEx_cnt els
    have h3 := flatEx_cnt e
    have h4 := flatEx_cnt f
    have e1 : stsEx (.mk k name e f body els :: (flatSts body ++ flatSts els)) = flatExs (asksL k e f) ++ stsEx (flatSts body ++ flatSts els) := rfl
    rw [flatSt_mk, e1, stsEx_app2, stN_mk, List.length_append, List.length_append]
    unfold asksL
    by_cases hk : k = 2
    · rw [if_pos hk, if_pos hk]; simp only [flatExs, List.append_nil, List.length_append]; omega
    · rw [if_neg hk, if_neg hk]; simp only [flatExs, List.append_nil]; omega
theorem stsEx_cnt : ∀ l : List St, (stsEx (flatSts l)).length ≤ stsN l
  | [] => by simp [flatSts, stsEx]
  | s :: r => by
    have h1 := stsEx_cnt1 s
    have h2 := stsEx_cnt r
    rw [flatSts, stsEx_app2, stsN, List.length_append]
    omega
end
theorem calls_names (f : Fn) (h : fnForm f = true) : (callsL [] (fnEx f)).length ≤ 90 ∧ ∀ a ∈ callsL [] (fnEx f), 0 < a.length ∧ a.length ≤ 6 := by
  have hgd : stsGood f.body 2 = true := by unfold fnForm at h; simp only [Bool.and_eq_true] at h; exact h.2.1
  have hN : stsN f.body ≤ 90 := by unfold fnForm at h; simp only [Bool.and_eq_true, decide_eq_true_eq] at h; exact h.2.2
  have h1 := callsL_len (fnEx f) []
  have h2 : (fnEx f).length ≤ stsN f.body := stsEx_cnt f.body
  rw [List.length_nil] at h1
  exact ⟨by omega, callsL_all (fun a => 0 < a.length ∧ a.length ≤ 6) (fnEx f) [] (fun x hx n name args e => sts_pos f.body 2 hgd x hx n name args e) (fun a ha => by simp at ha)⟩

set_option maxRecDepth 100000 in
set_option maxHeartbeats 8000000 in
theorem specCalls_c (f : Fn) (v0 v1 v2 : Value) (L B : Nat) (w : World) (hB : B ≤ w.heap.size) (hsz : fnSz f ≤ 1048576) (h : FnV w L B v0 v1 v2 f) :
    Calls Try.prog 7 #[.agg #[v0, v1, v2]] w fun r w' => ∃ A c gs, r = .returned (.slice A (callsOf f).length c) ∧ OwnN w' w.heap.size A (callsOf f) gs ∧ Below w.heap.size w w' := by
  obtain ⟨fA, fc, fA1, fc1, fA2, fc2, rfl, rfl, rfl, fR, fm, fp, fb, fcp⟩ := h
  have hbz : stsSz f.body ≤ 1048576 := by unfold fnSz at hsz; omega
  have hpn := fp.1
  unfold maxLen at hpn
  obtain ⟨i0, hi, hz0, hz1, hz2⟩ := info_parts infoBs
  obtain ⟨i1, hj, hy0, hy1, hy2⟩ := info_parts infoU8
  obtain ⟨V, hV⟩ : ∃ V, (w.alloc (.cells #[.slice fA f.name.length fc, .slice fA1 f.params.length fc1, .slice fA2 f.body.length fc2] 31)).alloc (.cells #[.int .i64 90] 62) = V := ⟨_, rfl⟩
  have hVs : V.heap.size = w.heap.size + 2 := by rw [← hV]; simp
  have hb0 : Below w.heap.size w V := by rw [← hV]; exact ((Below.refl _ _).alloc (Nat.le_refl _) _).alloc (by simp) _
  have KF : Blk V w.heap.size 31 #[.slice fA f.name.length fc, .slice fA1 f.params.length fc1, .slice fA2 f.body.length fc2] := by rw [← hV]; exact (Blk.new w _ _).alloc _
  have KM : Blk V (w.heap.size + 1) 62 #[.int .i64 90] := by
    have := Blk.new (w.alloc (.cells #[.slice fA f.name.length fc, .slice fA1 f.params.length fc1, .slice fA2 f.body.length fc2] 31)) 62 #[.int .i64 90]
    rw [World.size_alloc] at this
    rw [← hV]; exact this
  have hm := specSts_c f.body fA2 fc2 L B (w.heap.size + 1) 2 90 V (fb.below (hb0.mono hB)) (by omega) (by omega) hbz KM (by omega) (by omega) (by omega)
  have hx : Calls Try.prog 32 #[.slice fA2 f.body.length fc2, .int .i64 2, .pointer (some ⟨w.heap.size + 1, 0, none⟩)] V fun r w' => (r = .returned (.bool (stsGood f.body 2 && decide (stsN f.body ≤ 90))) ∧ Below w.heap.size w w' ∧ Blk w' w.heap.size 31 #[.slice fA f.name.length fc, .slice fA1 f.params.length fc1, .slice fA2 f.body.length fc2]) := by
    refine hm.mono ?_
    rintro r w' ⟨b, rfl, hp, a', _, hbb, _⟩
    refine ⟨?_, hb0.trans (hp.below (by omega) (by omega)), (hp.below (B := w.heap.size + 1) (by omega) (by omega)).block _ (by omega) |>.trans KF⟩
    have e : b = (stsGood f.body 2 && decide (stsN f.body ≤ 90)) := by
      rw [Bool.eq_iff_iff, hbb]
      simp only [Bool.and_eq_true, decide_eq_true_eq]
      constructor
      · rintro ⟨h1, h2⟩; exact ⟨h1, by omega⟩
      · rintro ⟨h1, h2⟩; exact ⟨h1, by omega⟩
    rw [e]
  have f2 := KF.cell_of 2 (v := .slice fA2 f.body.length fc2) rfl
  cases hg : (stsGood f.body 2 && decide (stsN f.body ≤ 90))
  · have hf : fnForm f = false := by unfold fnForm; rw [hg]; simp
    have hco : callsOf f = [] := by unfold callsOf; rw [hf]; rfl
    rw [hco]
    rw [hg] at hx
    have Hx := Lib.hid hx
    have Hb0 := Lib.hid hb0
    clear hx hm KM KF fR fp fb hg hf hco hsz hbz hb0
    subst hV
    go_enter Try.func7, Try.ntmps7
    go_wp2_with fail
    refine Hx.out.mono ?_
    rintro r w1 ⟨rfl, hb1, _⟩
    go_wp2
    go_ret
    exact ⟨none, 0, fun _ => 0, rfl, fun h0 => by simp at h0, hb1⟩
  rw [hg] at hx
  by_cases h3 : 3 < f.params.length
  · have hf : fnForm f = false := by unfold fnForm; simp; intros; omega
    have hco : callsOf f = [] := by unfold callsOf; rw [hf]; rfl
    rw [hco]
    have Hx := Lib.hid hx
    have Hb0 := Lib.hid hb0
    clear hx hm KM KF fR fp fb hg hf hco hsz hbz hb0
    subst hV
    go_enter Try.func7, Try.ntmps7
    go_wp2_with fail
    refine Hx.out.mono ?_
    rintro r w1 ⟨rfl, hb1, KF1⟩
    have f1 := KF1.cell_of 1 (v := .slice fA1 f.params.length fc1) rfl
    have h3' : 3 < (f.params.length : Int) := by omega
    go_wp2
    go_ret
    exact ⟨none, 0, fun _ => 0, rfl, fun h0 => by simp at h0, hb1⟩
  have hf : fnForm f = true := by unfold fnForm; rw [hg]; simp; omega
  have hgd : stsGood f.body 2 = true := by simp only [Bool.and_eq_true] at hg; exact hg.1
  have hco : callsOf f = callsL [] (fnEx f) := by unfold callsOf; rw [hf]; rfl
  obtain ⟨hnl, hnz⟩ := calls_names f hf
  have hfn : callsL [] (stsEx (flatSts f.body)) = callsL [] (fnEx f) := rfl
  rw [hco]
  obtain ⟨ns, hns⟩ : ∃ ns, callsL [] (fnEx f) = ns := ⟨_, rfl⟩
  rw [hns] at hnl hnz hfn
  rw [hns]
  have Hx := Lib.hid hx
  have Hfb := Lib.hid fb
  have Hgd := Lib.hid hgd
  have Hfn := Lib.hid hfn
  have Hnz := Lib.hid hnz
  clear hx hm KM KF fR fp fb hg hf hco hsz hb0 hns hfn hgd hnz
  subst hV
  go_enter Try.func7, Try.ntmps7
  go_wp2_with fail
  refine Hx.out.mono ?_
  rintro r w1 ⟨rfl, hb1, KF1⟩
  have hw1 := hb1.size
  have f1 := KF1.cell_of 1 (v := .slice fA1 f.params.length fc1) rfl
  have f2 := KF1.cell_of 2 (v := .slice fA2 f.body.length fc2) rfl
  have h3' : ¬ (3 < (f.params.length : Int)) := by omega
  have hc := l2calls_c f.body 2 fA2 fc2 (.slice none 0 0) [] L B w1.heap.size w1 (by omega) (Nat.le_refl _) Hgd.out (by simp; omega) hbz (Hfb.out.below (hb1.mono hB)) (NmRow.nil _ _ _)
  have Hc := Lib.hid hc
  clear hc Hx
  go_wp2_with fail
  refine Hc.out.mono ?_
  rintro r w2 ⟨v2, rfl, row2, kb2⟩
  rw [Hfn.out] at row2
  have hb12 := kb2.below (Nat.le_refl _)
  have hb02 := hb1.trans (hb12.mono hw1)
  obtain ⟨Al, cl, rfl, hcl, hclm, hbs⟩ := row2.bsl
  have Hbs := Lib.hid hbs
  have hw2 := hb02.size
  clear Hc row2 kb2 f1 f2 hbs hb12 hb1 KF1
  go_wp2
  go_loopw [3, 6] (fun s i wr => ∃ (k : Nat) (A1 : Option Addr) (c1 : Nat) (xs : List Value) (gs : Nat → Nat), k ≤ ns.length ∧ i = .int .i64 k ∧ s = .slice A1 k c1 ∧ wr.ownsRow w2.heap.size 22 1 (.slice A1 k c1) k xs ∧ k ≤ c1 ∧
    Hid (NmL wr w2.heap.size ns k xs gs) ∧ Below w2.heap.size w2 wr) (fun _ i _ => ns.length - (intOf i).toNat)
  case atStart => exact ⟨0, none, 0, [], fun _ => 0, Nat.zero_le _, rfl, rfl, World.ownsRow_nil _ _ _ _, Nat.le_refl _, Lib.hid (NmL.zero _ _ _ _), Below.refl _ _⟩
  case round =>
    obtain ⟨k, A1, c1, xs, gs, hk, rfl, rfl, hown, hkc, hall, hbl⟩ := hrel
    have hws := hbl.size
    by_cases hlt : k < ns.length
    · obtain ⟨hpos, hnz⟩ := Hnz.out ns[k] (List.getElem_mem hlt)
      obtain ⟨ad, rfl, _, hbk, hat⟩ := (Hbs.out.below hbl).2 (by omega)
      obtain ⟨A2, fc, hcl2, hR2, hm2⟩ := hat k hlt
      have c0o := fun (o : Obj) => (((Below.refl wr.heap.size wr).alloc (Nat.le_refl _) o).cell (p := ad.add k) (by rw [block_of_add]; omega)).trans hcl2
      have hR := (hR2.1.more (B' := wr.heap.size) (by omega)).alloc (Nat.le_refl _) (.cells #[] 5)
      obtain ⟨ad2, rfl, _⟩ := hR.2 hpos
      have hcs : ∀ j u, (vb ns[k])[j]? = some u → (wr.alloc (.cells #[] 5)).cell? (ad2.add j) = some u := fun j u hj => by
        obtain ⟨ad', e, _, hc⟩ := hR.2 hpos
        injection e with e
        subst e
        have := hc j u hj
        simpa using this
      have hO : (wr.alloc (.cells #[] 5)).ownsRow wr.heap.size 5 1 (.slice (some ⟨wr.heap.size, 0, none⟩) 0 0) 0 [] :=
        ⟨rfl, .inr ⟨wr.heap.size, 0, #[], rfl, Nat.le_refl _, Blk.new wr _ _, Nat.le_refl _, Nat.zero_le _, rfl, rfl⟩⟩
      have HO := Lib.hid hO
      have Hcs := Lib.hid hcs
      have Hown := Lib.hid hown
      clear hO hcs hown hat hR hR2 hm2
      go_wp2_with (first | (at_builtin; refine wpList_append_own _ rfl (.tmp 30) (.tmp 34) 22 rfl wr.heap.size 5 i1 _ 1 1 Try.underlying22 hj hy0 hy1 hy2 rfl (by omega) _ _ _ rfl HO.out ad2 ns[k].length fc (vb ns[k]) rfl (by rw [vb_len, Nat.mul_one]) Hcs.out (fun u hu => by obtain ⟨b, _, rfl⟩ := List.mem_map.1 hu; rfl) (by unfold maxLen; omega) (by omega) (by simp) ?_; intro v2 w3 hown2 hg2 _; obtain ⟨g2, cap2, rfl, hso, hb3, hown3⟩ := copied hpos Hown.out hown2 hg2; have HO2 := Lib.hid (hown3.alloc (.cells #[.slice (some ⟨g2, 0, none⟩) ns[k].length cap2] 22)); have Hcell := Lib.hid (cell_one_new w3 (.slice (some ⟨g2, 0, none⟩) ns[k].length cap2) 22); have Ho3 := Lib.hid hown3; have Hso := Lib.hid hso; have hs3 := hb3.size; clear hown2 hg2 hown3 hso) | (at_builtin; refine wpList_append_own _ rfl (.tmp 29) (.tmp 36) 23 rfl w2.heap.size 22 i0 _ 1 24 Try.underlying23 hi hz0 hz1 hz2 rfl (by omega) _ _ _ rfl HO2.out ⟨w3.heap.size, 0, none⟩ 1 1 [.slice (some ⟨g2, 0, none⟩) ns[k].length cap2] rfl rfl Hcell.out (by simp [Value.oneCell']) (by unfold maxLen; omega) (by omega) (by simp; omega) ?_; intro v' w4 hown' hgrow _))
      obtain ⟨g', cap', rfl, hcap⟩ : ∃ g' cap', v' = .slice (some ⟨g', 0, none⟩) (k + 1) cap' ∧ k + 1 ≤ cap' := by
        rcases hown'.2 with ⟨_, h0⟩ | ⟨g2, cap2, cur2, hv2, _, _, hc2, _⟩
        · omega
        · exact ⟨g2, cap2, hv2, hc2⟩
      have hlen : xs.length = k := by have := Hown.out.1; omega
      have hbl3 := hbl.trans (hb3.mono hbl.size)
      have hba : Below w3.heap.size w3 (w3.alloc (.cells #[.slice (some ⟨g2, 0, none⟩) ns[k].length cap2] 22)) := (Below.refl _ _).alloc (Nat.le_refl _) _
      have hbn : Below w2.heap.size w2 w4 := (hbl3.alloc hbl3.size _).grown hgrow (by simp; omega) (fun g hg => (own_tag Ho3.out (by exact hg)).1)
      have hkeep : ∀ (g : Nat) (t : Array Value), Blk w3 g 5 t → w4.heap[g]? = w3.heap[g]? := fun g t hb => by
        have h1 : Blk (w3.alloc (.cells #[.slice (some ⟨g2, 0, none⟩) ns[k].length cap2] 22)) g 5 t := hb.alloc _
        exact (row_apart HO2.out h1 (by decide) hgrow).trans (hba.block g hb.lt)
      have hnm3 : NmL w3 w2.heap.size ns k xs gs := hall.out.keep (fun g t hb => hb3.block g hb.lt)
      have hs4 : Solo w4 w2.heap.size g2 (some ⟨g2, 0, none⟩) ns[k] := fun h0 => by
        obtain ⟨e1, e2, e3⟩ := (Hso.out.keep (w' := w4) (fun t hb => hkeep g2 t hb)) h0
        exact ⟨e1, by omega, e3⟩
      have hne : ∀ i (hi : i < ns.length), i < k → 0 < ns[i].length → 0 < ns[k].length → gs i ≠ g2 := fun i hi hik h0 hk0 => by
        obtain ⟨Ai, ci, _, hsi⟩ := hall.out.1 i hi hik
        have h1 := hsi.lt h0
        obtain ⟨_, h2, _⟩ := Hso.out hpos
        omega
      have hnew := NmL.snoc (c := cap2) hlt hlen (hnm3.keep hkeep) hs4 hne
      go_roundw
      case rel =>
        exact ⟨k + 1, _, cap', xs ++ [.slice (some ⟨g2, 0, none⟩) ns[k].length cap2], _, by omega, by go_num, rfl, hown', hcap, Lib.hid hnew, hbn⟩
      case measure => simp [intOf]; omega
    · go_wp2
      go_ret
      have hkl : k = ns.length := by omega
      subst hkl
      refine ⟨A1, c1, gs, rfl, ?_, hb02.trans (hbl.mono hb02.size)⟩
      exact (hall.out.own hown).lo_le (by omega)
end Go.Proofs.Ytmejbmfopdfbjaa
