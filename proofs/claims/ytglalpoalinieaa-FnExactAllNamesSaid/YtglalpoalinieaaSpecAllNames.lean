/-
  The model's AllNames: a row of names, each copied.
-/
import Derived.Test.YtglalpoalinieaaImplAllNames
import Derived.Test.YtglalpoalinieaaSpecProgOk
namespace Go.Proofs.Ytglalpoalinieaa
open Go.RowKit Go.Shelf
set_option linter.unusedVariables false

theorem progOk_names {l : List Fn} (h : progOk l = true) {k : Nat} (hk : k < l.length) : 0 < l[k].name.length := by
  unfold progOk formOk at h
  simp only [Bool.and_eq_true, decide_eq_true_eq] at h
  have h1 := (fnsGood_get hk h.1.1.1.1.2).1
  unfold headOk nameOk wordOk at h1
  simp only [Bool.and_eq_true, decide_eq_true_eq] at h1
  omega

/-- what a copied name leaves -/
theorem copied {wr w3 : World} {lo k c1 : Nat} {A1 : Option Addr} {xs : List Value} {nm : List UInt8} {v2 : Value} (h0 : 0 < nm.length) (Hown : wr.ownsRow lo 33 1 (.slice A1 k c1) k xs)
    (hown2 : w3.ownsRow wr.heap.size 5 1 v2 (0 + nm.length) ([] ++ vb nm)) (hg2 : (wr.alloc (.cells #[] 5)).grownBy w3 (Value.slice (some ⟨wr.heap.size, 0, none⟩) 0 0).ownBlock) :
    ∃ g2 cap2, v2 = .slice (some ⟨g2, 0, none⟩) nm.length cap2 ∧ Solo w3 wr.heap.size g2 (some ⟨g2, 0, none⟩) nm ∧ Below wr.heap.size wr w3 ∧ w3.ownsRow lo 33 1 (.slice A1 k c1) k xs := by
  have hb0 : Below wr.heap.size wr (wr.alloc (.cells #[] 5)) := (Below.refl _ _).alloc (Nat.le_refl _) _
  rw [Nat.zero_add, List.nil_append] at hown2
  have hbn : Below wr.heap.size wr w3 := hb0.grown hg2 (by simp) (fun g hg => by
    have h3 : (Value.slice (some ⟨wr.heap.size, 0, none⟩) 0 0).ownBlock = some g := hg
    simp [Value.ownBlock] at h3
    omega)
  rcases hown2.2 with ⟨h1, h2⟩ | ⟨g2, cap2, cur2, hv2, hge, hbk, _, _, _, htk⟩
  · omega
  · refine ⟨g2, cap2, hv2, fun _ => ⟨rfl, hge, cur2, hbk, fun j u hu => ?_⟩, hbn, own_keep Hown (fun g hg => hbn.block g (own_tag Hown hg).2.lt)⟩
    rw [← htk, List.getElem?_take] at hu
    split at hu
    · simpa using hu
    · cases hu

set_option maxRecDepth 100000 in
set_option maxHeartbeats 8000000 in
theorem specAllNames_c (l : List Fn) (A : Option Addr) (cp L B : Nat) (w : World) (hB : B ≤ w.heap.size) (hsz : fnsSz l ≤ 1048576) (h : FnL w L B A l) :
    Calls Try.prog 37 #[.agg #[.slice A l.length cp]] w fun r w' => ∃ A' c' gs, r = .returned (.slice A' (allNames l).length c') ∧ OwnN w' w.heap.size A' (allNames l) gs ∧ Below w.heap.size w w' := by
  have hn := h.1
  unfold maxLen at hn
  have hll : l.length ≤ 1048576 := by unfold fnsSz at hsz; omega
  obtain ⟨i0, hi, hz0, hz1, hz2⟩ := info_parts infoBs
  obtain ⟨i1, hj, hy0, hy1, hy2⟩ := info_parts infoU8
  have hb0 : Below w.heap.size w (w.alloc (.cells #[.slice A l.length cp] 29)) := (Below.refl _ _).alloc (Nat.le_refl _) _
  have KP := Blk.new w 29 #[.slice A l.length cp]
  have hc := specProgOk_c l A cp L B _ (Nat.le_trans hB hb0.size) hsz (h.below (hb0.mono hB))
  cases hf : progOk l
  · rw [hf] at hc
    have Hc := Lib.hid hc
    have ha : allNames l = [] := by unfold allNames; rw [hf]; rfl
    rw [ha]
    clear hc hf h
    go_enter Try.func37, Try.ntmps37
    go_wp2_with fail
    refine Hc.out.mono ?_
    rintro r w1 ⟨rfl, hb1⟩
    go_wp2
    go_ret
    exact ⟨none, 0, fun _ => 0, rfl, fun h0 => by simp at h0, hb0.trans (hb1.mono hb0.size)⟩
  · rw [hf] at hc
    have Hc := Lib.hid hc
    have Hf := Lib.hid hf
    have ha : allNames l = namesOf l := by unfold allNames; rw [hf]; rfl
    rw [ha]
    have hnl : (namesOf l).length = l.length := by unfold namesOf; rw [List.length_map]
    have hget : ∀ j (hj : j < l.length) (hj' : j < (namesOf l).length), (namesOf l)[j] = l[j].name := fun j hj hj' => List.getElem_map Fn.name
    have hnsz : ∀ j (hj : j < l.length), l[j].name.length ≤ 1048576 := fun j hj => by
      have h1 := fnsSz_get hj
      unfold fnSz at h1
      omega
    have H := Lib.hid h
    have Hsz := Lib.hid hnsz
    have Hget := Lib.hid hget
    rw [hnl]
    clear hc hf h ha hnsz hsz hget
    go_enter Try.func37, Try.ntmps37
    go_wp2_with fail
    refine Hc.out.mono ?_
    rintro r w1 ⟨rfl, hb1⟩
    have hb01 := hb0.trans (hb1.mono hb0.size)
    have KP1 := KP.below hb1 KP.lt
    have hw1 : w.heap.size + 1 ≤ w1.heap.size := by have := hb1.size; simp at *; omega
    clear Hc KP hb1 hb0
    go_wp2
    go_loopw [3, 4] (fun s i wr => ∃ (k : Nat) (A1 : Option Addr) (c1 : Nat) (xs : List Value) (gs : Nat → Nat), k ≤ l.length ∧ i = .int .i64 k ∧ s = .slice A1 k c1 ∧ wr.ownsRow w1.heap.size 33 1 (.slice A1 k c1) k xs ∧ k ≤ c1 ∧
      Hid (NmL wr w1.heap.size (namesOf l) k xs gs) ∧ Below w1.heap.size w1 wr) (fun _ i _ => l.length - (intOf i).toNat)
    case atStart => exact ⟨0, none, 0, [], fun _ => 0, Nat.zero_le _, rfl, rfl, World.ownsRow_nil _ _ _ _, Nat.le_refl _, Lib.hid (NmL.zero _ _ _ _), Below.refl _ _⟩
    case round =>
      obtain ⟨k, A1, c1, xs, gs, hk, rfl, rfl, hown, hkc, hall, hbl⟩ := hrel
      have hbw := hb01.trans (hbl.mono hb01.size)
      have KPr := KP1.below hbl KP1.lt
      have p0 := KPr.cell_of 0 (v := .slice A l.length cp) rfl
      have hws := hbl.size
      by_cases hlt : k < l.length
      · have hltN : k < (namesOf l).length := by omega
        have hpos := progOk_names Hf.out hlt
        have hnz := Hsz.out k hlt
        have p1 := fun (o : Obj) => (KPr.alloc o).cell_of 0 (v := .slice A l.length cp) rfl
        obtain ⟨ad, rfl, _, hbk, hat⟩ := (H.out.below (hbw.mono hB)).2 (by omega)
        obtain ⟨v0, v1, v2, ⟨c0, _, _⟩, hv⟩ := hat k hlt
        obtain ⟨fA, fc, fA1, fc1, fA2, fc2, rfl, rfl, rfl, fR, fm, _, _, _⟩ := hv
        have c0o := fun (o : Obj) => (((Below.refl wr.heap.size wr).alloc (Nat.le_refl _) o).cell (p := ad.add (k * 3)) (by rw [block_of_add]; have := hbw.size; omega)).trans c0
        have hR := (fR.1.more (B' := wr.heap.size) (by have := hbw.size; omega)).alloc (Nat.le_refl _) (.cells #[] 5)
        obtain ⟨ad2, rfl, _⟩ := hR.2 hpos
        have hcs : ∀ j u, (vb l[k].name)[j]? = some u → (wr.alloc (.cells #[] 5)).cell? (ad2.add j) = some u := fun j u hj => by
          obtain ⟨ad', e, _, hc⟩ := hR.2 hpos
          injection e with e
          subst e
          have := hc j u hj
          simpa using this
        have hO : (wr.alloc (.cells #[] 5)).ownsRow wr.heap.size 5 1 (.slice (some ⟨wr.heap.size, 0, none⟩) 0 0) 0 [] :=
          ⟨rfl, .inr ⟨wr.heap.size, 0, #[], rfl, Nat.le_refl _, Blk.new wr _ _, Nat.le_refl _, Nat.zero_le _, rfl, rfl⟩⟩
        have HO := Lib.hid hO
        have Hcs := Lib.hid hcs
        have Hown := Lib.hid hown
        clear hO hcs hown hat fR fm hR
        go_wp2_with (first | (at_builtin; refine wpList_append_own _ rfl (.tmp 16) (.tmp 22) 33 rfl wr.heap.size 5 i1 _ 1 1 Try.underlying33 hj hy0 hy1 hy2 rfl (by omega) _ _ _ rfl HO.out ad2 l[k].name.length fc (vb l[k].name) rfl (by rw [vb_len, Nat.mul_one]) Hcs.out (fun u hu => by obtain ⟨b, _, rfl⟩ := List.mem_map.1 hu; rfl) (by unfold maxLen; omega) (by omega) (by simp) ?_; intro v2 w3 hown2 hg2 _; obtain ⟨g2, cap2, rfl, hso, hb3, hown3⟩ := copied hpos Hown.out hown2 hg2; have HO2 := Lib.hid (hown3.alloc (.cells #[.slice (some ⟨g2, 0, none⟩) l[k].name.length cap2] 33)); have Hcell := Lib.hid (cell_one_new w3 (.slice (some ⟨g2, 0, none⟩) l[k].name.length cap2) 33); have Ho3 := Lib.hid hown3; have Hso := Lib.hid hso; have hs3 := hb3.size; clear hown2 hg2 hown3 hso) | (at_builtin; refine wpList_append_own _ rfl (.tmp 15) (.tmp 24) 40 rfl w1.heap.size 33 i0 _ 1 24 Try.underlying40 hi hz0 hz1 hz2 rfl (by omega) _ _ _ rfl HO2.out ⟨w3.heap.size, 0, none⟩ 1 1 [.slice (some ⟨g2, 0, none⟩) l[k].name.length cap2] rfl rfl Hcell.out (by simp [Value.oneCell']) (by unfold maxLen; omega) (by omega) (by simp; omega) ?_; intro v' w4 hown' hgrow _))
        obtain ⟨g', cap', rfl, hcap⟩ : ∃ g' cap', v' = .slice (some ⟨g', 0, none⟩) (k + 1) cap' ∧ k + 1 ≤ cap' := by
          rcases hown'.2 with ⟨_, h0⟩ | ⟨g2, cap2, cur2, hv2, _, _, hc2, _⟩
          · omega
          · exact ⟨g2, cap2, hv2, hc2⟩
        have hlen : xs.length = k := by have := Hown.out.1; omega
        have hbl3 := hbl.trans (hb3.mono hbl.size)
        have hba : Below w3.heap.size w3 (w3.alloc (.cells #[.slice (some ⟨g2, 0, none⟩) l[k].name.length cap2] 33)) := (Below.refl _ _).alloc (Nat.le_refl _) _
        have hbn : Below w1.heap.size w1 w4 := (hbl3.alloc hbl3.size _).grown hgrow (by simp; omega) (fun g hg => (own_tag Ho3.out (by exact hg)).1)
        have hkeep : ∀ (g : Nat) (t : Array Value), Blk w3 g 5 t → w4.heap[g]? = w3.heap[g]? := fun g t hb => by
          have h1 : Blk (w3.alloc (.cells #[.slice (some ⟨g2, 0, none⟩) l[k].name.length cap2] 33)) g 5 t := hb.alloc _
          exact (row_apart HO2.out h1 (by decide) hgrow).trans (hba.block g hb.lt)
        have hnm3 : NmL w3 w1.heap.size (namesOf l) k xs gs := hall.out.keep (fun g t hb => hb3.block g hb.lt)
        have hs4 : Solo w4 w1.heap.size g2 (some ⟨g2, 0, none⟩) (namesOf l)[k] := fun h0 => by
          rw [Hget.out k hlt hltN] at h0 ⊢
          obtain ⟨e1, e2, e3⟩ := (Hso.out.keep (w' := w4) (fun t hb => hkeep g2 t hb)) h0
          exact ⟨e1, by omega, e3⟩
        have hne : ∀ i (hi : i < (namesOf l).length), i < k → 0 < (namesOf l)[i].length → 0 < (namesOf l)[k].length → gs i ≠ g2 := fun i hi hik h0 hk0 => by
          obtain ⟨Ai, ci, _, hsi⟩ := hall.out.1 i hi hik
          have h1 := hsi.lt h0
          obtain ⟨_, h2, _⟩ := Hso.out hpos
          omega
        have hnew := NmL.snoc (c := cap2) hltN hlen (hnm3.keep hkeep) hs4 hne
        rw [Hget.out k hlt hltN] at hnew
        go_roundw
        case rel =>
          exact ⟨k + 1, _, cap', xs ++ [.slice (some ⟨g2, 0, none⟩) l[k].name.length cap2], _, by omega, by go_num, rfl, hown', hcap, Lib.hid hnew, hbn⟩
        case measure => simp [intOf]; omega
      · go_wp2
        go_ret
        have hkl : k = l.length := by omega
        subst hkl
        refine ⟨A1, c1, gs, rfl, ?_, hb01.trans (hbl.mono hb01.size)⟩
        have h1 := hall.out
        rw [← hnl] at h1 hown
        exact (h1.own hown).lo_le hb01.size
end Go.Proofs.Ytglalpoalinieaa
