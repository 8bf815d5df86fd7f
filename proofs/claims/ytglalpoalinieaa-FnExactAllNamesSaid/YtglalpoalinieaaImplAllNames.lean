/-
  The program's AllNames: a row of names, each cloned.
-/
import Derived.Test.YtglalpoalinieaaOwnMark
import Derived.Test.YtglalpoalinieaaImplProgOk
namespace Go.Proofs.Ytglalpoalinieaa
open Go.RowKit Go.Shelf
set_option linter.unusedVariables false

theorem OwnN.lo_le {w : World} {lo lo' : Nat} {A : Option Addr} {l : List (List UInt8)} {gs : Nat → Nat} (h : OwnN w lo A l gs) (hl : lo' ≤ lo) : OwnN w lo' A l gs := by
  intro hn
  obtain ⟨g, cs, eA, hb, hlo, hat, hds⟩ := h hn
  refine ⟨g, cs, eA, hb, by omega, fun i hi => ?_, hds⟩
  obtain ⟨A', c', hc, hx⟩ := hat i hi
  refine ⟨A', c', hc, fun h0 => ?_⟩
  obtain ⟨e1, e2, e3⟩ := hx h0
  exact ⟨e1, by omega, e3⟩

/-- a name in a block of its own -/
def Solo (w : World) (lo g : Nat) (A : Option Addr) (e : List UInt8) : Prop := 0 < e.length → A = some ⟨g, 0, none⟩ ∧ lo ≤ g ∧ ∃ tc : Array Value, Blk w g 5 tc ∧ ∀ (j : Nat) (u : Value), (vb e)[j]? = some u → tc[j]? = some u
theorem Solo.keep {w w' : World} {lo g : Nat} {A : Option Addr} {e : List UInt8} (h : Solo w lo g A e) (hk : ∀ t, Blk w g 5 t → w'.heap[g]? = w.heap[g]?) : Solo w' lo g A e := fun h0 => by
  obtain ⟨e1, e2, tc, hb, ht⟩ := h h0
  exact ⟨e1, e2, tc, (hk _ hb).trans hb, ht⟩
theorem Solo.lt {w : World} {lo g : Nat} {A : Option Addr} {e : List UInt8} (h : Solo w lo g A e) (h0 : 0 < e.length) : g < w.heap.size := by
  obtain ⟨_, _, tc, hb, _⟩ := h h0
  exact hb.lt

/-- the first k names, each in a block of its own -/
def NmL (w : World) (lo : Nat) (l : List (List UInt8)) (k : Nat) (xs : List Value) (gs : Nat → Nat) : Prop :=
  (∀ j (hj : j < l.length), j < k → ∃ A c, xs[j]? = some (.slice A l[j].length c) ∧ Solo w lo (gs j) A l[j]) ∧
    ∀ i j (hi : i < l.length) (hj : j < l.length), i < k → j < k → i ≠ j → 0 < l[i].length → 0 < l[j].length → gs i ≠ gs j
theorem NmL.zero (w : World) (lo : Nat) (l : List (List UInt8)) (gs : Nat → Nat) : NmL w lo l 0 [] gs := ⟨fun j _ h => by omega, fun i j _ _ h => by omega⟩
theorem NmL.keep {w w' : World} {lo k : Nat} {l : List (List UInt8)} {xs : List Value} {gs : Nat → Nat} (h : NmL w lo l k xs gs) (hk : ∀ g t, Blk w g 5 t → w'.heap[g]? = w.heap[g]?) : NmL w' lo l k xs gs :=
  ⟨fun j hj hjk => by
    obtain ⟨A, c, h1, h2⟩ := h.1 j hj hjk
    exact ⟨A, c, h1, h2.keep (hk _)⟩, h.2⟩
theorem NmL.snoc {w : World} {lo k g : Nat} {l : List (List UInt8)} {xs : List Value} {gs : Nat → Nat} {A : Option Addr} {c : Nat} (hk : k < l.length) (hx : xs.length = k) (h : NmL w lo l k xs gs) (hs : Solo w lo g A l[k])
    (hne : ∀ i (hi : i < l.length), i < k → 0 < l[i].length → 0 < l[k].length → gs i ≠ g) : NmL w lo l (k + 1) (xs ++ [.slice A l[k].length c]) (fun i => if i = k then g else gs i) := by
  refine ⟨fun j hj hjk => ?_, fun i j hi hj hik hjk hij ti tj => ?_⟩
  · rcases Nat.lt_or_ge j k with h1 | h1
    · obtain ⟨A2, c2, hx2, hs2⟩ := h.1 j hj h1
      refine ⟨A2, c2, by rw [List.getElem?_append_left (by omega)]; exact hx2, ?_⟩
      show Solo w lo (if j = k then g else gs j) A2 l[j]
      rw [if_neg (by omega)]
      exact hs2
    · obtain rfl : j = k := by omega
      refine ⟨A, c, by rw [List.getElem?_append_right (by omega), hx, Nat.sub_self]; rfl, ?_⟩
      show Solo w lo (if j = j then g else gs j) A l[j]
      rw [if_pos rfl]
      exact hs
  · show (if i = k then g else gs i) ≠ (if j = k then g else gs j)
    by_cases ei : i = k
    · rw [if_pos ei, if_neg (by omega)]
      subst ei
      exact fun e => hne j hj (by omega) tj ti e.symm
    · by_cases ej : j = k
      · rw [if_neg ei, if_pos ej]
        subst ej
        exact hne i hi (by omega) ti tj
      · rw [if_neg ei, if_neg ej]
        exact h.2 i j hi hj (by omega) (by omega) hij ti tj
/-- a row that is whole -/
theorem NmL.own {w : World} {lo : Nat} {l : List (List UInt8)} {xs : List Value} {gs : Nat → Nat} {A : Option Addr} {c : Nat} (h : NmL w lo l l.length xs gs) (ho : w.ownsRow lo 33 1 (.slice A l.length c) l.length xs) : OwnN w lo A l gs := by
  intro hn
  rcases ho.2 with ⟨_, h0⟩ | ⟨g, cap, cur, hv, hlo, hb, _, _, _, htk⟩
  · omega
  · injection hv with a1 a2 a3
    refine ⟨g, cur, a1, hb, hlo, fun i hi => ?_, fun i j hi hj => h.2 i j hi hj hi hj⟩
    obtain ⟨A', c', hx, hs⟩ := h.1 i hi hi
    refine ⟨A', c', ?_, hs⟩
    rw [← htk] at hx
    rw [List.getElem?_take] at hx
    split at hx
    · simpa using hx
    · cases hx

set_option maxRecDepth 100000 in
set_option maxHeartbeats 2000000 in
theorem bytesCloneO_c (l : List UInt8) (A : Option Addr) (c B : Nat) (w : World) (hB : B ≤ w.heap.size) (hl : l.length ≤ 1048576) (h : RB w B A l) :
    Calls Try.prog 72 #[.slice A l.length c] w fun r w' => ∃ A' c' g, r = .returned (.slice A' l.length c') ∧ Solo w' w.heap.size g A' l ∧ Below w.heap.size w w' := by
  obtain ⟨i0, hi, hz0, hz1, hz2⟩ := info_parts infoU8
  have qn : ∀ (w : World) (a : Option Addr) (n c n' c' : Nat), (binOp .eql 33 (.slice a n c) (.slice none n' c')).run Try.prog w = .ok (.bool a.isNone) w := fun w a n c n' c' => Lib.run_eql_slice_nil w _ _ a n c n' c' Try.underlying33
  cases A with
  | none =>
    have h0 : l = [] := by
      cases l with
      | nil => rfl
      | cons x r => obtain ⟨ad, e, _⟩ := h.2 (by simp); cases e
    subst h0
    go_enter Try.func72, Try.ntmps72
    go_wp2
    go_ret
    exact ⟨none, 0, 0, rfl, fun hn => by simp at hn, Below.refl _ _⟩
  | some ad =>
    have hb0 : Below w.heap.size w (w.alloc (.cells #[] 5)) := (Below.refl _ _).alloc (Nat.le_refl _) _
    have hR := h.below (hb0.mono hB)
    have hO : (w.alloc (.cells #[] 5)).ownsRow w.heap.size 5 1 (.slice (some ⟨w.heap.size, 0, none⟩) 0 0) 0 [] :=
      ⟨rfl, .inr ⟨w.heap.size, 0, #[], rfl, Nat.le_refl _, Blk.new w _ _, Nat.le_refl _, Nat.zero_le _, rfl, rfl⟩⟩
    have hcs : ∀ j u, (vb l)[j]? = some u → (w.alloc (.cells #[] 5)).cell? (ad.add j) = some u := fun j u hj => by
      have hjl : j < l.length := by rw [← vb_len l]; exact (List.getElem?_eq_some_iff.1 hj).1
      obtain ⟨ad', e, _, hc⟩ := hR.2 (by omega)
      injection e with e
      subst e
      have := hc j u hj
      simpa using this
    have HO := Lib.hid hO
    have Hcs := Lib.hid hcs
    clear hO hR h hcs
    go_enter Try.func72, Try.ntmps72
    go_wp2_with (at_builtin; refine wpList_append_own _ rfl (.tmp 5) (.tmp 6) 33 rfl w.heap.size 5 i0 _ 1 1 Try.underlying33 hi hz0 hz1 hz2 rfl (by omega) _ _ _ rfl HO.out ad l.length c (vb l) rfl (by rw [vb_len, Nat.mul_one]) Hcs.out (fun u hu => by obtain ⟨b, _, rfl⟩ := List.mem_map.1 hu; rfl) (by unfold maxLen; omega) (by omega) (by simp) ?_; intro v2 w2 hown2 hg2 _)
    go_ret
    rw [Nat.zero_add, List.nil_append] at hown2
    have hbn : Below w.heap.size w w2 := hb0.grown hg2 (by simp) (fun g hg => by
      have h3 : (Value.slice (some ⟨w.heap.size, 0, none⟩) 0 0).ownBlock = some g := hg
      simp [Value.ownBlock] at h3
      omega)
    rcases hown2.2 with ⟨h1, h0⟩ | ⟨g2, cap2, cur2, hv2, hge, hbk, _, _, _, htk⟩
    · exact ⟨none, 0, 0, by rw [h1, h0]; rfl, fun hn => by omega, hbn⟩
    · refine ⟨_, _, g2, by rw [hv2]; rfl, fun _ => ⟨rfl, hge, cur2, hbk, fun j u hu => ?_⟩, hbn⟩
      rw [← htk, List.getElem?_take] at hu
      split at hu
      · simpa using hu
      · cases hu

/-- the names of a program, where it is ok -/
def allNames (l : List Fn) : List (List UInt8) := if progOk l = true then namesOf l else []

theorem row_apart {w w' : World} {lo g k : Nat} {e t : TypeId} {v : Value} {xs : List Value} {cs : Array Value} (h : w.ownsRow lo e 1 v k xs) (hb : Blk w g t cs) (hne : t ≠ e) (hg : w.grownBy w' v.ownBlock) : w'.heap[g]? = w.heap[g]? :=
  hg.block g hb.lt (fun e1 => by
    obtain ⟨cs', t', e1', e2'⟩ := (own_tag h e1.symm).2
    unfold Blk at hb
    rw [hb] at e1'
    injection e1' with e1'
    injection e1' with _ e1'
    exact hne (e1'.trans e2'))

set_option maxRecDepth 100000 in
set_option maxHeartbeats 8000000 in
theorem implAllNames_c (l : List Fn) (A : Option Addr) (cp L B : Nat) (w : World) (hB : B ≤ w.heap.size) (hsz : fnsSz l ≤ 1048576) (h : FnL w L B A l) :
    Calls Try.prog 38 #[.agg #[.slice A l.length cp]] w fun r w' => ∃ A' c' gs, r = .returned (.slice A' (allNames l).length c') ∧ OwnN w' w.heap.size A' (allNames l) gs ∧ Below w.heap.size w w' := by
  have hn := h.1
  unfold maxLen at hn
  have hll : l.length ≤ 1048576 := by unfold fnsSz at hsz; omega
  obtain ⟨i0, hi, hz0, hz1, hz2⟩ := info_parts infoBs
  have hb0 : Below w.heap.size w (w.alloc (.cells #[.slice A l.length cp] 29)) := (Below.refl _ _).alloc (Nat.le_refl _) _
  have KP := Blk.new w 29 #[.slice A l.length cp]
  have hc := implProgOk_c l A cp L B _ (Nat.le_trans hB hb0.size) hsz (h.below (hb0.mono hB))
  cases hf : progOk l
  · rw [hf] at hc
    have Hc := Lib.hid hc
    have ha : allNames l = [] := by unfold allNames; rw [hf]; rfl
    rw [ha]
    clear hc hf h
    go_enter Try.func38, Try.ntmps38
    go_wp2_with fail
    refine Hc.out.mono ?_
    rintro r w1 ⟨rfl, hb1⟩
    go_wp2
    go_ret
    exact ⟨none, 0, fun _ => 0, rfl, fun h0 => by simp at h0, hb0.trans (hb1.mono hb0.size)⟩
  · rw [hf] at hc
    have Hc := Lib.hid hc
    have ha : allNames l = namesOf l := by unfold allNames; rw [hf]; rfl
    rw [ha]
    have hnl : (namesOf l).length = l.length := by unfold namesOf; rw [List.length_map]
    have hnsz : ∀ j (hj : j < (namesOf l).length), (namesOf l)[j].length ≤ 1048576 := fun j hj => by
      have hj' : j < l.length := by omega
      have e1 : (namesOf l)[j] = l[j].name := List.getElem_map Fn.name
      have h1 := fnsSz_get hj'
      unfold fnSz at h1
      rw [e1]
      omega
    obtain ⟨N, hN⟩ : ∃ N, namesOf l = N := ⟨_, rfl⟩
    rw [hN] at hnl hnsz ⊢
    have H := Lib.hid h
    have HN := Lib.hid hN
    have Hsz := Lib.hid hnsz
    rw [hnl]
    clear hc hf h ha hN hnsz hsz
    go_enter Try.func38, Try.ntmps38
    go_wp2_with fail
    refine Hc.out.mono ?_
    rintro r w1 ⟨rfl, hb1⟩
    have hb01 := hb0.trans (hb1.mono hb0.size)
    have p0 := (KP.below hb1 KP.lt).cell_of 0 (v := .slice A l.length cp) rfl
    have hfn := funcNames_c l A cp L B w1 (Nat.le_trans hB hb01.size) hll (H.out.below (hb01.mono hB))
    rw [HN.out] at hfn
    have Hfn := Lib.hid hfn
    clear hfn Hc
    go_wp2_with fail
    refine Hfn.out.mono ?_
    rintro r w2 ⟨A', c', rfl, hlc, hcm, hbs, hb2⟩
    have hb02 := hb01.trans (hb2.mono hb01.size)
    have Hbs := Lib.hid hbs
    clear hbs Hfn p0 KP hb1 hb2 hb01 hb0 H
    go_wp2
    go_loopw [3, 12] (fun s i wr => ∃ (k : Nat) (A1 : Option Addr) (c1 : Nat) (xs : List Value) (gs : Nat → Nat), k ≤ l.length ∧ i = .int .i64 k ∧ s = .slice A1 k c1 ∧ wr.ownsRow w2.heap.size 33 1 (.slice A1 k c1) k xs ∧ k ≤ c1 ∧
      Hid (NmL wr w2.heap.size N k xs gs) ∧ Below w2.heap.size w2 wr) (fun _ i _ => l.length - (intOf i).toNat)
    case atStart => exact ⟨0, none, 0, [], fun _ => 0, Nat.zero_le _, rfl, rfl, World.ownsRow_nil _ _ _ _, Nat.le_refl _, Lib.hid (NmL.zero _ _ _ _), Below.refl _ _⟩
    case round =>
      obtain ⟨k, A1, c1, xs, gs, hk, rfl, rfl, hown, hkc, hall, hbl⟩ := hrel
      by_cases hlt : k < l.length
      · have hltN : k < N.length := by omega
        obtain ⟨ad, rfl, _, hbk, hat⟩ := (Hbs.out.below hbl).2 (by omega)
        obtain ⟨fA, fc, c0, fR, fm⟩ := hat k hltN
        have hsz1 := Hsz.out k hltN
        have hcl := bytesCloneO_c N[k] fA fc w2.heap.size wr hbl.size hsz1 fR.1
        have Hcl := Lib.hid hcl
        have Hown := Lib.hid hown
        clear hcl hown hat fR fm hsz1
        go_wp2_with fail
        refine Hcl.out.mono ?_
        rintro r w3 ⟨A2, c2, g2, rfl, hso, hb3⟩
        have hbl3 := hbl.trans (hb3.mono hbl.size)
        have hown3 := own_keep Hown.out (fun g hg => hb3.block g (own_tag Hown.out hg).2.lt)
        have hO := hown3.alloc (.cells #[.slice A2 N[k].length c2] 33)
        have HO := Lib.hid hO
        have Hso := Lib.hid hso
        have Ho3 := Lib.hid hown3
        have hcell := cell_one_new w3 (.slice A2 N[k].length c2) 33
        have Hcell := Lib.hid hcell
        have hs3 := hbl3.size
        clear hO hso hcell Hcl hown3
        go_wp2_with (at_builtin; refine wpList_append_own _ rfl (.tmp 16) (.tmp 19) 40 rfl w2.heap.size 33 i0 _ 1 24 Try.underlying40 hi hz0 hz1 hz2 rfl (by omega) _ _ _ rfl HO.out ⟨w3.heap.size, 0, none⟩ 1 1 [.slice A2 N[k].length c2] rfl rfl Hcell.out (by simp [Value.oneCell']) (by unfold maxLen; omega) (by omega) (by simp; omega) ?_; intro v' w4 hown' hgrow _)
        obtain ⟨g', cap', rfl, hcap⟩ : ∃ g' cap', v' = .slice (some ⟨g', 0, none⟩) (k + 1) cap' ∧ k + 1 ≤ cap' := by
          rcases hown'.2 with ⟨_, h0⟩ | ⟨g2, cap2, cur2, hv2, _, _, hc2, _⟩
          · omega
          · exact ⟨g2, cap2, hv2, hc2⟩
        have hlen : xs.length = k := by have := Hown.out.1; omega
        have hba : Below w3.heap.size w3 (w3.alloc (.cells #[.slice A2 N[k].length c2] 33)) := (Below.refl _ _).alloc (Nat.le_refl _) _
        have hbn : Below w2.heap.size w2 w4 := (hbl3.alloc hs3 _).grown hgrow (by simp; omega) (fun g hg => (own_tag Ho3.out (by exact hg)).1)
        have hkeep : ∀ (g : Nat) (t : Array Value), Blk w3 g 5 t → w4.heap[g]? = w3.heap[g]? := fun g t hb => by
          have h1 : Blk (w3.alloc (.cells #[.slice A2 N[k].length c2] 33)) g 5 t := hb.alloc _
          exact (row_apart HO.out h1 (by decide) hgrow).trans (hba.block g hb.lt)
        have hnm3 : NmL w3 w2.heap.size N k xs gs := hall.out.keep (fun g t hb => hb3.block g hb.lt)
        have hne : ∀ i (hi : i < N.length), i < k → 0 < N[i].length → 0 < N[k].length → gs i ≠ g2 := fun i hi hik h0 hk0 => by
          obtain ⟨Ai, ci, _, hsi⟩ := hall.out.1 i hi hik
          have h1 := hsi.lt h0
          obtain ⟨_, h2, _⟩ := Hso.out hk0
          omega
        have hs4 : Solo w4 w2.heap.size g2 A2 N[k] := fun h0 => by
          obtain ⟨e1, e2, e3⟩ := (Hso.out.keep (w' := w4) (fun t hb => hkeep g2 t hb)) h0
          exact ⟨e1, by have := hbl.size; omega, e3⟩
        go_roundw
        case rel =>
          exact ⟨k + 1, _, cap', xs ++ [.slice A2 N[k].length c2], _, by omega, by go_num, rfl, hown', hcap, Lib.hid (NmL.snoc hltN hlen (hnm3.keep hkeep) hs4 hne), hbn⟩
        case measure => simp [intOf]; omega
      · go_wp2
        go_ret
        have hkl : k = l.length := by omega
        subst hkl
        refine ⟨A1, c1, gs, rfl, ?_, hb02.trans (hbl.mono hb02.size)⟩
        have h1 := hall.out
        rw [← hnl] at h1 hown
        exact (h1.own hown).lo_le hb02.size
end Go.Proofs.Ytglalpoalinieaa
