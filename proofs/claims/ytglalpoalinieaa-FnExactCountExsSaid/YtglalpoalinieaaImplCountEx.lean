/-
  The program's CountExs.
-/
import Derived.Test.YtglalpoalinieaaImplProgOk
namespace Go.Proofs.Ytglalpoalinieaa
open Go.RowKit Go.Shelf
set_option linter.unusedVariables false
attribute [local go_sem] Oper.semAt_some

def exK : Ex → Int
  | .mk k _ _ _ => k
mutual
theorem flatEx_len : ∀ s : Ex, (flatEx s).length ≤ exSz s + 1
  | .mk k n name args => by
    have h1 := flatExs_len args
    rw [flatEx_mk, exSz_mk, List.length_cons]
    omega
theorem flatExs_len : ∀ l : List Ex, (flatExs l).length ≤ exsSz l
  | [] => by simp [flatExs]
  | s :: r => by
    have h1 := flatEx_len s
    have h2 := flatExs_len r
    rw [flatExs, exsSz, List.length_append]
    omega
end
theorem stEx_len (k : Int) (name : List UInt8) (e f : Ex) (body els : List St) : (stEx (.mk k name e f body els)).length ≤ exSz e + exSz f + 2 := by
  have e1 : stEx (.mk k name e f body els) = flatExs (asksL k e f) := rfl
  have h1 := flatEx_len e
  have h2 := flatEx_len f
  rw [e1]
  unfold asksL
  by_cases h : k = 2
  · rw [if_pos h]
    simp only [flatExs, List.append_nil, List.length_append]
    omega
  · rw [if_neg h]
    simp only [flatExs, List.append_nil]
    omega
theorem stsEx_app2 (l l' : List St) : stsEx (l ++ l') = stsEx l ++ stsEx l' := by unfold stsEx; rw [List.flatMap_append]
mutual
theorem stsEx_len1 : ∀ s : St, (stsEx (flatSt s)).length ≤ 2 * (stSz s + 1)
  | .mk k name e f body els => by
    have h1 := stsEx_len body
    have h2 := stsEx_len els
    have h3 := stEx_len k name e f body els
    have e1 : stsEx (.mk k name e f body els :: (flatSts body ++ flatSts els)) = stEx (.mk k name e f body els) ++ stsEx (flatSts body ++ flatSts els) := rfl
    rw [flatSt_mk, e1, stsEx_app2, stSz_mk, List.length_append, List.length_append]
    omega
theorem stsEx_len : ∀ l : List St, (stsEx (flatSts l)).length ≤ 2 * stsSz l
  | [] => by simp [flatSts, stsEx]
  | s :: r => by
    have h1 := stsEx_len1 s
    have h2 := stsEx_len r
    rw [flatSts, stsEx_app2, stsSz, List.length_append]
    omega
end
def cntExs (l : List Fn) (k : Int) : Nat := ((l.map fun f => (fnEx f).countP fun s => exK s == k)).sum
def countExs (l : List Fn) (k : Int) : Int := if progOk l = true then cntExs l k else -1
theorem cntExs_step (l : List Fn) (k : Int) {j : Nat} (hj : j < l.length) : cntExs (l.take (j + 1)) k = cntExs (l.take j) k + (fnEx l[j]).countP fun s => exK s == k := by
  unfold cntExs
  rw [List.take_succ_eq_append_getElem hj, List.map_append, List.sum_append]
  simp
theorem cntExs_le (l : List Fn) (k : Int) : cntExs l k ≤ 2 * fnsIn l l.length := by
  unfold cntExs fnsIn
  rw [List.take_length]
  induction l with
  | nil => simp
  | cons f r ih =>
    simp only [List.map_cons, List.sum_cons]
    have h1 := List.countP_le_length (p := fun s => exK s == k) (l := fnEx f)
    have h2 : (fnEx f).length ≤ 2 * stsSz f.body := stsEx_len f.body
    have h3 : stsSz f.body ≤ fnSz f := by unfold fnSz; omega
    omega
theorem cntExs_take (l : List Fn) (k : Int) (j : Nat) : cntExs (l.take j) k ≤ cntExs l k := by
  conv => rhs; rw [← List.take_append_drop j l]
  unfold cntExs
  rw [List.map_append, List.sum_append]
  omega
theorem ex_cnt (k : Int) (pre : List EV) (x : EV) : ((pre ++ [x]).map EV.e).countP (fun s => exK s == k) = (pre.map EV.e).countP (fun s => exK s == k) + (if exK x.e == k then 1 else 0) := by
  rw [List.map_append, List.countP_append]
  simp [List.countP_cons]

set_option maxRecDepth 100000 in
set_option maxHeartbeats 8000000 in
theorem implCountExs_c (l : List Fn) (A : Option Addr) (cp L B : Nat) (kind : Int) (w : World) (hB : B ≤ w.heap.size) (hsz : fnsSz l ≤ 1048576) (h : FnL w L B A l) :
    Calls Try.prog 25 #[.agg #[.slice A l.length cp], .int .i64 kind] w fun r w' => r = .returned (.int .i64 (countExs l kind)) ∧ Below w.heap.size w w' := by
  have hn := h.1
  unfold maxLen at hn
  have hb2 : Below w.heap.size w ((w.alloc (.cells #[.slice A l.length cp] 29)).alloc (.cells #[.int .i64 kind] 3)) := ((Below.refl _ _).alloc (Nat.le_refl _) _).alloc (by simp) _
  have KK : Blk ((w.alloc (.cells #[.slice A l.length cp] 29)).alloc (.cells #[.int .i64 kind] 3)) (w.heap.size + 1) 3 #[.int .i64 kind] := by
    have := Blk.new (w.alloc (.cells #[.slice A l.length cp] 29)) 3 #[.int .i64 kind]
    simpa using this
  have KP : Blk ((w.alloc (.cells #[.slice A l.length cp] 29)).alloc (.cells #[.int .i64 kind] 3)) w.heap.size 29 #[.slice A l.length cp] := (Blk.new w _ _).alloc _
  have hc := implProgOk_c l A cp L B _ (Nat.le_trans hB hb2.size) hsz (h.below (hb2.mono hB))
  refine (callsIn_wide (n := 3)).1 ?_
  cases hf : progOk l
  · rw [hf] at hc
    have Hc := Lib.hid hc
    have hno : countExs l kind = -1 := by unfold countExs; rw [hf]; rfl
    rw [hno]
    clear hc hf hno h
    refine callsIn_of_wp_marks Try.func25 rfl trivial ?_ rfl
    simp only [Try.ntmps25, List.size_toArray, List.length_cons, List.length_nil, Nat.reduceAdd, Nat.reduceSub, Array.replicate_succ, Array.replicate_zero, List.push_toArray, List.append_toArray, List.nil_append, List.cons_append]
    gi_wp2_with fail
    refine ⟨trivial, ?_⟩
    gi_at_call 17
    refine (callsIn_wide.2 Hc.out).mono ?_
    rintro r w1 ⟨rfl, hb1⟩
    gi_wp2
    exact ⟨.int .i64 (-1), by simp [results, Try.results25, go_sem], rfl, hb2.trans (hb1.mono hb2.size)⟩
  rw [hf] at hc
  have Hc := Lib.hid hc
  have hcs : countExs l kind = cntExs l kind := by unfold countExs; rw [hf]; rfl
  have Hcs := Lib.hid hcs
  have hgd : fnsGood l = true := by
    unfold progOk at hf
    simp only [Bool.and_eq_true] at hf
    have h1 := hf.1.1.1
    unfold formOk at h1
    simp only [Bool.and_eq_true] at h1
    exact h1.1.2
  have Hgd := Lib.hid hgd
  have hcl : cntExs l kind ≤ 2097152 := by have := cntExs_le l kind; unfold fnsSz at hsz; omega
  clear hc hf hcs hgd
  refine callsIn_of_wp_marks Try.func25 rfl trivial ?_ rfl
  simp only [Try.ntmps25, List.size_toArray, List.length_cons, List.length_nil, Nat.reduceAdd, Nat.reduceSub, Array.replicate_succ, Array.replicate_zero, List.push_toArray, List.append_toArray, List.nil_append, List.cons_append]
  gi_wp2_with fail
  refine ⟨trivial, ?_⟩
  gi_at_call 17
  refine (callsIn_wide.2 Hc.out).mono ?_
  rintro r w1 ⟨rfl, hb1⟩
  have KK1 := KK.below hb1 KK.lt
  have KP1 := KP.below hb1 KP.lt
  have p0 := fun o => (KP1.alloc o).cell_of 0 (v := .slice A l.length cp) rfl
  gi_wp2
  have hb01 := hb2.trans (hb1.mono hb2.size)
  have hws1 : w.heap.size + 2 ≤ w1.heap.size := by have := hb1.size; simpa using this
  have hbN : Below w1.heap.size w1 (w1.alloc (.cells #[.int .i64 0] 3)) := (Below.refl _ _).alloc (Nat.le_refl _) _
  have KN := Blk.new w1 3 #[.int .i64 0]
  have hsN : (w1.alloc (.cells #[.int .i64 0] 3)).heap.size = w1.heap.size + 1 := by simp
  have KKN := KK1.alloc (.cells #[.int .i64 0] 3)
  have hbN0 := hb01.trans (hbN.mono (by omega))
  refine loop_inv (fun k a wr => ∃ (j : Nat) (ds : List Deferred) (u6 u7 u8 u16 u17 u18 u19 u20 u21 u22 u23 u24 u25 u26 u27 u28 u29 u30 : Value), j ≤ l.length ∧ k = l.length - j ∧ a = { tmps := #[.agg #[.slice A l.length cp], .int .i64 kind, .pointer (some ⟨w.heap.size, 0, none⟩), .pointer (some ⟨w.heap.size + 1, 0, none⟩), .int .i64 0, .pointer (some ⟨w1.heap.size, 0, none⟩), u6, u7, u8, .agg #[.slice A l.length cp], .bool true, .bool false, .pointer (some ⟨w.heap.size, 0, none⟩), .slice A l.length cp, .int .i64 l.length, .int .i64 j, u16, u17, u18, u19, u20, u21, u22, u23, u24, u25, u26, u27, u28, u29, u30], defers := ds } ∧ Marks (w1.heap.size + 1) ds wr ∧ Below w.heap.size w wr ∧ Blk wr w1.heap.size 3 #[.int .i64 (cntExs (l.take j) kind : Nat)] ∧ Blk wr (w.heap.size + 1) 3 #[.int .i64 kind] ∧ w1.heap.size + 1 ≤ wr.heap.size) ?step l.length _ _ ⟨0, [], _, _, _, _, _, _, _, _, _, _, _, _, _, _, _, _, _, _, Nat.zero_le _, rfl, rfl, trivial, hbN0, KN, KKN, by omega⟩
  case step =>
  rintro k a wr ⟨j, ds, u6, u7, u8, u16, u17, u18, u19, u20, u21, u22, u23, u24, u25, u26, u27, u28, u29, u30, hj, rfl, rfl, hmk, hbl, hKN, hKK, hws⟩
  by_cases hlt : j < l.length
  · obtain ⟨ad, rfl, _, hbk, hat⟩ := (h.below (hbl.mono hB)).2 (by omega)
    obtain ⟨v0, v1, v2, ⟨c0, c1, c2⟩, hv⟩ := hat j hlt
    obtain ⟨fA, fc, fA1, fc1, fA2, fc2, rfl, rfl, rfl, fR, fm, fp, fb, fcp⟩ := hv
    have hgf := (fnsGood_get hlt Hgd.out).2
    have hfz := fnsSz_get hlt
    have hbz : stsSz l[j].body ≤ 1048576 := by unfold fnSz at hfz; omega
    have hct := cntExs_take l kind j
    have hds : ∀ D, ({ target := .collected D, args := #[] } : Deferred) ∈ ds → D < wr.heap.size := fun D hm => by
      obtain ⟨D', e, _, hD⟩ := hmk.mem _ hm
      cases e
      exact (Array.getElem?_eq_some_iff.1 hD).1
    clear hat
    gi_wp2_with fail
    refine ⟨trivial, ?_⟩
    gi_at_call 45
    refine (callsIn_wide.2 (expressionsIn_c fA2 _ fc2 _)).mono ?_
    rintro r W2 ⟨rfl, rfl⟩
    obtain ⟨V, hV⟩ : ∃ V, (wr.alloc (.cells #[.slice fA l[j].name.length fc, .slice fA1 l[j].params.length fc1, .slice fA2 l[j].body.length fc2] 48)).alloc (.cells #[.slice fA2 l[j].body.length fc2] 46) = V := ⟨_, rfl⟩
    have hVs : V.heap.size = wr.heap.size + 2 := by rw [← hV]; simp
    have hVb : Below wr.heap.size wr V := by rw [← hV]; exact ((Below.refl _ _).alloc (Nat.le_refl _) _).alloc (by simp) _
    have hVc : V.cell? ⟨wr.heap.size + 1, 0, none⟩ = some (.slice fA2 l[j].body.length fc2) := by
      have := (Blk.new (wr.alloc (.cells #[.slice fA l[j].name.length fc, .slice fA1 l[j].params.length fc1, .slice fA2 l[j].body.length fc2] 48)) 46 #[.slice fA2 l[j].body.length fc2]).cell_of 0 (v := .slice fA2 l[j].body.length fc2) rfl
      rw [World.size_alloc] at this
      rw [← hV]; exact this
    gi_wp2_with fail
    try rw [hV]
    have hseq := expressionsIn1_seq l[j].body 2 B (V.heap.size + 2) (wr.heap.size + 1) (fun _ => False) ⟨id, id, id, id⟩ fA2 fc2 V hgf (by omega) (by omega) hVc ((fb.more (Nat.zero_le _) (Nat.le_refl _)).below (hVb.mono (by omega)))
    clear hV hVc fR fp fb
    obtain ⟨bs, hbs⟩ : ∃ b : Nat, cntExs (l.take j) kind = b := ⟨_, rfl⟩
    have hbsl : bs ≤ 2097152 := by omega
    refine range_good (gf := 78) (lb := #[.pointer (some ⟨wr.heap.size + 1, 0, none⟩)]) rfl (enters_of Try.func78 (by kernel_rfl) rfl) (n := B) (by omega) hseq (fun _ => rfl)
      (fun pre Z => Blk Z w1.heap.size 3 #[.int .i64 ((bs + (pre.map EV.e).countP fun s => exK s == kind : Nat) : Int)] ∧ Blk Z (w.heap.size + 1) 3 #[.int .i64 kind] ∧ Marks (w1.heap.size + 1) ds Z ∧ Below w.heap.size w Z)
      (fun c pre Z => False)
      (fun x A B hx hb => ⟨hx.1.below hb.below (by omega), hx.2.1.below hb.below (by omega), hx.2.2.1.below (.inr fun D hm => by have := hds D hm; omega) hb.below, hx.2.2.2.trans (hb.below.mono (by omega))⟩)
      (fun c x A B hx hb => hx)
      ⟨by have := hKN.below hVb (by omega); rw [hbs] at this; simpa using this, hKK.below hVb (by omega), hmk.below (.inl (Nat.le_refl _)) hVb, hbl.trans (hVb.mono (by omega))⟩ ?round ?done ?stop
    case stop => rintro D c pre Z hD hS hx; exact hx.elim
    case done =>
      rintro D xs Z hD hS ⟨i1, i2, i3, i4⟩ hK
      have hZ : w1.heap.size + 1 ≤ Z.heap.size := by have := (Array.getElem?_eq_some_iff.1 hK).1; omega
      rw [hS, ← hbs, show stsEx (flatSts l[j].body) = fnEx l[j] from rfl, ← cntExs_step l kind hlt] at i1
      gi_wp2
      exact ⟨l.length - (j + 1), by omega, j + 1, _, _, _, _, _, _, _, _, _, _, _, _, _, _, _, _, _, _, _, by omega, rfl, rfl, i3.cons (by omega) hK (fun D' hm => by have := hds D' hm; omega), i4, i1, i2, hZ⟩
    case round =>
      rintro l' m' pre x Z K hZs ⟨i1, i2, i3, i4⟩ hsp hgood hcont
      have hrz := hsp.length_le
      rw [List.length_map, List.length_append, List.length_singleton] at hrz
      have hel := stsEx_len l[j].body
      have hcnt := ex_cnt kind pre x
      have hcl2 := List.countP_le_length (p := fun s => exK s == kind) (l := pre.map EV.e)
      rw [List.length_map] at hcl2
      obtain ⟨y0, y1, y2, y3, ex⟩ := x
      obtain ⟨kk, nn, name, args⟩ := ex
      obtain ⟨xA, xc, xA', xc', rfl, rfl, rfl, rfl, _⟩ := ExV.open_ hgood
      dsimp only [evEnc]
      gi_wp2
      refine hcont _ _ ((Below.refl _ _).alloc (Nat.le_refl _) _) ?_
      intro B' hAB hszB hoth
      have hZB : Below V.heap.size Z B' := ((Below.refl V.heap.size Z).alloc (by omega) _).trans hAB.below
      have KE : Blk B' Z.heap.size 64 #[.int .i64 kk, .int .i64 nn, .slice xA name.length xc, .slice xA' args.length xc'] := (hoth Z.heap.size (by omega)).trans (Blk.new Z _ _)
      have b1 := i1.below hZB (by omega)
      have b2 := i2.below hZB (by omega)
      have b3 := i3.below (.inr fun D hm => by have := hds D hm; omega) hZB
      have b4 := i4.trans (hZB.mono (by omega))
      have hBs := hZB.size
      have q0 := KE.cell_of 0 (v := .int .i64 kk) rfl
      have k0 := b2.cell_of 0 (v := .int .i64 kind) rfl
      obtain ⟨cn, hcn⟩ : ∃ c : Nat, (pre.map EV.e).countP (fun s => exK s == kind) = c := ⟨_, rfl⟩
      rw [hcn] at b1 hcnt hcl2
      have Hcnt := Lib.hid hcnt
      have hcb : bs + cn + 1 ≤ 8388608 := by omega
      clear hcont hoth hgood hcnt hcn hsp hAB hszB i1 i2 i3 i4 hrz hel
      cases hke : (kk == kind)
      · have h1 : ((pre ++ [(⟨.int .i64 kk, .int .i64 nn, .slice xA name.length xc, .slice xA' args.length xc', .mk kk nn name args⟩ : EV)]).map EV.e).countP (fun s => exK s == kind) = cn := by
          rw [Hcnt.out]
          have : (exK (Ex.mk kk nn name args) == kind) = false := hke
          simp [this]
        have H1 := Lib.hid h1
        have hke' : ¬ kk = kind := by simpa using hke
        clear h1
        gi_wp2
        exact ⟨KB.refl _ _ _ _, by rw [H1.out]; exact b1, b2, b3, b4⟩
      · have h1 : ((pre ++ [(⟨.int .i64 kk, .int .i64 nn, .slice xA name.length xc, .slice xA' args.length xc', .mk kk nn name args⟩ : EV)]).map EV.e).countP (fun s => exK s == kind) = cn + 1 := by
          rw [Hcnt.out]
          have : (exK (Ex.mk kk nn name args) == kind) = true := hke
          simp [this]
        have H1 := Lib.hid h1
        obtain rfl : kk = kind := by simpa using hke
        have r0 := b1.cell_of 0 (v := .int .i64 ((bs + cn : Nat) : Int)) rfl
        have z0 := b1.frozen 0
        have hnum : ((bs : Int) + (cn : Int) + 1) = ((bs + (cn + 1) : Nat) : Int) := by omega
        have b5 := b1.set_ 0 (.int .i64 ((bs : Int) + (cn : Int) + 1))
        have B5 := Lib.hid b5
        have Hnum := Lib.hid hnum
        clear h1 b5 hnum
        gi_wp2
        refine ⟨(KB.refl _ _ _ _).set_ (p := ⟨w1.heap.size, 0, none⟩) (by simp; omega) (.inl (by simp; omega)) _, ?_, b2.far (p := ⟨w1.heap.size, 0, none⟩) (by simp; omega) _, b3.keep (fun D hm hD => ?_), b4.setCell (p := ⟨w1.heap.size, 0, none⟩) (by simp; omega) _⟩
        · rw [H1.out, ← Hnum.out]
          exact B5.out
        · obtain ⟨D', e, hl, _⟩ := b3.mem _ hm
          cases e
          exact Below.heap_setCell B' ⟨w1.heap.size, 0, none⟩ _ D (by simp; omega)
  · have hjl : j = l.length := by omega
    subst hjl
    rw [List.take_length] at hKN
    have HKN := Lib.hid hKN
    have r0 := hKN.cell_of 0 (v := .int .i64 ((cntExs l kind : Nat) : Int)) rfl
    gi_wp2
    refine leaves_marks (lo := w1.heap.size + 1) _ _ hmk (fun Z' hb => ?_)
    exact ⟨.int .i64 (cntExs l kind : Nat), by simp [results, Try.results25, go_sem], by rw [Hcs.out], hbl.trans (hb.mono (by omega))⟩

end Go.Proofs.Ytglalpoalinieaa
