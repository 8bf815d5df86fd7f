/-
  The program's UsesWeak.
-/
import Derived.Test.YtglalpoalinieaaSeqEx
import Derived.Test.YtglalpoalinieaaSeqSt
import Derived.Test.YtglalpoalinieaaImplForm
namespace Go.Proofs.Ytglalpoalinieaa
open Go.RowKit Go.Shelf
set_option linter.unusedVariables false
attribute [local go_sem] Oper.semAt_some

def isW : Ex → Bool
  | .mk k _ _ _ => k == 7 || k == 8
def usesWeak (l : List Fn) : Bool := formOk l && l.any fun f => (fnEx f).any isW

set_option maxRecDepth 100000 in
set_option maxHeartbeats 8000000 in
theorem implUsesWeak_c (l : List Fn) (A : Option Addr) (cp L B : Nat) (w : World) (hB : B ≤ w.heap.size) (hsz : fnsSz l ≤ 1048576) (h : FnL w L B A l) :
    Calls Try.prog 14 #[.agg #[.slice A l.length cp]] w fun r w' => r = .returned (.bool (usesWeak l)) ∧ Below w.heap.size w w' := by
  have hn := h.1
  unfold maxLen at hn
  have hb2 : Below w.heap.size w ((w.alloc (.cells #[.slice A l.length cp] 29)).alloc (.cells #[.bool false] 4)) := ((Below.refl _ _).alloc (Nat.le_refl _) _).alloc (by simp) _
  have KR : Blk ((w.alloc (.cells #[.slice A l.length cp] 29)).alloc (.cells #[.bool false] 4)) (w.heap.size + 1) 4 #[.bool false] := by
    have := Blk.new (w.alloc (.cells #[.slice A l.length cp] 29)) 4 #[.bool false]
    simpa using this
  have KP : Blk ((w.alloc (.cells #[.slice A l.length cp] 29)).alloc (.cells #[.bool false] 4)) w.heap.size 29 #[.slice A l.length cp] := (Blk.new w _ _).alloc _
  have hc := implFormOk_c l A cp L B _ (Nat.le_trans hB hb2.size) hsz (h.below (hb2.mono hB))
  refine (callsIn_wide (n := 3)).1 ?_
  cases hf : formOk l
  · rw [hf] at hc
    have Hc := Lib.hid hc
    have hno : usesWeak l = false := by unfold usesWeak; rw [hf]; rfl
    rw [hno]
    clear hc hf hno h
    refine callsIn_of_wp_marks Try.func14 rfl trivial ?_ rfl
    simp only [Try.ntmps14, List.size_toArray, List.length_cons, List.length_nil, Nat.reduceAdd, Nat.reduceSub, Array.replicate_succ, Array.replicate_zero, List.push_toArray, List.append_toArray, List.nil_append, List.cons_append]
    gi_wp2_with fail
    refine ⟨trivial, ?_⟩
    gi_at_call 44
    refine (callsIn_wide.2 Hc.out).mono ?_
    rintro r w1 ⟨rfl, hb1⟩
    have KR1 := KR.below hb1 KR.lt
    have r0 := KR1.cell_of 0 rfl
    have z0 := KR1.frozen 0
    gi_wp2
    have hbn := hb2.trans (hb1.mono hb2.size)
    have KR2 := KR1.set_ 0 (.bool false)
    have r2 := KR2.cell_of 0 (v := .bool false) rfl
    refine ⟨.bool false, by simp [results, Try.results14, go_sem, r2], rfl, hbn.setCell (p := ⟨w.heap.size + 1, 0, none⟩) (by simp) _⟩
  rw [hf] at hc
  have Hc := Lib.hid hc
  have hgd : fnsGood l = true := by unfold formOk at hf; simp only [Bool.and_eq_true, decide_eq_true_eq] at hf; exact hf.1.2
  have Hgd := Lib.hid hgd
  have hus : usesWeak l = l.any fun f => (fnEx f).any isW := by unfold usesWeak; rw [hf]; rfl
  have Hus := Lib.hid hus
  clear hc hf hus hgd
  refine callsIn_of_wp_marks Try.func14 rfl trivial ?_ rfl
  simp only [Try.ntmps14, List.size_toArray, List.length_cons, List.length_nil, Nat.reduceAdd, Nat.reduceSub, Array.replicate_succ, Array.replicate_zero, List.push_toArray, List.append_toArray, List.nil_append, List.cons_append]
  gi_wp2_with fail
  refine ⟨trivial, ?_⟩
  gi_at_call 44
  refine (callsIn_wide.2 Hc.out).mono ?_
  rintro r w1 ⟨rfl, hb1⟩
  have KR1 := KR.below hb1 KR.lt
  have KP1 := KP.below hb1 KP.lt
  have r0 := KR1.cell_of 0 rfl
  have z0 := KR1.frozen 0
  have p0 := KP1.cell_of 0 rfl
  gi_wp2
  have hb01 := hb2.trans (hb1.mono hb2.size)
  have hws1 : w.heap.size + 2 ≤ w1.heap.size := by have := hb1.size; simpa using this
  refine loop_inv (fun k a wr => ∃ (j : Nat) (ds : List Deferred) (u3 u4 u5 u9 u13 u14 u15 u16 u17 u18 u19 u20 u21 u22 u23 u24 u25 u26 u27 u28 : Value), j ≤ l.length ∧ k = l.length - j ∧ a = { tmps := #[.agg #[.slice A l.length cp], .pointer (some ⟨w.heap.size, 0, none⟩), .pointer (some ⟨w.heap.size + 1, 0, none⟩), u3, u4, u5, .agg #[.slice A l.length cp], .bool true, .bool false, u9, .slice A l.length cp, .int .i64 l.length, .int .i64 j, u13, u14, u15, u16, u17, u18, u19, u20, u21, u22, u23, u24, u25, u26, u27, u28], defers := ds } ∧ Marks (w.heap.size + 2) ds wr ∧ Below w.heap.size w wr ∧ Blk wr (w.heap.size + 1) 4 #[.bool false] ∧
    Hid (∀ f ∈ l.take j, (fnEx f).any isW = false) ∧ w.heap.size + 2 ≤ wr.heap.size) ?step l.length _ _ ⟨0, [], _, _, _, _, _, _, _, _, _, _, _, _, _, _, _, _, _, _, _, _, Nat.zero_le _, rfl, rfl, trivial, hb01, KR1, Lib.hid (by simp), hws1⟩
  case step =>
  rintro k a wr ⟨j, ds, u3, u4, u5, u9, u13, u14, u15, u16, u17, u18, u19, u20, u21, u22, u23, u24, u25, u26, u27, u28, hj, rfl, rfl, hmk, hbl, hKR, hno, hws⟩
  by_cases hlt : j < l.length
  · obtain ⟨ad, rfl, _, hbk, hat⟩ := (h.below (hbl.mono hB)).2 (by omega)
    obtain ⟨v0, v1, v2, ⟨c0, c1, c2⟩, hv⟩ := hat j hlt
    obtain ⟨fA, fc, fA1, fc1, fA2, fc2, rfl, rfl, rfl, fR, fm, fp, fb, fcp⟩ := hv
    have hgf := (fnsGood_get hlt Hgd.out).2
    have hds : ∀ D, ({ target := .collected D, args := #[] } : Deferred) ∈ ds → D < wr.heap.size := fun D hm => by
      obtain ⟨D', e, _, hD⟩ := hmk.mem _ hm
      cases e
      exact (Array.getElem?_eq_some_iff.1 hD).1
    clear hat
    gi_wp2_with fail
    refine ⟨trivial, ?_⟩
    gi_at_call 45
    refine (callsIn_wide.2 (expressionsIn_c fA2 _ fc2 _)).mono ?_
    rintro r W2 ⟨rfl, rfl⟩
    obtain ⟨V, hV⟩ : ∃ V, (wr.alloc (.cells #[.slice fA l[j].name.length fc, .slice fA1 l[j].params.length fc1, .slice fA2 l[j].body.length fc2] 48)).alloc (.cells #[.slice fA2 l[j].body.length fc2] 46) = V := ⟨_, rfl⟩
    have hVs : V.heap.size = wr.heap.size + 2 := by rw [← hV]; simp
    have hVb : Below wr.heap.size wr V := by rw [← hV]; exact ((Below.refl _ _).alloc (Nat.le_refl _) _).alloc (by simp) _
    have hVc : V.cell? ⟨wr.heap.size + 1, 0, none⟩ = some (.slice fA2 l[j].body.length fc2) := by
      have := (Blk.new (wr.alloc (.cells #[.slice fA l[j].name.length fc, .slice fA1 l[j].params.length fc1, .slice fA2 l[j].body.length fc2] 48)) 46 #[.slice fA2 l[j].body.length fc2]).cell_of 0 (v := .slice fA2 l[j].body.length fc2) rfl
      rw [World.size_alloc] at this
      rw [← hV]; exact this
    gi_wp2_with fail
    try rw [hV]
    have hseq := expressionsIn1_seq l[j].body 2 B (V.heap.size + 2) (wr.heap.size + 1) (fun _ => False) ⟨id, id, id, id⟩ fA2 fc2 V hgf (by omega) (by omega) hVc ((fb.more (Nat.zero_le _) (Nat.le_refl _)).below (hVb.mono (by omega)))
    clear hV hVc fR fp fb
    refine range_good (gf := 78) (lb := #[.pointer (some ⟨wr.heap.size + 1, 0, none⟩)]) rfl (enters_of Try.func78 (by kernel_rfl) rfl) (n := B) (by omega) hseq (fun _ => rfl)
      (fun pre Z => Blk Z (w.heap.size + 1) 4 #[.bool false] ∧ (∀ x ∈ pre, isW x.e = false) ∧ Marks (w.heap.size + 2) ds Z ∧ Below w.heap.size w Z)
      (fun c pre Z => c = .ret ∧ Blk Z (w.heap.size + 1) 4 #[.bool true] ∧ (∃ x ∈ pre, isW x.e = true) ∧ Marks (w.heap.size + 2) ds Z ∧ Below w.heap.size w Z)
      (fun x A B hx hb => ⟨hx.1.below hb.below (by omega), hx.2.1, hx.2.2.1.below (.inr fun D hm => by have := hds D hm; omega) hb.below, hx.2.2.2.trans (hb.below.mono (by omega))⟩)
      (fun c x A B hx hb => ⟨hx.1, hx.2.1.below hb.below (by omega), hx.2.2.1, hx.2.2.2.1.below (.inr fun D hm => by have := hds D hm; omega) hb.below, hx.2.2.2.2.trans (hb.below.mono (by omega))⟩)
      ⟨hKR.below hVb (by omega), by simp, hmk.below (.inl (Nat.le_refl _)) hVb, hbl.trans (hVb.mono (by omega))⟩ ?round ?done ?stop
    case done =>
      rintro D xs Z hD hS ⟨i1, i2, i3, i4⟩ hK
      have hZ : w.heap.size + 2 ≤ Z.heap.size := by have := (Array.getElem?_eq_some_iff.1 hK).1; omega
      gi_wp2
      have hnoj : (fnEx l[j]).any isW = false := by
        have e1 : xs.map EV.e = fnEx l[j] := hS
        rw [← e1, List.any_eq_false]
        intro y hy
        obtain ⟨x, hx, rfl⟩ := List.mem_map.1 hy
        rw [i2 x hx]; simp
      refine ⟨l.length - (j + 1), by omega, j + 1, _, _, _, _, _, _, _, _, _, _, _, _, _, _, _, _, _, _, _, _, _, by omega, rfl, rfl, i3.cons (by omega) hK (fun D' hm => by have := hds D' hm; omega), i4, i1, Lib.hid ?_, hZ⟩
      intro f hf
      rw [List.take_succ_eq_append_getElem hlt, List.mem_append] at hf
      rcases hf with hf | hf
      · exact hno.out f hf
      · rw [List.mem_singleton.1 hf]; exact hnoj
    case stop =>
      rintro D c pre Z hD hS ⟨rfl, i1, i2, i3, i4⟩ hK
      gi_wp2
      have hyes : usesWeak l = true := by
        rw [Hus.out, List.any_eq_true]
        obtain ⟨x, hx, hxw⟩ := i2
        refine ⟨l[j], List.getElem_mem hlt, ?_⟩
        rw [List.any_eq_true]
        exact ⟨x.e, hS.subset (List.mem_map_of_mem hx), hxw⟩
      have Hyes := Lib.hid hyes
      clear hyes
      refine leaves_marks (lo := w.heap.size + 2) _ _ (i3.cons (by omega) hK (fun D' hm => by have := hds D' hm; omega)) (fun Z' hb => ?_)
      have r2 := (i1.below hb (by omega)).cell_of 0 (v := .bool true) rfl
      exact ⟨.bool true, by simp [results, Try.results14, go_sem, r2], by rw [Hyes.out], i4.trans (hb.mono (by omega))⟩
    case round =>
      rintro l' m' pre x Z K hZs ⟨i1, i2, i3, i4⟩ _ hgood hcont
      obtain ⟨y0, y1, y2, y3, ex⟩ := x
      obtain ⟨kk, nn, name, args⟩ := ex
      obtain ⟨xA, xc, xA', xc', rfl, rfl, rfl, rfl, _⟩ := ExV.open_ hgood
      dsimp only [evEnc]
      gi_wp2
      refine hcont _ _ ((Below.refl _ _).alloc (Nat.le_refl _) _) ?_
      intro B' hAB hsz hoth
      have hZB : Below V.heap.size Z B' := ((Below.refl V.heap.size Z).alloc (by omega) _).trans hAB.below
      have KE : Blk B' Z.heap.size 64 #[.int .i64 kk, .int .i64 nn, .slice xA name.length xc, .slice xA' args.length xc'] := (hoth Z.heap.size (by omega)).trans (Blk.new Z _ _)
      have b1 := i1.below hZB (by omega)
      have b3 := i3.below (.inr fun D hm => by have := hds D hm; omega) hZB
      have b4 := i4.trans (hZB.mono (by omega))
      have q0 := KE.cell_of 0 rfl
      have z0 := b1.frozen 0
      have r0 := b1.cell_of 0 rfl
      clear hcont hoth hgood
      by_cases hw : kk = 7 ∨ kk = 8
      · have fin : KB B V.heap.size (fun _ => False) B' (B'.setCell ⟨w.heap.size + 1, 0, none⟩ (.bool true)) ∧ Blk (B'.setCell ⟨w.heap.size + 1, 0, none⟩ (.bool true)) (w.heap.size + 1) 4 #[.bool true] ∧ Marks (w.heap.size + 2) ds (B'.setCell ⟨w.heap.size + 1, 0, none⟩ (.bool true)) ∧ Below w.heap.size w (B'.setCell ⟨w.heap.size + 1, 0, none⟩ (.bool true)) := by
          refine ⟨(KB.refl _ _ _ _).set_ (p := ⟨w.heap.size + 1, 0, none⟩) (by simp; omega) (.inl (by simp; omega)) _, b1.set_ 0 (.bool true), b3.keep (fun D hm hD => ?_), b4.setCell (p := ⟨w.heap.size + 1, 0, none⟩) (by simp) _⟩
          obtain ⟨D', e, hl, _⟩ := b3.mem _ hm
          cases e
          exact Below.heap_setCell B' ⟨w.heap.size + 1, 0, none⟩ _ D (by simp; omega)
        have Fin := Lib.hid fin
        clear fin b3 b4
        rcases hw with rfl | rfl
        all_goals
          gi_wp2
          exact ⟨Fin.out.1, rfl, Fin.out.2.1, ⟨_, List.mem_append_right _ (List.mem_singleton.2 rfl), rfl⟩, Fin.out.2.2.1, Fin.out.2.2.2⟩
      · have h7 : ¬ kk = 7 := by omega
        have h8 : ¬ kk = 8 := by omega
        have hxw : isW (.mk kk nn name args) = false := by simp [isW, h7, h8]
        have Hxw := Lib.hid hxw
        have I2 := Lib.hid i2
        clear hw hxw i2
        have leaf : ∀ x ∈ pre ++ [(⟨.int .i64 kk, .int .i64 nn, .slice xA name.length xc, .slice xA' args.length xc', .mk kk nn name args⟩ : EV)], isW x.e = false := fun x hx => by
          rcases List.mem_append.1 hx with h1 | h1
          · exact I2.out x h1
          · rw [List.mem_singleton.1 h1]; exact Hxw.out
        have Leaf := Lib.hid leaf
        clear leaf
        gi_wp2
        all_goals first
          | exact ⟨KB.refl _ _ _ _, b1, Leaf.out, b3, b4⟩
          | (rename_i hz; exact hz.elim (fun h => absurd (by simpa using h) h7) (fun h => absurd (by simpa using h) h8))
  · have hjl : j = l.length := by omega
    have hfalse : usesWeak l = false := by
      rw [Hus.out, List.any_eq_false]
      intro f hf
      have := hno.out f (by rw [hjl, List.take_length]; exact hf)
      rw [this]; simp
    have Hf := Lib.hid hfalse
    have r0' := hKR.cell_of 0 rfl
    have z0' := hKR.frozen 0
    clear hfalse
    gi_wp2
    refine leaves_marks (lo := w.heap.size + 2) _ _ (hmk.keep (fun D hm hD => ?_)) (fun Z' hb => ?_)
    · obtain ⟨D', e, hl, _⟩ := hmk.mem _ hm
      cases e
      exact Below.heap_setCell wr ⟨w.heap.size + 1, 0, none⟩ _ D (by simp; omega)
    · have KR2 := (hKR.set_ 0 (.bool false)).below hb (by omega)
      have r2 := KR2.cell_of 0 (v := .bool false) rfl
      exact ⟨.bool false, by simp [results, Try.results14, go_sem, r2], by rw [Hf.out], (hbl.setCell (p := ⟨w.heap.size + 1, 0, none⟩) (by simp) _).trans (hb.mono (by omega))⟩
end Go.Proofs.Ytglalpoalinieaa
