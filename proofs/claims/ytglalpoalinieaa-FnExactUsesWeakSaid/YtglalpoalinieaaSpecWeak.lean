/-
  The model's UsesWeak.
-/
import Derived.Test.YtglalpoalinieaaImplWeak
import Derived.Test.YtglalpoalinieaaSpecFormAll
namespace Go.Proofs.Ytglalpoalinieaa
open Go.RowKit
set_option linter.unusedVariables false

theorem stOk1_f {k : Int} {name : List UInt8} {f : Ex} {nb ne : Nat} (h : stOk1 k name f nb ne = true) (hk : k ≠ 2) : exNone f = true := by
  have hkk := stOk1_kind h
  have hks : k = 0 ∨ k = 1 ∨ k = 3 ∨ k = 4 ∨ k = 5 ∨ k = 6 ∨ k = 7 := by omega
  rcases hks with rfl | rfl | rfl | rfl | rfl | rfl | rfl
  all_goals
    simp [stOk1] at h
    simp [h]

theorem flatExs_any : ∀ (l : List Ex) (p : Ex → Bool), (flatExs l).any p = l.any fun e => (flatEx e).any p
  | [], p => by simp [flatExs]
  | e :: r, p => by rw [flatExs, List.any_append, flatExs_any r p]; simp
theorem flatEx_any (k n : Int) (name : List UInt8) (args : List Ex) : (flatEx (.mk k n name args)).any isW = (isW (.mk k n name args) || args.any fun e => (flatEx e).any isW) := by
  rw [flatEx_mk, List.any_cons, flatExs_any]

def WkEx (e : Ex) : Prop := ∀ (v0 v1 v2 v3 : Value) (L B : Nat) (w : World), ExV w L B v0 v1 v2 v3 e → B ≤ w.heap.size →
  Calls Try.prog 76 #[.agg #[v0, v1, v2, v3]] w fun r w' => r = .returned (.bool ((flatEx e).any isW)) ∧ Below w.heap.size w w'

set_option maxHeartbeats 2000000 in
theorem weakEx_c (e : Ex) : WkEx e := by
  refine Ex.ind (P := WkEx) ?_ e
  intro k n name args ih v0 v1 v2 v3 L B w h hB
  obtain ⟨A, c, A', c', rfl, rfl, rfl, rfl, hR, hm, hx⟩ := h.open_
  have hn := hx.1
  unfold maxLen at hn
  rw [flatEx_any]
  have hb0 : Below w.heap.size w (w.alloc (.cells #[.int .i64 k, .int .i64 n, .slice A name.length c, .slice A' args.length c'] 64)) := (Below.refl _ _).alloc (Nat.le_refl _) _
  have KB := Blk.new w 64 #[.int .i64 k, .int .i64 n, .slice A name.length c, .slice A' args.length c']
  have Ih := Lib.hid ih
  clear ih h hR
  by_cases hw : k = 7 ∨ k = 8
  · have hy : isW (.mk k n name args) = true := by rcases hw with rfl | rfl <;> rfl
    rw [hy]
    clear hy
    rcases hw with rfl | rfl
    all_goals
      go_enter Try.func76, Try.ntmps76
      go_wp2
      go_ret
      exact ⟨rfl, hb0⟩
  have h7 : ¬ k = 7 := by omega
  have h8 : ¬ k = 8 := by omega
  have hno : isW (.mk k n name args) = false := by simp [isW, h7, h8]
  rw [hno, Bool.false_or]
  have e7 : (k == 7) = false := by simp [h7]
  have e8 : (k == 8) = false := by simp [h8]
  clear hw hno
  go_enter Try.func76, Try.ntmps76
  go_wp2
  go_loopw [3] (fun i wr => ∃ (j : Nat), j ≤ args.length ∧ i = .int .i64 j ∧ Hid (∀ e ∈ args.take j, (flatEx e).any isW = false) ∧ Below w.heap.size w wr ∧ Blk wr w.heap.size 64 #[.int .i64 k, .int .i64 n, .slice A name.length c, .slice A' args.length c']) (fun i _ => args.length - (intOf i).toNat)
  case atStart => exact ⟨0, Nat.zero_le _, rfl, Lib.hid (by simp), hb0, KB⟩
  case round =>
    obtain ⟨j, hj, rfl, hall, hbl, hK⟩ := hrel
    have b3 := hK.cell_of 3 rfl
    by_cases hlt : j < args.length
    · obtain ⟨ad, rfl, _, hbk, hat⟩ := (hx.below (hbl.mono hB)).2 (by omega)
      obtain ⟨x0, x1, x2, x3, ⟨y0, y1, y2, y3⟩, hv⟩ := hat j hlt
      have hc := Ih.out args[j] (List.getElem_mem hlt) x0 x1 x2 x3 L B wr hv (Nat.le_trans hB hbl.size)
      have Hc := Lib.hid hc
      clear hc hat hv
      go_wp2_with fail
      refine Hc.out.mono ?_
      rintro r w2 ⟨rfl, hb2⟩
      have hbn := hbl.trans (hb2.mono hbl.size)
      have hK2 := hK.below hb2 hK.lt
      clear b3 y0 y1 y2 y3
      cases hwj : (flatEx args[j]).any isW
      · have Hwj := Lib.hid hwj
        clear hwj
        go_wp2
        go_roundw
        case rel =>
          refine ⟨j + 1, by omega, by go_num, Lib.hid (fun e he => ?_), hbn, hK2⟩
          rw [List.take_succ_eq_append_getElem hlt, List.mem_append] at he
          rcases he with he | he
          · exact hall.out e he
          · rw [List.mem_singleton.1 he]; exact Hwj.out
        case measure => simp [intOf]; omega
      · have Hwj := Lib.hid hwj
        clear hwj
        go_wp2
        go_ret
        exact ⟨ret_bool' (List.any_eq_true.2 ⟨args[j], List.getElem_mem hlt, Hwj.out⟩), hbn⟩
    · go_wp2
      go_ret
      have hjl : j = args.length := by omega
      subst hjl
      have h1 := hall.out
      rw [List.take_length] at h1
      exact ⟨ret_bool' (List.any_eq_false.2 fun e he => by rw [h1 e he]; simp), hbl⟩

/-- do statements use weak ones? -/
def swk (l : List St) : Bool := (stsEx (flatSts l)).any isW
def swk1 (s : St) : Bool := (stsEx (flatSt s)).any isW
theorem stsEx_app (l l' : List St) : stsEx (l ++ l') = stsEx l ++ stsEx l' := by unfold stsEx; rw [List.flatMap_append]
theorem swk_any : ∀ l : List St, swk l = l.any swk1
  | [] => by simp [swk, flatSts, stsEx]
  | s :: r => by
    have := swk_any r
    unfold swk at this ⊢
    rw [flatSts, stsEx_app, List.any_append, this, List.any_cons]
    rfl
theorem none_weak {f : Ex} (h : exNone f = true) : (flatEx f).any isW = false := by
  cases f with
  | mk k n name args =>
    simp [exNone] at h
    obtain ⟨⟨⟨rfl, _⟩, _⟩, rfl⟩ := h
    simp [flatEx_mk, flatExs, isW]
theorem swk1_mk {k : Int} {name : List UInt8} {e f : Ex} {body els : List St} {d : Nat} (h : stGood (.mk k name e f body els) d = true) :
    swk1 (.mk k name e f body els) = ((flatEx e).any isW || (flatEx f).any isW || swk body || swk els) := by
  rw [stGood_mk] at h
  simp only [Bool.and_eq_true, decide_eq_true_eq] at h
  have h2 := h.1.1.1.1.2
  have hE : (stEx (.mk k name e f body els)).any isW = ((flatEx e).any isW || (flatEx f).any isW) := by
    show (flatExs (asksL k e f)).any isW = _
    unfold asksL
    by_cases hk : k = 2
    · rw [if_pos hk]; simp [flatExs]
    · rw [if_neg hk, none_weak (stOk1_f h2 hk)]; simp [flatExs]
  unfold swk1 swk
  rw [flatSt_mk, show stsEx (.mk k name e f body els :: (flatSts body ++ flatSts els)) = stEx (.mk k name e f body els) ++ stsEx (flatSts body ++ flatSts els) from by simp [stsEx], List.any_append, hE, stsEx_app, List.any_append, Bool.or_assoc, Bool.or_assoc, Bool.or_assoc]

def WkSts (l : List St) : Prop := ∀ (A : Option Addr) (cp L B d : Nat) (w : World), StL w L B A l → B ≤ w.heap.size → stsGood l d = true →
  Calls Try.prog 42 #[.slice A l.length cp] w fun r w' => r = .returned (.bool (swk l)) ∧ Below w.heap.size w w'

set_option maxRecDepth 100000 in
set_option maxHeartbeats 4000000 in
theorem weakSts_of (l : List St) (ih : ∀ s ∈ l, ∀ k name e f body els, s = .mk k name e f body els → WkSts body ∧ WkSts els) : WkSts l := by
  intro A cp L B d w h hB hG
  have hn := h.1
  unfold maxLen at hn
  have Ih := Lib.hid ih
  have HG := Lib.hid hG
  clear ih hG
  go_enter Try.func42, Try.ntmps42
  go_wp2
  go_loopw [3] (fun i wr => ∃ (j : Nat), j ≤ l.length ∧ i = .int .i64 j ∧ Hid (∀ s ∈ l.take j, swk1 s = false) ∧ Below w.heap.size w wr) (fun i _ => l.length - (intOf i).toNat)
  case atStart => exact ⟨0, Nat.zero_le _, rfl, Lib.hid (by simp), Below.refl _ _⟩
  case round =>
    obtain ⟨j, hj, rfl, hall, hbl⟩ := hrel
    by_cases hlt : j < l.length
    · obtain ⟨ad, rfl, _, hbk, hat⟩ := (h.below (hbl.mono hB)).2 (by omega)
      obtain ⟨vs, hcells, hv⟩ := hat j hlt
      obtain ⟨k, name, e, f, body, els, hle⟩ : ∃ k name e f body els, l[j] = .mk k name e f body els := by cases l[j]; exact ⟨_, _, _, _, _, _, rfl⟩
      have hgd := stsGood_get hlt HG.out
      have hsw : swk1 l[j] = ((flatEx e).any isW || (flatEx f).any isW || swk body || swk els) := by rw [hle]; rw [hle] at hgd; exact swk1_mk hgd
      rw [hle, stGood_mk] at hgd
      simp only [Bool.and_eq_true, decide_eq_true_eq] at hgd
      rw [hle] at hv
      obtain ⟨sA, sc, e0, e1, e2, e3, f0, f1, f2, f3, A1, c1, A2, c2, rfl, hR, hm, he, hf, hb1, hb2⟩ := hv.open_
      obtain ⟨ih1, ih2⟩ := Ih.out l[j] (List.getElem_mem hlt) k name e f body els hle
      have hBr : B ≤ wr.heap.size := Nat.le_trans hB hbl.size
      have hS : ∀ W, Below wr.heap.size wr W → AtN W (ad.add (j * 12)) [.int .i64 k, .slice sA name.length sc, e0, e1, e2, e3, f0, f1, f2, f3, .slice A1 body.length c1, .slice A2 els.length c2] := fun W hW =>
        hcells.keep fun q hq => hW.cell (by rw [hq, block_of_add]; omega)
      have HS := Lib.hid hS
      have Hsw := Lib.hid hsw
      have hx1 := weakEx_c e e0 e1 e2 e3 L B wr he hBr
      have hx2 := fun W (hW : Below wr.heap.size wr W) => weakEx_c f f0 f1 f2 f3 L B W (hf.below (hW.mono hBr)) (Nat.le_trans hBr hW.size)
      have hx3 := fun W (hW : Below wr.heap.size wr W) => ih1 A1 c1 L B (d + 1) W (hb1.below (hW.mono hBr)) (Nat.le_trans hBr hW.size) hgd.1.2
      have hx4 := fun W (hW : Below wr.heap.size wr W) => ih2 A2 c2 L B (d + 1) W (hb2.below (hW.mono hBr)) (Nat.le_trans hBr hW.size) hgd.2
      obtain ⟨xk, xn, xA, xa, xc, xA', xa', xc', rfl, rfl, rfl, rfl⟩ := he.shape
      obtain ⟨yk, yn, yA, ya, yc, yA', ya', yc', rfl, rfl, rfl, rfl⟩ := hf.shape
      have Hx1 := Lib.hid hx1
      have Hx2 := Lib.hid hx2
      have Hx3 := Lib.hid hx3
      have Hx4 := Lib.hid hx4
      have yes : ∀ W, (swk1 l[j] = true) → Below wr.heap.size wr W → (Ending.returned (.bool true) = .returned (.bool (swk l)) ∧ Below w.heap.size w W) := fun W hy hW => by
        refine ⟨?_, hbl.trans (hW.mono hbl.size)⟩
        rw [show swk l = true by rw [swk_any]; exact List.any_eq_true.2 ⟨l[j], List.getElem_mem hlt, hy⟩]
      have Yes := Lib.hid yes
      have hh0 := hS wr (Below.refl _ _)
      clear hx1 hx2 hx3 hx4 hS hat hcells hv hR hm he hf hb1 hb2 ih1 ih2 hle hgd hsw yes
      have q2 := hh0 2 _ rfl
      have q3 := hh0 3 _ rfl
      have q4 := hh0 4 _ rfl
      have q5 := hh0 5 _ rfl
      simp only [Nat.reduceEqDiff, if_false] at q2 q3 q4 q5
      clear hh0
      go_wp2_with fail
      refine Hx1.out.mono ?_
      rintro r w1 ⟨rfl, hb1⟩
      clear q2 q3 q4 q5 Hx1
      cases h1 : (flatEx e).any isW
      case true =>
        have H1 := Lib.hid h1
        clear h1
        go_wp2
        go_ret
        exact Yes.out _ (by rw [Hsw.out, H1.out]; rfl) hb1
      have H1 := Lib.hid h1
      have hh0 := HS.out w1 hb1
      clear h1
      have q6 := hh0 6 _ rfl
      have q7 := hh0 7 _ rfl
      have q8 := hh0 8 _ rfl
      have q9 := hh0 9 _ rfl
      simp only [Nat.reduceEqDiff, if_false] at q6 q7 q8 q9
      clear hh0
      go_wp2_with fail
      refine (Hx2.out w1 hb1).mono ?_
      rintro r w2 ⟨rfl, hb2⟩
      have hb12 := hb1.trans (hb2.mono hb1.size)
      clear q6 q7 q8 q9 Hx2
      cases h2 : (flatEx f).any isW
      case true =>
        have H2 := Lib.hid h2
        clear h2
        go_wp2
        go_ret
        exact Yes.out _ (by rw [Hsw.out, H1.out, H2.out]; rfl) hb12
      have H2 := Lib.hid h2
      have hh0 := HS.out w2 hb12
      clear h2
      have q10 := hh0 10 _ rfl
      simp only [Nat.reduceEqDiff, if_false] at q10
      clear hh0
      go_wp2_with fail
      refine (Hx3.out w2 hb12).mono ?_
      rintro r w3 ⟨rfl, hb3⟩
      have hb13 := hb12.trans (hb3.mono hb12.size)
      clear q10 Hx3
      cases h3 : swk body
      case true =>
        have H3 := Lib.hid h3
        clear h3
        go_wp2
        go_ret
        exact Yes.out _ (by rw [Hsw.out, H1.out, H2.out, H3.out]; rfl) hb13
      have H3 := Lib.hid h3
      have hh0 := HS.out w3 hb13
      clear h3
      have q11 := hh0 11 _ rfl
      simp only [Nat.reduceEqDiff, if_false] at q11
      clear hh0
      go_wp2_with fail
      refine (Hx4.out w3 hb13).mono ?_
      rintro r w4 ⟨rfl, hb4⟩
      have hb14 := hb13.trans (hb4.mono hb13.size)
      clear q11 Hx4
      cases h4 : swk els
      case true =>
        have H4 := Lib.hid h4
        clear h4
        go_wp2
        go_ret
        exact Yes.out _ (by rw [Hsw.out, H1.out, H2.out, H3.out, H4.out]; rfl) hb14
      have H4 := Lib.hid h4
      clear h4
      go_wp2
      go_roundw
      case rel =>
        refine ⟨j + 1, by omega, by go_num, Lib.hid (fun s hs => ?_), hbl.trans (hb14.mono hbl.size)⟩
        rw [List.take_succ_eq_append_getElem hlt, List.mem_append] at hs
        rcases hs with hs | hs
        · exact hall.out s hs
        · rw [List.mem_singleton.1 hs, Hsw.out, H1.out, H2.out, H3.out, H4.out]; rfl
      case measure => simp [intOf]; omega
    · go_wp2
      go_ret
      have hjl : j = l.length := by omega
      subst hjl
      have h1 := hall.out
      rw [List.take_length] at h1
      exact ⟨ret_bool' (by rw [swk_any]; exact List.any_eq_false.2 fun s hs => by rw [h1 s hs]; simp), hbl⟩

theorem weakSts_c (l : List St) : WkSts l := by
  have one : ∀ s : St, ∀ k name e f body els, s = .mk k name e f body els → WkSts body ∧ WkSts els := fun s => St.ind (P := fun s => ∀ k name e f body els, s = .mk k name e f body els → WkSts body ∧ WkSts els) (fun k name e f body els ih1 ih2 k' n' e' f' b' l' he => by
    injection he with _ _ _ _ h1 h2
    rw [← h1, ← h2]
    exact ⟨weakSts_of body ih1, weakSts_of els ih2⟩) s
  exact weakSts_of l fun s _ => one s

set_option maxHeartbeats 2000000 in
theorem specUsesWeak_c (l : List Fn) (A : Option Addr) (cp L B : Nat) (w : World) (hB : B ≤ w.heap.size) (hsz : fnsSz l ≤ 1048576) (h : FnL w L B A l) :
    Calls Try.prog 12 #[.agg #[.slice A l.length cp]] w fun r w' => r = .returned (.bool (usesWeak l)) ∧ Below w.heap.size w w' := by
  have hn := h.1
  unfold maxLen at hn
  have hb0 : Below w.heap.size w (w.alloc (.cells #[.slice A l.length cp] 29)) := (Below.refl _ _).alloc (Nat.le_refl _) _
  have KB := Blk.new w 29 #[.slice A l.length cp]
  have hc := specFormOk_c l A cp L B (w.alloc (.cells #[.slice A l.length cp] 29)) (by rw [World.size_alloc]; omega) hsz (h.below (hb0.mono hB))
  cases hf : formOk l
  · have hno : usesWeak l = false := by unfold usesWeak; rw [hf]; rfl
    rw [hf] at hc
    have Hc := Lib.hid hc
    rw [hno]
    clear hc hf hno h
    go_enter Try.func12, Try.ntmps12
    go_wp2_with fail
    refine Hc.out.mono ?_
    rintro r w1 ⟨rfl, hb1⟩
    go_wp2
    go_ret
    exact ⟨rfl, hb0.trans (hb1.mono hb0.size)⟩
  have hus : usesWeak l = l.any fun f => swk f.body := by unfold usesWeak; rw [hf]; rfl
  have hgd : fnsGood l = true := by unfold formOk at hf; simp only [Bool.and_eq_true, decide_eq_true_eq] at hf; exact hf.1.2
  have Hgd := Lib.hid hgd
  have Hus := Lib.hid hus
  rw [hf] at hc
  have Hc := Lib.hid hc
  clear hc hf hus hgd
  go_enter Try.func12, Try.ntmps12
  go_wp2_with fail
  refine Hc.out.mono ?_
  rintro r w1 ⟨rfl, hb1⟩
  have hb01 := hb0.trans (hb1.mono hb0.size)
  have K1 := KB.below hb1 KB.lt
  clear Hc
  go_wp2
  go_loopw [3] (fun i wr => ∃ (j : Nat), j ≤ l.length ∧ i = .int .i64 j ∧ Hid (∀ f ∈ l.take j, swk f.body = false) ∧ Below w.heap.size w wr ∧ Blk wr w.heap.size 29 #[.slice A l.length cp]) (fun i _ => l.length - (intOf i).toNat)
  case atStart => exact ⟨0, Nat.zero_le _, rfl, Lib.hid (by simp), hb01, K1⟩
  case round =>
    obtain ⟨j, hj, rfl, hall, hbl, hK⟩ := hrel
    have b0 := hK.cell_of 0 rfl
    by_cases hlt : j < l.length
    · obtain ⟨ad, rfl, _, hbk, hat⟩ := (h.below (hbl.mono hB)).2 (by omega)
      obtain ⟨v0, v1, v2, ⟨c0, c1, c2⟩, hv⟩ := hat j hlt
      obtain ⟨fA, fc, fA1, fc1, fA2, fc2, rfl, rfl, rfl, fR, fm, fp, fb, fcp⟩ := hv
      have hx := weakSts_c l[j].body fA2 fc2 L B 2 wr fb (Nat.le_trans hB hbl.size) (fnsGood_get hlt Hgd.out).2
      have Hx := Lib.hid hx
      clear hx hat
      go_wp2_with fail
      refine Hx.out.mono ?_
      rintro r w2 ⟨rfl, hb2⟩
      have hbn := hbl.trans (hb2.mono hbl.size)
      have hK2 := hK.below hb2 hK.lt
      clear b0 c0 c1 c2
      cases hwj : swk l[j].body
      · have Hwj := Lib.hid hwj
        clear hwj
        go_wp2
        go_roundw
        case rel =>
          refine ⟨j + 1, by omega, by go_num, Lib.hid (fun f hf => ?_), hbn, hK2⟩
          rw [List.take_succ_eq_append_getElem hlt, List.mem_append] at hf
          rcases hf with hf | hf
          · exact hall.out f hf
          · rw [List.mem_singleton.1 hf]; exact Hwj.out
        case measure => simp [intOf]; omega
      · have Hwj := Lib.hid hwj
        clear hwj
        go_wp2
        go_ret
        exact ⟨ret_bool' (by rw [Hus.out]; exact List.any_eq_true.2 ⟨l[j], List.getElem_mem hlt, Hwj.out⟩), hbn⟩
    · go_wp2
      go_ret
      have hjl : j = l.length := by omega
      subst hjl
      have h1 := hall.out
      rw [List.take_length] at h1
      exact ⟨ret_bool' (by rw [Hus.out]; exact List.any_eq_false.2 fun f hf => by rw [h1 f hf]; simp), hbl⟩
end Go.Proofs.Ytglalpoalinieaa
