/-
  The program's measure of lists and of a program; FormOk.
-/
import Derived.Test.YtmejbmfopdfbjaaStParts
import Derived.Test.YtmejbmfopdfbjaaHeadOk
import Derived.Test.YtmejbmfopdfbjaaImplSt
namespace Go.Proofs.Ytmejbmfopdfbjaa
open Go.RowKit
set_option linter.unusedVariables false

theorem stsSz_take {l : List St} {k : Nat} (hk : k < l.length) : stSz l[k] ≤ stsSz l := by have := stsSz_get hk; omega

set_option maxHeartbeats 2000000 in
theorem measureSts_of (l : List St) (ih : ∀ s ∈ l, MeaSt s) : MeaSts l := by
  intro A cp L B g d a c w h hB hg hsz hK ha ha' hc hc' hd
  have hn := h.1
  unfold maxLen at hn
  have Ih := Lib.hid ih
  have Hsz := Lib.hid hsz
  clear ih hsz
  go_enter Try.func57, Try.ntmps57
  go_wp2
  go_loopw [11] (fun i wr => ∃ (k : Nat) (a' c' : Int), k ≤ l.length ∧ i = .int .i64 k ∧ Past g w wr ∧ Blk wr g 102 #[.int .i64 a', .int .i64 c'] ∧ a' = a + stsN (l.take k) ∧ c' = max c (stsDeep (l.take k) d) ∧ a' ≤ 90 ∧ Hid (stsGood (l.take k) d = true)) (fun i _ => l.length - (intOf i).toNat)
  case atStart => exact ⟨0, a, c, Nat.zero_le _, rfl, Past.refl _ _, hK, by simp [stsN], by simp [stsDeep]; omega, ha', Lib.hid (by simp [stsGood])⟩
  case round =>
    obtain ⟨k, a', c', hk, rfl, hP, hKr, ea, ec, ha2, hgood⟩ := hrel
    by_cases hlt : k < l.length
    · obtain ⟨ad, rfl, _, hbk, hat⟩ := (h.below (hP.below hg hB)).2 (by omega)
      obtain ⟨vs, hcells, hv⟩ := hat k hlt
      obtain ⟨xk, yA, ya, yc, k1, n1, A1, a1, c1, A2, a2, c2, k3, n3, A3, a3, c3, A4, a4, c4, A5, a5, c5, A6, a6, c6, rfl⟩ := hv.shape
      have q0 := hcells 0 _ rfl
      have q1 := hcells 1 _ rfl
      have q2 := hcells 2 _ rfl
      have q3 := hcells 3 _ rfl
      have q4 := hcells 4 _ rfl
      have q5 := hcells 5 _ rfl
      have q6 := hcells 6 _ rfl
      have q7 := hcells 7 _ rfl
      have q8 := hcells 8 _ rfl
      have q9 := hcells 9 _ rfl
      have q10 := hcells 10 _ rfl
      have q11 := hcells 11 _ rfl
      simp only [if_true, Nat.reduceEqDiff, if_false] at q0 q1 q2 q3 q4 q5 q6 q7 q8 q9 q10 q11
      have hd0 := stsDeep_le _ _ hgood.out
      have hBr : B ≤ wr.heap.size := Nat.le_trans hB hP.size
      have hc0 := fun o => Ih.out l[k] (List.getElem_mem hlt) _ L B g d a' c' (wr.alloc o) (hv.below ((Below.refl B wr).alloc hBr o)) (by rw [World.size_alloc]; omega) hg (by have := stsSz_take hlt; have := Hsz.out; omega) (hKr.alloc o) (by omega) ha2 (by omega) (by omega) hd
      have Hc := Lib.hid hc0
      have F : Hid (a' = a + stsN (l.take k) ∧ c' = max c (stsDeep (l.take k) d)) := Lib.hid ⟨ea, ec⟩
      have hc2 : c' ≤ 100 := by omega
      have hc3 : 0 ≤ c' := by omega
      have ha3 : 0 ≤ a' := by omega
      clear hc0 ea ec hat hcells
      go_wp2_with fail
      refine (Hc.out _).mono ?_
      rintro e w3 ⟨b, rfl, hP3, a3, c3, hK3, hiff, himp⟩
      have Hiff := Lib.hid hiff
      have Himp := Lib.hid himp
      have hP03 := (hP.alloc _).trans hP3
      clear hiff himp Hc
      cases b
      · go_wp2
        go_ret
        refine ⟨false, rfl, hP03, _, _, hK3, ⟨fun hh => Bool.noConfusion hh, fun hh => ?_⟩, fun hh => Bool.noConfusion hh⟩
        have h1 := stsGood_get hlt hh.1
        have h2 := stsN_get hlt
        obtain ⟨f1, f2⟩ := F.out
        exact Hiff.out.2 ⟨h1, by have := hh.2; omega⟩
      · go_wp2
        go_roundw
        case rel =>
          obtain ⟨f1, f2⟩ := F.out
          obtain ⟨g1, g2⟩ := Hiff.out.1 (by trivial)
          obtain ⟨m1, m2⟩ := Himp.out (by trivial)
          exact ⟨k + 1, a3, c3, by omega, by go_num, hP03, hK3, by rw [stsN_step hlt]; omega, by rw [stsDeep_step hlt]; omega, by omega, Lib.hid (by rw [stsGood_step hlt, hgood.out, g1]; rfl)⟩
        case measure => simp [intOf]; omega
    · go_wp2
      go_ret
      have hkl : k = l.length := by omega
      subst hkl
      rw [List.take_length] at ea ec
      have hg1 := hgood.out
      rw [List.take_length] at hg1
      exact ⟨true, rfl, hP, a', c', hKr, by simp [hg1]; omega, fun _ => ⟨ea, ec⟩⟩
end Go.Proofs.Ytmejbmfopdfbjaa

namespace Go.Proofs.Ytmejbmfopdfbjaa
open Go.RowKit
set_option linter.unusedVariables false

/-- what the measure of a program tells -/
def MeaProg (l : List Fn) (w : World) (r : Ending) (w' : World) : Prop :=
  ∃ (b : Bool) (a c : Int), r = .returned (.tuple #[.agg #[.int .i64 a, .int .i64 c], .bool b]) ∧ Below w.heap.size w w' ∧ (b = true ↔ formOk l = true) ∧ (b = true → a = fnsN l ∧ c = fnsDeep l)

theorem fnsDeep_le (l : List Fn) (h : fnsGood l = true) : fnsDeep l ≤ 7 := by
  induction l with
  | nil => simp [fnsDeep]
  | cons f r ih =>
    unfold fnsGood at h ih
    simp only [List.all_cons, Bool.and_eq_true] at h
    have := ih h.2
    have := stsDeep_le _ _ h.1.2
    unfold fnsDeep at *
    simp only [List.map_cons, List.foldr_cons]
    omega

set_option maxHeartbeats 4000000 in
theorem measureProg_of (l : List Fn) (ih : ∀ f ∈ l, MeaSts f.body) (A : Option Addr) (cp L B : Nat) (w : World) (hB : B ≤ w.heap.size) (hsz : fnsSz l ≤ 1048576) (h : FnL w L B A l) :
    Calls Try.prog 102 #[.agg #[.slice A l.length cp]] w (MeaProg l w) := by
  have hn := h.1
  unfold maxLen at hn
  have Hsz := Lib.hid hsz
  have Ih := Lib.hid ih
  clear hsz ih
  have hb3 : ∀ o1 o2 o3, Below w.heap.size w (((w.alloc o1).alloc o2).alloc o3) := fun o1 o2 o3 => (((Below.refl _ _).alloc (Nat.le_refl _) _).alloc (by simp) _).alloc (by simp; omega) _
  have KR0 : Blk (((w.alloc (.cells #[.slice A l.length cp] 54)).alloc (.cells #[.int .i64 0, .int .i64 0] 102)).alloc (.cells #[.int .i64 0, .int .i64 0] 102)) (w.heap.size + 1) 102 #[.int .i64 0, .int .i64 0] := by
    have := (Blk.new (w.alloc (.cells #[.slice A l.length cp] 54)) 102 #[.int .i64 0, .int .i64 0]).alloc (.cells #[.int .i64 0, .int .i64 0] 102)
    simpa using this
  have KM0 : Blk (((w.alloc (.cells #[.slice A l.length cp] 54)).alloc (.cells #[.int .i64 0, .int .i64 0] 102)).alloc (.cells #[.int .i64 0, .int .i64 0] 102)) (w.heap.size + 1 + 1) 102 #[.int .i64 0, .int .i64 0] := by
    have := Blk.new ((w.alloc (.cells #[.slice A l.length cp] 54)).alloc (.cells #[.int .i64 0, .int .i64 0] 102)) 102 #[.int .i64 0, .int .i64 0]
    simpa using this
  by_cases h14 : ¬ (1 ≤ (l.length : Int) ∧ (l.length : Int) ≤ 4)
  · have hf : formOk l = false := by unfold formOk; simp; intros; omega
    have Hf := Lib.hid hf
    clear hf
    have r0 := KR0.cell_of 0 (v := .int .i64 0) rfl
    have r1 := KR0.cell_of 1 (v := .int .i64 0) rfl
    have fin : MeaProg l w (.returned (.tuple #[.agg #[.int .i64 0, .int .i64 0], .bool false])) (((w.alloc (.cells #[.slice A l.length cp] 54)).alloc (.cells #[.int .i64 0, .int .i64 0] 102)).alloc (.cells #[.int .i64 0, .int .i64 0] 102)) := ⟨false, 0, 0, rfl, hb3 _ _ _, ⟨fun hh => Bool.noConfusion hh, fun hh => by rw [Hf.out] at hh; cases hh⟩, fun hh => Bool.noConfusion hh⟩
    have Fin := Lib.hid fin
    clear fin KR0 KM0
    by_cases h1 : (l.length : Int) < 1
    · clear h14
      go_enter Try.func102, Try.ntmps102
      go_wp2
      refine bodyPost_ret (v := .tuple #[.agg #[.int .i64 0, .int .i64 0], .bool false]) (by simp [results, Try.results102, go_sem, r0, r1]) rfl ?_
      exact Fin.out
    · have h1' : 1 ≤ (l.length : Int) := by omega
      have h4 : 4 < (l.length : Int) := by omega
      clear h14 h1
      go_enter Try.func102, Try.ntmps102
      go_wp2
      refine bodyPost_ret (v := .tuple #[.agg #[.int .i64 0, .int .i64 0], .bool false]) (by simp [results, Try.results102, go_sem, r0, r1]) rfl ?_
      exact Fin.out
  have h1' : (1 : Int) ≤ l.length := by omega
  have h4' : (l.length : Int) ≤ 4 := by omega
  clear h14
  have hbw := hb3 (.cells #[.slice A l.length cp] 54) (.cells #[.int .i64 0, .int .i64 0] 102) (.cells #[.int .i64 0, .int .i64 0] 102)
  have hgs : B ≤ w.heap.size + 1 + 1 := by omega
  have hBs : B ≤ (((w.alloc (.cells #[.slice A l.length cp] 54)).alloc (.cells #[.int .i64 0, .int .i64 0] 102)).alloc (.cells #[.int .i64 0, .int .i64 0] 102)).heap.size := by simp; omega
  go_enter Try.func102, Try.ntmps102
  go_wp2
  go_loopw [21] (fun i wr => ∃ (k : Nat) (a' c' : Int), k ≤ l.length ∧ i = .int .i64 k ∧ Past (w.heap.size + 1 + 1) (((w.alloc (.cells #[.slice A l.length cp] 54)).alloc (.cells #[.int .i64 0, .int .i64 0] 102)).alloc (.cells #[.int .i64 0, .int .i64 0] 102)) wr ∧ Blk wr (w.heap.size + 1 + 1) 102 #[.int .i64 a', .int .i64 c'] ∧ a' = fnsN (l.take k) ∧ c' = fnsDeep (l.take k) ∧ a' ≤ 90 ∧ Hid (fnsGood (l.take k) = true)) (fun i _ => l.length - (intOf i).toNat)
  case atStart => exact ⟨0, 0, 0, Nat.zero_le _, rfl, Past.refl _ _, KM0, by simp [fnsN], by simp [fnsDeep], by omega, Lib.hid (by simp [fnsGood])⟩
  case round =>
    obtain ⟨k, a', c', hk, rfl, hP, hKr, ea, ec, ha2, hgood⟩ := hrel
    have hwb : Below w.heap.size w wr := hbw.trans (hP.below (by omega) (by simp; omega))
    have hBr : B ≤ wr.heap.size := Nat.le_trans hB hwb.size
    have KRr := KR0.past hP (by omega)
    have F : Hid (a' = fnsN (l.take k) ∧ c' = fnsDeep (l.take k)) := Lib.hid ⟨ea, ec⟩
    have hd0 := fnsDeep_le _ hgood.out
    have hc2 : c' ≤ 100 := by omega
    have hc3 : 0 ≤ c' := by omega
    have ha3 : 0 ≤ a' := by omega
    clear ea ec hd0
    by_cases hlt : k < l.length
    · obtain ⟨ad, rfl, _, hbk, hat⟩ := (h.below (hwb.mono hB)).2 (by omega)
      obtain ⟨v0, v1, v2, ⟨c0, c1, c2⟩, hv⟩ := hat k hlt
      have hv' := hv
      obtain ⟨fA, fc, fA1, fc1, fA2, fc2, rfl, rfl, rfl, fR, fm, fp, fb, fcp⟩ := hv
      have hfz : fnSz l[k] ≤ 1048576 := by have := fnsSz_get hlt; have := Hsz.out; omega
      have hbo := fun o => (Below.refl B wr).alloc hBr o
      have hc0 := fun o => headOk_c l[k] _ _ _ L B (wr.alloc o) (by rw [World.size_alloc]; omega) hfz (hv'.below (hbo o))
      have Hc := Lib.hid hc0
      have hfac : formOk l = true → headOk l[k] = true ∧ stsGood l[k].body 2 = true ∧ fnsN (l.take k) + stsN l[k].body ≤ 90 := fun hh => by
        unfold formOk at hh
        simp only [Bool.and_eq_true, decide_eq_true_eq] at hh
        have h1 := fnsGood_get hlt hh.1.2
        have h2 := fnsN_step hlt
        have h3 := fnsN_take l (k + 1)
        exact ⟨h1.1, h1.2, by have := hh.2; omega⟩
      have Hfac := Lib.hid hfac
      clear hc0 hat hfac
      go_wp2_with fail
      refine (Hc.out _).mono ?_
      rintro e w4 ⟨rfl, hb4⟩
      have hPx : Past (w.heap.size + 1 + 1) wr (wr.alloc (.cells #[.slice fA l[k].name.length fc, .slice fA1 l[k].params.length fc1, .slice fA2 l[k].body.length fc2] 31)) := (Past.refl _ _).alloc _
      have hP4 := hPx.trans (Past.of hb4 _)
      have KM4 := (hKr.alloc (.cells #[.slice fA l[k].name.length fc, .slice fA1 l[k].params.length fc1, .slice fA2 l[k].body.length fc2] 31)).below hb4 (by have := hKr.lt; simp; omega)
      have KR4 := KRr.past hP4 (by omega)
      have K4 := (Blk.new wr 31 #[.slice fA l[k].name.length fc, .slice fA1 l[k].params.length fc1, .slice fA2 l[k].body.length fc2]).below hb4 (by simp)
      have hwb4 := hwb.trans (hP4.below (by omega) hwb.size)
      clear hb4 hPx
      cases hok : headOk l[k]
      · have Hok := Lib.hid hok
        clear hok c0 c1 c2
        have m0 := KM4.cell_of 0 rfl
        have m1 := KM4.cell_of 1 rfl
        have f0 := KR4.frozen 0
        have f1 := KR4.frozen 1
        have z0 := KR4.cell_of 0 rfl
        have z1 := KR4.cell_of 1 rfl
        have KR' := (KR4.set_ 0 (.int .i64 (a'))).set_ 1 (.int .i64 (c'))
        have r0 := KR'.cell_of 0 (v := .int .i64 (a')) rfl
        have r1 := KR'.cell_of 1 (v := .int .i64 (c')) rfl
        go_wp2
        refine bodyPost_ret (v := .tuple #[.agg #[.int .i64 (a'), .int .i64 (c')], .bool false]) (by simp [results, Try.results102, go_sem, r0, r1]) rfl ?_
        refine ⟨false, a', c', rfl, ((?_ : Below w.heap.size w w4).setCell (p := ⟨w.heap.size + 1, 0, none⟩) (by simp) _).setCell (p := ⟨w.heap.size + 1, 1, none⟩) (by simp) _, ⟨fun hh => Bool.noConfusion hh, fun hh => ?_⟩, fun hh => Bool.noConfusion hh⟩
        · exact hwb4
        · rw [(Hfac.out hh).1] at Hok; exact Bool.noConfusion Hok.out
      have Hok := Lib.hid hok
      have q2 := K4.cell_of 2 rfl
      have hc0 := Ih.out l[k] (List.getElem_mem hlt) fA2 fc2 L B (w.heap.size + 1 + 1) 2 a' c' w4 (fb.below (hP4.below hgs hBr)) (Nat.le_trans hB hwb4.size) hgs (by unfold fnSz at hfz; omega) KM4 ha3 ha2 hc3 hc2 (by omega)
      rw [show ((2 : Nat) : Int) = 2 from rfl] at hc0
      have Hs := Lib.hid hc0
      clear hok c0 c1 c2 hc0
      go_wp2_with fail
      refine Hs.out.mono ?_
      rintro e w5 ⟨b, rfl, hP5, a5, c5, KM5, hiff, himp⟩
      have Hiff := Lib.hid hiff
      have Himp := Lib.hid himp
      have KR5 := KR4.past hP5 (by omega)
      have hwb5 := hwb4.trans (hP5.below (by omega) hwb4.size)
      clear hiff himp q2
      cases b
      · obtain ⟨e1, e2⟩ := F.out
        have hno : formOk l = true → False := fun hh => by
          obtain ⟨x1, x2, x3⟩ := Hfac.out hh
          exact Bool.noConfusion (Hiff.out.2 ⟨x2, by omega⟩)
        have Hno := Lib.hid hno
        clear e1 e2 hno
        have m0 := KM5.cell_of 0 rfl
        have m1 := KM5.cell_of 1 rfl
        have f0 := KR5.frozen 0
        have f1 := KR5.frozen 1
        have z0 := KR5.cell_of 0 rfl
        have z1 := KR5.cell_of 1 rfl
        have KR' := (KR5.set_ 0 (.int .i64 (a5))).set_ 1 (.int .i64 (c5))
        have r0 := KR'.cell_of 0 (v := .int .i64 (a5)) rfl
        have r1 := KR'.cell_of 1 (v := .int .i64 (c5)) rfl
        go_wp2
        refine bodyPost_ret (v := .tuple #[.agg #[.int .i64 (a5), .int .i64 (c5)], .bool false]) (by simp [results, Try.results102, go_sem, r0, r1]) rfl ?_
        exact ⟨false, a5, c5, rfl, (hwb5.setCell (p := ⟨w.heap.size + 1, 0, none⟩) (by simp) _).setCell (p := ⟨w.heap.size + 1, 1, none⟩) (by simp) _, ⟨fun hh => Bool.noConfusion hh, fun hh => (Hno.out hh).elim⟩, fun hh => Bool.noConfusion hh⟩
      · go_wp2
        go_roundw
        case rel =>
          obtain ⟨e1, e2⟩ := F.out
          obtain ⟨g1, g2⟩ := Hiff.out.1 (by trivial)
          obtain ⟨m1, m2⟩ := Himp.out (by trivial)
          exact ⟨k + 1, a5, c5, by omega, by go_num, hP.trans (hP4.trans hP5), KM5, by rw [fnsN_step hlt]; omega, by rw [fnsDeep_step hlt]; omega, by omega, Lib.hid (by rw [fnsGood_step hlt, hgood.out, Hok.out, g1]; rfl)⟩
        case measure => simp [intOf]; omega
    · have hkl : k = l.length := by omega
      subst hkl
      have hyes : formOk l = true ∧ a' = fnsN l ∧ c' = fnsDeep l := by
        obtain ⟨e1, e2⟩ := F.out
        have h3 := hgood.out
        rw [List.take_length] at e1 e2 h3
        refine ⟨?_, e1, e2⟩
        unfold formOk
        rw [h3]
        simp; omega
      have Hyes := Lib.hid hyes
      clear hyes
      have m0 := hKr.cell_of 0 rfl
      have m1 := hKr.cell_of 1 rfl
      have f0 := KRr.frozen 0
      have f1 := KRr.frozen 1
      have z0 := KRr.cell_of 0 rfl
      have z1 := KRr.cell_of 1 rfl
      have KR' := (KRr.set_ 0 (.int .i64 (a'))).set_ 1 (.int .i64 (c'))
      have r0 := KR'.cell_of 0 (v := .int .i64 (a')) rfl
      have r1 := KR'.cell_of 1 (v := .int .i64 (c')) rfl
      go_wp2
      refine bodyPost_ret (v := .tuple #[.agg #[.int .i64 (a'), .int .i64 (c')], .bool true]) (by simp [results, Try.results102, go_sem, r0, r1]) rfl ?_
      exact ⟨true, a', c', rfl, (hwb.setCell (p := ⟨w.heap.size + 1, 0, none⟩) (by simp) _).setCell (p := ⟨w.heap.size + 1, 1, none⟩) (by simp) _, ⟨fun _ => Hyes.out.1, fun _ => rfl⟩, fun _ => Hyes.out.2⟩
end Go.Proofs.Ytmejbmfopdfbjaa

namespace Go.Proofs.Ytmejbmfopdfbjaa
open Go.RowKit
set_option linter.unusedVariables false

theorem measureSt_c (s : St) : MeaSt s :=
  St.ind (P := MeaSt) (fun k name e f body els ih1 ih2 => measureSt_of k name e f body els (measureSts_of body ih1) (measureSts_of els ih2)) s
theorem measureSts_c (l : List St) : MeaSts l := measureSts_of l fun s _ => measureSt_c s
theorem measureProg_c (l : List Fn) (A : Option Addr) (cp L B : Nat) (w : World) (hB : B ≤ w.heap.size) (hsz : fnsSz l ≤ 1048576) (h : FnL w L B A l) :
    Calls Try.prog 102 #[.agg #[.slice A l.length cp]] w (MeaProg l w) :=
  measureProg_of l (fun f _ => measureSts_c f.body) A cp L B w hB hsz h


set_option maxHeartbeats 1000000 in
theorem implFormOk_c (l : List Fn) (A : Option Addr) (cp L B : Nat) (w : World) (hB : B ≤ w.heap.size) (hsz : fnsSz l ≤ 1048576) (h : FnL w L B A l) :
    Calls Try.prog 77 #[.agg #[.slice A l.length cp]] w fun r w' => r = .returned (.bool (formOk l)) ∧ Below w.heap.size w w' := by
  have hb0 : ∀ o, Below w.heap.size w (w.alloc o) := fun o => (Below.refl _ _).alloc (Nat.le_refl _) _
  have hc := fun o => measureProg_c l A cp L B (w.alloc o) (by rw [World.size_alloc]; omega) hsz (h.below ((hb0 o).mono hB))
  have Hc := Lib.hid hc
  clear hc h hsz
  go_enter Try.func77, Try.ntmps77
  go_wp2_with fail
  refine (Hc.out _).mono ?_
  rintro r w1 ⟨b, a, c, rfl, hb1, hiff, himp⟩
  have hbn := (hb0 _).trans (hb1.mono (hb0 _).size)
  have hb : b = formOk l := by rw [Bool.eq_iff_iff]; exact hiff
  have Hb := Lib.hid hb
  clear hb hiff himp
  go_wp2
  go_ret
  exact ⟨ret_bool' Hb.out.symm, hbn.alloc hbn.size _⟩

end Go.Proofs.Ytmejbmfopdfbjaa
