/-
  The model's CountSts, HasLoop.
-/
import Derived.Test.YtglalpoalinieaaSpecProgOk
import Derived.Test.YtglalpoalinieaaImplCountSt
import Derived.Deep.QuietTactic
import Derived.BigQuiet
namespace Go.Proofs.Ytglalpoalinieaa
open Go.RowKit Go.Shelf
set_option linter.unusedVariables false

def cnt (kind : Int) (l : List St) : Nat := (flatSts l).countP fun s => stK s == kind
theorem cnt_le (kind : Int) (l : List St) : cnt kind l ≤ stsSz l := Nat.le_trans List.countP_le_length (flatSts_sz l).1
theorem cnt_step (kind : Int) {l : List St} {j : Nat} (hj : j < l.length) {k : Int} {name : List UInt8} {e f : Ex} {body els : List St} (hle : l[j] = .mk k name e f body els) : cnt kind (l.take (j + 1)) = cnt kind (l.take j) + (if k == kind then 1 else 0) + cnt kind body + cnt kind els := by
  unfold cnt
  rw [flatSts_step hj, hle, flatSt_mk, List.countP_append, List.countP_cons, List.countP_append]
  have : stK (St.mk k name e f body els) = k := rfl
  rw [this]
  omega
def CsP (ls : List St) : Prop := ∀ (A : Option Addr) (cp : Nat) (kind : Int) (L B : Nat) (w : World), StL w L B A ls → stsSz ls ≤ 1048576 →
  Calls Try.prog 56 #[.slice A ls.length cp, .int .i64 kind] w fun r w' => r = .returned (.int .i64 (cnt kind ls : Nat)) ∧ ∃ m, w' = w.drewN m

set_option maxRecDepth 100000 in
set_option maxHeartbeats 4000000 in
theorem countSts_of (ls : List St) (ih : ∀ s ∈ ls, ∀ k name e f body els, s = .mk k name e f body els → CsP body ∧ CsP els) : CsP ls := by
  intro A cp kind L B w h hsz
  have hn := h.1
  unfold maxLen at hn
  have Ih := Lib.hid ih
  have H := Lib.hid h
  clear ih h
  go_enter Try.func56, Try.ntmps56
  go_wp2
  go_loopw [5, 6] (fun s i wr => ∃ k : Nat, k ≤ ls.length ∧ i = .int .i64 k ∧ s = .int .i64 (cnt kind (ls.take k) : Nat) ∧ ∃ d, wr = w.drewN d) (fun _ i _ => ls.length - (intOf i).toNat)
  case atStart => exact ⟨0, Nat.zero_le _, rfl, by simp [cnt, flatSts], 0, rfl⟩
  case round =>
    obtain ⟨k, hk, rfl, rfl, d, hd⟩ := hrel
    have Hw : StL wr L B A ls := by rw [hd]; exact H.out.keep fun _ _ _ => rfl
    have Hd := Lib.hid hd
    clear hd
    by_cases hlt : k < ls.length
    · obtain ⟨ad, rfl, _, hbk, hat⟩ := Hw.2 (by omega)
      obtain ⟨vs, hcells, hv⟩ := hat k hlt
      obtain ⟨kk, name, e, f, body, els, hle⟩ : ∃ kk name e f body els, ls[k] = .mk kk name e f body els := by cases ls[k]; exact ⟨_, _, _, _, _, _, rfl⟩
      have hstep := cnt_step kind hlt hle
      have hszs := stsSz_split hlt
      rw [hle, stSz_mk] at hszs
      rw [hle] at hv
      obtain ⟨sA, sc, e0, e1, e2, e3, f0, f1, f2, f3, A1, c1, A2, c2, rfl, hR, hmn, he, hf, hb1, hb2⟩ := hv.open_
      obtain ⟨ih1, ih2⟩ := Ih.out ls[k] (List.getElem_mem hlt) kk name e f body els hle
      have q0 := hcells 0 _ rfl
      have q10 := hcells 10 _ rfl
      have q11 := hcells 11 _ rfl
      simp only [if_true, Nat.reduceEqDiff, if_false] at q0 q10 q11
      have hBo := fun (n : Nat) => Calls.quiet_of (w := wr) (n := n) (ih1 A1 c1 kind L B (wr.drewN n) (hb1.keep fun _ _ _ => rfl) (by omega))
      have hEl := fun (n : Nat) => Calls.quiet_of (w := wr) (n := n) (ih2 A2 c2 kind L B (wr.drewN n) (hb2.keep fun _ _ _ => rfl) (by omega))
      have l1 := cnt_le kind body
      have l2 := cnt_le kind els
      have l3 := cnt_le kind (ls.take k)
      obtain ⟨a, ha⟩ : ∃ a, cnt kind (ls.take k) = a := ⟨_, rfl⟩
      obtain ⟨b, hb⟩ : ∃ b, cnt kind body = b := ⟨_, rfl⟩
      obtain ⟨c, hc⟩ : ∃ c, cnt kind els = c := ⟨_, rfl⟩
      rw [ha] at hstep l3
      rw [hb] at hstep l1 hBo
      rw [hc] at hstep l2 hEl
      rw [ha]
      have ha1 : a ≤ 1048576 := by omega
      have hb1' : b ≤ 1048576 := by omega
      have hc1' : c ≤ 1048576 := by omega
      have HBo := Lib.hid hBo
      have HEl := Lib.hid hEl
      have Hst := Lib.hid hstep
      clear hBo hEl hstep hle hat hcells hv hR he hf hb1 hb2 ih1 ih2 ha hb hc hszs l1 l2 l3
      cases hke : (kk == kind)
      · have hke' : ¬ kk = kind := by simpa using hke
        go_wp2_with fail
        go_quiet (first | (go_at_call_of 56 (Value.slice A1 body.length c1); exact HBo.out _) | (go_at_call_of 56 (Value.slice A2 els.length c2); exact HEl.out _))
        go_wp2
        go_roundw
        case rel =>
          refine ⟨k + 1, by omega, by go_num, ?_, d + nq, by rw [Hd.out, World.drewN_drewN]⟩
          rw [Hst.out, hke]
          simp
        case measure => simp [intOf]; omega
      · obtain rfl : kk = kind := by simpa using hke
        go_wp2_with fail
        go_quiet (first | (go_at_call_of 56 (Value.slice A1 body.length c1); exact HBo.out _) | (go_at_call_of 56 (Value.slice A2 els.length c2); exact HEl.out _))
        go_wp2
        go_roundw
        case rel =>
          refine ⟨k + 1, by omega, by go_num, ?_, d + nq, by rw [Hd.out, World.drewN_drewN]⟩
          rw [Hst.out, hke]
          simp
        case measure => simp [intOf]; omega
    · go_wp2
      go_ret
      have hkl : k = ls.length := by omega
      exact ⟨by rw [hkl, List.take_length]; rfl, d, Hd.out⟩
theorem l2countSts_c (ls : List St) : CsP ls := by
  have one : ∀ s : St, ∀ k name e f body els, s = .mk k name e f body els → CsP body ∧ CsP els := fun s => St.ind (P := fun s => ∀ k name e f body els, s = .mk k name e f body els → CsP body ∧ CsP els) (fun k name e f body els ih1 ih2 k' n' e' f' b' l' he => by
    injection he with _ _ _ _ h1 h2
    rw [← h1, ← h2]
    exact ⟨countSts_of body ih1, countSts_of els ih2⟩) s
  exact countSts_of ls fun s _ => one s

theorem cntSts_cnt (l : List Fn) (kind : Int) {j : Nat} (hj : j < l.length) : cntSts (l.take (j + 1)) kind = cntSts (l.take j) kind + cnt kind l[j].body := cntSts_step l kind hj

set_option maxRecDepth 100000 in
set_option maxHeartbeats 4000000 in
theorem specCountSts_c (l : List Fn) (A : Option Addr) (cp L B : Nat) (kind : Int) (w : World) (hB : B ≤ w.heap.size) (hsz : fnsSz l ≤ 1048576) (h : FnL w L B A l) :
    Calls Try.prog 22 #[.agg #[.slice A l.length cp], .int .i64 kind] w fun r w' => r = .returned (.int .i64 (countSts l kind)) ∧ Below w.heap.size w w' := by
  have hn := h.1
  unfold maxLen at hn
  have hb0 : Below w.heap.size w (w.alloc (.cells #[.slice A l.length cp] 29)) := (Below.refl _ _).alloc (Nat.le_refl _) _
  have KP := Blk.new w 29 #[.slice A l.length cp]
  have hc := specProgOk_c l A cp L B _ (Nat.le_trans hB hb0.size) hsz (h.below (hb0.mono hB))
  cases hf : progOk l
  · rw [hf] at hc
    have Hc := Lib.hid hc
    have hno : countSts l kind = -1 := by unfold countSts; rw [hf]; rfl
    rw [hno]
    clear hc hf h hno
    go_enter Try.func22, Try.ntmps22
    go_wp2_with fail
    refine Hc.out.mono ?_
    rintro r w1 ⟨rfl, hb1⟩
    go_wp2
    go_ret
    exact ⟨rfl, hb0.trans (hb1.mono hb0.size)⟩
  rw [hf] at hc
  have Hc := Lib.hid hc
  have hcs : countSts l kind = cntSts l kind := by unfold countSts; rw [hf]; rfl
  have Hcs := Lib.hid hcs
  have hcl : cntSts l kind ≤ 1048576 := by have := cntSts_le l kind; unfold fnsSz at hsz; omega
  have H := Lib.hid h
  clear hc hf hcs h
  go_enter Try.func22, Try.ntmps22
  go_wp2_with fail
  refine Hc.out.mono ?_
  rintro r w1 ⟨rfl, hb1⟩
  have hb01 := hb0.trans (hb1.mono hb0.size)
  have KP1 := KP.below hb1 KP.lt
  clear Hc
  go_wp2
  go_loopw [5, 6] (fun s i wr => ∃ k : Nat, k ≤ l.length ∧ i = .int .i64 k ∧ s = .int .i64 (cntSts (l.take k) kind : Nat) ∧ Below w.heap.size w wr ∧ Blk wr w.heap.size 29 #[.slice A l.length cp]) (fun _ i _ => l.length - (intOf i).toNat)
  case atStart => exact ⟨0, Nat.zero_le _, rfl, by simp [cntSts], hb01, KP1⟩
  case round =>
    obtain ⟨k, hk, rfl, rfl, hbl, hKP⟩ := hrel
    have p0 := hKP.cell_of 0 (v := .slice A l.length cp) rfl
    by_cases hlt : k < l.length
    · obtain ⟨ad, rfl, _, hb, hat⟩ := (H.out.below (hbl.mono hB)).2 (by omega)
      obtain ⟨v0, v1, v2, ⟨c0, c1, c2⟩, hv⟩ := hat k hlt
      obtain ⟨fA, fc, fA1, fc1, fA2, fc2, rfl, rfl, rfl, fR, fm, fp, fb, fcp⟩ := hv
      have hfz := fnsSz_get hlt
      have hbz : stsSz l[k].body ≤ 1048576 := by unfold fnSz at hfz; omega
      have hcc := l2countSts_c l[k].body fA2 fc2 kind L B wr fb hbz
      have hst := cntSts_cnt l kind hlt
      have ht1 := cntSts_take l kind k
      have ht2 := cnt_le kind l[k].body
      obtain ⟨a, ha⟩ : ∃ a, cntSts (l.take k) kind = a := ⟨_, rfl⟩
      obtain ⟨b, hb'⟩ : ∃ b, cnt kind l[k].body = b := ⟨_, rfl⟩
      rw [ha] at hst ht1
      rw [hb'] at hst ht2 hcc
      rw [ha]
      have ha1 : a ≤ 1048576 := by omega
      have hb1' : b ≤ 1048576 := by omega
      have Hcc := Lib.hid hcc
      have Hst := Lib.hid hst
      clear hat hcc fR fp fb ha hb' ht1 ht2 hst c0 c1
      go_wp2_with fail
      refine Hcc.out.mono ?_
      rintro r w2 ⟨rfl, m, rfl⟩
      have hbn : Below w.heap.size w (wr.drewN m) := ⟨hbl.os, hbl.tape, hbl.output, hbl.size, hbl.block⟩
      have hKn := hKP.drewN m
      clear p0 c2
      go_wp2
      go_roundw
      case rel =>
        refine ⟨k + 1, by omega, by go_num, ?_, hbn, hKn⟩
        rw [Hst.out]
        simp
      case measure => simp [intOf]; omega
    · go_wp2
      go_ret
      have hkl : k = l.length := by omega
      exact ⟨by rw [Hcs.out, hkl, List.take_length]; rfl, hbl⟩

set_option maxHeartbeats 1000000 in
theorem specHasLoop_c (l : List Fn) (A : Option Addr) (cp L B : Nat) (w : World) (hB : B ≤ w.heap.size) (hsz : fnsSz l ≤ 1048576) (h : FnL w L B A l) :
    Calls Try.prog 26 #[.agg #[.slice A l.length cp]] w fun r w' => r = .returned (.bool (decide (0 < countSts l 6))) ∧ Below w.heap.size w w' := by
  have hb0 : Below w.heap.size w (w.alloc (.cells #[.slice A l.length cp] 29)) := (Below.refl _ _).alloc (Nat.le_refl _) _
  have hc := specCountSts_c l A cp L B 6 _ (Nat.le_trans hB hb0.size) hsz (h.below (hb0.mono hB))
  have Hc := Lib.hid hc
  clear hc h
  go_enter Try.func26, Try.ntmps26
  go_wp2_with fail
  refine Hc.out.mono ?_
  rintro r w1 ⟨rfl, hb1⟩
  go_wp2
  go_ret
  exact ⟨rfl, hb0.trans (hb1.mono hb0.size)⟩
end Go.Proofs.Ytglalpoalinieaa
