/-
  The program's statementsOk.
-/
import Derived.Test.YtmejbmfopdfbjaaImplForm
namespace Go.Proofs.Ytmejbmfopdfbjaa
open Go.RowKit
set_option linter.unusedVariables false

def fnForm (f : Fn) : Bool := decide (f.params.length ≤ 3) && (stsGood f.body 2 && decide (stsN f.body ≤ 90))
theorem fnForm_of {l : List Fn} (h : formOk l = true) {k : Nat} (hk : k < l.length) : fnForm l[k] = true := by
  unfold formOk at h
  simp only [Bool.and_eq_true, decide_eq_true_eq] at h
  have h1 := fnsGood_get hk h.1.2
  have h2 := fnsN_take l (k + 1)
  rw [fnsN_step hk] at h2
  unfold fnForm
  have h3 := h1.1
  unfold headOk at h3
  simp only [Bool.and_eq_true, decide_eq_true_eq] at h3 ⊢
  exact ⟨h3.1.2, h1.2, by omega⟩

set_option maxHeartbeats 2000000 in
theorem statementsOk_c (f : Fn) (v0 v1 v2 : Value) (L B : Nat) (w : World) (hB : B ≤ w.heap.size) (hsz : fnSz f ≤ 1048576) (h : FnV w L B v0 v1 v2 f) :
    Calls Try.prog 36 #[.agg #[v0, v1, v2]] w fun r w' => r = .returned (.bool (fnForm f)) ∧ Below w.heap.size w w' := by
  obtain ⟨fA, fc, fA1, fc1, fA2, fc2, rfl, rfl, rfl, fR, fm, fp, fb, fcp⟩ := h
  obtain ⟨V, hV⟩ : ∃ V, (w.alloc (.cells #[.slice fA f.name.length fc, .slice fA1 f.params.length fc1, .slice fA2 f.body.length fc2] 31)).alloc (.cells #[.int .i64 0, .int .i64 0] 102) = V := ⟨_, rfl⟩
  have hVs : V.heap.size = w.heap.size + 2 := by rw [← hV]; simp
  have hb0 : Below w.heap.size w V := by rw [← hV]; exact ((Below.refl _ _).alloc (Nat.le_refl _) _).alloc (by simp) _
  have KM : Blk V (w.heap.size + 1) 102 #[.int .i64 0, .int .i64 0] := by
    have := Blk.new (w.alloc (.cells #[.slice fA f.name.length fc, .slice fA1 f.params.length fc1, .slice fA2 f.body.length fc2] 31)) 102 #[.int .i64 0, .int .i64 0]
    rw [World.size_alloc] at this
    rw [← hV]; exact this
  have hbs : stsSz f.body ≤ 1048576 := by unfold fnSz at hsz; omega
  have hm := measureSts_c f.body fA2 fc2 L B (w.heap.size + 1) 2 0 0 V (fb.below (hb0.mono hB)) (by omega) (by omega) hbs KM (by omega) (by omega) (by omega) (by omega) (by omega)
  by_cases h3 : f.params.length ≤ 3
  · have hx : Calls Try.prog 57 #[.pointer (some ⟨w.heap.size + 1, 0, none⟩), .slice fA2 f.body.length fc2, .int .i64 2] V fun r w' => r = .returned (.bool (fnForm f)) ∧ Below w.heap.size w w' := by
      refine hm.mono ?_
      rintro r w' ⟨b, rfl, hp, a', c', _, hbb, _⟩
      refine ⟨?_, hb0.trans (hp.below (by omega) (by omega))⟩
      have e : b = fnForm f := by
        unfold fnForm
        rw [Bool.eq_iff_iff, hbb]
        simp only [Bool.and_eq_true, decide_eq_true_eq]
        constructor
        · rintro ⟨h1, h2⟩; exact ⟨h3, h1, by omega⟩
        · rintro ⟨_, h1, h2⟩; exact ⟨h1, by omega⟩
      rw [e]
    have Hx := Lib.hid hx
    clear hx hm KM fR fp fb
    subst hV
    go_enter Try.func36, Try.ntmps36
    go_wp2_with fail
    refine Hx.out.mono ?_
    rintro r w1 ⟨rfl, hb1⟩
    go_wp2
    go_ret
    exact ⟨rfl, hb1⟩
  · have hno : fnForm f = false := by unfold fnForm; simp; intros; omega
    rw [hno]
    have Hb0 := Lib.hid hb0
    clear hm KM fR fp fb
    subst hV
    go_enter Try.func36, Try.ntmps36
    go_wp2
    go_ret
    exact ⟨rfl, Hb0.out⟩
end Go.Proofs.Ytmejbmfopdfbjaa
