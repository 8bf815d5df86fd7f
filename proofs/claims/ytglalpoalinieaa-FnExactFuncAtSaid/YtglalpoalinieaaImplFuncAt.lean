/-
  The program's FuncAt.
-/
import Derived.Test.YtglalpoalinieaaImplProgOk
namespace Go.Proofs.Ytglalpoalinieaa
open Go.RowKit Go.Shelf
set_option linter.unusedVariables false

set_option maxHeartbeats 2000000 in
theorem implFuncAt_c (l : List Fn) (A : Option Addr) (cp L B : Nat) (b : List UInt8) (A' : Option Addr) (c' B' : Nat) (w : World) (hB : B ≤ w.heap.size) (hB' : B' ≤ w.heap.size) (hsz : fnsSz l ≤ 1048576) (h : FnL w L B A l) (h' : RB w B' A' b) :
    Calls Try.prog 20 #[.agg #[.slice A l.length cp], .slice A' b.length c'] w fun r w' => r = .returned (.int .i64 (if progOk l = true then placeOf (namesOf l) b else -1)) ∧ Below w.heap.size w w' := by
  have hb0 : Below w.heap.size w (w.alloc (.cells #[.slice A l.length cp] 29)) := (Below.refl _ _).alloc (Nat.le_refl _) _
  have KP := Blk.new w 29 #[.slice A l.length cp]
  have hc := implProgOk_c l A cp L B _ (Nat.le_trans hB hb0.size) hsz (h.below (hb0.mono hB))
  have hll : l.length ≤ 1048576 := by unfold fnsSz at hsz; omega
  cases hf : progOk l
  · rw [hf] at hc
    have Hc := Lib.hid hc
    rw [if_neg (by decide)]
    clear hc hf h
    go_enter Try.func20, Try.ntmps20
    go_wp2_with fail
    refine Hc.out.mono ?_
    rintro r w1 ⟨rfl, hb1⟩
    go_wp2
    go_ret
    exact ⟨rfl, hb0.trans (hb1.mono hb0.size)⟩
  · rw [hf] at hc
    have Hc := Lib.hid hc
    rw [if_pos rfl]
    clear hc hf
    have H := Lib.hid h
    have H' := Lib.hid h'
    clear h h'
    go_enter Try.func20, Try.ntmps20
    go_wp2_with fail
    refine Hc.out.mono ?_
    rintro r w1 ⟨rfl, hb1⟩
    have hb01 := hb0.trans (hb1.mono hb0.size)
    have p0 := (KP.below hb1 KP.lt).cell_of 0 (v := .slice A l.length cp) rfl
    have hfn := funcNames_c l A cp L B w1 (Nat.le_trans hB hb01.size) hll (H.out.below (hb01.mono hB))
    have Hfn := Lib.hid hfn
    clear hfn Hc
    go_wp2_with fail
    refine Hfn.out.mono ?_
    rintro r w2 ⟨Ak, ck, rfl, hlc, hcm, hbs, hb2⟩
    have hb02 := hb01.trans (hb2.mono hb01.size)
    have hx := placeOf_c (namesOf l) b Ak A' ck c' 0 w2.heap.size B' w2 (Nat.le_refl _) (Nat.le_trans hB' hb02.size) hbs (H'.out.below (hb02.mono hB'))
    rw [show (namesOf l).length = l.length by unfold namesOf; rw [List.length_map]] at hx
    have Hx := Lib.hid hx
    clear hx Hfn
    go_wp2_with fail
    refine Hx.out.mono ?_
    rintro r w3 ⟨rfl, hb3⟩
    go_wp2
    go_ret
    exact ⟨rfl, hb02.trans (hb3.mono hb02.size)⟩
end Go.Proofs.Ytglalpoalinieaa
