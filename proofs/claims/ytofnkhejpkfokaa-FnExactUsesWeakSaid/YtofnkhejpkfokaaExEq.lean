/-
  The laws' own likeness of expressions.
-/
import Derived.Test.YtofnkhejpkfokaaEx
import Derived.StillTailTactics
import Derived.Deep.QuietTactic
import Derived.BigQuiet
namespace Go.Proofs.Ytofnkhejpkfokaa
open Go.RowKit
set_option linter.unusedVariables false

theorem below_drewN {B : Nat} {a w : World} (h : Below B a w) (m : Nat) : Below B a (w.drewN m) := ⟨h.os, h.tape, h.output, h.size, h.block⟩

def EqEx (e : Ex) : Prop := ∀ (v0 v1 v2 v3 u0 u1 u2 u3 : Value) (w : World) (L B L' B' : Nat), ExV w L B v0 v1 v2 v3 e → ExV w L' B' u0 u1 u2 u3 e → B ≤ w.heap.size → B' ≤ w.heap.size → exSz e ≤ 1048576 →
  Calls Try.prog 120 #[.agg #[v0, v1, v2, v3], .agg #[u0, u1, u2, u3]] w fun r w' => r = .returned (.bool true) ∧ Below w.heap.size w w'

set_option maxRecDepth 100000 in
set_option maxHeartbeats 1000000 in
theorem eqExS_of (l : List Ex) (ih : ∀ e ∈ l, EqEx e) (A A' : Option Addr) (c c' L B L' B' : Nat) (w : World) (hB : B ≤ w.heap.size) (hB' : B' ≤ w.heap.size) (hl : exsSz l ≤ 1048576) (h : ExL w L B A l) (h' : ExL w L' B' A' l) :
    Calls Try.prog 130 #[.slice A l.length c, .slice A' l.length c'] w fun r w' => r = .returned (.bool true) ∧ Below w.heap.size w w' := by
  have hlen := exsSz_len l
  have Ih := Lib.hid ih
  clear ih
  go_enter Try.func130, Try.ntmps130
  go_wp2
  go_loopw [5] (fun i wr => ∃ (k : Nat), k ≤ l.length ∧ i = .int .i64 k ∧ Below w.heap.size w wr) (fun i _ => l.length - (intOf i).toNat)
  case atStart => exact ⟨0, Nat.zero_le _, rfl, Below.refl _ _⟩
  case round =>
    obtain ⟨k, hk, rfl, hbl⟩ := hrel
    by_cases hlt : k < l.length
    · obtain ⟨ad, rfl, _, hb, hat⟩ := (h.below (hbl.mono hB)).2 (by omega)
      obtain ⟨v0, v1, v2, v3, ⟨c0, c1, c2, c3⟩, hv⟩ := hat k hlt
      obtain ⟨ad', rfl, _, hb', hat'⟩ := (h'.below (hbl.mono hB')).2 (by omega)
      obtain ⟨u0, u1, u2, u3, ⟨d0, d1, d2, d3⟩, hu⟩ := hat' k hlt
      have hsz1 := exsSz_get hlt
      have hc := Ih.out l[k] (List.getElem_mem hlt) v0 v1 v2 v3 u0 u1 u2 u3 wr.drew L B L' B' (ExV.keep (w := wr) (w' := wr.drew) (fun _ _ _ => rfl) _ _ _ _ _ hv) (ExV.keep (w := wr) (w' := wr.drew) (fun _ _ _ => rfl) _ _ _ _ _ hu) (Nat.le_trans hB hbl.size) (Nat.le_trans hB' hbl.size) (by omega)
      have Hc := Lib.hid hc
      clear hc hat hat'
      go_wp2
      go_still_tail 8, (by kernel_rfl)
      change wpList _ _ _ _ _ wr.drew
      go_wp2_with fail
      refine Hc.out.mono ?_
      rintro e w1 ⟨rfl, hb1⟩
      go_wp2
      go_roundw
      case rel => exact ⟨k + 1, by omega, by go_num, hbl.drew.trans (hb1.mono hbl.size)⟩
      case measure => simp [intOf]; omega
    · go_wp2
      go_ret
      exact ⟨rfl, hbl⟩

set_option maxHeartbeats 1000000 in
theorem eqEx_c (e : Ex) : EqEx e := by
  refine Ex.ind (P := EqEx) ?_ e
  intro k n name args ih v0 v1 v2 v3 u0 u1 u2 u3 w L B L' B' hv hu hB hB' hsz
  obtain ⟨A, c, A', c', rfl, rfl, rfl, rfl, hR, hm, hx⟩ := hv.open_
  obtain ⟨D, d, D', d', rfl, rfl, rfl, rfl, hS, _, hy⟩ := hu.open_
  rw [exSz_mk] at hsz
  have hb0 : Below w.heap.size w ((w.alloc (.cells #[.int .i64 k, .int .i64 n, .slice A name.length c, .slice A' args.length c'] 78)).alloc (.cells #[.int .i64 k, .int .i64 n, .slice D name.length d, .slice D' args.length d'] 78)) :=
    ((Below.refl _ _).alloc (Nat.le_refl _) _).alloc (by simp) _
  have hR0 := (hR.below (hb0.mono hB)).1
  have hS0 := (hS.below (hb0.mono hB')).1
  have hx0 := hx.below (hb0.mono hB)
  have hy0 := hy.below (hb0.mono hB')
  have a3 := (Below.refl w.heap.size w)
  have Ih := Lib.hid ih
  clear ih hv hu a3
  go_enter Try.func120, Try.ntmps120
  go_wp2_with fail
  refine (eqByteS_c name A D c d B B' _ (by omega) hR0 hS0).mono ?_
  rintro e w1 ⟨rfl, m, rfl⟩
  go_wp2_with fail
  refine (eqExS_of args Ih.out A' D' c' d' L B L' B' (World.drewN _ m) (by simp; omega) (by simp; omega) (by omega) (hx0.keep (w' := World.drewN _ m) fun _ _ _ => rfl) (hy0.keep (w' := World.drewN _ m) fun _ _ _ => rfl)).mono ?_
  rintro e w2 ⟨rfl, hb2⟩
  go_wp2
  go_ret
  exact ⟨rfl, (below_drewN hb0 m).trans (hb2.mono (below_drewN hb0 m).size)⟩
theorem eqExS_c (l : List Ex) (A A' : Option Addr) (c c' L B L' B' : Nat) (w : World) (hB : B ≤ w.heap.size) (hB' : B' ≤ w.heap.size) (hl : exsSz l ≤ 1048576) (h : ExL w L B A l) (h' : ExL w L' B' A' l) :
    Calls Try.prog 130 #[.slice A l.length c, .slice A' l.length c'] w fun r w' => r = .returned (.bool true) ∧ Below w.heap.size w w' :=
  eqExS_of l (fun e _ => eqEx_c e) A A' c c' L B L' B' w hB hB' hl h h'
end Go.Proofs.Ytofnkhejpkfokaa
