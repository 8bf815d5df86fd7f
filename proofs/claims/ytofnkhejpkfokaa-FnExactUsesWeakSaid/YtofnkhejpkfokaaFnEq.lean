/-
  The laws' own likeness of programs.
-/
import Derived.Test.YtofnkhejpkfokaaFn
import Derived.Test.YtofnkhejpkfokaaStEq
namespace Go.Proofs.Ytofnkhejpkfokaa
open Go.RowKit
set_option linter.unusedVariables false

set_option maxRecDepth 100000 in
set_option maxHeartbeats 1000000 in
theorem eqByteSS_c (l : List (List UInt8)) (A A' : Option Addr) (c c' L B L' B' : Nat) (w : World) (hB : B ≤ w.heap.size) (hB' : B' ≤ w.heap.size) (hl : bsSz l ≤ 1048576) (h : BsL w L B A l) (h' : BsL w L' B' A' l) :
    Calls Try.prog 41 #[.slice A l.length c, .slice A' l.length c'] w fun r w' => r = .returned (.bool true) ∧ Below w.heap.size w w' := by
  have hlen : l.length ≤ bsSz l := by unfold bsSz; omega
  go_enter Try.func41, Try.ntmps41
  go_wp2
  go_loopw [5] (fun i wr => ∃ (k : Nat), k ≤ l.length ∧ i = .int .i64 k ∧ Below w.heap.size w wr) (fun i _ => l.length - (intOf i).toNat)
  case atStart => exact ⟨0, Nat.zero_le _, rfl, Below.refl _ _⟩
  case round =>
    obtain ⟨k, hk, rfl, hbl⟩ := hrel
    by_cases hlt : k < l.length
    · obtain ⟨ad, rfl, _, hb, hat⟩ := (h.below (hbl.mono hB)).2 (by omega)
      obtain ⟨A1, c1, c0, hR, hm⟩ := hat k hlt
      obtain ⟨ad', rfl, _, hb', hat'⟩ := (h'.below (hbl.mono hB')).2 (by omega)
      obtain ⟨A2, c2, d0, hS, hm'⟩ := hat' k hlt
      have hsz1 := bsSz_get hlt
      clear hat hat'
      go_wp2
      go_still_tail 8, (by kernel_rfl)
      change wpList _ _ _ _ _ wr.drew
      go_wp2_with fail
      refine (eqByteS_c l[k] A1 A2 c1 c2 B B' wr.drew (by omega) (hR.1.drewN 1) (hS.1.drewN 1)).mono ?_
      rintro e w1 ⟨rfl, m, rfl⟩
      go_wp2
      go_roundw
      case rel => exact ⟨k + 1, by omega, by go_num, below_drewN hbl (1 + m)⟩
      case measure => simp [intOf]; omega
    · go_wp2
      go_ret
      exact ⟨rfl, hbl⟩


def EqFn (f : Fn) : Prop := ∀ (v0 v1 v2 u0 u1 u2 : Value) (w : World) (L B L' B' : Nat), FnV w L B v0 v1 v2 f → FnV w L' B' u0 u1 u2 f → B ≤ w.heap.size → B' ≤ w.heap.size → fnSz f ≤ 1048576 →
  Calls Try.prog 42 #[.agg #[v0, v1, v2], .agg #[u0, u1, u2]] w fun r w' => r = .returned (.bool true) ∧ Below w.heap.size w w'

theorem BsL.drewN_ {w : World} {L B : Nat} {A : Option Addr} {l : List (List UInt8)} (m : Nat) (h : BsL w L B A l) : BsL (w.drewN m) L B A l := BsL.keep (w := w) (w' := w.drewN m) h (fun _ _ _ => rfl)

set_option maxHeartbeats 2000000 in
theorem eqFunc_c (f : Fn) : EqFn f := by
  intro v0 v1 v2 u0 u1 u2 w L B L' B' hv hu hB hB' hsz
  obtain ⟨pA, pc, pA1, pc1, pA2, pc2, rfl, rfl, rfl, hR, hm, hp, hb⟩ := hv
  obtain ⟨qA, qc, qA1, qc1, qA2, qc2, rfl, rfl, rfl, hR', hm', hp', hb'⟩ := hu
  unfold fnSz at hsz
  have hb0 : Below w.heap.size w ((w.alloc (.cells #[.slice pA f.name.length pc, .slice pA1 f.params.length pc1, .slice pA2 f.body.length pc2] 49)).alloc (.cells #[.slice qA f.name.length qc, .slice qA1 f.params.length qc1, .slice qA2 f.body.length qc2] 49)) := ((Below.refl _ _).alloc (Nat.le_refl _) _).alloc (by simp) _
  have K1 : Blk ((w.alloc (.cells #[.slice pA f.name.length pc, .slice pA1 f.params.length pc1, .slice pA2 f.body.length pc2] 49)).alloc (.cells #[.slice qA f.name.length qc, .slice qA1 f.params.length qc1, .slice qA2 f.body.length qc2] 49)) w.heap.size 49 #[.slice pA f.name.length pc, .slice pA1 f.params.length pc1, .slice pA2 f.body.length pc2] := (Blk.new w _ _).alloc _
  have K2 : Blk ((w.alloc (.cells #[.slice pA f.name.length pc, .slice pA1 f.params.length pc1, .slice pA2 f.body.length pc2] 49)).alloc (.cells #[.slice qA f.name.length qc, .slice qA1 f.params.length qc1, .slice qA2 f.body.length qc2] 49)) (w.heap.size + 1) 49 #[.slice qA f.name.length qc, .slice qA1 f.params.length qc1, .slice qA2 f.body.length qc2] := by
    have := Blk.new (w.alloc (.cells #[.slice pA f.name.length pc, .slice pA1 f.params.length pc1, .slice pA2 f.body.length pc2] 49)) 49 #[.slice qA f.name.length qc, .slice qA1 f.params.length qc1, .slice qA2 f.body.length qc2]
    simpa using this
  have hR0 := (hR.below (hb0.mono hB)).1
  have hS0 := (hR'.below (hb0.mono hB')).1
  have x1 := hp.below (hb0.mono hB)
  have y1 := hp'.below (hb0.mono hB')
  have x2 := hb.below (hb0.mono hB)
  have y2 := hb'.below (hb0.mono hB')
  have HK1 := Lib.hid K1
  have HK2 := Lib.hid K2
  have hw0 := hb0.size
  clear hR hR' hp hp' hb hb' K1 K2
  go_enter Try.func42, Try.ntmps42
  go_wp2_with fail
  refine (eqByteS_c f.name pA qA pc qc B B' _ (by omega) hR0 hS0).mono ?_
  rintro e' w1 ⟨rfl, m, rfl⟩
  have b1 := below_drewN hb0 m
  go_wp2_with fail
  refine (eqByteSS_c f.params pA1 qA1 pc1 qc1 L B L' B' _ (by simp; omega) (by simp; omega) (by omega) (BsL.drewN_ m x1) (BsL.drewN_ m y1)).mono ?_
  rintro e' w2 ⟨rfl, hc2⟩
  have b2 := b1.trans (hc2.mono b1.size)
  have K12 := (Blk.drewN_ m HK1.out).below hc2 (Blk.drewN_ m HK1.out).lt
  have K22 := (Blk.drewN_ m HK2.out).below hc2 (Blk.drewN_ m HK2.out).lt
  have h12 := (StL.drewN_ m x2).below (hc2.mono (by simp; omega))
  have h22 := (StL.drewN_ m y2).below (hc2.mono (by simp; omega))
  have s2 := b2.size
  have p2 := K12.cell_of 2 rfl
  have q2 := K22.cell_of 2 rfl
  clear hc2 x1 y1 x2 y2 hR0 hS0
  go_wp2_with fail
  refine (eqStS_c f.body pA2 qA2 pc2 qc2 L B L' B' w2 (by omega) (by omega) (by omega) h12 h22).mono ?_
  rintro e' w3 ⟨rfl, hc3⟩
  go_wp2
  go_ret
  exact ⟨rfl, b2.trans (hc3.mono b2.size)⟩

set_option maxRecDepth 100000 in
set_option maxHeartbeats 1000000 in
theorem eqFuncS_c (l : List Fn) (A A' : Option Addr) (c c' L B L' B' : Nat) (w : World) (hB : B ≤ w.heap.size) (hB' : B' ≤ w.heap.size) (hl : fnsSz l ≤ 1048576) (h : FnL w L B A l) (h' : FnL w L' B' A' l) :
    Calls Try.prog 55 #[.slice A l.length c, .slice A' l.length c'] w fun r w' => r = .returned (.bool true) ∧ Below w.heap.size w w' := by
  have hlen : l.length ≤ fnsSz l := by unfold fnsSz; omega
  go_enter Try.func55, Try.ntmps55
  go_wp2
  go_loopw [5] (fun i wr => ∃ (k : Nat), k ≤ l.length ∧ i = .int .i64 k ∧ Below w.heap.size w wr) (fun i _ => l.length - (intOf i).toNat)
  case atStart => exact ⟨0, Nat.zero_le _, rfl, Below.refl _ _⟩
  case round =>
    obtain ⟨k, hk, rfl, hbl⟩ := hrel
    by_cases hlt : k < l.length
    · obtain ⟨ad, rfl, _, hb, hat⟩ := (h.below (hbl.mono hB)).2 (by omega)
      obtain ⟨v0, v1, v2, ⟨c0, c1, c2⟩, hv⟩ := hat k hlt
      obtain ⟨ad', rfl, _, hb', hat'⟩ := (h'.below (hbl.mono hB')).2 (by omega)
      obtain ⟨u0, u1, u2, ⟨d0, d1, d2⟩, hu⟩ := hat' k hlt
      have hsz1 := fnsSz_get hlt
      have hc := eqFunc_c l[k] v0 v1 v2 u0 u1 u2 wr.drew L B L' B' (FnV.keep (w := wr) (w' := wr.drew) hv (fun _ _ _ => rfl)) (FnV.keep (w := wr) (w' := wr.drew) hu (fun _ _ _ => rfl)) (Nat.le_trans hB hbl.size) (Nat.le_trans hB' hbl.size) (by omega)
      obtain ⟨xA, xc, xA1, xc1, xA2, xc2, rfl, rfl, rfl, _⟩ := hv
      obtain ⟨yA, yc, yA1, yc1, yA2, yc2, rfl, rfl, rfl, _⟩ := hu
      have Hc := Lib.hid hc
      clear hc hat hat'
      go_wp2
      go_still_tail 8, (by kernel_rfl)
      change wpList _ _ _ _ _ wr.drew
      go_wp2_with fail
      refine Hc.out.mono ?_
      rintro e w1 ⟨rfl, hb1⟩
      go_wp2
      go_roundw
      case rel => exact ⟨k + 1, by omega, by go_num, hbl.drew.trans (hb1.mono hbl.size)⟩
      case measure => simp [intOf]; omega
    · go_wp2
      go_ret
      exact ⟨rfl, hbl⟩


set_option maxHeartbeats 2000000 in
theorem eqProg_c (l : List Fn) (A A' : Option Addr) (c c' L B L' B' : Nat) (w : World) (hB : B ≤ w.heap.size) (hB' : B' ≤ w.heap.size) (hl : fnsSz l ≤ 1048576) (h : FnL w L B A l) (h' : FnL w L' B' A' l) :
    Calls Try.prog 18 #[.agg #[.slice A l.length c], .agg #[.slice A' l.length c']] w fun r w' => r = .returned (.bool true) ∧ Below w.heap.size w w' := by
  have hb0 : Below w.heap.size w ((w.alloc (.cells #[.slice A l.length c] 29)).alloc (.cells #[.slice A' l.length c'] 29)) := ((Below.refl _ _).alloc (Nat.le_refl _) _).alloc (by simp) _
  have x1 := h.below (hb0.mono hB)
  have y1 := h'.below (hb0.mono hB')
  go_enter Try.func18, Try.ntmps18
  go_wp2_with fail
  refine (eqFuncS_c l A A' c c' L B L' B' _ (by simp; omega) (by simp; omega) hl x1 y1).mono ?_
  rintro e w1 ⟨rfl, hb1⟩
  go_wp2
  go_ret
  exact ⟨rfl, hb0.trans (hb1.mono hb0.size)⟩
end Go.Proofs.Ytofnkhejpkfokaa
