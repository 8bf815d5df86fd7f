/-
  Arenas: the laws' own likeness of two that read the same.
-/
import Derived.Test.YtebgigiakfjocaaDoorArnTo
namespace Go.Proofs.YtebgigiakfjocaaDoor
open Go.RowKit
set_option linter.unusedVariables false

theorem eqVal_c (k n g : Int) (w : World) :
    Calls Tryd.prog 149 #[.agg #[.int .i64 k, .int .i64 n, .int .i64 g], .agg #[.int .i64 k, .int .i64 n, .int .i64 g]] w fun e w' => e = .returned (.bool true) ∧ Below w.heap.size w w' := by
  go_enter Tryd.func149, Tryd.ntmps149
  go_wp2
  go_ret
  exact ⟨rfl, ((Below.refl _ _).alloc (Nat.le_refl _) _).alloc (by simp) _⟩

theorem eqField_c (f : Fd) (v0 v1 v2 v3 u0 u1 u2 u3 : Value) (w : World) (L B L' B' : Nat) (hv : FdV w L B v0 v1 v2 v3 f) (hu : FdV w L' B' u0 u1 u2 u3 f) (hB : B ≤ w.heap.size) (hB' : B' ≤ w.heap.size) (hsz : fdSz f ≤ 1048576) :
    Calls Tryd.prog 128 #[.agg #[v0, v1, v2, v3], .agg #[u0, u1, u2, u3]] w fun r w' => r = .returned (.bool true) ∧ Below w.heap.size w w' := by
  obtain ⟨A, c, rfl, hR, hm, rfl, rfl, rfl⟩ := hv
  obtain ⟨D, d, rfl, hS, _, rfl, rfl, rfl⟩ := hu
  obtain ⟨l, k, n, gn⟩ := f
  unfold fdSz at hsz
  dsimp only at *
  have hb0 : Below w.heap.size w ((w.alloc (.cells #[.slice A l.length c, .int .i64 k, .int .i64 n, .int .i64 gn] 76)).alloc (.cells #[.slice D l.length d, .int .i64 k, .int .i64 n, .int .i64 gn] 76)) :=
    ((Below.refl _ _).alloc (Nat.le_refl _) _).alloc (by simp) _
  have hR0 := (hR.keep (fun p _ hp => (hb0.mono hB).cell hp)).1
  have hS0 := (hS.keep (fun p _ hp => (hb0.mono hB').cell hp)).1
  go_enter Tryd.func128, Tryd.ntmps128
  go_wp2_with fail
  refine (eqByteS_c l A D c d B B' _ (by omega) hR0 hS0).mono ?_
  rintro e w1 ⟨rfl, m, rfl⟩
  go_wp2_with fail
  refine (eqVal_c k n gn _).mono ?_
  rintro e w2 ⟨rfl, hb2⟩
  go_wp2
  go_ret
  exact ⟨rfl, (blw_drewN hb0 m).trans (hb2.mono (blw_drewN hb0 m).size)⟩

set_option maxRecDepth 100000 in
set_option maxHeartbeats 1000000 in
theorem eqFieldS_c (l : List Fd) (A A' : Option Addr) (c c' L B L' B' : Nat) (w : World) (hB : B ≤ w.heap.size) (hB' : B' ≤ w.heap.size) (hl : fsSz l ≤ 1048576) (h : FdL w L B A l) (h' : FdL w L' B' A' l) :
    Calls Tryd.prog 105 #[.slice A l.length c, .slice A' l.length c'] w fun r w' => r = .returned (.bool true) ∧ Below w.heap.size w w' := by
  have hlen : l.length ≤ 1048576 := by unfold fsSz at hl; omega
  go_enter Tryd.func105, Tryd.ntmps105
  go_wp2
  go_loopw [5] (fun i wr => ∃ (k : Nat), k ≤ l.length ∧ i = .int .i64 k ∧ Below w.heap.size w wr) (fun i _ => l.length - (intOf i).toNat)
  case atStart => exact ⟨0, Nat.zero_le _, rfl, Below.refl _ _⟩
  case round =>
    obtain ⟨k, hk, rfl, hbl⟩ := hrel
    by_cases hlt : k < l.length
    · obtain ⟨ad, rfl, _, hb, hat⟩ := (h.below (hbl.mono hB)).2 (by omega)
      obtain ⟨v0, v1, v2, v3, ⟨c0, c1, c2, c3⟩, hv⟩ := hat k hlt
      obtain ⟨ad', rfl, _, hb', hat'⟩ := (h'.below (hbl.mono hB')).2 (by omega)
      obtain ⟨u0, u1, u2, u3, ⟨d0, d1, d2, d3⟩, hu⟩ := hat' k hlt
      have hsz1 : fdSz l[k] ≤ 1048576 := by have := sum_get fdSz hlt; unfold fsSz at hl; omega
      have hc := eqField_c l[k] v0 v1 v2 v3 u0 u1 u2 u3 wr.drew L B L' B' (FdV.keep (w := wr) (w' := wr.drew) hv (fun _ _ _ => rfl)) (FdV.keep (w := wr) (w' := wr.drew) hu (fun _ _ _ => rfl)) (Nat.le_trans hB hbl.size) (Nat.le_trans hB' hbl.size) hsz1
      have Hc := Lib.hid hc
      clear hc hat hat'
      go_wp2
      go_still_tail 8, (by kernel_rfl)
      change wpList _ _ _ _ _ wr.drew
      go_wp2_with fail
      refine Hc.out.mono ?_
      rintro e w1 ⟨rfl, hb1⟩
      go_wp2
      go_roundw
      case rel => exact ⟨k + 1, by omega, by go_num, hbl.drew.trans (hb1.mono hbl.size)⟩
      case measure => simp [intOf]; omega
    · go_wp2
      go_ret
      exact ⟨rfl, hbl⟩

theorem eqSlot_c (f : Sl) (v0 v1 v2 v3 u0 u1 u2 u3 : Value) (w : World) (L B L' B' : Nat) (hv : SlV w L B v0 v1 v2 v3 f) (hu : SlV w L' B' u0 u1 u2 u3 f) (hB : B ≤ w.heap.size) (hB' : B' ≤ w.heap.size) (hsz : slSz f ≤ 1048576) :
    Calls Tryd.prog 83 #[.agg #[v0, v1, v2, v3], .agg #[u0, u1, u2, u3]] w fun r w' => r = .returned (.bool true) ∧ Below w.heap.size w w' := by
  obtain ⟨rfl, rfl, rfl, A, c, rfl, hx⟩ := hv
  obtain ⟨rfl, rfl, rfl, D, d, rfl, hy⟩ := hu
  obtain ⟨lv, gn, ct, l⟩ := f
  unfold slSz at hsz
  dsimp only at *
  have hb0 : Below w.heap.size w ((w.alloc (.cells #[.bool lv, .int .i64 gn, .int .i64 ct, .slice A l.length c] 72)).alloc (.cells #[.bool lv, .int .i64 gn, .int .i64 ct, .slice D l.length d] 72)) :=
    ((Below.refl _ _).alloc (Nat.le_refl _) _).alloc (by simp) _
  have hx0 := hx.below (hb0.mono hB)
  have hy0 := hy.below (hb0.mono hB')
  go_enter Tryd.func83, Tryd.ntmps83
  go_wp2_with fail
  refine (eqFieldS_c l A D c d L B L' B' _ (by simp; omega) (by simp; omega) hsz hx0 hy0).mono ?_
  rintro e w2 ⟨rfl, hb2⟩
  go_wp2
  go_ret
  exact ⟨rfl, hb0.trans (hb2.mono hb0.size)⟩

set_option maxRecDepth 100000 in
set_option maxHeartbeats 1000000 in
theorem eqSlotS_c (l : List Sl) (A A' : Option Addr) (c c' L B L' B' : Nat) (w : World) (hB : B ≤ w.heap.size) (hB' : B' ≤ w.heap.size) (hl : slsSz l ≤ 1048576) (h : SlL w L B A l) (h' : SlL w L' B' A' l) :
    Calls Tryd.prog 47 #[.slice A l.length c, .slice A' l.length c'] w fun r w' => r = .returned (.bool true) ∧ Below w.heap.size w w' := by
  have hlen : l.length ≤ 1048576 := by unfold slsSz at hl; omega
  go_enter Tryd.func47, Tryd.ntmps47
  go_wp2
  go_loopw [5] (fun i wr => ∃ (k : Nat), k ≤ l.length ∧ i = .int .i64 k ∧ Below w.heap.size w wr) (fun i _ => l.length - (intOf i).toNat)
  case atStart => exact ⟨0, Nat.zero_le _, rfl, Below.refl _ _⟩
  case round =>
    obtain ⟨k, hk, rfl, hbl⟩ := hrel
    by_cases hlt : k < l.length
    · obtain ⟨ad, rfl, _, hb, hat⟩ := (h.below (hbl.mono hB)).2 (by omega)
      obtain ⟨v0, v1, v2, v3, ⟨c0, c1, c2, c3⟩, hv⟩ := hat k hlt
      obtain ⟨ad', rfl, _, hb', hat'⟩ := (h'.below (hbl.mono hB')).2 (by omega)
      obtain ⟨u0, u1, u2, u3, ⟨d0, d1, d2, d3⟩, hu⟩ := hat' k hlt
      have hsz1 : slSz l[k] ≤ 1048576 := by have := sum_get slSz hlt; unfold slsSz at hl; omega
      have hc := eqSlot_c l[k] v0 v1 v2 v3 u0 u1 u2 u3 wr.drew L B L' B' (SlV.keep (w := wr) (w' := wr.drew) hv (fun _ _ _ => rfl)) (SlV.keep (w := wr) (w' := wr.drew) hu (fun _ _ _ => rfl)) (Nat.le_trans hB hbl.size) (Nat.le_trans hB' hbl.size) hsz1
      have Hc := Lib.hid hc
      clear hc hat hat'
      go_wp2
      go_still_tail 8, (by kernel_rfl)
      change wpList _ _ _ _ _ wr.drew
      go_wp2_with fail
      refine Hc.out.mono ?_
      rintro e w1 ⟨rfl, hb1⟩
      go_wp2
      go_roundw
      case rel => exact ⟨k + 1, by omega, by go_num, hbl.drew.trans (hb1.mono hbl.size)⟩
      case measure => simp [intOf]; omega
    · go_wp2
      go_ret
      exact ⟨rfl, hbl⟩

set_option maxHeartbeats 400000 in
theorem eqIntS_c (l : List Int) (A A' : Option Addr) (c c' L B L' B' : Nat) (w : World) (h : IL w L B A l) (h' : IL w L' B' A' l) :
    Calls Tryd.prog 48 #[.slice A l.length c, .slice A' l.length c'] w fun e w' => e = .returned (.bool true) ∧ ∃ n, w' = w.drewN n := by
  have hm := h.1
  unfold maxLen at hm
  go_enter Tryd.func48, Tryd.ntmps48
  go_wp2
  go_loopw [5] (fun i wr => ∃ (k : Nat), k ≤ l.length ∧ i = .int .i64 k ∧ ∃ n, wr = w.drewN n) (fun i _ => l.length - (intOf i).toNat)
  case atStart => exact ⟨0, Nat.zero_le _, rfl, 0, rfl⟩
  case round =>
    obtain ⟨k, hk, rfl, n, rfl⟩ := hrel
    by_cases hlt : k < l.length
    · obtain ⟨ad, rfl, _, hb, hcell⟩ := h.2 (by omega)
      obtain ⟨ad', rfl, _, hb', hcell'⟩ := h'.2 (by omega)
      have h1 := hcell k hlt
      have h2 := hcell' k hlt
      clear hcell hcell'
      go_wp2
      go_quiet (fail)
      go_wp2
      go_roundw
      case rel => exact ⟨k + 1, by omega, by go_num, _, rfl⟩
      case measure => simp [intOf]; omega
    · go_wp2
      go_ret
      exact ⟨rfl, _, rfl⟩

set_option maxHeartbeats 1000000 in
theorem eqArena_c (a : Ar) (A0 A1 A2 D0 D1 D2 : Option Addr) (c0 c1 c2 d0 d1 d2 L B L' B' : Nat) (w : World) (hB : B ≤ w.heap.size) (hB' : B' ≤ w.heap.size) (hl : arSz a ≤ 1048576) (h : ArL w L B A0 A1 A2 a) (h' : ArL w L' B' D0 D1 D2 a) :
    Calls Tryd.prog 14 #[.agg #[.slice A0 a.slots.length c0, .slice A1 a.queue.length c1, .slice A2 a.purple.length c2], .agg #[.slice D0 a.slots.length d0, .slice D1 a.queue.length d1, .slice D2 a.purple.length d2]] w fun e w' => e = .returned (.bool true) ∧ Below w.heap.size w w' := by
  obtain ⟨S, Q, P⟩ := a
  obtain ⟨hS, hQ, hP⟩ := h
  obtain ⟨hS', hQ', hP'⟩ := h'
  unfold arSz at hl
  dsimp only at *
  have hb0 : Below w.heap.size w ((w.alloc (.cells #[.slice A0 S.length c0, .slice A1 Q.length c1, .slice A2 P.length c2] 31)).alloc (.cells #[.slice D0 S.length d0, .slice D1 Q.length d1, .slice D2 P.length d2] 31)) :=
    ((Below.refl _ _).alloc (Nat.le_refl _) _).alloc (by simp) _
  have hS0 := hS.below (hb0.mono hB)
  have hS1 := hS'.below (hb0.mono hB')
  go_enter Tryd.func14, Tryd.ntmps14
  go_wp2_with fail
  refine (eqSlotS_c S A0 D0 c0 d0 L B L' B' _ (by simp; omega) (by simp; omega) (by omega) hS0 hS1).mono ?_
  rintro e w2 ⟨rfl, hb2⟩
  have K0 : Blk w2 w.heap.size 31 #[.slice A0 S.length c0, .slice A1 Q.length c1, .slice A2 P.length c2] := ((Blk.new w 31 _).alloc _).below hb2 (by simp; omega)
  have K1 : Blk w2 (w.heap.size + 1) 31 #[.slice D0 S.length d0, .slice D1 Q.length d1, .slice D2 P.length d2] := by
    have := Blk.new (w.alloc (.cells #[.slice A0 S.length c0, .slice A1 Q.length c1, .slice A2 P.length c2] 31)) 31 #[.slice D0 S.length d0, .slice D1 Q.length d1, .slice D2 P.length d2]
    exact Blk.below (by simpa using this) hb2 (by simp)
  have hbw := hb0.trans (hb2.mono hb0.size)
  have a1 := K0.cel 1 rfl
  have a2 := K0.cel 2 rfl
  have b1 := K1.cel 1 rfl
  have b2 := K1.cel 2 rfl
  clear hb2
  go_wp2_with fail
  refine (eqIntS_c Q A1 D1 c1 d1 L B L' B' w2 (hQ.below (hbw.mono hB)) (hQ'.below (hbw.mono hB'))).mono ?_
  rintro e w3 ⟨rfl, m, rfl⟩
  have a2' : (w2.drewN m).cell? ⟨w.heap.size, 2, none⟩ = some (.slice A2 P.length c2) := a2
  have b2' : (w2.drewN m).cell? ⟨w.heap.size + 1, 2, none⟩ = some (.slice D2 P.length d2) := b2
  go_wp2_with fail
  refine (eqIntS_c P A2 D2 c2 d2 L B L' B' (w2.drewN m) (hP.below (blw_drewN (hbw.mono hB) m)) (hP'.below (blw_drewN (hbw.mono hB') m))).mono ?_
  rintro e w3 ⟨rfl, m', rfl⟩
  go_wp2
  go_ret
  exact ⟨rfl, blw_drewN hbw (m + m')⟩
end Go.Proofs.YtebgigiakfjocaaDoor
