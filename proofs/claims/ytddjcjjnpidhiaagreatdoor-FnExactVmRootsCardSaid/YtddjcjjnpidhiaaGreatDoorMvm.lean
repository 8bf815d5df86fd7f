/-
  The laws' own size, copy, likeness of frames and machines.
-/
import Derived.Test.YtddjcjjnpidhiaaGreatDoorMfrm
import Derived.Test.YtddjcjjnpidhiaaGreatDoorMcode
import Derived.Test.YtddjcjjnpidhiaaGreatDoorMarn
import Derived.Test.YtddjcjjnpidhiaaGreatDoorMcodeN
namespace Go.Proofs.YtddjcjjnpidhiaaGreatDoor
open Go.RowKit
set_option linter.unusedVariables false

theorem eqFrame_c (f : Fr) (v0 v1 v2 v3 u0 u1 u2 u3 : Value) (w : World) (L B L' B' : Nat) (hv : FrV w L B v0 v1 v2 v3 f) (hu : FrV w L' B' u0 u1 u2 u3 f) (hB : B ≤ w.heap.size) (hB' : B' ≤ w.heap.size) (hsz : frSz f ≤ 1048576) :
    Calls Tryz.prog 77 #[.agg #[v0, v1, v2, v3], .agg #[u0, u1, u2, u3]] w fun r w' => r = .returned (.bool true) ∧ Below w.heap.size w w' := by
  obtain ⟨rfl, rfl, rfl, A, c, rfl, hx, hz⟩ := hv
  obtain ⟨rfl, rfl, rfl, D, d, rfl, hy, hz2⟩ := hu
  obtain ⟨lv, gn, ct, l⟩ := f
  unfold frSz at hsz
  dsimp only at *
  have hb0 : Below w.heap.size w ((w.alloc (.cells #[.int .i64 lv, .int .i64 gn, .int .i64 ct, .slice A l.length c] 60)).alloc (.cells #[.int .i64 lv, .int .i64 gn, .int .i64 ct, .slice D l.length d] 60)) :=
    ((Below.refl _ _).alloc (Nat.le_refl _) _).alloc (by simp) _
  have hx0 := hx.below (hb0.mono hB)
  have hy0 := hy.below (hb0.mono hB')
  go_enter Tryz.func77, Tryz.ntmps77
  go_wp2_with fail
  refine (eqValS_c l A D c d L B L' B' _ (by simp; omega) (by simp; omega) hsz hx0 hy0).mono ?_
  rintro e w2 ⟨rfl, hb2⟩
  go_wp2
  go_ret
  exact ⟨rfl, hb0.trans (hb2.mono hb0.size)⟩

set_option maxRecDepth 100000 in
set_option maxHeartbeats 1000000 in
theorem eqFrameS_c (l : List Fr) (A A' : Option Addr) (c c' L B L' B' : Nat) (w : World) (hB : B ≤ w.heap.size) (hB' : B' ≤ w.heap.size) (hl : frsSz l ≤ 1048576) (h : FrL w L B A l) (h' : FrL w L' B' A' l) :
    Calls Tryz.prog 45 #[.slice A l.length c, .slice A' l.length c'] w fun r w' => r = .returned (.bool true) ∧ Below w.heap.size w w' := by
  have hlen : l.length ≤ 1048576 := by unfold frsSz at hl; omega
  go_enter Tryz.func45, Tryz.ntmps45
  go_wp2
  go_loopw [5] (fun i wr => ∃ (k : Nat), k ≤ l.length ∧ i = .int .i64 k ∧ Below w.heap.size w wr) (fun i _ => l.length - (intOf i).toNat)
  case atStart => exact ⟨0, Nat.zero_le _, rfl, Below.refl _ _⟩
  case round =>
    obtain ⟨k, hk, rfl, hbl⟩ := hrel
    by_cases hlt : k < l.length
    · obtain ⟨ad, rfl, _, hb, hat⟩ := (h.below (hbl.mono hB)).2 (by omega)
      obtain ⟨v0, v1, v2, v3, ⟨c0, c1, c2, c3⟩, hv⟩ := hat k hlt
      obtain ⟨ad', rfl, _, hb', hat'⟩ := (h'.below (hbl.mono hB')).2 (by omega)
      obtain ⟨u0, u1, u2, u3, ⟨d0, d1, d2, d3⟩, hu⟩ := hat' k hlt
      have hsz1 : frSz l[k] ≤ 1048576 := by have := sum_get frSz hlt; unfold frsSz at hl; omega
      have hc := eqFrame_c l[k] v0 v1 v2 v3 u0 u1 u2 u3 wr.drew L B L' B' (FrV.keep (w := wr) (w' := wr.drew) hv (fun _ _ _ => rfl)) (FrV.keep (w := wr) (w' := wr.drew) hu (fun _ _ _ => rfl)) (Nat.le_trans hB hbl.size) (Nat.le_trans hB' hbl.size) hsz1
      have Hc := Lib.hid hc
      clear hc hat hat'
      go_wp2
      go_still_tail 8, (by kernel_rfl)
      change wpList _ _ _ _ _ wr.drew
      go_wp2_with fail
      refine Hc.out.mono ?_
      rintro e w1 ⟨rfl, hb1⟩
      go_wp2
      go_roundw
      case rel => exact ⟨k + 1, by omega, by go_num, hbl.drew.trans (hb1.mono hbl.size)⟩
      case measure => simp [intOf]; omega
    · go_wp2
      go_ret
      exact ⟨rfl, hbl⟩
end Go.Proofs.YtddjcjjnpidhiaaGreatDoor

namespace Go.Proofs.YtddjcjjnpidhiaaGreatDoor
open Go.RowKit
set_option linter.unusedVariables false

theorem eqByteB_c (l : List UInt8) (A A' : Option Addr) (c c' B B' : Nat) (w : World) (hl : l.length ≤ 4294967296) (h : RB w B A l) (h' : RB w B' A' l) :
    Calls Tryz.prog 46 #[.slice A l.length c, .slice A' l.length c'] w fun e w' => e = .returned (.bool true) ∧ Below w.heap.size w w' := by
  refine (eqByteS_c l A A' c c' B B' w hl h h').mono ?_
  rintro e w1 ⟨rfl, m, rfl⟩
  exact ⟨rfl, blw_drewN (Below.refl _ _) m⟩

set_option maxHeartbeats 4000000 in
theorem eqVm_c (m : Ma) (A0 A1 A2 A3 A4 A5 D0 D1 D2 D3 D4 D5 : Option Addr) (c0 c1 c2 c3 c4 c5 d0 d1 d2 d3 d4 d5 L B L' B' : Nat) (w : World) (hB : B ≤ w.heap.size) (hB' : B' ≤ w.heap.size) (hl : maSz m ≤ 1048576) (h : MaL w L B A0 A1 A2 A3 A4 A5 m) (h' : MaL w L' B' D0 D1 D2 D3 D4 D5 m) :
    Calls Tryz.prog 12 #[.agg (maV A0 A1 A2 A3 A4 A5 c0 c1 c2 c3 c4 c5 m), .agg (maV D0 D1 D2 D3 D4 D5 d0 d1 d2 d3 d4 d5 m)] w fun e w' => e = .returned (.bool true) ∧ Below w.heap.size w w' := by
  obtain ⟨co, a, F, lg, tk, st⟩ := m
  obtain ⟨hC, hA, hF, hN, hlg⟩ := h
  obtain ⟨hC', hA', hF', hN', _⟩ := h'
  unfold maV
  unfold maSz at hl
  dsimp only at *
  have hb0 : Below w.heap.size w ((w.alloc (.cells #[.slice A0 co.length c0, .slice A1 a.slots.length c1, .slice A2 a.queue.length c2, .slice A3 a.purple.length c3, .slice A4 F.length c4, .slice A5 lg.length c5, .int .i64 tk, .int .i64 st] 43)).alloc (.cells #[.slice D0 co.length d0, .slice D1 a.slots.length d1, .slice D2 a.queue.length d2, .slice D3 a.purple.length d3, .slice D4 F.length d4, .slice D5 lg.length d5, .int .i64 tk, .int .i64 st] 43)) :=
    ((Below.refl _ _).alloc (Nat.le_refl _) _).alloc (by simp) _
  have hS0 := hC.below (hb0.mono hB)
  have hS1 := hC'.below (hb0.mono hB')
  go_enter Tryz.func12, Tryz.ntmps12
  go_wp2_with fail
  refine (Cod.eqCode_c co A0 D0 c0 d0 L B L' B' _ (by simp; omega) (by simp; omega) (by omega) hS0 hS1).mono ?_
  rintro e w1 ⟨rfl, hb1⟩
  have K0 : Blk w1 w.heap.size 43 #[.slice A0 co.length c0, .slice A1 a.slots.length c1, .slice A2 a.queue.length c2, .slice A3 a.purple.length c3, .slice A4 F.length c4, .slice A5 lg.length c5, .int .i64 tk, .int .i64 st] := ((Blk.new w 43 _).alloc _).below hb1 (by simp; omega)
  have K1 : Blk w1 (w.heap.size + 1) 43 #[.slice D0 co.length d0, .slice D1 a.slots.length d1, .slice D2 a.queue.length d2, .slice D3 a.purple.length d3, .slice D4 F.length d4, .slice D5 lg.length d5, .int .i64 tk, .int .i64 st] := by
    have := Blk.new (w.alloc (.cells #[.slice A0 co.length c0, .slice A1 a.slots.length c1, .slice A2 a.queue.length c2, .slice A3 a.purple.length c3, .slice A4 F.length c4, .slice A5 lg.length c5, .int .i64 tk, .int .i64 st] 43)) 43 #[.slice D0 co.length d0, .slice D1 a.slots.length d1, .slice D2 a.queue.length d2, .slice D3 a.purple.length d3, .slice D4 F.length d4, .slice D5 lg.length d5, .int .i64 tk, .int .i64 st]
    exact Blk.below (by simpa using this) hb1 (by simp)
  have hbw := hb0.trans (hb1.mono hb0.size)
  have a1 := K0.cel 1 rfl
  have b1 := K1.cel 1 rfl
  have a2 := K0.cel 2 rfl
  have b2 := K1.cel 2 rfl
  have a3 := K0.cel 3 rfl
  have b3 := K1.cel 3 rfl
  have Hq := Lib.hid (eqArena_c a A1 A2 A3 D1 D2 D3 c1 c2 c3 d1 d2 d3 L B L' B' w1 (Nat.le_trans hB hbw.size) (Nat.le_trans hB' hbw.size) (by omega) (hA.below (hbw.mono hB)) (hA'.below (hbw.mono hB')))
  have HK0 := Lib.hid K0
  have HK1 := Lib.hid K1
  have Hbw := Lib.hid hbw
  clear K0 K1 hbw hb1
  go_wp2_with fail
  refine Hq.out.mono ?_
  rintro e w2 ⟨rfl, hb2⟩
  have K0 := HK0.out.below hb2 HK0.out.lt
  have K1 := HK1.out.below hb2 HK1.out.lt
  have hbw := Hbw.out.trans (hb2.mono Hbw.out.size)
  clear a1 b1 a2 b2 a3 b3 HK0 HK1 Hbw Hq
  have a4 := K0.cel 4 rfl
  have b4 := K1.cel 4 rfl
  have Hq := Lib.hid (eqFrameS_c F A4 D4 c4 d4 L B L' B' w2 (Nat.le_trans hB hbw.size) (Nat.le_trans hB' hbw.size) (by omega) (hF.below (hbw.mono hB)) (hF'.below (hbw.mono hB')))
  have HK0 := Lib.hid K0
  have HK1 := Lib.hid K1
  have Hbw := Lib.hid hbw
  clear K0 K1 hbw hb2
  go_wp2_with fail
  refine Hq.out.mono ?_
  rintro e w3 ⟨rfl, hb3⟩
  have K0 := HK0.out.below hb3 HK0.out.lt
  have K1 := HK1.out.below hb3 HK1.out.lt
  have hbw := Hbw.out.trans (hb3.mono Hbw.out.size)
  clear a4 b4 HK0 HK1 Hbw Hq
  have a5 := K0.cel 5 rfl
  have b5 := K1.cel 5 rfl
  have Hq := Lib.hid (eqByteB_c lg A5 D5 c5 d5 B B' w3 (by omega) (hN.keep fun p _ hp => (hbw.mono hB).cell hp).1 (hN'.keep fun p _ hp => (hbw.mono hB').cell hp).1)
  have HK0 := Lib.hid K0
  have HK1 := Lib.hid K1
  have Hbw := Lib.hid hbw
  clear K0 K1 hbw hb3
  go_wp2_with fail
  refine Hq.out.mono ?_
  rintro e w4 ⟨rfl, hb4⟩
  have K0 := HK0.out.below hb4 HK0.out.lt
  have K1 := HK1.out.below hb4 HK1.out.lt
  have hbw := Hbw.out.trans (hb4.mono Hbw.out.size)
  clear a5 b5 HK0 HK1 Hbw Hq
  have a6 := K0.cel 6 rfl
  have b6 := K1.cel 6 rfl
  have a7 := K0.cel 7 rfl
  have b7 := K1.cel 7 rfl
  clear hb4
  go_wp2
  go_ret
  exact ⟨rfl, hbw⟩
end Go.Proofs.YtddjcjjnpidhiaaGreatDoor

namespace Go.Proofs.YtddjcjjnpidhiaaGreatDoor
open Go.RowKit
set_option linter.unusedVariables false

set_option maxHeartbeats 1000000 in
theorem szFrame_c (f : Fr) (v0 v1 v2 v3 : Value) (left : Int) (w : World) (L B : Nat) (hv : FrV w L B v0 v1 v2 v3 f) (h0 : 0 ≤ left) (h1 : left ≤ 1048576) :
    Calls Tryz.prog 56 #[.agg #[v0, v1, v2, v3], .int .i64 left] w (SzA (frSz f) left w) := by
  obtain ⟨rfl, rfl, rfl, A, c, rfl, hR, hz⟩ := hv
  have hm := hR.1
  unfold maxLen at hm
  unfold frSz
  have hs := szValS_c A f.regs.length c left (w.alloc (.cells #[.int .i64 f.unit, .int .i64 f.pc, .int .i64 f.dst, .slice A f.regs.length c] 88)) hm h0 h1
  have hbl : Below w.heap.size w (w.alloc (.cells #[.int .i64 f.unit, .int .i64 f.pc, .int .i64 f.dst, .slice A f.regs.length c] 88)) := (Below.refl _ _).alloc (Nat.le_refl _) _
  rcases lft_cases left f.regs.length with ⟨hlt, he⟩ | ⟨hge, he⟩
  · rw [he] at hs
    have Hs := Lib.hid hs
    clear he hs
    go_enter Tryz.func56, Tryz.ntmps56
    go_wp2_with fail
    refine Hs.out.mono ?_
    rintro e w' ⟨rfl, rfl⟩
    go_wp2
    go_ret
    exact ⟨-1, rfl, by omega, by omega, by omega, hbl⟩
  · rw [he] at hs
    have Hs := Lib.hid hs
    clear he hs
    go_enter Tryz.func56, Tryz.ntmps56
    go_wp2_with fail
    refine Hs.out.mono ?_
    rintro e w' ⟨rfl, rfl⟩
    go_wp2
    go_ret
    exact ⟨left - f.regs.length, rfl, by omega, by omega, fun _ => by omega, hbl⟩

set_option maxHeartbeats 1000000 in
theorem szFrameS_c (l : List Fr) (A : Option Addr) (c L B : Nat) (left : Int) (w : World) (hB : B ≤ w.heap.size) (h0 : 0 ≤ left) (h1 : left ≤ 1048576) (h : FrL w L B A l) :
    Calls Tryz.prog 27 #[.slice A l.length c, .int .i64 left] w (SzA (frsSz l) left w) := by
  have hn := h.1
  unfold maxLen at hn
  by_cases hlt : left - l.length < 0
  · go_enter Tryz.func27, Tryz.ntmps27
    go_wp2
    go_ret
    exact ⟨-1, rfl, by omega, by omega, by omega, Below.refl _ _⟩
  have hge : 0 ≤ left - l.length := by omega
  clear hlt
  have htot := sumIn_all frSz l
  have Htot := Lib.hid htot
  clear htot
  go_enter Tryz.func27, Tryz.ntmps27
  go_wp2
  go_loopw [1, 5] (fun s i wr => ∃ (k : Nat) (r : Int), k ≤ l.length ∧ i = .int .i64 k ∧ s = .int .i64 r ∧ 0 ≤ r ∧ (l.length : Int) + sumIn frSz l k + r ≤ left ∧ Below w.heap.size w wr) (fun _ i _ => l.length - (intOf i).toNat)
  case atStart => exact ⟨0, left - l.length, Nat.zero_le _, rfl, rfl, by omega, by simp [sumIn]; omega, Below.refl _ _⟩
  case round =>
    obtain ⟨k, r, hk, rfl, rfl, hr0, hr1, hbl⟩ := hrel
    by_cases hlt : k < l.length
    · obtain ⟨ad, rfl, _, hb, hat⟩ := (h.below (hbl.mono hB)).2 (by omega)
      obtain ⟨v0, v1, v2, v3, ⟨c0, c1, c2, c3⟩, hv⟩ := hat k hlt
      have hst := sumIn_step frSz hlt
      have hr2 : r ≤ 1048576 := by omega
      have hc := szFrame_c l[k] v0 v1 v2 v3 r wr L B hv hr0 hr2
      have Hc := Lib.hid hc
      clear hc hat
      go_wp2_with fail
      refine Hc.out.mono ?_
      rintro e w1 ⟨r1, rfl, q1, q2, q3, hb1⟩
      have hbn := hbl.trans (hb1.mono hbl.size)
      by_cases hr : r1 < 0
      · clear hst q3
        go_wp2
        go_ret
        exact ⟨-1, rfl, by omega, by omega, by omega, hbn⟩
      · have hr' : 0 ≤ r1 := by omega
        have q4 := q3 hr'
        have hst' : (sumIn frSz l (k + 1) : Int) ≤ sumIn frSz l k + frSz l[k] := by omega
        clear hst q3 hr
        go_wp2
        go_roundw
        case rel => exact ⟨k + 1, r1, by omega, by go_num, rfl, by omega, by omega, hbn⟩
        case measure => simp [intOf]; omega
    · go_wp2
      go_ret
      have : k = l.length := by omega
      subst this
      exact ⟨r, rfl, by omega, by omega, fun _ => by have := Htot.out; unfold frsSz; omega, hbl⟩
end Go.Proofs.YtddjcjjnpidhiaaGreatDoor

namespace Go.Proofs.YtddjcjjnpidhiaaGreatDoor
open Go.RowKit
set_option linter.unusedVariables false

set_option maxHeartbeats 2000000 in
theorem szVm_c (m : Ma) (A0 A1 A2 A3 A4 A5 : Option Addr) (c0 c1 c2 c3 c4 c5 L B : Nat) (left : Int) (w : World) (hB : B ≤ w.heap.size) (h0 : 0 ≤ left) (h1 : left ≤ 1048576) (h : MaL w L B A0 A1 A2 A3 A4 A5 m) :
    Calls Tryz.prog 8 #[.agg (maV A0 A1 A2 A3 A4 A5 c0 c1 c2 c3 c4 c5 m), .int .i64 left] w (SzA (maSz m) left w) := by
  obtain ⟨co, a, F, lg, tk, st⟩ := m
  obtain ⟨hC, hA, hF, hN, hlg⟩ := h
  unfold maV maSz
  dsimp only at *
  unfold maxLen at hlg
  have hbl : Below w.heap.size w (w.alloc (.cells #[.slice A0 co.length c0, .slice A1 a.slots.length c1, .slice A2 a.queue.length c2, .slice A3 a.purple.length c3, .slice A4 F.length c4, .slice A5 lg.length c5, .int .i64 tk, .int .i64 st] 32)) := (Below.refl _ _).alloc (Nat.le_refl _) _
  have hc := Cod.szCode_c co A0 c0 L B left (w.alloc (.cells #[.slice A0 co.length c0, .slice A1 a.slots.length c1, .slice A2 a.queue.length c2, .slice A3 a.purple.length c3, .slice A4 F.length c4, .slice A5 lg.length c5, .int .i64 tk, .int .i64 st] 32)) (by simp; omega) h0 h1 (hC.below (hbl.mono hB))
  have Hc := Lib.hid hc
  clear hc
  go_enter Tryz.func8, Tryz.ntmps8
  go_wp2_with fail
  refine Hc.out.mono ?_
  rintro e w1 ⟨r1, rfl, q1, q2, q3, hb1⟩
  have K1 : Blk w1 w.heap.size 32 #[.slice A0 co.length c0, .slice A1 a.slots.length c1, .slice A2 a.queue.length c2, .slice A3 a.purple.length c3, .slice A4 F.length c4, .slice A5 lg.length c5, .int .i64 tk, .int .i64 st] := (Blk.new w _ _).below hb1 (by simp)
  have d1 := K1.cel 1 rfl
  have d2 := K1.cel 2 rfl
  have d3 := K1.cel 3 rfl
  have hbn := hbl.trans (hb1.mono hbl.size)
  clear hb1
  by_cases hr : r1 < 0
  · clear q3
    go_wp2
    go_ret
    exact ⟨-1, rfl, by omega, by omega, by omega, hbn⟩
  have hr' : 0 ≤ r1 := by omega
  have q4 := q3 hr'
  clear q3 hr
  have hc := szArena_c a A1 A2 A3 c1 c2 c3 L B r1 w1 (Nat.le_trans hB hbn.size) hr' (by omega) (hA.below (hbn.mono hB))
  have Hc2 := Lib.hid hc
  have HK1 := Lib.hid K1
  clear hc K1 Hc
  go_wp2_with fail
  refine Hc2.out.mono ?_
  rintro e w2 ⟨r2, rfl, p1, p2, p3, hb2⟩
  have K2 := HK1.out.below hb2 HK1.out.lt
  have e4 := K2.cel 4 rfl
  have hbn2 := hbn.trans (hb2.mono hbn.size)
  clear hb2 d1 d2 d3
  by_cases hr2 : r2 < 0
  · clear p3
    go_wp2
    go_ret
    exact ⟨-1, rfl, by omega, by omega, by omega, hbn2⟩
  have hr2' : 0 ≤ r2 := by omega
  have p4 := p3 hr2'
  clear p3 hr2
  have hc := szFrameS_c F A4 c4 L B r2 w2 (Nat.le_trans hB hbn2.size) hr2' (by omega) (hF.below (hbn2.mono hB))
  have Hc3 := Lib.hid hc
  have HK2 := Lib.hid K2
  clear hc K2 Hc2 HK1
  go_wp2_with fail
  refine Hc3.out.mono ?_
  rintro e w3 ⟨r3, rfl, s1, s2, s3, hb3⟩
  have K3 := HK2.out.below hb3 HK2.out.lt
  have e5 := K3.cel 5 rfl
  have hbn3 := hbn2.trans (hb3.mono hbn2.size)
  clear hb3 e4 K3 HK2 Hc3
  by_cases hr3 : r3 < 0
  · clear s3
    go_wp2
    go_ret
    exact ⟨-1, rfl, by omega, by omega, by omega, hbn3⟩
  have hr3' : 0 ≤ r3 := by omega
  have s4 := s3 hr3'
  clear s3 hr3
  have hs := Cod.szBytes_c A5 lg.length c5 r3 w3 (by omega) hr3' (by omega)
  rcases lft_cases r3 lg.length with ⟨hlt, he⟩ | ⟨hge, he⟩
  · rw [he] at hs
    have Hs := Lib.hid hs
    clear he hs
    go_wp2_with fail
    refine Hs.out.mono ?_
    rintro e w' ⟨rfl, rfl⟩
    go_wp2
    go_ret
    exact ⟨-1, rfl, by omega, by omega, by omega, hbn3⟩
  rw [he] at hs
  have Hs := Lib.hid hs
  clear he hs
  go_wp2_with fail
  refine Hs.out.mono ?_
  rintro e w' ⟨rfl, rfl⟩
  go_wp2
  go_ret
  exact ⟨r3 - (lg.length : Int), rfl, by omega, by omega, fun _ => by omega, hbn3⟩
end Go.Proofs.YtddjcjjnpidhiaaGreatDoor

namespace Go.Proofs.YtddjcjjnpidhiaaGreatDoor
open Go.RowKit
set_option linter.unusedVariables false
namespace FrmN
open ArnN
set_option maxHeartbeats 2000000 in
theorem toFrame_n (f : Fr) (v0 v1 v2 v3 : Value) (L B : Nat) (w : World) (hB : B ≤ w.heap.size) (hl : frSz f ≤ 1048576) (hv : FrV w L B v0 v1 v2 v3 f) :
    Calls Tryz.prog 66 #[.agg #[v0, v1, v2, v3]] w fun e w' => ∃ g, e = .returned (.agg #[.int .i64 f.unit, .int .i64 f.pc, .int .i64 f.dst, .slice (some ⟨g, 0, none⟩) f.regs.length f.regs.length]) ∧
      VlR w' w.heap.size w'.heap.size (some ⟨g, 0, none⟩) f.regs ∧ Below w.heap.size w w' ∧ New w.heap.size w' := by
  obtain ⟨rfl, rfl, rfl, A, c, rfl, hx, hz⟩ := hv
  obtain ⟨lv, gn, ct, l⟩ := f
  unfold frSz at hl
  dsimp only at *
  have hb0 : Below w.heap.size w (((w.alloc (.cells #[.int .i64 lv, .int .i64 gn, .int .i64 ct, .slice A l.length c] 88)).alloc (.cells #[.int .i64 0, .int .i64 0, .int .i64 0, .slice none 0 0] 60)).alloc (.cells #[.int .i64 lv, .int .i64 gn, .int .i64 ct, .slice none 0 0] 60)) := (((Below.refl _ _).alloc (Nat.le_refl _) _).alloc (by simp) _).alloc (by simp; omega) _
  have hx0 := hx.below (hb0.mono hB)
  go_enter Tryz.func66, Tryz.ntmps66
  go_wp2_with fail
  refine (toValS_n l A c L B _ (by simp; omega) hl hx0).mono ?_
  rintro e w1 ⟨g1, rfl, hs1, hg1, hx1, hb1, hn1⟩
  have hnw1 := New.join ((((New.refl w).alloc _ _).alloc _ _).alloc _ _) hb1 hn1
  have K3 : Blk w1 (w.heap.size + 1 + 1) 60 #[.int .i64 lv, .int .i64 gn, .int .i64 ct, .slice none 0 0] :=
    Blk.below (by have := Blk.new ((w.alloc (.cells #[.int .i64 lv, .int .i64 gn, .int .i64 ct, .slice A l.length c] 88)).alloc (.cells #[.int .i64 0, .int .i64 0, .int .i64 0, .slice none 0 0] 60)) 60 #[.int .i64 lv, .int .i64 gn, .int .i64 ct, .slice none 0 0]; simpa using this) hb1 (by simp)
  have K2 : Blk w1 (w.heap.size + 1) 60 #[.int .i64 0, .int .i64 0, .int .i64 0, .slice none 0 0] :=
    Blk.below ((by have := Blk.new (w.alloc (.cells #[.int .i64 lv, .int .i64 gn, .int .i64 ct, .slice A l.length c] 88)) 60 #[.int .i64 0, .int .i64 0, .int .i64 0, .slice none 0 0]; simpa using this : Blk ((w.alloc (.cells #[.int .i64 lv, .int .i64 gn, .int .i64 ct, .slice A l.length c] 88)).alloc (.cells #[.int .i64 0, .int .i64 0, .int .i64 0, .slice none 0 0] 60)) (w.heap.size + 1) 60 _).alloc _) hb1 (by simp)
  have hg1' : w.heap.size + 1 + 1 + 1 ≤ g1 := by simpa using hg1
  have hbw : Below w.heap.size w w1 := hb0.trans (hb1.mono (by simp; omega))
  have n0 := K3.cel 0 rfl
  have n1 := K3.cel 1 rfl
  have n2 := K3.cel 2 rfl
  have n3 := K3.cel 3 rfl
  have m0 := K2.cel 0 rfl
  have m1 := K2.cel 1 rfl
  have m2 := K2.cel 2 rfl
  have m3 := K2.cel 3 rfl
  have x3 : w1.frozen? ⟨w.heap.size + 1 + 1, 3, none⟩ = false := K3.frozen 3
  have y0 : w1.frozen? ⟨w.heap.size + 1, 0, none⟩ = false := K2.frozen 0
  have y1 : w1.frozen? ⟨w.heap.size + 1, 1, none⟩ = false := K2.frozen 1
  have y2 : w1.frozen? ⟨w.heap.size + 1, 2, none⟩ = false := K2.frozen 2
  have y3 : w1.frozen? ⟨w.heap.size + 1, 3, none⟩ = false := K2.frozen 3
  have hs2 : w.heap.size + 1 + 1 < w1.heap.size := K3.lt
  have hx2 : VlR w1 (w.heap.size + 1 + 1 + 1) w1.heap.size (some ⟨g1, 0, none⟩) l := by simpa using hx1
  clear hb1 hg1 hx1 hx hx0 hb0 K3 K2
  go_wp2_with fail
  refine bodyPost_ret (v := .agg #[.int .i64 lv, .int .i64 gn, .int .i64 ct, .slice (some ⟨g1, 0, none⟩) l.length l.length]) (by simp [results, Tryz.results66, go_sem, m0, m1, m2, m3]) rfl
    ⟨g1, rfl, ?_, ?_, ?_⟩
  · refine (hx2.keep (fun p hp _ => ?_)).more (by omega) (by simp)
    rw [World.cell?_setCell_other _ _ _ _ (fun e => by subst e; simp at hp; omega), World.cell?_setCell_other _ _ _ _ (fun e => by subst e; simp at hp; omega), World.cell?_setCell_other _ _ _ _ (fun e => by subst e; simp at hp; omega), World.cell?_setCell_other _ _ _ _ (fun e => by subst e; simp at hp; omega), World.cell?_setCell_other _ _ _ _ (fun e => by subst e; simp at hp; omega)]
  · exact ((((hbw.setCell (by simp; omega) _).setCell (by simp) _).setCell (by simp) _).setCell (by simp) _).setCell (by simp) _
  · repeat (with_reducible first | exact hnw1 | apply New.set_)

set_option maxHeartbeats 2000000 in
theorem toFrameS_n (l : List Fr) (A : Option Addr) (c L B : Nat) (w : World) (hB : B ≤ w.heap.size) (hl : frsSz l ≤ 1048576) (h : FrL w L B A l) :
    Calls Tryz.prog 36 #[.slice A l.length c] w fun r w' => ∃ g, r = .returned (.slice (some ⟨g, 0, none⟩) l.length l.length) ∧ g < w'.heap.size ∧ w.heap.size ≤ g ∧ FrL w' w.heap.size w'.heap.size (some ⟨g, 0, none⟩) l ∧ Below w.heap.size w w' ∧ New w.heap.size w' := by
  obtain ⟨i0, hi, hz0, hz1, hz2⟩ := info_parts infoFr
  have hlen : l.length ≤ 1048576 := by unfold frsSz at hl; omega
  have hmk : ∀ u : World, (Instr.makeSlice 41 (.int .i64 (l.length : Int)) (.int .i64 (l.length : Int))).run Tryz.prog u =
      .ok (.slice (some ⟨u.heap.size, 0, none⟩) l.length l.length) (u.alloc (.cells (madeCells #[.int .i64 0, .int .i64 0, .int .i64 0, .slice none 0 0] (l.length * 4)) 60)) := fun u => by
    have h := run_make (P := Tryz.prog) u 41 60 i0 (.agg #[.int .i64 0, .int .i64 0, .int .i64 0, .slice none 0 0]) Tryz.underlying41 hi hz0 .i64 .i64 (l.length : Int) (l.length : Int) (by omega) (Int.le_refl _) (by rw [hz2]; omega) (by omega)
    rw [Int.toNat_natCast] at h
    simpa [hz1, Value.cells] using h
  clear hi hz0 hz1 hz2
  go_enter Tryz.func36, Tryz.ntmps36
  go_wp2
  go_loopw [4] (fun i wr => ∃ (k : Nat) (cs : Array Value), k ≤ l.length ∧ i = .int .i64 k ∧ cs.size = l.length * 4 ∧ Blk wr w.heap.size 60 cs ∧ RowP (FrV wr (w.heap.size + 1) wr.heap.size) cs l k ∧ Below w.heap.size w wr ∧ New w.heap.size wr) (fun i _ => l.length - (intOf i).toNat)
  case atStart => exact ⟨0, _, Nat.zero_le _, rfl, by simp [madeCells], Blk.new _ _ _, fun i _ hk => by omega, (Below.refl _ _).alloc (Nat.le_refl _) _, (New.refl w).alloc _ _⟩
  case round =>
    obtain ⟨k, cs, hk, rfl, hcs, hblk, hown, hbl, hnw⟩ := hrel
    have Hcs := Lib.hid hcs
    have Hown := Lib.hid hown
    clear hcs hown
    by_cases hlt : k < l.length
    · obtain ⟨ad, rfl, _, hb, hat⟩ := (h.below (hbl.mono hB)).2 (by omega)
      obtain ⟨v0, v1, v2, v3, ⟨c0, c1, c2, c3⟩, hv⟩ := hat k hlt
      have hsz1 : frSz l[k] ≤ 1048576 := by have := sum_get frSz hlt; unfold frsSz at hl; omega
      have hc := toFrame_n l[k] v0 v1 v2 v3 L B wr (Nat.le_trans hB hbl.size) hsz1 hv
      have Hc := Lib.hid hc
      clear hc hat
      go_wp2_with fail
      refine Hc.out.mono ?_
      rintro e w1 ⟨g1, rfl, hF1, hb1, hn1⟩
      have hnw1 := hnw.join hb1 hn1
      have hu : FrV w1 (w.heap.size + 1) w1.heap.size (.int .i64 l[k].unit) (.int .i64 l[k].pc) (.int .i64 l[k].dst) (.slice (some ⟨g1, 0, none⟩) l[k].regs.length l[k].regs.length) l[k] :=
        ⟨rfl, rfl, rfl, _, _, rfl, hF1.more (by have := hblk.lt; omega) (Nat.le_refl _), fun h => by cases h⟩
      have hblk1 := hblk.below hb1 hblk.lt
      have hsz := Hcs.out
      obtain ⟨x0, e0⟩ : ∃ v, cs[k * 4]? = some v := ⟨_, Array.getElem?_eq_getElem (by omega)⟩
      obtain ⟨x1, e1⟩ : ∃ v, cs[k * 4 + 1]? = some v := ⟨_, Array.getElem?_eq_getElem (by omega)⟩
      obtain ⟨x2, e2⟩ : ∃ v, cs[k * 4 + 2]? = some v := ⟨_, Array.getElem?_eq_getElem (by omega)⟩
      obtain ⟨x3, e3⟩ : ∃ v, cs[k * 4 + 3]? = some v := ⟨_, Array.getElem?_eq_getElem (by omega)⟩
      have q0 : w1.cell? ⟨w.heap.size, k * 4, none⟩ = some x0 := by rw [hblk1.cell]; exact e0
      have q1 : w1.cell? ⟨w.heap.size, k * 4 + 1, none⟩ = some x1 := by rw [hblk1.cell]; exact e1
      have q2 : w1.cell? ⟨w.heap.size, k * 4 + 2, none⟩ = some x2 := by rw [hblk1.cell]; exact e2
      have q3 : w1.cell? ⟨w.heap.size, k * 4 + 3, none⟩ = some x3 := by rw [hblk1.cell]; exact e3
      have z0 : w1.frozen? ⟨w.heap.size, k * 4, none⟩ = false := hblk1.frozen _
      have z1 : w1.frozen? ⟨w.heap.size, k * 4 + 1, none⟩ = false := hblk1.frozen _
      have z2 : w1.frozen? ⟨w.heap.size, k * 4 + 2, none⟩ = false := hblk1.frozen _
      have z3 : w1.frozen? ⟨w.heap.size, k * 4 + 3, none⟩ = false := hblk1.frozen _
      have hlt1 := hblk.lt
      have hbl1 := hbl.trans (hb1.mono hbl.size)
      have hfin := (Hown.out.mono (V' := FrV w1 (w.heap.size + 1) w1.heap.size) (fun _ _ _ _ _ hv => (FrV.keep hv (fun _ _ hp => hb1.cell hp)).more (Nat.le_refl _) hb1.size)).step hlt (by omega) hu
      have hfin2 := hfin.mono (V' := FrV ((((w1.setCell ⟨w.heap.size, k * 4, none⟩ (.int .i64 l[k].unit)).setCell ⟨w.heap.size, k * 4 + 1, none⟩ (.int .i64 l[k].pc)).setCell ⟨w.heap.size, k * 4 + 2, none⟩ (.int .i64 l[k].dst)).setCell ⟨w.heap.size, k * 4 + 3, none⟩ (.slice (some ⟨g1, 0, none⟩) l[k].regs.length l[k].regs.length)) (w.heap.size + 1) w1.heap.size)
        (fun _ _ _ _ _ hv => FrV.keep hv (fun p hp _ => by
          rw [World.cell?_setCell_other _ _ _ _ (fun e => by subst e; simp at hp; omega), World.cell?_setCell_other _ _ _ _ (fun e => by subst e; simp at hp; omega), World.cell?_setCell_other _ _ _ _ (fun e => by subst e; simp at hp; omega), World.cell?_setCell_other _ _ _ _ (fun e => by subst e; simp at hp; omega)]))
      have Hfin := Lib.hid hfin2
      clear hsz e0 e1 e2 e3 hfin hfin2 hu
      go_wp2
      go_roundw
      case rel =>
        exact ⟨k + 1, _, by omega, by go_num, by rw [pt4_size]; exact Hcs.out, hblk1.pt4 (k * 4) _ _ _ _, by simpa only [World.size_setCell] using Hfin.out, (((hbl1.setCell (by simp) _).setCell (by simp) _).setCell (by simp) _).setCell (by simp) _, (((hnw1.set_ _ _).set_ _ _).set_ _ _).set_ _ _⟩
      case measure => simp [intOf]; omega
    · go_wp2
      go_ret
      have : k = l.length := by omega
      subst this
      exact ⟨_, rfl, hblk.lt, Nat.le_refl _, Hown.out.row (by unfold maxLen; omega) hblk (Nat.le_refl _) |>.more (Nat.le_refl _) (Nat.le_refl _) (fun _ _ _ _ _ hv => FrV.more hv (by omega) (Nat.le_refl _)), hbl, hnw⟩
end FrmN
end Go.Proofs.YtddjcjjnpidhiaaGreatDoor

namespace Go.Proofs.YtddjcjjnpidhiaaGreatDoor
open Go.RowKit
set_option linter.unusedVariables false
namespace FrmN
open ArnN
set_option maxRecDepth 100000 in
set_option maxHeartbeats 8000000 in
theorem toVm_n (m : Ma) (A0 A1 A2 A3 A4 A5 : Option Addr) (c0 c1 c2 c3 c4 c5 L B : Nat) (w : World) (hB : B ≤ w.heap.size) (hl : maSz m ≤ 1048576) (h : MaL w L B A0 A1 A2 A3 A4 A5 m) :
    Calls Tryz.prog 10 #[.agg (maV A0 A1 A2 A3 A4 A5 c0 c1 c2 c3 c4 c5 m)] w fun e w' => ∃ g1 g2 g3 g4 g5 g6,
      e = .returned (.agg (maV (some ⟨g1, 0, none⟩) (some ⟨g2, 0, none⟩) (some ⟨g3, 0, none⟩) (some ⟨g4, 0, none⟩) (some ⟨g5, 0, none⟩) (some ⟨g6, 0, none⟩) m.code.length m.arena.slots.length m.arena.queue.length m.arena.purple.length m.frames.length m.log.length m)) ∧
      MaL w' w.heap.size w'.heap.size (some ⟨g1, 0, none⟩) (some ⟨g2, 0, none⟩) (some ⟨g3, 0, none⟩) (some ⟨g4, 0, none⟩) (some ⟨g5, 0, none⟩) (some ⟨g6, 0, none⟩) m ∧ Below w.heap.size w w' ∧ New w.heap.size w' := by
  obtain ⟨co, a, F, lg, tk, st⟩ := m
  obtain ⟨hC, hA, hF, hN, hlg⟩ := h
  unfold maV
  unfold maSz at hl
  dsimp only at *
  have hb0 : Below w.heap.size w (((w.alloc (.cells #[.slice A0 co.length c0, .slice A1 a.slots.length c1, .slice A2 a.queue.length c2, .slice A3 a.purple.length c3, .slice A4 F.length c4, .slice A5 lg.length c5, .int .i64 tk, .int .i64 st] 32)).alloc (.cells #[.slice none 0 0, .slice none 0 0, .slice none 0 0, .slice none 0 0, .slice none 0 0, .slice none 0 0, .int .i64 0, .int .i64 0] 43)).alloc (.cells #[.slice none 0 0, .slice none 0 0, .slice none 0 0, .slice none 0 0, .slice none 0 0, .slice none 0 0, .int .i64 0, .int .i64 0] 43)) := (((Below.refl _ _).alloc (Nat.le_refl _) _).alloc (by simp) _).alloc (by simp; omega) _
  have hC0 := hC.below (hb0.mono hB)
  go_enter Tryz.func10, Tryz.ntmps10
  go_wp2_with fail
  refine (CodM.toCode_n co A0 c0 L B _ (by simp; omega) (by omega) hC0).mono ?_
  rintro e w1 ⟨g1, rfl, hx1, hb1, hn1⟩
  have hnw : New w.heap.size w1 := New.join ((((New.refl w).alloc _ _).alloc _ _).alloc _ _) hb1 hn1
  have KO : Blk w1 (w.heap.size + 1 + 1) 43 #[.slice none 0 0, .slice none 0 0, .slice none 0 0, .slice none 0 0, .slice none 0 0, .slice none 0 0, .int .i64 0, .int .i64 0] :=
    Blk.below (by have := Blk.new ((w.alloc (.cells #[.slice A0 co.length c0, .slice A1 a.slots.length c1, .slice A2 a.queue.length c2, .slice A3 a.purple.length c3, .slice A4 F.length c4, .slice A5 lg.length c5, .int .i64 tk, .int .i64 st] 32)).alloc (.cells #[.slice none 0 0, .slice none 0 0, .slice none 0 0, .slice none 0 0, .slice none 0 0, .slice none 0 0, .int .i64 0, .int .i64 0] 43)) 43 #[.slice none 0 0, .slice none 0 0, .slice none 0 0, .slice none 0 0, .slice none 0 0, .slice none 0 0, .int .i64 0, .int .i64 0]; simpa using this) hb1 (by simp)
  have KR : Blk w1 (w.heap.size + 1) 43 #[.slice none 0 0, .slice none 0 0, .slice none 0 0, .slice none 0 0, .slice none 0 0, .slice none 0 0, .int .i64 0, .int .i64 0] :=
    Blk.below ((by have := Blk.new (w.alloc (.cells #[.slice A0 co.length c0, .slice A1 a.slots.length c1, .slice A2 a.queue.length c2, .slice A3 a.purple.length c3, .slice A4 F.length c4, .slice A5 lg.length c5, .int .i64 tk, .int .i64 st] 32)) 43 #[.slice none 0 0, .slice none 0 0, .slice none 0 0, .slice none 0 0, .slice none 0 0, .slice none 0 0, .int .i64 0, .int .i64 0]; simpa using this : Blk ((w.alloc (.cells #[.slice A0 co.length c0, .slice A1 a.slots.length c1, .slice A2 a.queue.length c2, .slice A3 a.purple.length c3, .slice A4 F.length c4, .slice A5 lg.length c5, .int .i64 tk, .int .i64 st] 32)).alloc (.cells #[.slice none 0 0, .slice none 0 0, .slice none 0 0, .slice none 0 0, .slice none 0 0, .slice none 0 0, .int .i64 0, .int .i64 0] 43)) (w.heap.size + 1) 43 _).alloc _) hb1 (by simp)
  have KP : Blk w1 w.heap.size 32 #[.slice A0 co.length c0, .slice A1 a.slots.length c1, .slice A2 a.queue.length c2, .slice A3 a.purple.length c3, .slice A4 F.length c4, .slice A5 lg.length c5, .int .i64 tk, .int .i64 st] :=
    Blk.below (((Blk.new w 32 _).alloc _).alloc _) hb1 (by simp; omega)
  have hbw : Below w.heap.size w w1 := hb0.trans (hb1.mono (by simp; omega))
  have hU : UnL w1 (w.heap.size + 1 + 1 + 1) w1.heap.size (some ⟨g1, 0, none⟩) co := by simpa using hx1
  have hs1 : w.heap.size + 1 + 1 < w1.heap.size := KO.lt
  have a1 := KP.cel 1 rfl
  have a2 := KP.cel 2 rfl
  have a3 := KP.cel 3 rfl
  have n0 := KO.cel 0 rfl
  have x0 : w1.frozen? ⟨w.heap.size + 1 + 1, 0, none⟩ = false := KO.frozen 0
  clear hb1 hx1 hb0 hn1 hC hC0
  go_wp2_with fail
  obtain ⟨W1, hW1⟩ : ∃ W1, W1 = (w1.setCell ⟨w.heap.size + 1 + 1, 0, none⟩ (.slice (some ⟨g1, 0, none⟩) co.length co.length)) := ⟨_, rfl⟩
  have KA : Blk (w1.setCell ⟨w.heap.size + 1 + 1, 0, none⟩ (.slice (some ⟨g1, 0, none⟩) co.length co.length)) (w.heap.size + 1 + 1) 43 #[.slice (some ⟨g1, 0, none⟩) co.length co.length, .slice none 0 0, .slice none 0 0, .slice none 0 0, .slice none 0 0, .slice none 0 0, .int .i64 0, .int .i64 0] := by
    have := (KO.set_ 0 (.slice (some ⟨g1, 0, none⟩) co.length co.length))
    simpa using this
  have KB : Blk (w1.setCell ⟨w.heap.size + 1 + 1, 0, none⟩ (.slice (some ⟨g1, 0, none⟩) co.length co.length)) (w.heap.size + 1) 43 #[.slice none 0 0, .slice none 0 0, .slice none 0 0, .slice none 0 0, .slice none 0 0, .slice none 0 0, .int .i64 0, .int .i64 0] := (KR.far (p := ⟨w.heap.size + 1 + 1, 0, none⟩) (by simp) _)
  have KC : Blk (w1.setCell ⟨w.heap.size + 1 + 1, 0, none⟩ (.slice (some ⟨g1, 0, none⟩) co.length co.length)) w.heap.size 32 #[.slice A0 co.length c0, .slice A1 a.slots.length c1, .slice A2 a.queue.length c2, .slice A3 a.purple.length c3, .slice A4 F.length c4, .slice A5 lg.length c5, .int .i64 tk, .int .i64 st] := (KP.far (p := ⟨w.heap.size + 1 + 1, 0, none⟩) (by simp; omega) _)
  have hsame : ∀ p : Addr, p.block ≠ w.heap.size + 1 + 1 → (w1.setCell ⟨w.heap.size + 1 + 1, 0, none⟩ (.slice (some ⟨g1, 0, none⟩) co.length co.length)).cell? p = w1.cell? p := fun p hp => by
    rw [World.cell?_setCell_other _ _ _ _ (fun e => by subst e; exact hp rfl)]
  have hbW : Below w.heap.size w (w1.setCell ⟨w.heap.size + 1 + 1, 0, none⟩ (.slice (some ⟨g1, 0, none⟩) co.length co.length)) := (hbw.setCell (p := ⟨w.heap.size + 1 + 1, 0, none⟩) (by simp; omega) _)
  have hszW : (w1.setCell ⟨w.heap.size + 1 + 1, 0, none⟩ (.slice (some ⟨g1, 0, none⟩) co.length co.length)).heap.size = w1.heap.size := by simp
  have hnW : New w.heap.size (w1.setCell ⟨w.heap.size + 1 + 1, 0, none⟩ (.slice (some ⟨g1, 0, none⟩) co.length co.length)) := (hnw.set_ _ _)
  rw [← hW1] at KA KB KC hsame hbW hszW hnW
  rw [← hW1]
  clear hW1 KO KR KP hbw hnw
  have hU1 : UnL W1 (w.heap.size + 1 + 1 + 1) w1.heap.size (some ⟨g1, 0, none⟩) co := hU.keep fun p hp _ => hsame p (by omega)
  clear hsame hU a1 a2 a3 n0 x0
  refine (toArena_n a A1 A2 A3 c1 c2 c3 L B W1 (Nat.le_trans hB hbW.size) (by omega) (hA.below (hbW.mono hB))).mono ?_
  rintro e w2 ⟨g2, g3, g4, rfl, hx2, hb2, hn2⟩
  have hnw := hnW.join hb2 hn2
  have KO := KA.below hb2 KA.lt
  have KR := KB.below hb2 KB.lt
  have KP := KC.below hb2 KC.lt
  have hbw := hbW.trans (hb2.mono hbW.size)
  have hU2 := (hU1.below (hb2.mono (by omega)))
  have hs2 : w1.heap.size ≤ w2.heap.size := by have := hb2.size; omega
  have hx2' : ArL w2 w1.heap.size w2.heap.size (some ⟨g2, 0, none⟩) (some ⟨g3, 0, none⟩) (some ⟨g4, 0, none⟩) a := hx2.more (by omega) (Nat.le_refl _)
  have a4 := KP.cel 4 rfl
  have n1 := KO.cel 1 rfl
  have n2 := KO.cel 2 rfl
  have n3 := KO.cel 3 rfl
  have x1 : w2.frozen? ⟨w.heap.size + 1 + 1, 1, none⟩ = false := KO.frozen 1
  have x2 : w2.frozen? ⟨w.heap.size + 1 + 1, 2, none⟩ = false := KO.frozen 2
  have x3 : w2.frozen? ⟨w.heap.size + 1 + 1, 3, none⟩ = false := KO.frozen 3
  clear hb2 hx2 hn2 hA KA KB KC hbW hnW hU1 hszW
  go_wp2_with fail
  obtain ⟨W2, hW2⟩ : ∃ W2, W2 = (((w2.setCell ⟨w.heap.size + 1 + 1, 1, none⟩ (.slice (some ⟨g2, 0, none⟩) a.slots.length a.slots.length)).setCell ⟨w.heap.size + 1 + 1, 2, none⟩ (.slice (some ⟨g3, 0, none⟩) a.queue.length a.queue.length)).setCell ⟨w.heap.size + 1 + 1, 3, none⟩ (.slice (some ⟨g4, 0, none⟩) a.purple.length a.purple.length)) := ⟨_, rfl⟩
  have KA : Blk (((w2.setCell ⟨w.heap.size + 1 + 1, 1, none⟩ (.slice (some ⟨g2, 0, none⟩) a.slots.length a.slots.length)).setCell ⟨w.heap.size + 1 + 1, 2, none⟩ (.slice (some ⟨g3, 0, none⟩) a.queue.length a.queue.length)).setCell ⟨w.heap.size + 1 + 1, 3, none⟩ (.slice (some ⟨g4, 0, none⟩) a.purple.length a.purple.length)) (w.heap.size + 1 + 1) 43 #[.slice (some ⟨g1, 0, none⟩) co.length co.length, .slice (some ⟨g2, 0, none⟩) a.slots.length a.slots.length, .slice (some ⟨g3, 0, none⟩) a.queue.length a.queue.length, .slice (some ⟨g4, 0, none⟩) a.purple.length a.purple.length, .slice none 0 0, .slice none 0 0, .int .i64 0, .int .i64 0] := by
    have := (((KO.set_ 1 (.slice (some ⟨g2, 0, none⟩) a.slots.length a.slots.length)).set_ 2 (.slice (some ⟨g3, 0, none⟩) a.queue.length a.queue.length)).set_ 3 (.slice (some ⟨g4, 0, none⟩) a.purple.length a.purple.length))
    simpa using this
  have KB : Blk (((w2.setCell ⟨w.heap.size + 1 + 1, 1, none⟩ (.slice (some ⟨g2, 0, none⟩) a.slots.length a.slots.length)).setCell ⟨w.heap.size + 1 + 1, 2, none⟩ (.slice (some ⟨g3, 0, none⟩) a.queue.length a.queue.length)).setCell ⟨w.heap.size + 1 + 1, 3, none⟩ (.slice (some ⟨g4, 0, none⟩) a.purple.length a.purple.length)) (w.heap.size + 1) 43 #[.slice none 0 0, .slice none 0 0, .slice none 0 0, .slice none 0 0, .slice none 0 0, .slice none 0 0, .int .i64 0, .int .i64 0] := (((KR.far (p := ⟨w.heap.size + 1 + 1, 1, none⟩) (by simp) _).far (p := ⟨w.heap.size + 1 + 1, 2, none⟩) (by simp) _).far (p := ⟨w.heap.size + 1 + 1, 3, none⟩) (by simp) _)
  have KC : Blk (((w2.setCell ⟨w.heap.size + 1 + 1, 1, none⟩ (.slice (some ⟨g2, 0, none⟩) a.slots.length a.slots.length)).setCell ⟨w.heap.size + 1 + 1, 2, none⟩ (.slice (some ⟨g3, 0, none⟩) a.queue.length a.queue.length)).setCell ⟨w.heap.size + 1 + 1, 3, none⟩ (.slice (some ⟨g4, 0, none⟩) a.purple.length a.purple.length)) w.heap.size 32 #[.slice A0 co.length c0, .slice A1 a.slots.length c1, .slice A2 a.queue.length c2, .slice A3 a.purple.length c3, .slice A4 F.length c4, .slice A5 lg.length c5, .int .i64 tk, .int .i64 st] := (((KP.far (p := ⟨w.heap.size + 1 + 1, 1, none⟩) (by simp; omega) _).far (p := ⟨w.heap.size + 1 + 1, 2, none⟩) (by simp; omega) _).far (p := ⟨w.heap.size + 1 + 1, 3, none⟩) (by simp; omega) _)
  have hsame : ∀ p : Addr, p.block ≠ w.heap.size + 1 + 1 → (((w2.setCell ⟨w.heap.size + 1 + 1, 1, none⟩ (.slice (some ⟨g2, 0, none⟩) a.slots.length a.slots.length)).setCell ⟨w.heap.size + 1 + 1, 2, none⟩ (.slice (some ⟨g3, 0, none⟩) a.queue.length a.queue.length)).setCell ⟨w.heap.size + 1 + 1, 3, none⟩ (.slice (some ⟨g4, 0, none⟩) a.purple.length a.purple.length)).cell? p = w2.cell? p := fun p hp => by
    rw [World.cell?_setCell_other _ _ _ _ (fun e => by subst e; exact hp rfl), World.cell?_setCell_other _ _ _ _ (fun e => by subst e; exact hp rfl), World.cell?_setCell_other _ _ _ _ (fun e => by subst e; exact hp rfl)]
  have hbW : Below w.heap.size w (((w2.setCell ⟨w.heap.size + 1 + 1, 1, none⟩ (.slice (some ⟨g2, 0, none⟩) a.slots.length a.slots.length)).setCell ⟨w.heap.size + 1 + 1, 2, none⟩ (.slice (some ⟨g3, 0, none⟩) a.queue.length a.queue.length)).setCell ⟨w.heap.size + 1 + 1, 3, none⟩ (.slice (some ⟨g4, 0, none⟩) a.purple.length a.purple.length)) := (((hbw.setCell (p := ⟨w.heap.size + 1 + 1, 1, none⟩) (by simp; omega) _).setCell (p := ⟨w.heap.size + 1 + 1, 2, none⟩) (by simp; omega) _).setCell (p := ⟨w.heap.size + 1 + 1, 3, none⟩) (by simp; omega) _)
  have hszW : (((w2.setCell ⟨w.heap.size + 1 + 1, 1, none⟩ (.slice (some ⟨g2, 0, none⟩) a.slots.length a.slots.length)).setCell ⟨w.heap.size + 1 + 1, 2, none⟩ (.slice (some ⟨g3, 0, none⟩) a.queue.length a.queue.length)).setCell ⟨w.heap.size + 1 + 1, 3, none⟩ (.slice (some ⟨g4, 0, none⟩) a.purple.length a.purple.length)).heap.size = w2.heap.size := by simp
  have hnW : New w.heap.size (((w2.setCell ⟨w.heap.size + 1 + 1, 1, none⟩ (.slice (some ⟨g2, 0, none⟩) a.slots.length a.slots.length)).setCell ⟨w.heap.size + 1 + 1, 2, none⟩ (.slice (some ⟨g3, 0, none⟩) a.queue.length a.queue.length)).setCell ⟨w.heap.size + 1 + 1, 3, none⟩ (.slice (some ⟨g4, 0, none⟩) a.purple.length a.purple.length)) := (((hnw.set_ _ _).set_ _ _).set_ _ _)
  rw [← hW2] at KA KB KC hsame hbW hszW hnW
  rw [← hW2]
  clear hW2 KO KR KP hbw hnw
  have hU3 : UnL W2 (w.heap.size + 1 + 1 + 1) w1.heap.size (some ⟨g1, 0, none⟩) co := hU2.keep fun p hp _ => hsame p (by omega)
  have hA3 : ArL W2 w1.heap.size w2.heap.size (some ⟨g2, 0, none⟩) (some ⟨g3, 0, none⟩) (some ⟨g4, 0, none⟩) a := hx2'.keep fun p hp _ => hsame p (by omega)
  clear hsame hU2 hx2' a4 n1 n2 n3 x1 x2 x3
  refine (toFrameS_n F A4 c4 L B W2 (Nat.le_trans hB hbW.size) (by omega) (hF.below (hbW.mono hB))).mono ?_
  rintro e w3 ⟨g5, rfl, hg5, hg5', hx3, hb3, hn3⟩
  have hnw := hnW.join hb3 hn3
  have KO := KA.below hb3 KA.lt
  have KR := KB.below hb3 KB.lt
  have KP := KC.below hb3 KC.lt
  have hbw := hbW.trans (hb3.mono hbW.size)
  have hU4 := (hU3.below (hb3.mono (by omega)))
  have hA4 := (hA3.below (hb3.mono (by omega)))
  have hs3 : w2.heap.size ≤ w3.heap.size := by have := hb3.size; omega
  have hx3' : FrL w3 w2.heap.size w3.heap.size (some ⟨g5, 0, none⟩) F := hx3.more (by omega) (Nat.le_refl _)
  have a5 := KP.cel 5 rfl
  have n4 := KO.cel 4 rfl
  have x4 : w3.frozen? ⟨w.heap.size + 1 + 1, 4, none⟩ = false := KO.frozen 4
  clear hb3 hx3 hn3 hF KA KB KC hbW hnW hU3 hA3 hszW
  go_wp2_with fail
  obtain ⟨W3, hW3⟩ : ∃ W3, W3 = (w3.setCell ⟨w.heap.size + 1 + 1, 4, none⟩ (.slice (some ⟨g5, 0, none⟩) F.length F.length)) := ⟨_, rfl⟩
  have KA : Blk (w3.setCell ⟨w.heap.size + 1 + 1, 4, none⟩ (.slice (some ⟨g5, 0, none⟩) F.length F.length)) (w.heap.size + 1 + 1) 43 #[.slice (some ⟨g1, 0, none⟩) co.length co.length, .slice (some ⟨g2, 0, none⟩) a.slots.length a.slots.length, .slice (some ⟨g3, 0, none⟩) a.queue.length a.queue.length, .slice (some ⟨g4, 0, none⟩) a.purple.length a.purple.length, .slice (some ⟨g5, 0, none⟩) F.length F.length, .slice none 0 0, .int .i64 0, .int .i64 0] := by
    have := (KO.set_ 4 (.slice (some ⟨g5, 0, none⟩) F.length F.length))
    simpa using this
  have KB : Blk (w3.setCell ⟨w.heap.size + 1 + 1, 4, none⟩ (.slice (some ⟨g5, 0, none⟩) F.length F.length)) (w.heap.size + 1) 43 #[.slice none 0 0, .slice none 0 0, .slice none 0 0, .slice none 0 0, .slice none 0 0, .slice none 0 0, .int .i64 0, .int .i64 0] := (KR.far (p := ⟨w.heap.size + 1 + 1, 4, none⟩) (by simp) _)
  have KC : Blk (w3.setCell ⟨w.heap.size + 1 + 1, 4, none⟩ (.slice (some ⟨g5, 0, none⟩) F.length F.length)) w.heap.size 32 #[.slice A0 co.length c0, .slice A1 a.slots.length c1, .slice A2 a.queue.length c2, .slice A3 a.purple.length c3, .slice A4 F.length c4, .slice A5 lg.length c5, .int .i64 tk, .int .i64 st] := (KP.far (p := ⟨w.heap.size + 1 + 1, 4, none⟩) (by simp; omega) _)
  have hsame : ∀ p : Addr, p.block ≠ w.heap.size + 1 + 1 → (w3.setCell ⟨w.heap.size + 1 + 1, 4, none⟩ (.slice (some ⟨g5, 0, none⟩) F.length F.length)).cell? p = w3.cell? p := fun p hp => by
    rw [World.cell?_setCell_other _ _ _ _ (fun e => by subst e; exact hp rfl)]
  have hbW : Below w.heap.size w (w3.setCell ⟨w.heap.size + 1 + 1, 4, none⟩ (.slice (some ⟨g5, 0, none⟩) F.length F.length)) := (hbw.setCell (p := ⟨w.heap.size + 1 + 1, 4, none⟩) (by simp; omega) _)
  have hszW : (w3.setCell ⟨w.heap.size + 1 + 1, 4, none⟩ (.slice (some ⟨g5, 0, none⟩) F.length F.length)).heap.size = w3.heap.size := by simp
  have hnW : New w.heap.size (w3.setCell ⟨w.heap.size + 1 + 1, 4, none⟩ (.slice (some ⟨g5, 0, none⟩) F.length F.length)) := (hnw.set_ _ _)
  rw [← hW3] at KA KB KC hsame hbW hszW hnW
  rw [← hW3]
  clear hW3 KO KR KP hbw hnw
  have hU5 : UnL W3 (w.heap.size + 1 + 1 + 1) w1.heap.size (some ⟨g1, 0, none⟩) co := hU4.keep fun p hp _ => hsame p (by omega)
  have hA5 : ArL W3 w1.heap.size w2.heap.size (some ⟨g2, 0, none⟩) (some ⟨g3, 0, none⟩) (some ⟨g4, 0, none⟩) a := hA4.keep fun p hp _ => hsame p (by omega)
  have hF5 : FrL W3 w2.heap.size w3.heap.size (some ⟨g5, 0, none⟩) F := hx3'.keep fun p hp _ => hsame p (by omega)
  clear hsame hU4 hA4 hx3' a5 n4 x4
  refine (toByteS_n lg A5 c5 B W3 (by omega) (Nat.le_trans hB hbW.size) (hN.keep fun p _ hp => (hbW.mono hB).cell hp).1).mono ?_
  rintro e w4 ⟨g6, rfl, hB4, hg6, hg6', hb4, hn4⟩
  have hnw := hnW.join hb4 hn4
  have KO := KA.below hb4 KA.lt
  have KR := KB.below hb4 KB.lt
  have KP := KC.below hb4 KC.lt
  have hbw := hbW.trans (hb4.mono hbW.size)
  have hU6 := (hU5.below (hb4.mono (by omega)))
  have hA6 := (hA5.below (hb4.mono (by omega)))
  have hF6 := (hF5.below (hb4.mono (by omega)))
  have hs4 : w3.heap.size ≤ w4.heap.size := by have := hb4.size; omega
  have hg6w : w3.heap.size ≤ g6 := by omega
  have hNm : NmB w4 w3.heap.size w4.heap.size (some ⟨g6, 0, none⟩) lg := ⟨RB.of_blk hB4 hg6', fun _ => ⟨_, rfl, hg6w⟩⟩
  have a6 := KP.cel 6 rfl
  have a7 := KP.cel 7 rfl
  have n0 := KO.cel 0 rfl
  have m0 := KR.cel 0 rfl
  have y0 : w4.frozen? ⟨w.heap.size + 1, 0, none⟩ = false := KR.frozen 0
  have n1 := KO.cel 1 rfl
  have m1 := KR.cel 1 rfl
  have y1 : w4.frozen? ⟨w.heap.size + 1, 1, none⟩ = false := KR.frozen 1
  have n2 := KO.cel 2 rfl
  have m2 := KR.cel 2 rfl
  have y2 : w4.frozen? ⟨w.heap.size + 1, 2, none⟩ = false := KR.frozen 2
  have n3 := KO.cel 3 rfl
  have m3 := KR.cel 3 rfl
  have y3 : w4.frozen? ⟨w.heap.size + 1, 3, none⟩ = false := KR.frozen 3
  have n4 := KO.cel 4 rfl
  have m4 := KR.cel 4 rfl
  have y4 : w4.frozen? ⟨w.heap.size + 1, 4, none⟩ = false := KR.frozen 4
  have n5 := KO.cel 5 rfl
  have m5 := KR.cel 5 rfl
  have y5 : w4.frozen? ⟨w.heap.size + 1, 5, none⟩ = false := KR.frozen 5
  have n6 := KO.cel 6 rfl
  have m6 := KR.cel 6 rfl
  have y6 : w4.frozen? ⟨w.heap.size + 1, 6, none⟩ = false := KR.frozen 6
  have n7 := KO.cel 7 rfl
  have m7 := KR.cel 7 rfl
  have y7 : w4.frozen? ⟨w.heap.size + 1, 7, none⟩ = false := KR.frozen 7
  have x5 : w4.frozen? ⟨w.heap.size + 1 + 1, 5, none⟩ = false := KO.frozen 5
  have x6 : w4.frozen? ⟨w.heap.size + 1 + 1, 6, none⟩ = false := KO.frozen 6
  have x7 : w4.frozen? ⟨w.heap.size + 1 + 1, 7, none⟩ = false := KO.frozen 7
  clear hb4 hB4 hn4 hN KA KB KC hbW hnW hU5 hA5 hF5 hszW KO KR KP
  go_wp2_with fail
  refine bodyPost_ret (v := .agg #[.slice (some ⟨g1, 0, none⟩) co.length co.length, .slice (some ⟨g2, 0, none⟩) a.slots.length a.slots.length, .slice (some ⟨g3, 0, none⟩) a.queue.length a.queue.length, .slice (some ⟨g4, 0, none⟩) a.purple.length a.purple.length, .slice (some ⟨g5, 0, none⟩) F.length F.length, .slice (some ⟨g6, 0, none⟩) lg.length lg.length, .int .i64 tk, .int .i64 st]) (by simp [results, Tryz.results10, go_sem, m0, m1, m2, m3, m4, m5, m6, m7]) rfl
    ⟨g1, g2, g3, g4, g5, g6, rfl, ⟨?_, ?_, ?_, ?_, hlg⟩, ?_, ?_⟩
  · refine (hU6.keep (fun p hp _ => ?_)).more (by omega) (by simp; omega)
    repeat rw [World.cell?_setCell_other _ _ _ _ (fun e => by subst e; simp at hp; omega)]
  · refine (hA6.keep (fun p hp _ => ?_)).more (by omega) (by simp; omega)
    repeat rw [World.cell?_setCell_other _ _ _ _ (fun e => by subst e; simp at hp; omega)]
  · refine (hF6.keep (fun p hp _ => ?_)).more (by omega) (by simp; omega)
    repeat rw [World.cell?_setCell_other _ _ _ _ (fun e => by subst e; simp at hp; omega)]
  · refine (hNm.keep (fun p hp _ => ?_)).more (by omega) (by simp)
    repeat rw [World.cell?_setCell_other _ _ _ _ (fun e => by subst e; simp at hp; omega)]
  · repeat (with_reducible first | exact hbw | refine Below.setCell ?_ (by simp; omega) _ | refine Below.setCell ?_ (by simp) _)
  · repeat (with_reducible first | exact hnw | apply New.set_)
end FrmN
end Go.Proofs.YtddjcjjnpidhiaaGreatDoor
