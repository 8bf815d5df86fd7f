/-
  Functions and programs: size, copy, likeness.
-/
import Derived.Test.YtmejbmfopdfbjaaData
import Derived.Test.YtmejbmfopdfbjaaStAll
namespace Go.Proofs.Ytmejbmfopdfbjaa
open Go.RowKit
set_option linter.unusedVariables false

set_option maxHeartbeats 1000000 in
theorem szByteSS_c (l : List (List UInt8)) (A : Option Addr) (c L B : Nat) (left : Int) (w : World) (hB : B ≤ w.heap.size) (h0 : 0 ≤ left) (h1 : left ≤ 1048576) (h : BsL w L B A l) :
    Calls Try.prog 30 #[.slice A l.length c, .int .i64 left] w (SzP (bsSz l) left w) := by
  have hn := h.1
  unfold maxLen at hn
  by_cases hlt : left - l.length < 0
  · go_enter Try.func30, Try.ntmps30
    go_wp2
    go_ret
    exact ⟨-1, rfl, by omega, by omega, by omega, Below.refl _ _⟩
  have hge : 0 ≤ left - l.length := by omega
  clear hlt
  have htot : bsSz l = l.length + bsIn l l.length := rfl
  have Htot := Lib.hid htot
  clear htot
  go_enter Try.func30, Try.ntmps30
  go_wp2
  go_loopw [1, 5] (fun s i wr => ∃ (k : Nat) (r : Int), k ≤ l.length ∧ i = .int .i64 k ∧ s = .int .i64 r ∧ 0 ≤ r ∧ (l.length : Int) + bsIn l k + r ≤ left ∧ Below w.heap.size w wr) (fun _ i _ => l.length - (intOf i).toNat)
  case atStart => exact ⟨0, left - l.length, Nat.zero_le _, rfl, rfl, by omega, by simp [bsIn]; omega, Below.refl _ _⟩
  case round =>
    obtain ⟨k, r, hk, rfl, rfl, hr0, hr1, hbl⟩ := hrel
    by_cases hlt : k < l.length
    · obtain ⟨ad, rfl, _, hb, hat⟩ := (h.below (hbl.mono hB)).2 (by omega)
      obtain ⟨A', c', c0, hR, hm⟩ := hat k hlt
      unfold maxLen at hm
      have hst := bsIn_step hlt
      have hr2 : r ≤ 1048576 := by omega
      rcases sub_cases r l[k].length with ⟨hlt', he⟩ | ⟨hge', he⟩
      · have hc := szByteS_c A' l[k].length c' r wr hm hr0 hr2
        rw [he] at hc
        have Hc := Lib.hid hc
        clear hc he hst hat
        go_wp2_with fail
        refine Hc.out.mono ?_
        rintro e w1 ⟨rfl, rfl⟩
        go_wp2
        go_ret
        exact ⟨-1, rfl, by omega, by omega, by omega, hbl⟩
      · have hc := szByteS_c A' l[k].length c' r wr hm hr0 hr2
        rw [he] at hc
        have Hc := Lib.hid hc
        have hst' : (bsIn l (k + 1) : Int) ≤ bsIn l k + l[k].length := by omega
        clear hc he hst hat
        go_wp2_with fail
        refine Hc.out.mono ?_
        rintro e w1 ⟨rfl, rfl⟩
        go_wp2
        go_roundw
        case rel => exact ⟨k + 1, r - l[k].length, by omega, by go_num, rfl, by omega, by omega, hbl⟩
        case measure => simp [intOf]; omega
    · go_wp2
      go_ret
      have : k = l.length := by omega
      subst this
      exact ⟨r, rfl, by omega, by omega, fun _ => by have := Htot.out; omega, hbl⟩


def SzFn (f : Fn) : Prop := ∀ (v0 v1 v2 : Value) (left : Int) (w : World) (L B : Nat), FnV w L B v0 v1 v2 f → B ≤ w.heap.size → 0 ≤ left → left ≤ 1048576 →
  Calls Try.prog 6 #[.agg #[v0, v1, v2], .int .i64 left] w (SzP (fnSz f) left w)

set_option maxHeartbeats 2000000 in
theorem szFunc_c (f : Fn) : SzFn f := by
  intro v0 v1 v2 left w L B hv hB h0 h1
  obtain ⟨A, c, A1, c1, A2, c2, rfl, rfl, rfl, hR, hm, hp, hbd, hcp⟩ := hv
  unfold maxLen at hm
  unfold fnSz
  have hbl : Below w.heap.size w (w.alloc (.cells #[.slice A f.name.length c, .slice A1 f.params.length c1, .slice A2 f.body.length c2] 26)) := (Below.refl _ _).alloc (Nat.le_refl _) _
  have hs := szByteS_c A f.name.length c left (w.alloc (.cells #[.slice A f.name.length c, .slice A1 f.params.length c1, .slice A2 f.body.length c2] 26)) hm h0 h1
  have hp' := hp.below (hbl.mono hB)
  have hb' := hbd.below (hbl.mono hB)
  clear hR hp hbd
  rcases sub_cases left f.name.length with ⟨hlt, hsb⟩ | ⟨hge, hsb⟩
  · rw [hsb] at hs
    have Hs := Lib.hid hs
    clear hsb hs
    go_enter Try.func6, Try.ntmps6
    go_wp2_with fail
    refine Hs.out.mono ?_
    rintro e w' ⟨rfl, rfl⟩
    go_wp2
    go_ret
    exact ⟨-1, rfl, by omega, by omega, by omega, hbl⟩
  rw [hsb] at hs
  have Hs := Lib.hid hs
  clear hsb hs
  go_enter Try.func6, Try.ntmps6
  go_wp2_with fail
  refine Hs.out.mono ?_
  rintro e w' ⟨rfl, rfl⟩
  go_wp2_with fail
  refine (szByteSS_c f.params A1 c1 L B (left - f.name.length) _ (by simp; omega) hge (by omega) hp').mono ?_
  rintro e w1 ⟨r1, rfl, p1, p2, p3, hbw1⟩
  have hbn1 := hbl.trans (hbw1.mono hbl.size)
  by_cases hr1 : r1 < 0
  · clear p3
    go_wp2
    go_ret
    exact ⟨-1, rfl, by omega, by omega, by omega, hbn1⟩
  have hr1' : 0 ≤ r1 := by omega
  have p4 := p3 hr1'
  have K1 : Blk w1 w.heap.size 26 #[.slice A f.name.length c, .slice A1 f.params.length c1, .slice A2 f.body.length c2] := (Blk.new w 26 _).below hbw1 (by simp)
  have q2 := K1.cell_of 2 rfl
  have hb1 := hb'.below (hbw1.mono (by simp; omega))
  have hw1 := hbn1.size
  clear hr1 p3 hb' hp'
  go_wp2_with fail
  refine (szStS_c f.body A2 c2 L B r1 _ (by omega) hr1' (by omega) hb1).mono ?_
  rintro e w2 ⟨r2, rfl, t1, t2, t3, hbw2⟩
  have hbn2 := hbn1.trans (hbw2.mono hbn1.size)
  by_cases hr2 : r2 < 0
  · clear t3
    go_wp2
    go_ret
    exact ⟨-1, rfl, by omega, by omega, by omega, hbn2⟩
  have hr2' : 0 ≤ r2 := by omega
  have t4 := t3 hr2'
  clear hr2 t3
  go_wp2
  go_ret
  exact ⟨r2, rfl, by omega, by omega, fun _ => by omega, hbn2⟩

set_option maxHeartbeats 1000000 in
theorem szFuncS_c (l : List Fn) (A : Option Addr) (c L B : Nat) (left : Int) (w : World) (hB : B ≤ w.heap.size) (h0 : 0 ≤ left) (h1 : left ≤ 1048576) (h : FnL w L B A l) :
    Calls Try.prog 45 #[.slice A l.length c, .int .i64 left] w (SzP (fnsSz l) left w) := by
  have hn := h.1
  unfold maxLen at hn
  by_cases hlt : left - l.length < 0
  · go_enter Try.func45, Try.ntmps45
    go_wp2
    go_ret
    exact ⟨-1, rfl, by omega, by omega, by omega, Below.refl _ _⟩
  have hge : 0 ≤ left - l.length := by omega
  clear hlt
  have htot : fnsSz l = l.length + fnsIn l l.length := rfl
  have Htot := Lib.hid htot
  clear htot
  go_enter Try.func45, Try.ntmps45
  go_wp2
  go_loopw [1, 5] (fun s i wr => ∃ (k : Nat) (r : Int), k ≤ l.length ∧ i = .int .i64 k ∧ s = .int .i64 r ∧ 0 ≤ r ∧ (l.length : Int) + fnsIn l k + r ≤ left ∧ Below w.heap.size w wr) (fun _ i _ => l.length - (intOf i).toNat)
  case atStart => exact ⟨0, left - l.length, Nat.zero_le _, rfl, rfl, by omega, by simp [fnsIn]; omega, Below.refl _ _⟩
  case round =>
    obtain ⟨k, r, hk, rfl, rfl, hr0, hr1, hbl⟩ := hrel
    by_cases hlt : k < l.length
    · obtain ⟨ad, rfl, _, hb, hat⟩ := (h.below (hbl.mono hB)).2 (by omega)
      obtain ⟨v0, v1, v2, ⟨c0, c1, c2⟩, hv⟩ := hat k hlt
      have hst := fnsIn_step hlt
      have hr2 : r ≤ 1048576 := by omega
      have hc := szFunc_c l[k] v0 v1 v2 r wr L B hv (Nat.le_trans hB hbl.size) hr0 hr2
      obtain ⟨xA, xc, xA1, xc1, xA2, xc2, rfl, rfl, rfl, _⟩ := hv
      have Hc := Lib.hid hc
      clear hc
      go_wp2_with fail
      refine Hc.out.mono ?_
      rintro e w1 ⟨r1, rfl, q1, q2, q3, hb1⟩
      have hbn := hbl.trans (hb1.mono hbl.size)
      by_cases hr : r1 < 0
      · clear hst q3
        go_wp2
        go_ret
        exact ⟨-1, rfl, by omega, by omega, by omega, hbn⟩
      · have hr' : 0 ≤ r1 := by omega
        have q4 := q3 hr'
        have hst' : (fnsIn l (k + 1) : Int) ≤ fnsIn l k + fnSz l[k] := by omega
        clear hst q3 hr
        go_wp2
        go_roundw
        case rel => exact ⟨k + 1, r1, by omega, by go_num, rfl, by omega, by omega, hbn⟩
        case measure => simp [intOf]; omega
    · go_wp2
      go_ret
      have : k = l.length := by omega
      subst this
      exact ⟨r, rfl, by omega, by omega, fun _ => by have := Htot.out; omega, hbl⟩


set_option maxHeartbeats 1000000 in
theorem szProg_c (l : List Fn) (A : Option Addr) (c L B : Nat) (left : Int) (w : World) (hB : B ≤ w.heap.size) (h0 : 0 ≤ left) (h1 : left ≤ 1048576) (h : FnL w L B A l) :
    Calls Try.prog 23 #[.agg #[.slice A l.length c], .int .i64 left] w (SzP (fnsSz l) left w) := by
  have hbl : Below w.heap.size w (w.alloc (.cells #[.slice A l.length c] 49)) := (Below.refl _ _).alloc (Nat.le_refl _) _
  have h' := h.below (hbl.mono hB)
  go_enter Try.func23, Try.ntmps23
  go_wp2_with fail
  refine (szFuncS_c l A c L B left _ (by simp; omega) h0 h1 h').mono ?_
  rintro e w1 ⟨r1, rfl, p1, p2, p3, hbw1⟩
  have hbn1 := hbl.trans (hbw1.mono hbl.size)
  by_cases hr1 : r1 < 0
  · clear p3
    go_wp2
    go_ret
    exact ⟨-1, rfl, by omega, by omega, by omega, hbn1⟩
  have hr1' : 0 ≤ r1 := by omega
  have p4 := p3 hr1'
  clear hr1 p3
  go_wp2
  go_ret
  exact ⟨r1, rfl, by omega, by omega, fun _ => by omega, hbn1⟩
end Go.Proofs.Ytmejbmfopdfbjaa

namespace Go.Proofs.Ytmejbmfopdfbjaa
open Go.RowKit
set_option linter.unusedVariables false

set_option maxRecDepth 100000 in
set_option maxHeartbeats 1000000 in
theorem eqByteSS_c (l : List (List UInt8)) (A A' : Option Addr) (c c' L B L' B' : Nat) (w : World) (hB : B ≤ w.heap.size) (hB' : B' ≤ w.heap.size) (hl : bsSz l ≤ 1048576) (h : BsL w L B A l) (h' : BsL w L' B' A' l) :
    Calls Try.prog 10 #[.slice A l.length c, .slice A' l.length c'] w fun r w' => r = .returned (.bool true) ∧ Below w.heap.size w w' := by
  have hlen : l.length ≤ bsSz l := by unfold bsSz; omega
  go_enter Try.func10, Try.ntmps10
  go_wp2
  go_loopw [5] (fun i wr => ∃ (k : Nat), k ≤ l.length ∧ i = .int .i64 k ∧ Below w.heap.size w wr) (fun i _ => l.length - (intOf i).toNat)
  case atStart => exact ⟨0, Nat.zero_le _, rfl, Below.refl _ _⟩
  case round =>
    obtain ⟨k, hk, rfl, hbl⟩ := hrel
    by_cases hlt : k < l.length
    · obtain ⟨ad, rfl, _, hb, hat⟩ := (h.below (hbl.mono hB)).2 (by omega)
      obtain ⟨A1, c1, c0, hR, hm⟩ := hat k hlt
      obtain ⟨ad', rfl, _, hb', hat'⟩ := (h'.below (hbl.mono hB')).2 (by omega)
      obtain ⟨A2, c2, d0, hS, hm'⟩ := hat' k hlt
      have hsz1 := bsSz_get hlt
      clear hat hat'
      go_wp2
      go_still_tail 8, (by kernel_rfl)
      change wpList _ _ _ _ _ wr.drew
      go_wp2_with fail
      refine (eqByteS_c l[k] A1 A2 c1 c2 B B' wr.drew (by omega) (hR.1.drewN 1) (hS.1.drewN 1)).mono ?_
      rintro e w1 ⟨rfl, m, rfl⟩
      go_wp2
      go_roundw
      case rel => exact ⟨k + 1, by omega, by go_num, below_drewN hbl (1 + m)⟩
      case measure => simp [intOf]; omega
    · go_wp2
      go_ret
      exact ⟨rfl, hbl⟩


def EqFn (f : Fn) : Prop := ∀ (v0 v1 v2 u0 u1 u2 : Value) (w : World) (L B L' B' : Nat), FnV w L B v0 v1 v2 f → FnV w L' B' u0 u1 u2 f → B ≤ w.heap.size → B' ≤ w.heap.size → fnSz f ≤ 1048576 →
  Calls Try.prog 11 #[.agg #[v0, v1, v2], .agg #[u0, u1, u2]] w fun r w' => r = .returned (.bool true) ∧ Below w.heap.size w w'

theorem BsL.drewN_ {w : World} {L B : Nat} {A : Option Addr} {l : List (List UInt8)} (m : Nat) (h : BsL w L B A l) : BsL (w.drewN m) L B A l := BsL.keep (w := w) (w' := w.drewN m) h (fun _ _ _ => rfl)

set_option maxHeartbeats 2000000 in
theorem eqFunc_c (f : Fn) : EqFn f := by
  intro v0 v1 v2 u0 u1 u2 w L B L' B' hv hu hB hB' hsz
  obtain ⟨pA, pc, pA1, pc1, pA2, pc2, rfl, rfl, rfl, hR, hm, hp, hb, hcp⟩ := hv
  obtain ⟨qA, qc, qA1, qc1, qA2, qc2, rfl, rfl, rfl, hR', hm', hp', hb', hcp'⟩ := hu
  unfold fnSz at hsz
  have hb0 : Below w.heap.size w ((w.alloc (.cells #[.slice pA f.name.length pc, .slice pA1 f.params.length pc1, .slice pA2 f.body.length pc2] 31)).alloc (.cells #[.slice qA f.name.length qc, .slice qA1 f.params.length qc1, .slice qA2 f.body.length qc2] 31)) := ((Below.refl _ _).alloc (Nat.le_refl _) _).alloc (by simp) _
  have K1 : Blk ((w.alloc (.cells #[.slice pA f.name.length pc, .slice pA1 f.params.length pc1, .slice pA2 f.body.length pc2] 31)).alloc (.cells #[.slice qA f.name.length qc, .slice qA1 f.params.length qc1, .slice qA2 f.body.length qc2] 31)) w.heap.size 31 #[.slice pA f.name.length pc, .slice pA1 f.params.length pc1, .slice pA2 f.body.length pc2] := (Blk.new w _ _).alloc _
  have K2 : Blk ((w.alloc (.cells #[.slice pA f.name.length pc, .slice pA1 f.params.length pc1, .slice pA2 f.body.length pc2] 31)).alloc (.cells #[.slice qA f.name.length qc, .slice qA1 f.params.length qc1, .slice qA2 f.body.length qc2] 31)) (w.heap.size + 1) 31 #[.slice qA f.name.length qc, .slice qA1 f.params.length qc1, .slice qA2 f.body.length qc2] := by
    have := Blk.new (w.alloc (.cells #[.slice pA f.name.length pc, .slice pA1 f.params.length pc1, .slice pA2 f.body.length pc2] 31)) 31 #[.slice qA f.name.length qc, .slice qA1 f.params.length qc1, .slice qA2 f.body.length qc2]
    simpa using this
  have hR0 := (hR.below (hb0.mono hB)).1
  have hS0 := (hR'.below (hb0.mono hB')).1
  have x1 := hp.below (hb0.mono hB)
  have y1 := hp'.below (hb0.mono hB')
  have x2 := hb.below (hb0.mono hB)
  have y2 := hb'.below (hb0.mono hB')
  have HK1 := Lib.hid K1
  have HK2 := Lib.hid K2
  have hw0 := hb0.size
  clear hR hR' hp hp' hb hb' K1 K2
  go_enter Try.func11, Try.ntmps11
  go_wp2_with fail
  refine (eqByteS_c f.name pA qA pc qc B B' _ (by omega) hR0 hS0).mono ?_
  rintro e' w1 ⟨rfl, m, rfl⟩
  have b1 := below_drewN hb0 m
  go_wp2_with fail
  refine (eqByteSS_c f.params pA1 qA1 pc1 qc1 L B L' B' _ (by simp; omega) (by simp; omega) (by omega) (BsL.drewN_ m x1) (BsL.drewN_ m y1)).mono ?_
  rintro e' w2 ⟨rfl, hc2⟩
  have b2 := b1.trans (hc2.mono b1.size)
  have K12 := (Blk.drewN_ m HK1.out).below hc2 (Blk.drewN_ m HK1.out).lt
  have K22 := (Blk.drewN_ m HK2.out).below hc2 (Blk.drewN_ m HK2.out).lt
  have h12 := (StL.drewN_ m x2).below (hc2.mono (by simp; omega))
  have h22 := (StL.drewN_ m y2).below (hc2.mono (by simp; omega))
  have s2 := b2.size
  have p2 := K12.cell_of 2 rfl
  have q2 := K22.cell_of 2 rfl
  clear hc2 x1 y1 x2 y2 hR0 hS0
  go_wp2_with fail
  refine (eqStS_c f.body pA2 qA2 pc2 qc2 L B L' B' w2 (by omega) (by omega) (by omega) h12 h22).mono ?_
  rintro e' w3 ⟨rfl, hc3⟩
  go_wp2
  go_ret
  exact ⟨rfl, b2.trans (hc3.mono b2.size)⟩

set_option maxRecDepth 100000 in
set_option maxHeartbeats 1000000 in
theorem eqFuncS_c (l : List Fn) (A A' : Option Addr) (c c' L B L' B' : Nat) (w : World) (hB : B ≤ w.heap.size) (hB' : B' ≤ w.heap.size) (hl : fnsSz l ≤ 1048576) (h : FnL w L B A l) (h' : FnL w L' B' A' l) :
    Calls Try.prog 51 #[.slice A l.length c, .slice A' l.length c'] w fun r w' => r = .returned (.bool true) ∧ Below w.heap.size w w' := by
  have hlen : l.length ≤ fnsSz l := by unfold fnsSz; omega
  go_enter Try.func51, Try.ntmps51
  go_wp2
  go_loopw [5] (fun i wr => ∃ (k : Nat), k ≤ l.length ∧ i = .int .i64 k ∧ Below w.heap.size w wr) (fun i _ => l.length - (intOf i).toNat)
  case atStart => exact ⟨0, Nat.zero_le _, rfl, Below.refl _ _⟩
  case round =>
    obtain ⟨k, hk, rfl, hbl⟩ := hrel
    by_cases hlt : k < l.length
    · obtain ⟨ad, rfl, _, hb, hat⟩ := (h.below (hbl.mono hB)).2 (by omega)
      obtain ⟨v0, v1, v2, ⟨c0, c1, c2⟩, hv⟩ := hat k hlt
      obtain ⟨ad', rfl, _, hb', hat'⟩ := (h'.below (hbl.mono hB')).2 (by omega)
      obtain ⟨u0, u1, u2, ⟨d0, d1, d2⟩, hu⟩ := hat' k hlt
      have hsz1 := fnsSz_get hlt
      have hc := eqFunc_c l[k] v0 v1 v2 u0 u1 u2 wr.drew L B L' B' (FnV.keep (w := wr) (w' := wr.drew) hv (fun _ _ _ => rfl)) (FnV.keep (w := wr) (w' := wr.drew) hu (fun _ _ _ => rfl)) (Nat.le_trans hB hbl.size) (Nat.le_trans hB' hbl.size) (by omega)
      obtain ⟨xA, xc, xA1, xc1, xA2, xc2, rfl, rfl, rfl, _⟩ := hv
      obtain ⟨yA, yc, yA1, yc1, yA2, yc2, rfl, rfl, rfl, _⟩ := hu
      have Hc := Lib.hid hc
      clear hc hat hat'
      go_wp2
      go_still_tail 8, (by kernel_rfl)
      change wpList _ _ _ _ _ wr.drew
      go_wp2_with fail
      refine Hc.out.mono ?_
      rintro e w1 ⟨rfl, hb1⟩
      go_wp2
      go_roundw
      case rel => exact ⟨k + 1, by omega, by go_num, hbl.drew.trans (hb1.mono hbl.size)⟩
      case measure => simp [intOf]; omega
    · go_wp2
      go_ret
      exact ⟨rfl, hbl⟩


set_option maxHeartbeats 2000000 in
theorem eqProg_c (l : List Fn) (A A' : Option Addr) (c c' L B L' B' : Nat) (w : World) (hB : B ≤ w.heap.size) (hB' : B' ≤ w.heap.size) (hl : fnsSz l ≤ 1048576) (h : FnL w L B A l) (h' : FnL w L' B' A' l) :
    Calls Try.prog 27 #[.agg #[.slice A l.length c], .agg #[.slice A' l.length c']] w fun r w' => r = .returned (.bool true) ∧ Below w.heap.size w w' := by
  have hb0 : Below w.heap.size w ((w.alloc (.cells #[.slice A l.length c] 54)).alloc (.cells #[.slice A' l.length c'] 54)) := ((Below.refl _ _).alloc (Nat.le_refl _) _).alloc (by simp) _
  have x1 := h.below (hb0.mono hB)
  have y1 := h'.below (hb0.mono hB')
  go_enter Try.func27, Try.ntmps27
  go_wp2_with fail
  refine (eqFuncS_c l A A' c c' L B L' B' _ (by simp; omega) (by simp; omega) hl x1 y1).mono ?_
  rintro e w1 ⟨rfl, hb1⟩
  go_wp2
  go_ret
  exact ⟨rfl, hb0.trans (hb1.mono hb0.size)⟩
end Go.Proofs.Ytmejbmfopdfbjaa

namespace Go.Proofs.Ytmejbmfopdfbjaa
open Go.RowKit
set_option linter.unusedVariables false

theorem infoBs : (Try.prog.info? 22).map (fun i => (i.zero, i.size, i.bytes)) = some (some (.slice none 0 0), 1, 24) := by kernel_rfl

def BsP (w : World) (L : Nat) (cs : Array Value) (l : List (List UInt8)) (k : Nat) : Prop :=
  ∀ i (h : i < l.length), i < k → ∃ (A : Option Addr) (c : Nat), cs[i]? = some (.slice A l[i].length c) ∧ RBL w L w.heap.size A l[i] ∧ l[i].length ≤ maxLen
theorem BsP.keep {w w' : World} {L k : Nat} {cs : Array Value} {l : List (List UInt8)} (h : BsP w L cs l k) (hb : Below w.heap.size w w') : BsP w' L cs l k := fun i hi hk => by
  obtain ⟨A, c, c0, hR, hm⟩ := h i hi hk
  exact ⟨A, c, c0, (hR.below hb).more (Nat.le_refl _) hb.size, hm⟩
theorem BsP.low {w : World} {L k : Nat} {cs : Array Value} {l : List (List UInt8)} (h : BsP w L cs l k) {p : Addr} (hp : p.block < L) (v : Value) : BsP (w.setCell p v) L cs l k := fun i hi hk => by
  obtain ⟨A, c, c0, hR, hm⟩ := h i hi hk
  exact ⟨A, c, c0, by rw [World.size_setCell]; exact hR.low hp v, hm⟩
theorem BsP.step {w : World} {L k : Nat} {cs : Array Value} {l : List (List UInt8)} (h : BsP w L cs l k) (hk : k < l.length) (hcs : l.length ≤ cs.size) {A : Option Addr} {c : Nat} (hR : RBL w L w.heap.size A l[k]) (hm : l[k].length ≤ maxLen) :
    BsP w L (cs.setIfInBounds k (.slice A l[k].length c)) l (k + 1) := by
  intro i hi hik
  by_cases e : i = k
  · subst e
    exact ⟨A, c, Array.getElem?_setIfInBounds_self_of_lt (by omega), hR, hm⟩
  · obtain ⟨A', c', c0, hR', hm'⟩ := h i hi (by omega)
    exact ⟨A', c', by rw [Array.getElem?_setIfInBounds_ne (by omega)]; exact c0, hR', hm'⟩
theorem BsP.bsl {w : World} {L g : Nat} {t : TypeId} {cs : Array Value} {l : List (List UInt8)} (h : BsP w L cs l l.length) (hm : l.length ≤ maxLen) (hb : Blk w g t cs) (hL : g ≤ L) : BsL w g w.heap.size (some ⟨g, 0, none⟩) l := by
  refine ⟨hm, fun _ => ⟨_, rfl, Nat.le_refl _, hb.lt, fun k hk => ?_⟩⟩
  obtain ⟨A, c, c0, hR, hm'⟩ := h k hk hk
  refine ⟨A, c, ?_, hR.more hL (Nat.le_refl _), hm'⟩
  rw [show (Addr.add ⟨g, 0, none⟩ k) = ⟨g, k, none⟩ by unfold Addr.add; split <;> simp_all]
  rw [hb.cell]; exact c0

set_option maxHeartbeats 2000000 in
theorem toByteSS_c (l : List (List UInt8)) (A : Option Addr) (c L B : Nat) (w : World) (hB : B ≤ w.heap.size) (hl : bsSz l ≤ 1048576) (h : BsL w L B A l) :
    Calls Try.prog 34 #[.slice A l.length c] w fun r w' => ∃ g, r = .returned (.slice (some ⟨g, 0, none⟩) l.length l.length) ∧ g < w'.heap.size ∧ w.heap.size ≤ g ∧ BsL w' w.heap.size w'.heap.size (some ⟨g, 0, none⟩) l ∧ Below w.heap.size w w' := by
  have hlen : l.length ≤ bsSz l := by unfold bsSz; omega
  have hmk := run_make_row' (P := Try.prog) 23 22 (.slice none 0 0) 24 Try.underlying23 infoBs rfl .i64 .i64 l.length (by omega) (by omega)
  go_enter Try.func34, Try.ntmps34
  go_wp2
  go_loopw [4] (fun i wr => ∃ (k : Nat) (cs : Array Value), k ≤ l.length ∧ i = .int .i64 k ∧ cs.size = l.length ∧ Blk wr w.heap.size 22 cs ∧ BsP wr (w.heap.size + 1) cs l k ∧ Below w.heap.size w wr) (fun i _ => l.length - (intOf i).toNat)
  case atStart => exact ⟨0, _, Nat.zero_le _, rfl, by simp [madeCells], Blk.new _ _ _, fun i _ hk => by omega, (Below.refl _ _).alloc (Nat.le_refl _) _⟩
  case round =>
    obtain ⟨k, cs, hk, rfl, hcs, hblk, hown, hbl⟩ := hrel
    have Hcs := Lib.hid hcs
    clear hcs
    by_cases hlt : k < l.length
    · obtain ⟨ad, rfl, _, hb, hat⟩ := (h.below (hbl.mono hB)).2 (by omega)
      obtain ⟨A', c', c0, hR, hm⟩ := hat k hlt
      have hsz1 := bsSz_get hlt
      clear hat
      go_wp2_with fail
      refine (toByteS_c l[k] A' c' B wr (by omega) (Nat.le_trans hB hbl.size) hR.1).mono ?_
      rintro e w1 ⟨g1, rfl, hB1, hg1, hs1, hb1⟩
      have hblk1 := hblk.below hb1 hblk.lt
      have hsz := Hcs.out
      obtain ⟨o0, e0⟩ : ∃ v, cs[k]? = some v := ⟨_, Array.getElem?_eq_getElem (by omega)⟩
      have q0 : w1.cell? ⟨w.heap.size, k, none⟩ = some o0 := by rw [hblk1.cell]; exact e0
      have z0 : w1.frozen? ⟨w.heap.size, k, none⟩ = false := hblk1.frozen _
      have hlt1 := hblk.lt
      have hbl1 := hbl.trans (hb1.mono hbl.size)
      have hfin := (hown.keep hb1).step (c := l[k].length) hlt (by omega) (A := some ⟨g1, 0, none⟩) ⟨RB.of_blk hB1 hs1, fun _ => ⟨_, rfl, by show w.heap.size + 1 ≤ g1; omega⟩⟩ hm
      have Hfin := Lib.hid hfin
      clear hsz e0 hfin
      go_wp2
      go_roundw
      case rel => exact ⟨k + 1, _, by omega, by go_num, by simpa using Hcs.out, hblk1.set_ k _, Hfin.out.low (by simp) _, hbl1.setCell (by simp) _⟩
      case measure => simp [intOf]; omega
    · go_wp2
      go_ret
      have : k = l.length := by omega
      subst this
      exact ⟨_, rfl, hblk.lt, Nat.le_refl _, hown.bsl (by unfold maxLen; omega) hblk (by omega), hbl⟩

def ToFn (f : Fn) : Prop := ∀ (v0 v1 v2 : Value) (w : World) (L B : Nat), FnV w L B v0 v1 v2 f → B ≤ w.heap.size → fnSz f ≤ 1048576 →
  Calls Try.prog 8 #[.agg #[v0, v1, v2]] w fun r w' => ∃ u0 u1 u2, r = .returned (.agg #[u0, u1, u2]) ∧ FnV w' w.heap.size w'.heap.size u0 u1 u2 f ∧ Below w.heap.size w w'

set_option maxRecDepth 100000 in
set_option maxHeartbeats 4000000 in
theorem toFunc_c (f : Fn) : ToFn f := by
  intro v0 v1 v2 w L B hv hB hsz
  obtain ⟨A, c, A1, c1, A2, c2, rfl, rfl, rfl, hR, hm, hp, hbd, hcp⟩ := hv
  have hpl := hp.1
  unfold fnSz at hsz
  have hbw0 : Below w.heap.size w (((w.alloc (.cells #[.slice A f.name.length c, .slice A1 f.params.length c1, .slice A2 f.body.length c2] 26)).alloc (.cells #[.slice none 0 0, .slice none 0 0, .slice none 0 0] 31)).alloc (.cells #[.slice none 0 0, .slice none 0 0, .slice none 0 0] 31)) := (((Below.refl _ _).alloc (Nat.le_refl _) _).alloc (by simp) _).alloc (by simp; omega) _
  have hR0 := (hR.below (hbw0.mono hB)).1
  have hp0 := hp.below (hbw0.mono hB)
  have hb0 := hbd.below (hbw0.mono hB)
  clear hR hp hbd
  go_enter Try.func8, Try.ntmps8
  go_wp2_with fail
  refine (toByteS_c f.name A c B _ (by omega) (by simp; omega) hR0).mono ?_
  rintro e' w1 ⟨g1, rfl, hG1, hg1, hlt1, hb1⟩
  have K2 : Blk w1 (w.heap.size + 1 + 1) 31 #[.slice none 0 0, .slice none 0 0, .slice none 0 0] := Blk.below (by have := Blk.new ((w.alloc (.cells #[.slice A f.name.length c, .slice A1 f.params.length c1, .slice A2 f.body.length c2] 26)).alloc (.cells #[.slice none 0 0, .slice none 0 0, .slice none 0 0] 31)) 31 #[.slice none 0 0, .slice none 0 0, .slice none 0 0]; simpa using this) hb1 (by simp)
  have K1 : Blk w1 (w.heap.size + 1) 31 #[.slice none 0 0, .slice none 0 0, .slice none 0 0] := Blk.below ((by have := Blk.new (w.alloc (.cells #[.slice A f.name.length c, .slice A1 f.params.length c1, .slice A2 f.body.length c2] 26)) 31 #[.slice none 0 0, .slice none 0 0, .slice none 0 0]; simpa using this : Blk ((w.alloc (.cells #[.slice A f.name.length c, .slice A1 f.params.length c1, .slice A2 f.body.length c2] 26)).alloc (.cells #[.slice none 0 0, .slice none 0 0, .slice none 0 0] 31)) (w.heap.size + 1) 31 _).alloc _) hb1 (by simp)
  have K0 : Blk w1 w.heap.size 26 #[.slice A f.name.length c, .slice A1 f.params.length c1, .slice A2 f.body.length c2] := Blk.below (((Blk.new w 26 _).alloc _).alloc _) hb1 (by simp; omega)
  have hg1' : w.heap.size + 1 + 1 + 1 ≤ g1 := by simpa using hg1
  have hbw1 : Below w.heap.size w w1 := hbw0.trans (hb1.mono (by simp; omega))
  have hp1 := hp0.below (hb1.mono (by simp; omega))
  have hb11 := hb0.below (hb1.mono (by simp; omega))
  have hz1 : w.heap.size + 1 + 1 + 1 ≤ w1.heap.size := by omega
  have n0 := K2.cell_of 0 rfl
  have z0 : w1.frozen? ⟨w.heap.size + 1 + 1, 0, none⟩ = false := K2.frozen 0
  have a1 := K0.cell_of 1 rfl
  have hRn1 : RBL w1 (w.heap.size + 1 + 1 + 1) w1.heap.size (some ⟨g1, 0, none⟩) f.name := ⟨RB.of_blk hG1 hlt1, fun _ => ⟨_, rfl, by show _ ≤ g1; omega⟩⟩
  clear hb1 hg1 hR0 hp0 hb0 hbw0 hG1
  go_wp2_with fail
  refine (toByteSS_c f.params A1 c1 L B (w1.setCell ⟨w.heap.size + 1 + 1, 0, none⟩ (.slice (some ⟨g1, 0, none⟩) f.name.length f.name.length)) (by simp; omega) (by omega) (hp1.keep fun p _ hp => World.cell?_setCell_other w1 _ p _ (fun e => by subst e; simp at hp; omega))).mono ?_
  rintro e' w2 ⟨g2, rfl, hg2, hg2', hx2, hb2⟩
  rw [World.size_setCell] at hx2 hg2' hb2
  have hz2 : w1.heap.size ≤ w2.heap.size := by have := hb2.size; simpa using this
  have K02 := (K0.far (p := ⟨w.heap.size + 1 + 1, 0, none⟩) (by simp; omega) (.slice (some ⟨g1, 0, none⟩) f.name.length f.name.length)).below hb2 (by have := K0.lt; omega)
  have K12 := (K1.far (p := ⟨w.heap.size + 1 + 1, 0, none⟩) (by simp) (.slice (some ⟨g1, 0, none⟩) f.name.length f.name.length)).below hb2 (by have := K1.lt; omega)
  have K22 : Blk w2 (w.heap.size + 1 + 1) 31 #[.slice (some ⟨g1, 0, none⟩) f.name.length f.name.length, .slice none 0 0, .slice none 0 0] := (K2.set_ 0 (.slice (some ⟨g1, 0, none⟩) f.name.length f.name.length)).below hb2 (by have := K2.lt; omega)
  have hbw2 : Below w.heap.size w w2 := (hbw1.setCell (p := ⟨w.heap.size + 1 + 1, 0, none⟩) (by simp; omega) (.slice (some ⟨g1, 0, none⟩) f.name.length f.name.length)).trans (hb2.mono hbw1.size)
  have hRn2 := ((hRn1.low (p := ⟨w.heap.size + 1 + 1, 0, none⟩) (by simp) (.slice (some ⟨g1, 0, none⟩) f.name.length f.name.length)).below hb2).more (Nat.le_refl _) hz2
  have hb12 := (hb11.keep (w' := w1.setCell ⟨w.heap.size + 1 + 1, 0, none⟩ (.slice (some ⟨g1, 0, none⟩) f.name.length f.name.length)) fun p _ hp => World.cell?_setCell_other w1 _ p _ (fun e => by subst e; simp at hp; omega)).below (hb2.mono (by omega))
  have hP2 := hx2.more hz1 (Nat.le_refl _)
  have n1 := K22.cell_of 1 rfl
  have z1 : w2.frozen? ⟨w.heap.size + 1 + 1, 1, none⟩ = false := K22.frozen 1
  have a2 := K02.cell_of 2 rfl
  clear hb2 n0 z0 a1 K0 K1 K2 hRn1 hp1 hb11 hx2 K02
  go_wp2_with fail
  refine (toStS_of f.body (fun s _ => toSt_c s) A2 c2 L B (w2.setCell ⟨w.heap.size + 1 + 1, 1, none⟩ (.slice (some ⟨g2, 0, none⟩) f.params.length f.params.length)) (by simp; omega) (by omega) (hb12.keep fun p _ hp => World.cell?_setCell_other w2 _ p _ (fun e => by subst e; simp at hp; omega))).mono ?_
  rintro e' w3 ⟨g3, rfl, hg3, hg3', hx3, hb3⟩
  rw [World.size_setCell] at hx3 hg3' hb3
  have hz3 : w2.heap.size ≤ w3.heap.size := by have := hb3.size; simpa using this
  have K13 := (K12.far (p := ⟨w.heap.size + 1 + 1, 1, none⟩) (by simp) (.slice (some ⟨g2, 0, none⟩) f.params.length f.params.length)).below hb3 (by have := K12.lt; omega)
  have K23 : Blk w3 (w.heap.size + 1 + 1) 31 #[.slice (some ⟨g1, 0, none⟩) f.name.length f.name.length, .slice (some ⟨g2, 0, none⟩) f.params.length f.params.length, .slice none 0 0] := (K22.set_ 1 (.slice (some ⟨g2, 0, none⟩) f.params.length f.params.length)).below hb3 (by have := K22.lt; omega)
  have hbw3 : Below w.heap.size w w3 := (hbw2.setCell (p := ⟨w.heap.size + 1 + 1, 1, none⟩) (by simp; omega) (.slice (some ⟨g2, 0, none⟩) f.params.length f.params.length)).trans (hb3.mono hbw2.size)
  have hRn3 := ((hRn2.low (p := ⟨w.heap.size + 1 + 1, 1, none⟩) (by simp) (.slice (some ⟨g2, 0, none⟩) f.params.length f.params.length)).below hb3).more (Nat.le_refl _) hz3
  have hP3 := ((hP2.keep (w' := w2.setCell ⟨w.heap.size + 1 + 1, 1, none⟩ (.slice (some ⟨g2, 0, none⟩) f.params.length f.params.length)) fun p hp _ => World.cell?_setCell_other w2 _ p _ (fun e => by subst e; simp at hp; omega)).below hb3).more (Nat.le_refl _) hz3
  have hS3 := hx3.more (Nat.le_trans hz1 hz2) (Nat.le_refl _)
  have n0 := K23.cell_of 0 rfl
  have n1' := K23.cell_of 1 rfl
  have n2 := K23.cell_of 2 rfl
  have z2 : w3.frozen? ⟨w.heap.size + 1 + 1, 2, none⟩ = false := K23.frozen 2
  have m0 := K13.cell_of 0 rfl
  have m1 := K13.cell_of 1 rfl
  have m2 := K13.cell_of 2 rfl
  have y0 : w3.frozen? ⟨w.heap.size + 1, 0, none⟩ = false := K13.frozen 0
  have y1 : w3.frozen? ⟨w.heap.size + 1, 1, none⟩ = false := K13.frozen 1
  have y2 : w3.frozen? ⟨w.heap.size + 1, 2, none⟩ = false := K13.frozen 2
  clear hb3 n1 z1 a2 K12 K22 hRn2 hP2 hb12 hx3
  go_wp2_with fail
  refine bodyPost_ret (v := .agg #[.slice (some ⟨g1, 0, none⟩) f.name.length f.name.length, .slice (some ⟨g2, 0, none⟩) f.params.length f.params.length, .slice (some ⟨g3, 0, none⟩) f.body.length f.body.length]) (by simp [results, Try.results8, go_sem, m0, m1, m2]) rfl ?_
  have hL0 := hbw3.size
  have k1 : ∀ p : Addr, w.heap.size + 1 + 1 + 1 ≤ p.block → p.block < w3.heap.size → (setL (setL w3 (w.heap.size + 1 + 1) 2 [.slice (some ⟨g3, 0, none⟩) f.body.length f.body.length]) (w.heap.size + 1) 0 [.slice (some ⟨g1, 0, none⟩) f.name.length f.name.length, .slice (some ⟨g2, 0, none⟩) f.params.length f.params.length, .slice (some ⟨g3, 0, none⟩) f.body.length f.body.length]).cell? p = w3.cell? p := by
    intro p h1 h2
    have n1 : p.block ≠ w.heap.size + 1 := by omega
    have n2 : p.block ≠ w.heap.size + 1 + 1 := by omega
    rw [setL_cell n1, setL_cell n2]
  have hbf0 : Below w.heap.size w (setL w3 (w.heap.size + 1 + 1) 2 [.slice (some ⟨g3, 0, none⟩) f.body.length f.body.length]) := setL_below _ 2 hbw3 (by omega)
  have hbf : Below w.heap.size w (setL (setL w3 (w.heap.size + 1 + 1) 2 [.slice (some ⟨g3, 0, none⟩) f.body.length f.body.length]) (w.heap.size + 1) 0 [.slice (some ⟨g1, 0, none⟩) f.name.length f.name.length, .slice (some ⟨g2, 0, none⟩) f.params.length f.params.length, .slice (some ⟨g3, 0, none⟩) f.body.length f.body.length]) := setL_below _ 0 hbf0 (by omega)
  have hfs : (setL (setL w3 (w.heap.size + 1 + 1) 2 [.slice (some ⟨g3, 0, none⟩) f.body.length f.body.length]) (w.heap.size + 1) 0 [.slice (some ⟨g1, 0, none⟩) f.name.length f.name.length, .slice (some ⟨g2, 0, none⟩) f.params.length f.params.length, .slice (some ⟨g3, 0, none⟩) f.body.length f.body.length]).heap.size = w3.heap.size := by rw [setL_size, setL_size]
  have hgo : ∃ u0 u1 u2 : Value, Ending.returned (.agg #[.slice (some ⟨g1, 0, none⟩) f.name.length f.name.length, .slice (some ⟨g2, 0, none⟩) f.params.length f.params.length, .slice (some ⟨g3, 0, none⟩) f.body.length f.body.length]) = Ending.returned (.agg #[u0, u1, u2]) ∧ FnV (setL (setL w3 (w.heap.size + 1 + 1) 2 [.slice (some ⟨g3, 0, none⟩) f.body.length f.body.length]) (w.heap.size + 1) 0 [.slice (some ⟨g1, 0, none⟩) f.name.length f.name.length, .slice (some ⟨g2, 0, none⟩) f.params.length f.params.length, .slice (some ⟨g3, 0, none⟩) f.body.length f.body.length]) w.heap.size (setL (setL w3 (w.heap.size + 1 + 1) 2 [.slice (some ⟨g3, 0, none⟩) f.body.length f.body.length]) (w.heap.size + 1) 0 [.slice (some ⟨g1, 0, none⟩) f.name.length f.name.length, .slice (some ⟨g2, 0, none⟩) f.params.length f.params.length, .slice (some ⟨g3, 0, none⟩) f.body.length f.body.length]).heap.size u0 u1 u2 f ∧ Below w.heap.size w (setL (setL w3 (w.heap.size + 1 + 1) 2 [.slice (some ⟨g3, 0, none⟩) f.body.length f.body.length]) (w.heap.size + 1) 0 [.slice (some ⟨g1, 0, none⟩) f.name.length f.name.length, .slice (some ⟨g2, 0, none⟩) f.params.length f.params.length, .slice (some ⟨g3, 0, none⟩) f.body.length f.body.length]) := by
    rw [hfs]
    clear hfs
    exact ⟨_, _, _, rfl, ⟨_, _, _, _, _, _, rfl, rfl, rfl, (hRn3.keep k1).more (by omega) (Nat.le_refl _), hm, (hP3.keep k1).more (by omega) (Nat.le_refl _), (hS3.keep k1).more (by omega) (Nat.le_refl _), Nat.le_refl _, hpl⟩, hbf⟩
  exact hgo
end Go.Proofs.Ytmejbmfopdfbjaa

namespace Go.Proofs.Ytmejbmfopdfbjaa
open Go.RowKit
set_option linter.unusedVariables false

theorem infoFn : (Try.prog.info? 31).map (fun i => (i.zero, i.size, i.bytes)) = some (some (.agg #[.slice none 0 0, .slice none 0 0, .slice none 0 0]), 3, 72) := by kernel_rfl

theorem FnV.low {w : World} {L B : Nat} {u0 u1 u2 : Value} {f : Fn} (h : FnV w L B u0 u1 u2 f) {p : Addr} (hp : p.block < L) (v : Value) : FnV (w.setCell p v) L B u0 u1 u2 f :=
  h.keep fun q hq _ => World.cell?_setCell_other w p q v (fun e => by subst e; omega)
def FnsP (w : World) (L : Nat) (cs : Array Value) (l : List Fn) (k : Nat) : Prop :=
  ∀ i (h : i < l.length), i < k → ∃ u0 u1 u2, cs[i * 3]? = some u0 ∧ cs[i * 3 + 1]? = some u1 ∧ cs[i * 3 + 2]? = some u2 ∧ FnV w L w.heap.size u0 u1 u2 l[i]
theorem FnsP.keep {w w' : World} {L k : Nat} {cs : Array Value} {l : List Fn} (h : FnsP w L cs l k) (hb : Below w.heap.size w w') : FnsP w' L cs l k := fun i hi hk => by
  obtain ⟨u0, u1, u2, c0, c1, c2, hv⟩ := h i hi hk
  exact ⟨u0, u1, u2, c0, c1, c2, (hv.below hb).more (Nat.le_refl _) hb.size⟩
theorem FnsP.low {w : World} {L k : Nat} {cs : Array Value} {l : List Fn} (h : FnsP w L cs l k) {p : Addr} (hp : p.block < L) (v : Value) : FnsP (w.setCell p v) L cs l k := fun i hi hk => by
  obtain ⟨u0, u1, u2, c0, c1, c2, hv⟩ := h i hi hk
  exact ⟨u0, u1, u2, c0, c1, c2, by rw [World.size_setCell]; exact hv.low hp v⟩
theorem FnsP.step {w : World} {L k : Nat} {cs : Array Value} {l : List Fn} (h : FnsP w L cs l k) (hk : k < l.length) (hcs : l.length * 3 ≤ cs.size) {u0 u1 u2 : Value} (hv : FnV w L w.heap.size u0 u1 u2 l[k]) :
    FnsP w L (putL cs (k * 3) [u0, u1, u2]) l (k + 1) := by
  intro i hi hik
  by_cases e : i = k
  · subst e
    have a0 := putL_at [u0, u1, u2] cs (i * 3) 0 u0 (by simp; omega) rfl
    exact ⟨u0, u1, u2, by simpa using a0, putL_at [u0, u1, u2] cs (i * 3) 1 u1 (by simp; omega) rfl, putL_at [u0, u1, u2] cs (i * 3) 2 u2 (by simp; omega) rfl, hv⟩
  · obtain ⟨x0, x1, x2, c0, c1, c2, hx⟩ := h i hi (by omega)
    refine ⟨x0, x1, x2, ?_, ?_, ?_, hx⟩
    · rw [putL_ne _ _ _ _ (by simp; omega)]; exact c0
    · rw [putL_ne _ _ _ _ (by simp; omega)]; exact c1
    · rw [putL_ne _ _ _ _ (by simp; omega)]; exact c2
theorem FnsP.fnl {w : World} {L g : Nat} {t : TypeId} {cs : Array Value} {l : List Fn} (h : FnsP w L cs l l.length) (hm : l.length ≤ maxLen) (hb : Blk w g t cs) (hL : g ≤ L) : FnL w g w.heap.size (some ⟨g, 0, none⟩) l := by
  refine ⟨hm, fun _ => ⟨_, rfl, Nat.le_refl _, hb.lt, fun k hk => ?_⟩⟩
  obtain ⟨u0, u1, u2, c0, c1, c2, hv⟩ := h k hk hk
  have e : (Addr.add ⟨g, 0, none⟩ (k * 3)) = ⟨g, k * 3, none⟩ := by unfold Addr.add; split <;> simp_all
  refine ⟨u0, u1, u2, ?_, hv.more hL (Nat.le_refl _)⟩
  rw [e]
  exact ⟨by rw [hb.cell]; exact c0, by show w.cell? ⟨g, k * 3 + 1, none⟩ = _; rw [hb.cell]; exact c1, by show w.cell? ⟨g, k * 3 + 2, none⟩ = _; rw [hb.cell]; exact c2⟩

set_option maxHeartbeats 4000000 in
theorem toFuncS_c (l : List Fn) (A : Option Addr) (c L B : Nat) (w : World) (hB : B ≤ w.heap.size) (hl : fnsSz l ≤ 1048576) (h : FnL w L B A l) :
    Calls Try.prog 47 #[.slice A l.length c] w fun r w' => ∃ g, r = .returned (.slice (some ⟨g, 0, none⟩) l.length l.length) ∧ g < w'.heap.size ∧ w.heap.size ≤ g ∧ FnL w' w.heap.size w'.heap.size (some ⟨g, 0, none⟩) l ∧ Below w.heap.size w w' := by
  obtain ⟨i0, hi, hz0, hz1, hz2⟩ := info_parts infoFn
  have hlen : l.length ≤ fnsSz l := by unfold fnsSz; omega
  have hmk : ∀ u : World, (Instr.makeSlice 52 (.int .i64 (l.length : Int)) (.int .i64 (l.length : Int))).run Try.prog u =
      .ok (.slice (some ⟨u.heap.size, 0, none⟩) l.length l.length) (u.alloc (.cells (madeCells #[.slice none 0 0, .slice none 0 0, .slice none 0 0] (l.length * 3)) 31)) := fun u => by
    have h := run_make (P := Try.prog) u 52 31 i0 (.agg #[.slice none 0 0, .slice none 0 0, .slice none 0 0]) Try.underlying52 hi hz0 .i64 .i64 (l.length : Int) (l.length : Int) (by omega) (Int.le_refl _) (by rw [hz2]; omega) (by omega)
    rw [Int.toNat_natCast] at h
    simpa [hz1, Value.cells] using h
  clear hi hz0 hz1 hz2
  go_enter Try.func47, Try.ntmps47
  go_wp2
  go_loopw [4] (fun i wr => ∃ (k : Nat) (cs : Array Value), k ≤ l.length ∧ i = .int .i64 k ∧ cs.size = l.length * 3 ∧ Blk wr w.heap.size 31 cs ∧ FnsP wr (w.heap.size + 1) cs l k ∧ Below w.heap.size w wr) (fun i _ => l.length - (intOf i).toNat)
  case atStart => exact ⟨0, _, Nat.zero_le _, rfl, by simp [madeCells], Blk.new _ _ _, fun i _ hk => by omega, (Below.refl _ _).alloc (Nat.le_refl _) _⟩
  case round =>
    obtain ⟨k, cs, hk, rfl, hcs, hblk, hown, hbl⟩ := hrel
    have Hcs := Lib.hid hcs
    clear hcs
    by_cases hlt : k < l.length
    · obtain ⟨ad, rfl, _, hb, hat⟩ := (h.below (hbl.mono hB)).2 (by omega)
      obtain ⟨v0, v1, v2, ⟨c0, c1, c2⟩, hv⟩ := hat k hlt
      have hsz1 := fnsSz_get hlt
      have hc := toFunc_c l[k] v0 v1 v2 wr L B hv (Nat.le_trans hB hbl.size) (by omega)
      obtain ⟨xA, xc, xA1, xc1, xA2, xc2, rfl, rfl, rfl, _⟩ := hv
      have Hc := Lib.hid hc
      clear hc hat
      go_wp2_with fail
      refine Hc.out.mono ?_
      rintro e w1 ⟨u0, u1, u2, rfl, hu, hb1⟩
      have hu' := hu
      obtain ⟨zA, zc, zA1, zc1, zA2, zc2, rfl, rfl, rfl, _⟩ := hu'
      generalize ey1 : zA = y1 at *
      generalize ey2 : l[k].name.length = y2 at *
      generalize ey3 : zc = y3 at *
      generalize ey4 : zA1 = y4 at *
      generalize ey5 : l[k].params.length = y5 at *
      generalize ey6 : zc1 = y6 at *
      generalize ey7 : zA2 = y7 at *
      generalize ey8 : l[k].body.length = y8 at *
      generalize ey9 : zc2 = y9 at *
      have hblk1 := hblk.below hb1 hblk.lt
      have hsz := Hcs.out
      obtain ⟨o0, e0⟩ : ∃ v, cs[k * 3]? = some v := ⟨_, Array.getElem?_eq_getElem (by omega)⟩
      have q0 : w1.cell? ⟨w.heap.size, k * 3, none⟩ = some o0 := by rw [hblk1.cell]; exact e0
      have z0 : w1.frozen? ⟨w.heap.size, k * 3, none⟩ = false := hblk1.frozen _
      obtain ⟨o1, e1⟩ : ∃ v, cs[k * 3 + 1]? = some v := ⟨_, Array.getElem?_eq_getElem (by omega)⟩
      have q1 : w1.cell? ⟨w.heap.size, k * 3 + 1, none⟩ = some o1 := by rw [hblk1.cell]; exact e1
      have z1 : w1.frozen? ⟨w.heap.size, k * 3 + 1, none⟩ = false := hblk1.frozen _
      obtain ⟨o2, e2⟩ : ∃ v, cs[k * 3 + 2]? = some v := ⟨_, Array.getElem?_eq_getElem (by omega)⟩
      have q2 : w1.cell? ⟨w.heap.size, k * 3 + 2, none⟩ = some o2 := by rw [hblk1.cell]; exact e2
      have z2 : w1.frozen? ⟨w.heap.size, k * 3 + 2, none⟩ = false := hblk1.frozen _
      have hlt1 := hblk.lt
      have hbl1 := hbl.trans (hb1.mono hbl.size)
      have hfin := (hown.keep hb1).step hlt (by omega) (hu.more (by omega) (Nat.le_refl _))
      have Hfin := Lib.hid hfin
      clear hsz e0 e1 e2 hfin ey1 ey2 ey3 ey4 ey5 ey6 ey7 ey8 ey9 hu Hc
      go_wp2
      go_roundw
      case rel =>
        have e12 : (((w1.setCell ⟨w.heap.size, k * 3, none⟩ (.slice y1 y2 y3)).setCell ⟨w.heap.size, k * 3 + 1, none⟩ (.slice y4 y5 y6)).setCell ⟨w.heap.size, k * 3 + 2, none⟩ (.slice y7 y8 y9)) = setL w1 w.heap.size (k * 3) [.slice y1 y2 y3, .slice y4 y5 y6, .slice y7 y8 y9] := rfl
        rw [e12]
        exact ⟨k + 1, putL cs (k * 3) [.slice y1 y2 y3, .slice y4 y5 y6, .slice y7 y8 y9], by omega, by go_num, by rw [putL_size]; exact Hcs.out, hblk1.putL _ (k * 3), setL_ind (P := fun u => FnsP u (w.heap.size + 1) (putL cs (k * 3) [.slice y1 y2 y3, .slice y4 y5 y6, .slice y7 y8 y9]) l (k + 1)) (fun u j v hu => FnsP.low hu (by simp) v) _ (k * 3) Hfin.out, setL_below _ (k * 3) hbl1 (Nat.le_refl _)⟩
      case measure => simp [intOf]; omega
    · go_wp2
      go_ret
      have : k = l.length := by omega
      subst this
      exact ⟨_, rfl, hblk.lt, Nat.le_refl _, hown.fnl (by unfold maxLen; omega) hblk (by omega), hbl⟩

set_option maxHeartbeats 2000000 in
theorem toProg_c (l : List Fn) (A : Option Addr) (c L B : Nat) (w : World) (hB : B ≤ w.heap.size) (hl : fnsSz l ≤ 1048576) (h : FnL w L B A l) :
    Calls Try.prog 25 #[.agg #[.slice A l.length c]] w fun r w' => ∃ g, r = .returned (.agg #[.slice (some ⟨g, 0, none⟩) l.length l.length]) ∧ g < w'.heap.size ∧ w.heap.size ≤ g ∧ FnL w' w.heap.size w'.heap.size (some ⟨g, 0, none⟩) l ∧ Below w.heap.size w w' := by
  have hbw0 : Below w.heap.size w (((w.alloc (.cells #[.slice A l.length c] 49)).alloc (.cells #[.slice none 0 0] 54)).alloc (.cells #[.slice none 0 0] 54)) := (((Below.refl _ _).alloc (Nat.le_refl _) _).alloc (by simp) _).alloc (by simp; omega) _
  have h0 := h.below (hbw0.mono hB)
  go_enter Try.func25, Try.ntmps25
  go_wp2_with fail
  refine (toFuncS_c l A c L B _ (by simp; omega) hl h0).mono ?_
  rintro e' w1 ⟨g1, rfl, hg1, hg1', hx, hb1⟩
  have K2 : Blk w1 (w.heap.size + 1 + 1) 54 #[.slice none 0 0] := Blk.below (by have := Blk.new ((w.alloc (.cells #[.slice A l.length c] 49)).alloc (.cells #[.slice none 0 0] 54)) 54 #[.slice none 0 0]; simpa using this) hb1 (by simp)
  have K1 : Blk w1 (w.heap.size + 1) 54 #[.slice none 0 0] := Blk.below ((by have := Blk.new (w.alloc (.cells #[.slice A l.length c] 49)) 54 #[.slice none 0 0]; simpa using this : Blk ((w.alloc (.cells #[.slice A l.length c] 49)).alloc (.cells #[.slice none 0 0] 54)) (w.heap.size + 1) 54 _).alloc _) hb1 (by simp)
  have hbw1 : Below w.heap.size w w1 := hbw0.trans (hb1.mono (by simp; omega))
  have hz : w.heap.size + 1 + 1 + 1 ≤ w1.heap.size := by have := hb1.size; simpa using this
  have hx' : FnL w1 (w.heap.size + 1 + 1 + 1) w1.heap.size (some ⟨g1, 0, none⟩) l := hx.more (by simp) (Nat.le_refl _)
  have hgg : w.heap.size + 1 + 1 + 1 ≤ g1 := by simpa using hg1'
  have n0 := K2.cell_of 0 rfl
  have m0 := K1.cell_of 0 rfl
  have z0 : w1.frozen? ⟨w.heap.size + 1 + 1, 0, none⟩ = false := K2.frozen 0
  have y0 : w1.frozen? ⟨w.heap.size + 1, 0, none⟩ = false := K1.frozen 0
  clear hb1 hg1' hx h0
  go_wp2_with fail
  refine bodyPost_ret (v := .agg #[.slice (some ⟨g1, 0, none⟩) l.length l.length]) (by simp [results, Try.results25, go_sem, m0]) rfl ?_
  have k1 : ∀ p : Addr, w.heap.size + 1 + 1 + 1 ≤ p.block → p.block < w1.heap.size → ((w1.setCell ⟨w.heap.size + 1 + 1, 0, none⟩ (.slice (some ⟨g1, 0, none⟩) l.length l.length)).setCell ⟨w.heap.size + 1, 0, none⟩ (.slice (some ⟨g1, 0, none⟩) l.length l.length)).cell? p = w1.cell? p := by
    intro p h1 h2
    rw [World.cell?_setCell_other _ _ _ _ (fun e => by rw [← e] at h1; simp at h1; omega), World.cell?_setCell_other _ _ _ _ (fun e => by rw [← e] at h1; simp at h1; omega)]
  refine ⟨g1, rfl, by simpa using hg1, by omega, ?_, (hbw1.setCell (by simp; omega) _).setCell (by simp) _⟩
  rw [World.size_setCell, World.size_setCell]
  exact (hx'.keep k1).more (by omega) (Nat.le_refl _)
end Go.Proofs.Ytmejbmfopdfbjaa
