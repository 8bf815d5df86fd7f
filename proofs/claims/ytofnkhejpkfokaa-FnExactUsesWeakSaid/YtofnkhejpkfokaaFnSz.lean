/-
  The laws' own size of programs.
-/
import Derived.Test.YtofnkhejpkfokaaFn
import Derived.Test.YtofnkhejpkfokaaStSz
namespace Go.Proofs.Ytofnkhejpkfokaa
open Go.RowKit
set_option linter.unusedVariables false

set_option maxHeartbeats 1000000 in
theorem szByteSS_c (l : List (List UInt8)) (A : Option Addr) (c L B : Nat) (left : Int) (w : World) (hB : B ≤ w.heap.size) (h0 : 0 ≤ left) (h1 : left ≤ 1048576) (h : BsL w L B A l) :
    Calls Try.prog 74 #[.slice A l.length c, .int .i64 left] w (SzP (bsSz l) left w) := by
  have hn := h.1
  unfold maxLen at hn
  by_cases hlt : left - l.length < 0
  · go_enter Try.func74, Try.ntmps74
    go_wp2
    go_ret
    exact ⟨-1, rfl, by omega, by omega, by omega, Below.refl _ _⟩
  have hge : 0 ≤ left - l.length := by omega
  clear hlt
  have htot : bsSz l = l.length + bsIn l l.length := rfl
  have Htot := Lib.hid htot
  clear htot
  go_enter Try.func74, Try.ntmps74
  go_wp2
  go_loopw [1, 5] (fun s i wr => ∃ (k : Nat) (r : Int), k ≤ l.length ∧ i = .int .i64 k ∧ s = .int .i64 r ∧ 0 ≤ r ∧ (l.length : Int) + bsIn l k + r ≤ left ∧ Below w.heap.size w wr) (fun _ i _ => l.length - (intOf i).toNat)
  case atStart => exact ⟨0, left - l.length, Nat.zero_le _, rfl, rfl, by omega, by simp [bsIn]; omega, Below.refl _ _⟩
  case round =>
    obtain ⟨k, r, hk, rfl, rfl, hr0, hr1, hbl⟩ := hrel
    by_cases hlt : k < l.length
    · obtain ⟨ad, rfl, _, hb, hat⟩ := (h.below (hbl.mono hB)).2 (by omega)
      obtain ⟨A', c', c0, hR, hm⟩ := hat k hlt
      unfold maxLen at hm
      have hst := bsIn_step hlt
      have hr2 : r ≤ 1048576 := by omega
      rcases sub_cases r l[k].length with ⟨hlt', he⟩ | ⟨hge', he⟩
      · have hc := szByteS_c A' l[k].length c' r wr hm hr0 hr2
        rw [he] at hc
        have Hc := Lib.hid hc
        clear hc he hst hat
        go_wp2_with fail
        refine Hc.out.mono ?_
        rintro e w1 ⟨rfl, rfl⟩
        go_wp2
        go_ret
        exact ⟨-1, rfl, by omega, by omega, by omega, hbl⟩
      · have hc := szByteS_c A' l[k].length c' r wr hm hr0 hr2
        rw [he] at hc
        have Hc := Lib.hid hc
        have hst' : (bsIn l (k + 1) : Int) ≤ bsIn l k + l[k].length := by omega
        clear hc he hst hat
        go_wp2_with fail
        refine Hc.out.mono ?_
        rintro e w1 ⟨rfl, rfl⟩
        go_wp2
        go_roundw
        case rel => exact ⟨k + 1, r - l[k].length, by omega, by go_num, rfl, by omega, by omega, hbl⟩
        case measure => simp [intOf]; omega
    · go_wp2
      go_ret
      have : k = l.length := by omega
      subst this
      exact ⟨r, rfl, by omega, by omega, fun _ => by have := Htot.out; omega, hbl⟩


def SzFn (f : Fn) : Prop := ∀ (v0 v1 v2 : Value) (left : Int) (w : World) (L B : Nat), FnV w L B v0 v1 v2 f → B ≤ w.heap.size → 0 ≤ left → left ≤ 1048576 →
  Calls Try.prog 37 #[.agg #[v0, v1, v2], .int .i64 left] w (SzP (fnSz f) left w)

set_option maxHeartbeats 2000000 in
theorem szFunc_c (f : Fn) : SzFn f := by
  intro v0 v1 v2 left w L B hv hB h0 h1
  obtain ⟨A, c, A1, c1, A2, c2, rfl, rfl, rfl, hR, hm, hp, hbd⟩ := hv
  unfold maxLen at hm
  unfold fnSz
  have hbl : Below w.heap.size w (w.alloc (.cells #[.slice A f.name.length c, .slice A1 f.params.length c1, .slice A2 f.body.length c2] 44)) := (Below.refl _ _).alloc (Nat.le_refl _) _
  have hs := szByteS_c A f.name.length c left (w.alloc (.cells #[.slice A f.name.length c, .slice A1 f.params.length c1, .slice A2 f.body.length c2] 44)) hm h0 h1
  have hp' := hp.below (hbl.mono hB)
  have hb' := hbd.below (hbl.mono hB)
  clear hR hp hbd
  rcases sub_cases left f.name.length with ⟨hlt, hsb⟩ | ⟨hge, hsb⟩
  · rw [hsb] at hs
    have Hs := Lib.hid hs
    clear hsb hs
    go_enter Try.func37, Try.ntmps37
    go_wp2_with fail
    refine Hs.out.mono ?_
    rintro e w' ⟨rfl, rfl⟩
    go_wp2
    go_ret
    exact ⟨-1, rfl, by omega, by omega, by omega, hbl⟩
  rw [hsb] at hs
  have Hs := Lib.hid hs
  clear hsb hs
  go_enter Try.func37, Try.ntmps37
  go_wp2_with fail
  refine Hs.out.mono ?_
  rintro e w' ⟨rfl, rfl⟩
  go_wp2_with fail
  refine (szByteSS_c f.params A1 c1 L B (left - f.name.length) _ (by simp; omega) hge (by omega) hp').mono ?_
  rintro e w1 ⟨r1, rfl, p1, p2, p3, hbw1⟩
  have hbn1 := hbl.trans (hbw1.mono hbl.size)
  by_cases hr1 : r1 < 0
  · clear p3
    go_wp2
    go_ret
    exact ⟨-1, rfl, by omega, by omega, by omega, hbn1⟩
  have hr1' : 0 ≤ r1 := by omega
  have p4 := p3 hr1'
  have K1 : Blk w1 w.heap.size 44 #[.slice A f.name.length c, .slice A1 f.params.length c1, .slice A2 f.body.length c2] := (Blk.new w 44 _).below hbw1 (by simp)
  have q2 := K1.cell_of 2 rfl
  have hb1 := hb'.below (hbw1.mono (by simp; omega))
  have hw1 := hbn1.size
  clear hr1 p3 hb' hp'
  go_wp2_with fail
  refine (szStS_c f.body A2 c2 L B r1 _ (by omega) hr1' (by omega) hb1).mono ?_
  rintro e w2 ⟨r2, rfl, t1, t2, t3, hbw2⟩
  have hbn2 := hbn1.trans (hbw2.mono hbn1.size)
  by_cases hr2 : r2 < 0
  · clear t3
    go_wp2
    go_ret
    exact ⟨-1, rfl, by omega, by omega, by omega, hbn2⟩
  have hr2' : 0 ≤ r2 := by omega
  have t4 := t3 hr2'
  clear hr2 t3
  go_wp2
  go_ret
  exact ⟨r2, rfl, by omega, by omega, fun _ => by omega, hbn2⟩

set_option maxHeartbeats 1000000 in
theorem szFuncS_c (l : List Fn) (A : Option Addr) (c L B : Nat) (left : Int) (w : World) (hB : B ≤ w.heap.size) (h0 : 0 ≤ left) (h1 : left ≤ 1048576) (h : FnL w L B A l) :
    Calls Try.prog 49 #[.slice A l.length c, .int .i64 left] w (SzP (fnsSz l) left w) := by
  have hn := h.1
  unfold maxLen at hn
  by_cases hlt : left - l.length < 0
  · go_enter Try.func49, Try.ntmps49
    go_wp2
    go_ret
    exact ⟨-1, rfl, by omega, by omega, by omega, Below.refl _ _⟩
  have hge : 0 ≤ left - l.length := by omega
  clear hlt
  have htot : fnsSz l = l.length + fnsIn l l.length := rfl
  have Htot := Lib.hid htot
  clear htot
  go_enter Try.func49, Try.ntmps49
  go_wp2
  go_loopw [1, 5] (fun s i wr => ∃ (k : Nat) (r : Int), k ≤ l.length ∧ i = .int .i64 k ∧ s = .int .i64 r ∧ 0 ≤ r ∧ (l.length : Int) + fnsIn l k + r ≤ left ∧ Below w.heap.size w wr) (fun _ i _ => l.length - (intOf i).toNat)
  case atStart => exact ⟨0, left - l.length, Nat.zero_le _, rfl, rfl, by omega, by simp [fnsIn]; omega, Below.refl _ _⟩
  case round =>
    obtain ⟨k, r, hk, rfl, rfl, hr0, hr1, hbl⟩ := hrel
    by_cases hlt : k < l.length
    · obtain ⟨ad, rfl, _, hb, hat⟩ := (h.below (hbl.mono hB)).2 (by omega)
      obtain ⟨v0, v1, v2, ⟨c0, c1, c2⟩, hv⟩ := hat k hlt
      have hst := fnsIn_step hlt
      have hr2 : r ≤ 1048576 := by omega
      have hc := szFunc_c l[k] v0 v1 v2 r wr L B hv (Nat.le_trans hB hbl.size) hr0 hr2
      obtain ⟨xA, xc, xA1, xc1, xA2, xc2, rfl, rfl, rfl, _⟩ := hv
      have Hc := Lib.hid hc
      clear hc
      go_wp2_with fail
      refine Hc.out.mono ?_
      rintro e w1 ⟨r1, rfl, q1, q2, q3, hb1⟩
      have hbn := hbl.trans (hb1.mono hbl.size)
      by_cases hr : r1 < 0
      · clear hst q3
        go_wp2
        go_ret
        exact ⟨-1, rfl, by omega, by omega, by omega, hbn⟩
      · have hr' : 0 ≤ r1 := by omega
        have q4 := q3 hr'
        have hst' : (fnsIn l (k + 1) : Int) ≤ fnsIn l k + fnSz l[k] := by omega
        clear hst q3 hr
        go_wp2
        go_roundw
        case rel => exact ⟨k + 1, r1, by omega, by go_num, rfl, by omega, by omega, hbn⟩
        case measure => simp [intOf]; omega
    · go_wp2
      go_ret
      have : k = l.length := by omega
      subst this
      exact ⟨r, rfl, by omega, by omega, fun _ => by have := Htot.out; omega, hbl⟩


set_option maxHeartbeats 1000000 in
theorem szProg_c (l : List Fn) (A : Option Addr) (c L B : Nat) (left : Int) (w : World) (hB : B ≤ w.heap.size) (h0 : 0 ≤ left) (h1 : left ≤ 1048576) (h : FnL w L B A l) :
    Calls Try.prog 14 #[.agg #[.slice A l.length c], .int .i64 left] w (SzP (fnsSz l) left w) := by
  have hbl : Below w.heap.size w (w.alloc (.cells #[.slice A l.length c] 24)) := (Below.refl _ _).alloc (Nat.le_refl _) _
  have h' := h.below (hbl.mono hB)
  go_enter Try.func14, Try.ntmps14
  go_wp2_with fail
  refine (szFuncS_c l A c L B left _ (by simp; omega) h0 h1 h').mono ?_
  rintro e w1 ⟨r1, rfl, p1, p2, p3, hbw1⟩
  have hbn1 := hbl.trans (hbw1.mono hbl.size)
  by_cases hr1 : r1 < 0
  · clear p3
    go_wp2
    go_ret
    exact ⟨-1, rfl, by omega, by omega, by omega, hbn1⟩
  have hr1' : 0 ≤ r1 := by omega
  have p4 := p3 hr1'
  clear hr1 p3
  go_wp2
  go_ret
  exact ⟨r1, rfl, by omega, by omega, fun _ => by omega, hbn1⟩
end Go.Proofs.Ytofnkhejpkfokaa
