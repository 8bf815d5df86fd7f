/-
  Arenas: the laws' own size.
-/
import Derived.Test.YtebgigiakfjocaaDoorArn
namespace Go.Proofs.YtebgigiakfjocaaDoor
open Go.RowKit
set_option linter.unusedVariables false

set_option maxHeartbeats 400000 in
theorem szBytes_c (A : Option Addr) (n c : Nat) (left : Int) (w : World) (hn : n ≤ 9223372036854775807) (h0 : 0 ≤ left) (h1 : left ≤ 1048576) :
    Calls Tryd.prog 51 #[.slice A n c, .int .i64 left] w fun e w' => e = .returned (.int .i64 (lft left n)) ∧ w = w' := by
  rcases lft_cases left n with ⟨hlt, he⟩ | ⟨hge, he⟩
  all_goals
    rw [he]
    clear he
    go_enter Tryd.func51, Tryd.ntmps51
    go_wp2
    go_ret
    exact ⟨rfl, rfl⟩
set_option maxHeartbeats 400000 in
theorem szIntS_c (A : Option Addr) (n c : Nat) (left : Int) (w : World) (hn : n ≤ 9223372036854775807) (h0 : 0 ≤ left) (h1 : left ≤ 1048576) :
    Calls Tryd.prog 39 #[.slice A n c, .int .i64 left] w fun e w' => e = .returned (.int .i64 (lft left n)) ∧ w = w' := by
  rcases lft_cases left n with ⟨hlt, he⟩ | ⟨hge, he⟩
  all_goals
    rw [he]
    clear he
    go_enter Tryd.func39, Tryd.ntmps39
    go_wp2
    go_ret
    exact ⟨rfl, rfl⟩

set_option maxHeartbeats 1000000 in
theorem szField_c (f : Fd) (v0 v1 v2 v3 : Value) (left : Int) (w : World) (L B : Nat) (hv : FdV w L B v0 v1 v2 v3 f) (h0 : 0 ≤ left) (h1 : left ≤ 1048576) :
    Calls Tryd.prog 114 #[.agg #[v0, v1, v2, v3], .int .i64 left] w (SzA (fdSz f) left w) := by
  obtain ⟨A, c, rfl, hR, hm, rfl, rfl, rfl⟩ := hv
  unfold maxLen at hm
  unfold fdSz
  have hs := szBytes_c A f.name.length c left (w.alloc (.cells #[.slice A f.name.length c, .int .i64 f.k, .int .i64 f.n, .int .i64 f.g] 169)) hm h0 h1
  have hbl : Below w.heap.size w (w.alloc (.cells #[.slice A f.name.length c, .int .i64 f.k, .int .i64 f.n, .int .i64 f.g] 169)) := (Below.refl _ _).alloc (Nat.le_refl _) _
  rcases lft_cases left f.name.length with ⟨hlt, he⟩ | ⟨hge, he⟩
  · rw [he] at hs
    have Hs := Lib.hid hs
    clear he hs
    go_enter Tryd.func114, Tryd.ntmps114
    go_wp2_with fail
    refine Hs.out.mono ?_
    rintro e w' ⟨rfl, rfl⟩
    go_wp2
    go_ret
    exact ⟨-1, rfl, by omega, by omega, by omega, hbl⟩
  · rw [he] at hs
    have Hs := Lib.hid hs
    clear he hs
    go_enter Tryd.func114, Tryd.ntmps114
    go_wp2_with fail
    refine Hs.out.mono ?_
    rintro e w' ⟨rfl, rfl⟩
    go_wp2
    go_ret
    exact ⟨left - f.name.length, rfl, by omega, by omega, fun _ => by omega, hbl⟩

set_option maxHeartbeats 1000000 in
theorem szFieldS_c (l : List Fd) (A : Option Addr) (c L B : Nat) (left : Int) (w : World) (hB : B ≤ w.heap.size) (h0 : 0 ≤ left) (h1 : left ≤ 1048576) (h : FdL w L B A l) :
    Calls Tryd.prog 95 #[.slice A l.length c, .int .i64 left] w (SzA (fsSz l) left w) := by
  have hn := h.1
  unfold maxLen at hn
  by_cases hlt : left - l.length < 0
  · go_enter Tryd.func95, Tryd.ntmps95
    go_wp2
    go_ret
    exact ⟨-1, rfl, by omega, by omega, by omega, Below.refl _ _⟩
  have hge : 0 ≤ left - l.length := by omega
  clear hlt
  have htot := sumIn_all fdSz l
  have Htot := Lib.hid htot
  clear htot
  go_enter Tryd.func95, Tryd.ntmps95
  go_wp2
  go_loopw [1, 5] (fun s i wr => ∃ (k : Nat) (r : Int), k ≤ l.length ∧ i = .int .i64 k ∧ s = .int .i64 r ∧ 0 ≤ r ∧ (l.length : Int) + sumIn fdSz l k + r ≤ left ∧ Below w.heap.size w wr) (fun _ i _ => l.length - (intOf i).toNat)
  case atStart => exact ⟨0, left - l.length, Nat.zero_le _, rfl, rfl, by omega, by simp [sumIn]; omega, Below.refl _ _⟩
  case round =>
    obtain ⟨k, r, hk, rfl, rfl, hr0, hr1, hbl⟩ := hrel
    by_cases hlt : k < l.length
    · obtain ⟨ad, rfl, _, hb, hat⟩ := (h.below (hbl.mono hB)).2 (by omega)
      obtain ⟨v0, v1, v2, v3, ⟨c0, c1, c2, c3⟩, hv⟩ := hat k hlt
      have hst := sumIn_step fdSz hlt
      have hr2 : r ≤ 1048576 := by omega
      have hc := szField_c l[k] v0 v1 v2 v3 r wr L B hv hr0 hr2
      have Hc := Lib.hid hc
      clear hc hat
      go_wp2_with fail
      refine Hc.out.mono ?_
      rintro e w1 ⟨r1, rfl, q1, q2, q3, hb1⟩
      have hbn := hbl.trans (hb1.mono hbl.size)
      by_cases hr : r1 < 0
      · clear hst q3
        go_wp2
        go_ret
        exact ⟨-1, rfl, by omega, by omega, by omega, hbn⟩
      · have hr' : 0 ≤ r1 := by omega
        have q4 := q3 hr'
        have hst' : (sumIn fdSz l (k + 1) : Int) ≤ sumIn fdSz l k + fdSz l[k] := by omega
        clear hst q3 hr
        go_wp2
        go_roundw
        case rel => exact ⟨k + 1, r1, by omega, by go_num, rfl, by omega, by omega, hbn⟩
        case measure => simp [intOf]; omega
    · go_wp2
      go_ret
      have : k = l.length := by omega
      subst this
      exact ⟨r, rfl, by omega, by omega, fun _ => by have := Htot.out; unfold fsSz; omega, hbl⟩

set_option maxHeartbeats 1000000 in
theorem szSlot_c (s : Sl) (v0 v1 v2 v3 : Value) (left : Int) (w : World) (L B : Nat) (hv : SlV w L B v0 v1 v2 v3 s) (hB : B ≤ w.heap.size) (h0 : 0 ≤ left) (h1 : left ≤ 1048576) :
    Calls Tryd.prog 69 #[.agg #[v0, v1, v2, v3], .int .i64 left] w (SzA (slSz s) left w) := by
  obtain ⟨rfl, rfl, rfl, A, c, rfl, hx⟩ := hv
  unfold slSz
  have hbl : Below w.heap.size w (w.alloc (.cells #[.bool s.live, .int .i64 s.gen, .int .i64 s.count, .slice A s.fs.length c] 128)) := (Below.refl _ _).alloc (Nat.le_refl _) _
  have hc := szFieldS_c s.fs A c L B left (w.alloc (.cells #[.bool s.live, .int .i64 s.gen, .int .i64 s.count, .slice A s.fs.length c] 128)) (by simp; omega) h0 h1 (hx.below (hbl.mono hB))
  have Hc := Lib.hid hc
  clear hc
  go_enter Tryd.func69, Tryd.ntmps69
  go_wp2_with fail
  refine Hc.out.mono ?_
  rintro e w1 ⟨r1, rfl, q1, q2, q3, hb1⟩
  have hbn := hbl.trans (hb1.mono hbl.size)
  by_cases hr : r1 < 0
  · clear q3
    go_wp2
    go_ret
    exact ⟨-1, rfl, by omega, by omega, by omega, hbn⟩
  · have hr' : 0 ≤ r1 := by omega
    have q4 := q3 hr'
    clear q3 hr
    go_wp2
    go_ret
    exact ⟨r1, rfl, by omega, by omega, fun _ => by omega, hbn⟩

set_option maxHeartbeats 1000000 in
theorem szSlotS_c (l : List Sl) (A : Option Addr) (c L B : Nat) (left : Int) (w : World) (hB : B ≤ w.heap.size) (h0 : 0 ≤ left) (h1 : left ≤ 1048576) (h : SlL w L B A l) :
    Calls Tryd.prog 38 #[.slice A l.length c, .int .i64 left] w (SzA (slsSz l) left w) := by
  have hn := h.1
  unfold maxLen at hn
  by_cases hlt : left - l.length < 0
  · go_enter Tryd.func38, Tryd.ntmps38
    go_wp2
    go_ret
    exact ⟨-1, rfl, by omega, by omega, by omega, Below.refl _ _⟩
  have hge : 0 ≤ left - l.length := by omega
  clear hlt
  have htot := sumIn_all slSz l
  have Htot := Lib.hid htot
  clear htot
  go_enter Tryd.func38, Tryd.ntmps38
  go_wp2
  go_loopw [1, 5] (fun s i wr => ∃ (k : Nat) (r : Int), k ≤ l.length ∧ i = .int .i64 k ∧ s = .int .i64 r ∧ 0 ≤ r ∧ (l.length : Int) + sumIn slSz l k + r ≤ left ∧ Below w.heap.size w wr) (fun _ i _ => l.length - (intOf i).toNat)
  case atStart => exact ⟨0, left - l.length, Nat.zero_le _, rfl, rfl, by omega, by simp [sumIn]; omega, Below.refl _ _⟩
  case round =>
    obtain ⟨k, r, hk, rfl, rfl, hr0, hr1, hbl⟩ := hrel
    by_cases hlt : k < l.length
    · obtain ⟨ad, rfl, _, hb, hat⟩ := (h.below (hbl.mono hB)).2 (by omega)
      obtain ⟨v0, v1, v2, v3, ⟨c0, c1, c2, c3⟩, hv⟩ := hat k hlt
      have hst := sumIn_step slSz hlt
      have hr2 : r ≤ 1048576 := by omega
      have hc := szSlot_c l[k] v0 v1 v2 v3 r wr L B hv (Nat.le_trans hB hbl.size) hr0 hr2
      have Hc := Lib.hid hc
      clear hc hat
      go_wp2_with fail
      refine Hc.out.mono ?_
      rintro e w1 ⟨r1, rfl, q1, q2, q3, hb1⟩
      have hbn := hbl.trans (hb1.mono hbl.size)
      by_cases hr : r1 < 0
      · clear hst q3
        go_wp2
        go_ret
        exact ⟨-1, rfl, by omega, by omega, by omega, hbn⟩
      · have hr' : 0 ≤ r1 := by omega
        have q4 := q3 hr'
        have hst' : (sumIn slSz l (k + 1) : Int) ≤ sumIn slSz l k + slSz l[k] := by omega
        clear hst q3 hr
        go_wp2
        go_roundw
        case rel => exact ⟨k + 1, r1, by omega, by go_num, rfl, by omega, by omega, hbn⟩
        case measure => simp [intOf]; omega
    · go_wp2
      go_ret
      have : k = l.length := by omega
      subst this
      exact ⟨r, rfl, by omega, by omega, fun _ => by have := Htot.out; unfold slsSz; omega, hbl⟩

set_option maxHeartbeats 1000000 in
theorem szArena_c (a : Ar) (A0 A1 A2 : Option Addr) (c0 c1 c2 L B : Nat) (left : Int) (w : World) (hB : B ≤ w.heap.size) (h0 : 0 ≤ left) (h1 : left ≤ 1048576) (h : ArL w L B A0 A1 A2 a) :
    Calls Tryd.prog 9 #[.agg #[.slice A0 a.slots.length c0, .slice A1 a.queue.length c1, .slice A2 a.purple.length c2], .int .i64 left] w (SzA (arSz a) left w) := by
  have hq := h.2.1.1
  have hp := h.2.2.1
  unfold maxLen at hq hp
  have hbl : Below w.heap.size w (w.alloc (.cells #[.slice A0 a.slots.length c0, .slice A1 a.queue.length c1, .slice A2 a.purple.length c2] 25)) := (Below.refl _ _).alloc (Nat.le_refl _) _
  have hc := szSlotS_c a.slots A0 c0 L B left (w.alloc (.cells #[.slice A0 a.slots.length c0, .slice A1 a.queue.length c1, .slice A2 a.purple.length c2] 25)) (by simp; omega) h0 h1 (h.1.below (hbl.mono hB))
  have Hc := Lib.hid hc
  clear hc
  go_enter Tryd.func9, Tryd.ntmps9
  go_wp2_with fail
  refine Hc.out.mono ?_
  rintro e w1 ⟨r1, rfl, q1, q2, q3, hb1⟩
  have K1 : Blk w1 w.heap.size 25 #[.slice A0 a.slots.length c0, .slice A1 a.queue.length c1, .slice A2 a.purple.length c2] := (Blk.new w _ _).below hb1 (by simp)
  have d1 := K1.cel 1 rfl
  have d2 := K1.cel 2 rfl
  have hbn := hbl.trans (hb1.mono hbl.size)
  clear hb1
  by_cases hr : r1 < 0
  · clear q3
    go_wp2
    go_ret
    exact ⟨-1, rfl, by omega, by omega, by omega, hbn⟩
  have hr' : 0 ≤ r1 := by omega
  have q4 := q3 hr'
  clear q3 hr
  have hs := szIntS_c A1 a.queue.length c1 r1 w1 (by omega) hr' (by omega)
  rcases lft_cases r1 a.queue.length with ⟨hlt, he⟩ | ⟨hge, he⟩
  · rw [he] at hs
    have Hs := Lib.hid hs
    clear he hs
    go_wp2_with fail
    refine Hs.out.mono ?_
    rintro e w' ⟨rfl, rfl⟩
    go_wp2
    go_ret
    exact ⟨-1, rfl, by omega, by omega, by omega, hbn⟩
  rw [he] at hs
  have Hs := Lib.hid hs
  clear he hs
  go_wp2_with fail
  refine Hs.out.mono ?_
  rintro e w' ⟨rfl, rfl⟩
  obtain ⟨r2, hr2⟩ : ∃ r2, r2 = r1 - (a.queue.length : Int) := ⟨_, rfl⟩
  rw [← hr2] at hge ⊢
  have hs := szIntS_c A2 a.purple.length c2 r2 w1 (by omega) hge (by omega)
  rcases lft_cases r2 a.purple.length with ⟨hlt, he⟩ | ⟨hge', he⟩
  · rw [he] at hs
    have Hs := Lib.hid hs
    have Hr2 := Lib.hid hr2
    clear he hs hr2
    go_wp2_with fail
    refine Hs.out.mono ?_
    rintro e w' ⟨rfl, rfl⟩
    go_wp2
    go_ret
    have := Hr2.out
    exact ⟨-1, rfl, by omega, by omega, by omega, hbn⟩
  rw [he] at hs
  have Hs := Lib.hid hs
  have Hr2 := Lib.hid hr2
  clear he hs hr2
  go_wp2_with fail
  refine Hs.out.mono ?_
  rintro e w' ⟨rfl, rfl⟩
  go_wp2
  go_ret
  have := Hr2.out
  exact ⟨r2 - (a.purple.length : Int), rfl, by omega, by omega, fun _ => by unfold arSz; omega, hbn⟩
end Go.Proofs.YtebgigiakfjocaaDoor
