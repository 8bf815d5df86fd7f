/-
  The laws' own size, copy, likeness of units and codes.
-/
import Derived.Test.YtddjcjjnpidhiaaGreatDoorCode
namespace Go.Proofs.YtddjcjjnpidhiaaGreatDoor
open Go.RowKit
set_option linter.unusedVariables false
namespace Cod

set_option maxHeartbeats 400000 in
theorem szBytes_c (A : Option Addr) (n c : Nat) (left : Int) (w : World) (hn : n ≤ 9223372036854775807) (h0 : 0 ≤ left) (h1 : left ≤ 1048576) :
    Calls Tryz.prog 28 #[.slice A n c, .int .i64 left] w fun e w' => e = .returned (.int .i64 (lft left n)) ∧ w = w' := by
  rcases lft_cases left n with ⟨hlt, he⟩ | ⟨hge, he⟩
  all_goals
    rw [he]
    clear he
    go_enter Tryz.func28, Tryz.ntmps28
    go_wp2
    go_ret
    exact ⟨rfl, rfl⟩
set_option maxHeartbeats 1000000 in
theorem szIns_c (f : In) (v0 v1 v2 v3 v4 : Value) (left : Int) (w : World) (L B : Nat) (hv : InV w L B v0 v1 v2 v3 v4 f) (h0 : 0 ≤ left) (h1 : left ≤ 1048576) :
    Calls Tryz.prog 121 #[.agg #[v0, v1, v2, v3, v4], .int .i64 left] w (SzA (inSz f) left w) := by
  obtain ⟨rfl, rfl, rfl, rfl, A, c, rfl, hR, hm⟩ := hv
  unfold maxLen at hm
  unfold inSz
  have hs := szBytes_c A f.name.length c left (w.alloc (.cells #[.int .i64 f.op, .int .i64 f.a, .int .i64 f.b, .int .i64 f.c, .slice A f.name.length c] 166)) hm h0 h1
  have hbl : Below w.heap.size w (w.alloc (.cells #[.int .i64 f.op, .int .i64 f.a, .int .i64 f.b, .int .i64 f.c, .slice A f.name.length c] 166)) := (Below.refl _ _).alloc (Nat.le_refl _) _
  rcases lft_cases left f.name.length with ⟨hlt, he⟩ | ⟨hge, he⟩
  · rw [he] at hs
    have Hs := Lib.hid hs
    clear he hs
    go_enter Tryz.func121, Tryz.ntmps121
    go_wp2_with fail
    refine Hs.out.mono ?_
    rintro e w' ⟨rfl, rfl⟩
    go_wp2
    go_ret
    exact ⟨-1, rfl, by omega, by omega, by omega, hbl⟩
  · rw [he] at hs
    have Hs := Lib.hid hs
    clear he hs
    go_enter Tryz.func121, Tryz.ntmps121
    go_wp2_with fail
    refine Hs.out.mono ?_
    rintro e w' ⟨rfl, rfl⟩
    go_wp2
    go_ret
    exact ⟨left - f.name.length, rfl, by omega, by omega, fun _ => by omega, hbl⟩

set_option maxHeartbeats 1000000 in
theorem szInsS_c (l : List In) (A : Option Addr) (c L B : Nat) (left : Int) (w : World) (hB : B ≤ w.heap.size) (h0 : 0 ≤ left) (h1 : left ≤ 1048576) (h : InL w L B A l) :
    Calls Tryz.prog 104 #[.slice A l.length c, .int .i64 left] w (SzA (insSz l) left w) := by
  have hn := h.1
  unfold maxLen at hn
  by_cases hlt : left - l.length < 0
  · go_enter Tryz.func104, Tryz.ntmps104
    go_wp2
    go_ret
    exact ⟨-1, rfl, by omega, by omega, by omega, Below.refl _ _⟩
  have hge : 0 ≤ left - l.length := by omega
  clear hlt
  have htot := sumIn_all inSz l
  have Htot := Lib.hid htot
  clear htot
  go_enter Tryz.func104, Tryz.ntmps104
  go_wp2
  go_loopw [1, 5] (fun s i wr => ∃ (k : Nat) (r : Int), k ≤ l.length ∧ i = .int .i64 k ∧ s = .int .i64 r ∧ 0 ≤ r ∧ (l.length : Int) + sumIn inSz l k + r ≤ left ∧ Below w.heap.size w wr) (fun _ i _ => l.length - (intOf i).toNat)
  case atStart => exact ⟨0, left - l.length, Nat.zero_le _, rfl, rfl, by omega, by simp [sumIn]; omega, Below.refl _ _⟩
  case round =>
    obtain ⟨k, r, hk, rfl, rfl, hr0, hr1, hbl⟩ := hrel
    by_cases hlt : k < l.length
    · obtain ⟨ad, rfl, _, hb, hat⟩ := (h.below (hbl.mono hB)).2 (by omega)
      obtain ⟨v0, v1, v2, v3, v4, ⟨c0, c1, c2, c3, c4⟩, hv⟩ := hat k hlt
      have hst := sumIn_step inSz hlt
      have hr2 : r ≤ 1048576 := by omega
      have hc := szIns_c l[k] v0 v1 v2 v3 v4 r wr L B hv hr0 hr2
      have Hc := Lib.hid hc
      clear hc hat
      go_wp2_with fail
      refine Hc.out.mono ?_
      rintro e w1 ⟨r1, rfl, q1, q2, q3, hb1⟩
      have hbn := hbl.trans (hb1.mono hbl.size)
      by_cases hr : r1 < 0
      · clear hst q3
        go_wp2
        go_ret
        exact ⟨-1, rfl, by omega, by omega, by omega, hbn⟩
      · have hr' : 0 ≤ r1 := by omega
        have q4 := q3 hr'
        have hst' : (sumIn inSz l (k + 1) : Int) ≤ sumIn inSz l k + inSz l[k] := by omega
        clear hst q3 hr
        go_wp2
        go_roundw
        case rel => exact ⟨k + 1, r1, by omega, by go_num, rfl, by omega, by omega, hbn⟩
        case measure => simp [intOf]; omega
    · go_wp2
      go_ret
      have : k = l.length := by omega
      subst this
      exact ⟨r, rfl, by omega, by omega, fun _ => by have := Htot.out; unfold insSz; omega, hbl⟩

set_option maxHeartbeats 1000000 in
theorem szUnit_c (s : Un) (v0 v1 v2 : Value) (left : Int) (w : World) (L B : Nat) (hv : UnV w L B v0 v1 v2 s) (hB : B ≤ w.heap.size) (h0 : 0 ≤ left) (h1 : left ≤ 1048576) :
    Calls Tryz.prog 81 #[.agg #[v0, v1, v2], .int .i64 left] w (SzA (unSz s) left w) := by
  obtain ⟨rfl, rfl, A, c, rfl, hx⟩ := hv
  unfold unSz
  have hbl : Below w.heap.size w (w.alloc (.cells #[.int .i64 s.params, .int .i64 s.regs, .slice A s.l.length c] 124)) := (Below.refl _ _).alloc (Nat.le_refl _) _
  have hc := szInsS_c s.l A c L B left (w.alloc (.cells #[.int .i64 s.params, .int .i64 s.regs, .slice A s.l.length c] 124)) (by simp; omega) h0 h1 (hx.below (hbl.mono hB))
  have Hc := Lib.hid hc
  clear hc
  go_enter Tryz.func81, Tryz.ntmps81
  go_wp2_with fail
  refine Hc.out.mono ?_
  rintro e w1 ⟨r1, rfl, q1, q2, q3, hb1⟩
  have hbn := hbl.trans (hb1.mono hbl.size)
  by_cases hr : r1 < 0
  · clear q3
    go_wp2
    go_ret
    exact ⟨-1, rfl, by omega, by omega, by omega, hbn⟩
  · have hr' : 0 ≤ r1 := by omega
    have q4 := q3 hr'
    clear q3 hr
    go_wp2
    go_ret
    exact ⟨r1, rfl, by omega, by omega, fun _ => by omega, hbn⟩

end Cod
end Go.Proofs.YtddjcjjnpidhiaaGreatDoor

namespace Go.Proofs.YtddjcjjnpidhiaaGreatDoor
open Go.RowKit
set_option linter.unusedVariables false
namespace Cod

set_option maxHeartbeats 1000000 in
theorem szUnitS_c (l : List Un) (A : Option Addr) (c L B : Nat) (left : Int) (w : World) (hB : B ≤ w.heap.size) (h0 : 0 ≤ left) (h1 : left ≤ 1048576) (h : UnL w L B A l) :
    Calls Tryz.prog 53 #[.slice A l.length c, .int .i64 left] w (SzA (unsSz l) left w) := by
  have hn := h.1
  unfold maxLen at hn
  by_cases hlt : left - l.length < 0
  · go_enter Tryz.func53, Tryz.ntmps53
    go_wp2
    go_ret
    exact ⟨-1, rfl, by omega, by omega, by omega, Below.refl _ _⟩
  have hge : 0 ≤ left - l.length := by omega
  clear hlt
  have htot := sumIn_all unSz l
  have Htot := Lib.hid htot
  clear htot
  go_enter Tryz.func53, Tryz.ntmps53
  go_wp2
  go_loopw [1, 5] (fun s i wr => ∃ (k : Nat) (r : Int), k ≤ l.length ∧ i = .int .i64 k ∧ s = .int .i64 r ∧ 0 ≤ r ∧ (l.length : Int) + sumIn unSz l k + r ≤ left ∧ Below w.heap.size w wr) (fun _ i _ => l.length - (intOf i).toNat)
  case atStart => exact ⟨0, left - l.length, Nat.zero_le _, rfl, rfl, by omega, by simp [sumIn]; omega, Below.refl _ _⟩
  case round =>
    obtain ⟨k, r, hk, rfl, rfl, hr0, hr1, hbl⟩ := hrel
    by_cases hlt : k < l.length
    · obtain ⟨ad, rfl, _, hb, hat⟩ := (h.below (hbl.mono hB)).2 (by omega)
      obtain ⟨v0, v1, v2, ⟨c0, c1, c2⟩, hv⟩ := hat k hlt
      have hst := sumIn_step unSz hlt
      have hr2 : r ≤ 1048576 := by omega
      have hc := szUnit_c l[k] v0 v1 v2 r wr L B hv (Nat.le_trans hB hbl.size) hr0 hr2
      have Hc := Lib.hid hc
      clear hc hat
      go_wp2_with fail
      refine Hc.out.mono ?_
      rintro e w1 ⟨r1, rfl, q1, q2, q3, hb1⟩
      have hbn := hbl.trans (hb1.mono hbl.size)
      by_cases hr : r1 < 0
      · clear hst q3
        go_wp2
        go_ret
        exact ⟨-1, rfl, by omega, by omega, by omega, hbn⟩
      · have hr' : 0 ≤ r1 := by omega
        have q4 := q3 hr'
        have hst' : (sumIn unSz l (k + 1) : Int) ≤ sumIn unSz l k + unSz l[k] := by omega
        clear hst q3 hr
        go_wp2
        go_roundw
        case rel => exact ⟨k + 1, r1, by omega, by go_num, rfl, by omega, by omega, hbn⟩
        case measure => simp [intOf]; omega
    · go_wp2
      go_ret
      have : k = l.length := by omega
      subst this
      exact ⟨r, rfl, by omega, by omega, fun _ => by have := Htot.out; unfold unsSz; omega, hbl⟩

set_option maxHeartbeats 1000000 in
theorem szCode_c (l : List Un) (A : Option Addr) (c L B : Nat) (left : Int) (w : World) (hB : B ≤ w.heap.size) (h0 : 0 ≤ left) (h1 : left ≤ 1048576) (h : UnL w L B A l) :
    Calls Tryz.prog 25 #[.agg #[.slice A l.length c], .int .i64 left] w (SzA (unsSz l) left w) := by
  have hbl : Below w.heap.size w (w.alloc (.cells #[.slice A l.length c] 24)) := (Below.refl _ _).alloc (Nat.le_refl _) _
  have hc := szUnitS_c l A c L B left (w.alloc (.cells #[.slice A l.length c] 24)) (by simp; omega) h0 h1 (h.below (hbl.mono hB))
  have Hc := Lib.hid hc
  clear hc
  go_enter Tryz.func25, Tryz.ntmps25
  go_wp2_with fail
  refine Hc.out.mono ?_
  rintro e w1 ⟨r1, rfl, q1, q2, q3, hb1⟩
  have hbn := hbl.trans (hb1.mono hbl.size)
  by_cases hr : r1 < 0
  · clear q3
    go_wp2
    go_ret
    exact ⟨-1, rfl, by omega, by omega, by omega, hbn⟩
  · have hr' : 0 ≤ r1 := by omega
    have q4 := q3 hr'
    clear q3 hr
    go_wp2
    go_ret
    exact ⟨r1, rfl, by omega, by omega, fun _ => by omega, hbn⟩
end Cod
end Go.Proofs.YtddjcjjnpidhiaaGreatDoor

namespace Go.Proofs.YtddjcjjnpidhiaaGreatDoor
open Go.RowKit
set_option linter.unusedVariables false
namespace Cod

set_option maxHeartbeats 2000000 in
theorem toIns_c (f : In) (v0 v1 v2 v3 v4 : Value) (L B : Nat) (w : World) (hB : B ≤ w.heap.size) (hl : inSz f ≤ 1048576) (hv : InV w L B v0 v1 v2 v3 v4 f) :
    Calls Tryz.prog 123 #[.agg #[v0, v1, v2, v3, v4]] w fun e w' => ∃ g, e = .returned (.agg #[.int .i64 f.op, .int .i64 f.a, .int .i64 f.b, .int .i64 f.c, .slice (some ⟨g, 0, none⟩) f.name.length f.name.length]) ∧
      Blk w' g 5 (vb f.name).toArray ∧ w.heap.size ≤ g ∧ g < w'.heap.size ∧ Below w.heap.size w w' := by
  obtain ⟨rfl, rfl, rfl, rfl, A, c, rfl, hR, hm⟩ := hv
  obtain ⟨op, a, b, c2, l⟩ := f
  unfold inSz at hl
  dsimp only at *
  have hb0 : Below w.heap.size w (((w.alloc (.cells #[.int .i64 op, .int .i64 a, .int .i64 b, .int .i64 c2, .slice A l.length c] 166)).alloc (.cells #[.int .i64 0, .int .i64 0, .int .i64 0, .int .i64 0, .slice none 0 0] 90)).alloc (.cells #[.int .i64 op, .int .i64 a, .int .i64 b, .int .i64 c2, .slice none 0 0] 90)) := (((Below.refl _ _).alloc (Nat.le_refl _) _).alloc (by simp) _).alloc (by simp; omega) _
  go_enter Tryz.func123, Tryz.ntmps123
  go_wp2_with fail
  refine (toByteS_c l A c B _ (by omega) (by simp; omega) (((hR.1.alloc hB _).alloc (by simp; omega) _).alloc (by simp; omega) _)).mono ?_
  rintro e w1 ⟨g1, rfl, hB1, hg1, hs1, hb1⟩
  have K3 : Blk w1 (w.heap.size + 1 + 1) 90 #[.int .i64 op, .int .i64 a, .int .i64 b, .int .i64 c2, .slice none 0 0] :=
    Blk.below (by have := Blk.new ((w.alloc (.cells #[.int .i64 op, .int .i64 a, .int .i64 b, .int .i64 c2, .slice A l.length c] 166)).alloc (.cells #[.int .i64 0, .int .i64 0, .int .i64 0, .int .i64 0, .slice none 0 0] 90)) 90 #[.int .i64 op, .int .i64 a, .int .i64 b, .int .i64 c2, .slice none 0 0]; simpa using this) hb1 (by simp)
  have K2 : Blk w1 (w.heap.size + 1) 90 #[.int .i64 0, .int .i64 0, .int .i64 0, .int .i64 0, .slice none 0 0] :=
    Blk.below ((by have := Blk.new (w.alloc (.cells #[.int .i64 op, .int .i64 a, .int .i64 b, .int .i64 c2, .slice A l.length c] 166)) 90 #[.int .i64 0, .int .i64 0, .int .i64 0, .int .i64 0, .slice none 0 0]; simpa using this : Blk ((w.alloc (.cells #[.int .i64 op, .int .i64 a, .int .i64 b, .int .i64 c2, .slice A l.length c] 166)).alloc (.cells #[.int .i64 0, .int .i64 0, .int .i64 0, .int .i64 0, .slice none 0 0] 90)) (w.heap.size + 1) 90 _).alloc _) hb1 (by simp)
  have hg1' : w.heap.size + 1 + 1 + 1 ≤ g1 := by simpa using hg1
  have hbw : Below w.heap.size w w1 := hb0.trans (hb1.mono (by simp; omega))
  have n0 := K3.cel 0 rfl
  have n1 := K3.cel 1 rfl
  have n2 := K3.cel 2 rfl
  have n3 := K3.cel 3 rfl
  have n4 := K3.cel 4 rfl
  have m0 := K2.cel 0 rfl
  have m1 := K2.cel 1 rfl
  have m2 := K2.cel 2 rfl
  have m3 := K2.cel 3 rfl
  have m4 := K2.cel 4 rfl
  have x4 : w1.frozen? ⟨w.heap.size + 1 + 1, 4, none⟩ = false := K3.frozen 4
  have y0 : w1.frozen? ⟨w.heap.size + 1, 0, none⟩ = false := K2.frozen 0
  have y1 : w1.frozen? ⟨w.heap.size + 1, 1, none⟩ = false := K2.frozen 1
  have y2 : w1.frozen? ⟨w.heap.size + 1, 2, none⟩ = false := K2.frozen 2
  have y3 : w1.frozen? ⟨w.heap.size + 1, 3, none⟩ = false := K2.frozen 3
  have y4 : w1.frozen? ⟨w.heap.size + 1, 4, none⟩ = false := K2.frozen 4
  have hs2 : w.heap.size + 1 + 1 < w1.heap.size := K3.lt
  clear hb1 hg1 hb0 K3 K2
  go_wp2_with fail
  refine bodyPost_ret (v := .agg #[.int .i64 op, .int .i64 a, .int .i64 b, .int .i64 c2, .slice (some ⟨g1, 0, none⟩) l.length l.length]) (by simp [results, Tryz.results123, go_sem, m0, m1, m2, m3, m4]) rfl
    ⟨g1, rfl, ?_, by omega, by simp; omega, ?_⟩
  · exact (((((hB1.far (by simp; omega) _).far (by simp; omega) _).far (by simp; omega) _).far (by simp; omega) _).far (by simp; omega) _).far (by simp; omega) _
  · exact (((((hbw.setCell (by simp; omega) _).setCell (by simp) _).setCell (by simp) _).setCell (by simp) _).setCell (by simp) _).setCell (by simp) _

theorem infoIns : (Tryz.prog.info? 90).map (fun i => (i.zero, i.size, i.bytes)) = some (some (.agg #[.int .i64 0, .int .i64 0, .int .i64 0, .int .i64 0, .slice none 0 0]), 5, 56) := by kernel_rfl
set_option maxHeartbeats 2000000 in
theorem toInsS_c (l : List In) (A : Option Addr) (c L B : Nat) (w : World) (hB : B ≤ w.heap.size) (hl : insSz l ≤ 1048576) (h : InL w L B A l) :
    Calls Tryz.prog 106 #[.slice A l.length c] w fun r w' => ∃ g, r = .returned (.slice (some ⟨g, 0, none⟩) l.length l.length) ∧ g < w'.heap.size ∧ w.heap.size ≤ g ∧ InL w' w.heap.size w'.heap.size (some ⟨g, 0, none⟩) l ∧ Below w.heap.size w w' := by
  obtain ⟨i0, hi, hz0, hz1, hz2⟩ := info_parts infoIns
  have hlen : l.length ≤ 1048576 := by unfold insSz at hl; omega
  have hmk : ∀ u : World, (Instr.makeSlice 61 (.int .i64 (l.length : Int)) (.int .i64 (l.length : Int))).run Tryz.prog u =
      .ok (.slice (some ⟨u.heap.size, 0, none⟩) l.length l.length) (u.alloc (.cells (madeCells #[.int .i64 0, .int .i64 0, .int .i64 0, .int .i64 0, .slice none 0 0] (l.length * 5)) 90)) := fun u => by
    have h := run_make (P := Tryz.prog) u 61 90 i0 (.agg #[.int .i64 0, .int .i64 0, .int .i64 0, .int .i64 0, .slice none 0 0]) Tryz.underlying61 hi hz0 .i64 .i64 (l.length : Int) (l.length : Int) (by omega) (Int.le_refl _) (by rw [hz2]; omega) (by omega)
    rw [Int.toNat_natCast] at h
    simpa [hz1, Value.cells] using h
  clear hi hz0 hz1 hz2
  go_enter Tryz.func106, Tryz.ntmps106
  go_wp2
  go_loopw [4] (fun i wr => ∃ (k : Nat) (cs : Array Value), k ≤ l.length ∧ i = .int .i64 k ∧ cs.size = l.length * 5 ∧ Blk wr w.heap.size 90 cs ∧ RowP5 (InV wr (w.heap.size + 1) wr.heap.size) cs l k ∧ Below w.heap.size w wr) (fun i _ => l.length - (intOf i).toNat)
  case atStart => exact ⟨0, _, Nat.zero_le _, rfl, by simp [madeCells], Blk.new _ _ _, fun i _ hk => by omega, (Below.refl _ _).alloc (Nat.le_refl _) _⟩
  case round =>
    obtain ⟨k, cs, hk, rfl, hcs, hblk, hown, hbl⟩ := hrel
    have Hcs := Lib.hid hcs
    have Hown := Lib.hid hown
    clear hcs hown
    by_cases hlt : k < l.length
    · obtain ⟨ad, rfl, _, hb, hat⟩ := (h.below (hbl.mono hB)).2 (by omega)
      obtain ⟨v0, v1, v2, v3, v4, ⟨c0, c1, c2, c3, c4⟩, hv⟩ := hat k hlt
      have hsz1 : inSz l[k] ≤ 1048576 := by have := sum_get inSz hlt; unfold insSz at hl; omega
      have hc := toIns_c l[k] v0 v1 v2 v3 v4 L B wr (Nat.le_trans hB hbl.size) hsz1 hv
      have Hc := Lib.hid hc
      clear hc hat
      go_wp2_with fail
      refine Hc.out.mono ?_
      rintro e w1 ⟨g1, rfl, hB1, hg1, hs1, hb1⟩
      have hmn : l[k].name.length ≤ maxLen := by unfold maxLen; unfold inSz at hsz1; omega
      have hu : InV w1 (w.heap.size + 1) w1.heap.size (.int .i64 l[k].op) (.int .i64 l[k].a) (.int .i64 l[k].b) (.int .i64 l[k].c) (.slice (some ⟨g1, 0, none⟩) l[k].name.length l[k].name.length) l[k] :=
        ⟨rfl, rfl, rfl, rfl, _, _, rfl, ⟨RB.of_blk hB1 hs1, fun _ => ⟨_, rfl, by show w.heap.size + 1 ≤ g1; have := hblk.lt; omega⟩⟩, hmn⟩
      have hblk1 := hblk.below hb1 hblk.lt
      have hsz := Hcs.out
      obtain ⟨x0, e0⟩ : ∃ v, cs[k * 5]? = some v := ⟨_, Array.getElem?_eq_getElem (by omega)⟩
      obtain ⟨x1, e1⟩ : ∃ v, cs[k * 5 + 1]? = some v := ⟨_, Array.getElem?_eq_getElem (by omega)⟩
      obtain ⟨x2, e2⟩ : ∃ v, cs[k * 5 + 2]? = some v := ⟨_, Array.getElem?_eq_getElem (by omega)⟩
      obtain ⟨x3, e3⟩ : ∃ v, cs[k * 5 + 3]? = some v := ⟨_, Array.getElem?_eq_getElem (by omega)⟩
      obtain ⟨x4, e4⟩ : ∃ v, cs[k * 5 + 4]? = some v := ⟨_, Array.getElem?_eq_getElem (by omega)⟩
      have q0 : w1.cell? ⟨w.heap.size, k * 5, none⟩ = some x0 := by rw [hblk1.cell]; exact e0
      have q1 : w1.cell? ⟨w.heap.size, k * 5 + 1, none⟩ = some x1 := by rw [hblk1.cell]; exact e1
      have q2 : w1.cell? ⟨w.heap.size, k * 5 + 2, none⟩ = some x2 := by rw [hblk1.cell]; exact e2
      have q3 : w1.cell? ⟨w.heap.size, k * 5 + 3, none⟩ = some x3 := by rw [hblk1.cell]; exact e3
      have q4 : w1.cell? ⟨w.heap.size, k * 5 + 4, none⟩ = some x4 := by rw [hblk1.cell]; exact e4
      have z0 : w1.frozen? ⟨w.heap.size, k * 5, none⟩ = false := hblk1.frozen _
      have z1 : w1.frozen? ⟨w.heap.size, k * 5 + 1, none⟩ = false := hblk1.frozen _
      have z2 : w1.frozen? ⟨w.heap.size, k * 5 + 2, none⟩ = false := hblk1.frozen _
      have z3 : w1.frozen? ⟨w.heap.size, k * 5 + 3, none⟩ = false := hblk1.frozen _
      have z4 : w1.frozen? ⟨w.heap.size, k * 5 + 4, none⟩ = false := hblk1.frozen _
      have hlt1 := hblk.lt
      have hbl1 := hbl.trans (hb1.mono hbl.size)
      have hfin := (Hown.out.mono (V' := InV w1 (w.heap.size + 1) w1.heap.size) (fun _ _ _ _ _ _ hv => (InV.keep hv (fun _ _ hp => hb1.cell hp)).more (Nat.le_refl _) hb1.size)).step hlt (by omega) hu
      have hfin2 := hfin.mono (V' := InV (((((w1.setCell ⟨w.heap.size, k * 5, none⟩ (.int .i64 l[k].op)).setCell ⟨w.heap.size, k * 5 + 1, none⟩ (.int .i64 l[k].a)).setCell ⟨w.heap.size, k * 5 + 2, none⟩ (.int .i64 l[k].b)).setCell ⟨w.heap.size, k * 5 + 3, none⟩ (.int .i64 l[k].c)).setCell ⟨w.heap.size, k * 5 + 4, none⟩ (.slice (some ⟨g1, 0, none⟩) l[k].name.length l[k].name.length)) (w.heap.size + 1) w1.heap.size)
        (fun _ _ _ _ _ _ hv => InV.keep hv (fun p hp _ => by
          rw [World.cell?_setCell_other _ _ _ _ (fun e => by subst e; simp at hp; omega), World.cell?_setCell_other _ _ _ _ (fun e => by subst e; simp at hp; omega), World.cell?_setCell_other _ _ _ _ (fun e => by subst e; simp at hp; omega), World.cell?_setCell_other _ _ _ _ (fun e => by subst e; simp at hp; omega), World.cell?_setCell_other _ _ _ _ (fun e => by subst e; simp at hp; omega)]))
      have Hfin := Lib.hid hfin2
      clear hsz e0 e1 e2 e3 e4 hfin hfin2 hu
      go_wp2
      go_roundw
      case rel =>
        exact ⟨k + 1, _, by omega, by go_num, by rw [pt5_size]; exact Hcs.out, hblk1.pt5 (k * 5) _ _ _ _ _ , by simpa only [World.size_setCell] using Hfin.out, ((((hbl1.setCell (by simp) _).setCell (by simp) _).setCell (by simp) _).setCell (by simp) _).setCell (by simp) _⟩
      case measure => simp [intOf]; omega
    · go_wp2
      go_ret
      have : k = l.length := by omega
      subst this
      exact ⟨_, rfl, hblk.lt, Nat.le_refl _, Hown.out.row (by unfold maxLen; omega) hblk (Nat.le_refl _) |>.more (Nat.le_refl _) (Nat.le_refl _) (fun _ _ _ _ _ _ hv => InV.more hv (by omega) (Nat.le_refl _)), hbl⟩

set_option maxHeartbeats 2000000 in
theorem toUnit_c (f : Un) (v0 v1 v2 : Value) (L B : Nat) (w : World) (hB : B ≤ w.heap.size) (hl : unSz f ≤ 1048576) (hv : UnV w L B v0 v1 v2 f) :
    Calls Tryz.prog 87 #[.agg #[v0, v1, v2]] w fun e w' => ∃ g, e = .returned (.agg #[.int .i64 f.params, .int .i64 f.regs, .slice (some ⟨g, 0, none⟩) f.l.length f.l.length]) ∧
      InL w' w.heap.size w'.heap.size (some ⟨g, 0, none⟩) f.l ∧ Below w.heap.size w w' := by
  obtain ⟨rfl, rfl, A, c, rfl, hx⟩ := hv
  obtain ⟨pm, rg, l⟩ := f
  unfold unSz at hl
  dsimp only at *
  have hb0 : Below w.heap.size w (((w.alloc (.cells #[.int .i64 pm, .int .i64 rg, .slice A l.length c] 124)).alloc (.cells #[.int .i64 0, .int .i64 0, .slice none 0 0] 63)).alloc (.cells #[.int .i64 pm, .int .i64 rg, .slice none 0 0] 63)) := (((Below.refl _ _).alloc (Nat.le_refl _) _).alloc (by simp) _).alloc (by simp; omega) _
  go_enter Tryz.func87, Tryz.ntmps87
  go_wp2_with fail
  refine (toInsS_c l A c L B _ (by simp; omega) hl (hx.below (hb0.mono hB))).mono ?_
  rintro e w1 ⟨g1, rfl, hs1, hg1, hx1, hb1⟩
  have K3 : Blk w1 (w.heap.size + 1 + 1) 63 #[.int .i64 pm, .int .i64 rg, .slice none 0 0] :=
    Blk.below (by have := Blk.new ((w.alloc (.cells #[.int .i64 pm, .int .i64 rg, .slice A l.length c] 124)).alloc (.cells #[.int .i64 0, .int .i64 0, .slice none 0 0] 63)) 63 #[.int .i64 pm, .int .i64 rg, .slice none 0 0]; simpa using this) hb1 (by simp)
  have K2 : Blk w1 (w.heap.size + 1) 63 #[.int .i64 0, .int .i64 0, .slice none 0 0] :=
    Blk.below ((by have := Blk.new (w.alloc (.cells #[.int .i64 pm, .int .i64 rg, .slice A l.length c] 124)) 63 #[.int .i64 0, .int .i64 0, .slice none 0 0]; simpa using this : Blk ((w.alloc (.cells #[.int .i64 pm, .int .i64 rg, .slice A l.length c] 124)).alloc (.cells #[.int .i64 0, .int .i64 0, .slice none 0 0] 63)) (w.heap.size + 1) 63 _).alloc _) hb1 (by simp)
  have hg1' : w.heap.size + 1 + 1 + 1 ≤ g1 := by simpa using hg1
  have hbw : Below w.heap.size w w1 := hb0.trans (hb1.mono (by simp; omega))
  have n0 := K3.cel 0 rfl
  have n1 := K3.cel 1 rfl
  have n2 := K3.cel 2 rfl
  have m0 := K2.cel 0 rfl
  have m1 := K2.cel 1 rfl
  have m2 := K2.cel 2 rfl
  have x2 : w1.frozen? ⟨w.heap.size + 1 + 1, 2, none⟩ = false := K3.frozen 2
  have y0 : w1.frozen? ⟨w.heap.size + 1, 0, none⟩ = false := K2.frozen 0
  have y1 : w1.frozen? ⟨w.heap.size + 1, 1, none⟩ = false := K2.frozen 1
  have y2 : w1.frozen? ⟨w.heap.size + 1, 2, none⟩ = false := K2.frozen 2
  have hs2 : w.heap.size + 1 + 1 < w1.heap.size := K3.lt
  have hx2 : InL w1 (w.heap.size + 1 + 1 + 1) w1.heap.size (some ⟨g1, 0, none⟩) l := by simpa using hx1
  clear hb1 hg1 hx1 hx hb0 K3 K2
  go_wp2_with fail
  refine bodyPost_ret (v := .agg #[.int .i64 pm, .int .i64 rg, .slice (some ⟨g1, 0, none⟩) l.length l.length]) (by simp [results, Tryz.results87, go_sem, m0, m1, m2]) rfl
    ⟨g1, rfl, ?_, ?_⟩
  · refine (hx2.keep (fun p hp _ => ?_)).more (by omega) (by simp)
    rw [World.cell?_setCell_other _ _ _ _ (fun e => by subst e; simp at hp; omega), World.cell?_setCell_other _ _ _ _ (fun e => by subst e; simp at hp; omega), World.cell?_setCell_other _ _ _ _ (fun e => by subst e; simp at hp; omega), World.cell?_setCell_other _ _ _ _ (fun e => by subst e; simp at hp; omega)]
  · exact (((hbw.setCell (by simp; omega) _).setCell (by simp) _).setCell (by simp) _).setCell (by simp) _
end Cod
end Go.Proofs.YtddjcjjnpidhiaaGreatDoor

namespace Go.Proofs.YtddjcjjnpidhiaaGreatDoor
open Go.RowKit
set_option linter.unusedVariables false
namespace Cod

theorem eqIns_c (f : In) (v0 v1 v2 v3 v4 u0 u1 u2 u3 u4 : Value) (w : World) (L B L' B' : Nat) (hv : InV w L B v0 v1 v2 v3 v4 f) (hu : InV w L' B' u0 u1 u2 u3 u4 f) (hB : B ≤ w.heap.size) (hB' : B' ≤ w.heap.size) (hsz : inSz f ≤ 1048576) :
    Calls Tryz.prog 134 #[.agg #[v0, v1, v2, v3, v4], .agg #[u0, u1, u2, u3, u4]] w fun r w' => r = .returned (.bool true) ∧ Below w.heap.size w w' := by
  obtain ⟨rfl, rfl, rfl, rfl, A, c, rfl, hR, hm⟩ := hv
  obtain ⟨rfl, rfl, rfl, rfl, D, d, rfl, hS, _⟩ := hu
  obtain ⟨op, a, b, c2, l⟩ := f
  unfold inSz at hsz
  dsimp only at *
  have hb0 : Below w.heap.size w ((w.alloc (.cells #[.int .i64 op, .int .i64 a, .int .i64 b, .int .i64 c2, .slice A l.length c] 90)).alloc (.cells #[.int .i64 op, .int .i64 a, .int .i64 b, .int .i64 c2, .slice D l.length d] 90)) :=
    ((Below.refl _ _).alloc (Nat.le_refl _) _).alloc (by simp) _
  have hR0 := (hR.keep (fun p _ hp => (hb0.mono hB).cell hp)).1
  have hS0 := (hS.keep (fun p _ hp => (hb0.mono hB').cell hp)).1
  go_enter Tryz.func134, Tryz.ntmps134
  go_wp2_with fail
  refine (eqByteS_c l A D c d B B' _ (by omega) hR0 hS0).mono ?_
  rintro e w1 ⟨rfl, m, rfl⟩
  go_wp2
  go_ret
  exact ⟨rfl, blw_drewN hb0 m⟩

set_option maxRecDepth 100000 in
set_option maxHeartbeats 1000000 in
theorem eqInsS_c (l : List In) (A A' : Option Addr) (c c' L B L' B' : Nat) (w : World) (hB : B ≤ w.heap.size) (hB' : B' ≤ w.heap.size) (hl : insSz l ≤ 1048576) (h : InL w L B A l) (h' : InL w L' B' A' l) :
    Calls Tryz.prog 119 #[.slice A l.length c, .slice A' l.length c'] w fun r w' => r = .returned (.bool true) ∧ Below w.heap.size w w' := by
  have hlen : l.length ≤ 1048576 := by unfold insSz at hl; omega
  go_enter Tryz.func119, Tryz.ntmps119
  go_wp2
  go_loopw [5] (fun i wr => ∃ (k : Nat), k ≤ l.length ∧ i = .int .i64 k ∧ Below w.heap.size w wr) (fun i _ => l.length - (intOf i).toNat)
  case atStart => exact ⟨0, Nat.zero_le _, rfl, Below.refl _ _⟩
  case round =>
    obtain ⟨k, hk, rfl, hbl⟩ := hrel
    by_cases hlt : k < l.length
    · obtain ⟨ad, rfl, _, hb, hat⟩ := (h.below (hbl.mono hB)).2 (by omega)
      obtain ⟨v0, v1, v2, v3, v4, ⟨c0, c1, c2, c3, c4⟩, hv⟩ := hat k hlt
      obtain ⟨ad', rfl, _, hb', hat'⟩ := (h'.below (hbl.mono hB')).2 (by omega)
      obtain ⟨u0, u1, u2, u3, u4, ⟨d0, d1, d2, d3, d4⟩, hu⟩ := hat' k hlt
      have hsz1 : inSz l[k] ≤ 1048576 := by have := sum_get inSz hlt; unfold insSz at hl; omega
      have hc := eqIns_c l[k] v0 v1 v2 v3 v4 u0 u1 u2 u3 u4 wr.drew L B L' B' (InV.keep (w := wr) (w' := wr.drew) hv (fun _ _ _ => rfl)) (InV.keep (w := wr) (w' := wr.drew) hu (fun _ _ _ => rfl)) (Nat.le_trans hB hbl.size) (Nat.le_trans hB' hbl.size) hsz1
      have Hc := Lib.hid hc
      clear hc hat hat'
      go_wp2
      go_still_tail 8, (by kernel_rfl)
      change wpList _ _ _ _ _ wr.drew
      go_wp2_with fail
      refine Hc.out.mono ?_
      rintro e w1 ⟨rfl, hb1⟩
      go_wp2
      go_roundw
      case rel => exact ⟨k + 1, by omega, by go_num, hbl.drew.trans (hb1.mono hbl.size)⟩
      case measure => simp [intOf]; omega
    · go_wp2
      go_ret
      exact ⟨rfl, hbl⟩

theorem eqUnit_c (f : Un) (v0 v1 v2 u0 u1 u2 : Value) (w : World) (L B L' B' : Nat) (hv : UnV w L B v0 v1 v2 f) (hu : UnV w L' B' u0 u1 u2 f) (hB : B ≤ w.heap.size) (hB' : B' ≤ w.heap.size) (hsz : unSz f ≤ 1048576) :
    Calls Tryz.prog 100 #[.agg #[v0, v1, v2], .agg #[u0, u1, u2]] w fun r w' => r = .returned (.bool true) ∧ Below w.heap.size w w' := by
  obtain ⟨rfl, rfl, A, c, rfl, hx⟩ := hv
  obtain ⟨rfl, rfl, D, d, rfl, hy⟩ := hu
  obtain ⟨pm, rg, l⟩ := f
  unfold unSz at hsz
  dsimp only at *
  have hb0 : Below w.heap.size w ((w.alloc (.cells #[.int .i64 pm, .int .i64 rg, .slice A l.length c] 63)).alloc (.cells #[.int .i64 pm, .int .i64 rg, .slice D l.length d] 63)) :=
    ((Below.refl _ _).alloc (Nat.le_refl _) _).alloc (by simp) _
  have hx0 := hx.below (hb0.mono hB)
  have hy0 := hy.below (hb0.mono hB')
  go_enter Tryz.func100, Tryz.ntmps100
  go_wp2_with fail
  refine (eqInsS_c l A D c d L B L' B' _ (by simp; omega) (by simp; omega) hsz hx0 hy0).mono ?_
  rintro e w2 ⟨rfl, hb2⟩
  go_wp2
  go_ret
  exact ⟨rfl, hb0.trans (hb2.mono hb0.size)⟩

end Cod
end Go.Proofs.YtddjcjjnpidhiaaGreatDoor

namespace Go.Proofs.YtddjcjjnpidhiaaGreatDoor
open Go.RowKit
set_option linter.unusedVariables false
namespace Cod

theorem infoUnit : (Tryz.prog.info? 63).map (fun i => (i.zero, i.size, i.bytes)) = some (some (.agg #[.int .i64 0, .int .i64 0, .slice none 0 0]), 3, 40) := by kernel_rfl
set_option maxHeartbeats 2000000 in
theorem toUnitS_c (l : List Un) (A : Option Addr) (c L B : Nat) (w : World) (hB : B ≤ w.heap.size) (hl : unsSz l ≤ 1048576) (h : UnL w L B A l) :
    Calls Tryz.prog 63 #[.slice A l.length c] w fun r w' => ∃ g, r = .returned (.slice (some ⟨g, 0, none⟩) l.length l.length) ∧ g < w'.heap.size ∧ w.heap.size ≤ g ∧ UnL w' w.heap.size w'.heap.size (some ⟨g, 0, none⟩) l ∧ Below w.heap.size w w' := by
  obtain ⟨i0, hi, hz0, hz1, hz2⟩ := info_parts infoUnit
  have hlen : l.length ≤ 1048576 := by unfold unsSz at hl; omega
  have hmk : ∀ u : World, (Instr.makeSlice 35 (.int .i64 (l.length : Int)) (.int .i64 (l.length : Int))).run Tryz.prog u =
      .ok (.slice (some ⟨u.heap.size, 0, none⟩) l.length l.length) (u.alloc (.cells (madeCells #[.int .i64 0, .int .i64 0, .slice none 0 0] (l.length * 3)) 63)) := fun u => by
    have h := run_make (P := Tryz.prog) u 35 63 i0 (.agg #[.int .i64 0, .int .i64 0, .slice none 0 0]) Tryz.underlying35 hi hz0 .i64 .i64 (l.length : Int) (l.length : Int) (by omega) (Int.le_refl _) (by rw [hz2]; omega) (by omega)
    rw [Int.toNat_natCast] at h
    simpa [hz1, Value.cells] using h
  clear hi hz0 hz1 hz2
  go_enter Tryz.func63, Tryz.ntmps63
  go_wp2
  go_loopw [4] (fun i wr => ∃ (k : Nat) (cs : Array Value), k ≤ l.length ∧ i = .int .i64 k ∧ cs.size = l.length * 3 ∧ Blk wr w.heap.size 63 cs ∧ RowP3 (UnV wr (w.heap.size + 1) wr.heap.size) cs l k ∧ Below w.heap.size w wr) (fun i _ => l.length - (intOf i).toNat)
  case atStart => exact ⟨0, _, Nat.zero_le _, rfl, by simp [madeCells], Blk.new _ _ _, fun i _ hk => by omega, (Below.refl _ _).alloc (Nat.le_refl _) _⟩
  case round =>
    obtain ⟨k, cs, hk, rfl, hcs, hblk, hown, hbl⟩ := hrel
    have Hcs := Lib.hid hcs
    have Hown := Lib.hid hown
    clear hcs hown
    by_cases hlt : k < l.length
    · obtain ⟨ad, rfl, _, hb, hat⟩ := (h.below (hbl.mono hB)).2 (by omega)
      obtain ⟨v0, v1, v2, ⟨c0, c1, c2⟩, hv⟩ := hat k hlt
      have hsz1 : unSz l[k] ≤ 1048576 := by have := sum_get unSz hlt; unfold unsSz at hl; omega
      have hc := toUnit_c l[k] v0 v1 v2 L B wr (Nat.le_trans hB hbl.size) hsz1 hv
      have Hc := Lib.hid hc
      clear hc hat
      go_wp2_with fail
      refine Hc.out.mono ?_
      rintro e w1 ⟨g1, rfl, hF1, hb1⟩
      have hu : UnV w1 (w.heap.size + 1) w1.heap.size (.int .i64 l[k].params) (.int .i64 l[k].regs) (.slice (some ⟨g1, 0, none⟩) l[k].l.length l[k].l.length) l[k] :=
        ⟨rfl, rfl, _, _, rfl, hF1.more (by have := hblk.lt; omega) (Nat.le_refl _)⟩
      have hblk1 := hblk.below hb1 hblk.lt
      have hsz := Hcs.out
      obtain ⟨x0, e0⟩ : ∃ v, cs[k * 3]? = some v := ⟨_, Array.getElem?_eq_getElem (by omega)⟩
      obtain ⟨x1, e1⟩ : ∃ v, cs[k * 3 + 1]? = some v := ⟨_, Array.getElem?_eq_getElem (by omega)⟩
      obtain ⟨x2, e2⟩ : ∃ v, cs[k * 3 + 2]? = some v := ⟨_, Array.getElem?_eq_getElem (by omega)⟩
      have q0 : w1.cell? ⟨w.heap.size, k * 3, none⟩ = some x0 := by rw [hblk1.cell]; exact e0
      have q1 : w1.cell? ⟨w.heap.size, k * 3 + 1, none⟩ = some x1 := by rw [hblk1.cell]; exact e1
      have q2 : w1.cell? ⟨w.heap.size, k * 3 + 2, none⟩ = some x2 := by rw [hblk1.cell]; exact e2
      have z0 : w1.frozen? ⟨w.heap.size, k * 3, none⟩ = false := hblk1.frozen _
      have z1 : w1.frozen? ⟨w.heap.size, k * 3 + 1, none⟩ = false := hblk1.frozen _
      have z2 : w1.frozen? ⟨w.heap.size, k * 3 + 2, none⟩ = false := hblk1.frozen _
      have hlt1 := hblk.lt
      have hbl1 := hbl.trans (hb1.mono hbl.size)
      have hfin := (Hown.out.mono (V' := UnV w1 (w.heap.size + 1) w1.heap.size) (fun _ _ _ _ hv => (UnV.keep hv (fun _ _ hp => hb1.cell hp)).more (Nat.le_refl _) hb1.size)).step hlt (by omega) hu
      have hfin2 := hfin.mono (V' := UnV (((w1.setCell ⟨w.heap.size, k * 3, none⟩ (.int .i64 l[k].params)).setCell ⟨w.heap.size, k * 3 + 1, none⟩ (.int .i64 l[k].regs)).setCell ⟨w.heap.size, k * 3 + 2, none⟩ (.slice (some ⟨g1, 0, none⟩) l[k].l.length l[k].l.length)) (w.heap.size + 1) w1.heap.size)
        (fun _ _ _ _ hv => UnV.keep hv (fun p hp _ => by
          rw [World.cell?_setCell_other _ _ _ _ (fun e => by subst e; simp at hp; omega), World.cell?_setCell_other _ _ _ _ (fun e => by subst e; simp at hp; omega), World.cell?_setCell_other _ _ _ _ (fun e => by subst e; simp at hp; omega)]))
      have Hfin := Lib.hid hfin2
      clear hsz e0 e1 e2 hfin hfin2 hu
      go_wp2
      go_roundw
      case rel =>
        exact ⟨k + 1, _, by omega, by go_num, by rw [pt3_size]; exact Hcs.out, hblk1.pt3 (k * 3) _ _ _ , by simpa only [World.size_setCell] using Hfin.out, ((hbl1.setCell (by simp) _).setCell (by simp) _).setCell (by simp) _⟩
      case measure => simp [intOf]; omega
    · go_wp2
      go_ret
      have : k = l.length := by omega
      subst this
      exact ⟨_, rfl, hblk.lt, Nat.le_refl _, Hown.out.row (by unfold maxLen; omega) hblk (Nat.le_refl _) |>.more (Nat.le_refl _) (Nat.le_refl _) (fun _ _ _ _ hv => UnV.more hv (by omega) (Nat.le_refl _)), hbl⟩

set_option maxHeartbeats 2000000 in
theorem toCode_c (l : List Un) (A : Option Addr) (c : Nat) (L B : Nat) (w : World) (hB : B ≤ w.heap.size) (hl : unsSz l ≤ 1048576) (hx : UnL w L B A l) :
    Calls Tryz.prog 34 #[.agg #[.slice A l.length c]] w fun e w' => ∃ g, e = .returned (.agg #[.slice (some ⟨g, 0, none⟩) l.length l.length]) ∧
      UnL w' w.heap.size w'.heap.size (some ⟨g, 0, none⟩) l ∧ Below w.heap.size w w' := by
  skip
  have hb0 : Below w.heap.size w (((w.alloc (.cells #[.slice A l.length c] 24)).alloc (.cells #[.slice none 0 0] 37)).alloc (.cells #[.slice none 0 0] 37)) := (((Below.refl _ _).alloc (Nat.le_refl _) _).alloc (by simp) _).alloc (by simp; omega) _
  go_enter Tryz.func34, Tryz.ntmps34
  go_wp2_with fail
  refine (toUnitS_c l A c L B _ (by simp; omega) hl (hx.below (hb0.mono hB))).mono ?_
  rintro e w1 ⟨g1, rfl, hs1, hg1, hx1, hb1⟩
  have K3 : Blk w1 (w.heap.size + 1 + 1) 37 #[.slice none 0 0] :=
    Blk.below (by have := Blk.new ((w.alloc (.cells #[.slice A l.length c] 24)).alloc (.cells #[.slice none 0 0] 37)) 37 #[.slice none 0 0]; simpa using this) hb1 (by simp)
  have K2 : Blk w1 (w.heap.size + 1) 37 #[.slice none 0 0] :=
    Blk.below ((by have := Blk.new (w.alloc (.cells #[.slice A l.length c] 24)) 37 #[.slice none 0 0]; simpa using this : Blk ((w.alloc (.cells #[.slice A l.length c] 24)).alloc (.cells #[.slice none 0 0] 37)) (w.heap.size + 1) 37 _).alloc _) hb1 (by simp)
  have hg1' : w.heap.size + 1 + 1 + 1 ≤ g1 := by simpa using hg1
  have hbw : Below w.heap.size w w1 := hb0.trans (hb1.mono (by simp; omega))
  have n0 := K3.cel 0 rfl
  have m0 := K2.cel 0 rfl
  have x0 : w1.frozen? ⟨w.heap.size + 1 + 1, 0, none⟩ = false := K3.frozen 0
  have y0 : w1.frozen? ⟨w.heap.size + 1, 0, none⟩ = false := K2.frozen 0
  have hs2 : w.heap.size + 1 + 1 < w1.heap.size := K3.lt
  have hx2 : UnL w1 (w.heap.size + 1 + 1 + 1) w1.heap.size (some ⟨g1, 0, none⟩) l := by simpa using hx1
  clear hb1 hg1 hx1 hx hb0 K3 K2
  go_wp2_with fail
  refine bodyPost_ret (v := .agg #[.slice (some ⟨g1, 0, none⟩) l.length l.length]) (by simp [results, Tryz.results34, go_sem, m0]) rfl
    ⟨g1, rfl, ?_, ?_⟩
  · refine (hx2.keep (fun p hp _ => ?_)).more (by omega) (by simp)
    rw [World.cell?_setCell_other _ _ _ _ (fun e => by subst e; simp at hp; omega), World.cell?_setCell_other _ _ _ _ (fun e => by subst e; simp at hp; omega)]
  · exact (hbw.setCell (by simp; omega) _).setCell (by simp) _
end Cod
end Go.Proofs.YtddjcjjnpidhiaaGreatDoor

namespace Go.Proofs.YtddjcjjnpidhiaaGreatDoor
open Go.RowKit
set_option linter.unusedVariables false
namespace Cod

set_option maxRecDepth 100000 in
set_option maxHeartbeats 1000000 in
theorem eqUnitS_c (l : List Un) (A A' : Option Addr) (c c' L B L' B' : Nat) (w : World) (hB : B ≤ w.heap.size) (hB' : B' ≤ w.heap.size) (hl : unsSz l ≤ 1048576) (h : UnL w L B A l) (h' : UnL w L' B' A' l) :
    Calls Tryz.prog 74 #[.slice A l.length c, .slice A' l.length c'] w fun r w' => r = .returned (.bool true) ∧ Below w.heap.size w w' := by
  have hlen : l.length ≤ 1048576 := by unfold unsSz at hl; omega
  go_enter Tryz.func74, Tryz.ntmps74
  go_wp2
  go_loopw [5] (fun i wr => ∃ (k : Nat), k ≤ l.length ∧ i = .int .i64 k ∧ Below w.heap.size w wr) (fun i _ => l.length - (intOf i).toNat)
  case atStart => exact ⟨0, Nat.zero_le _, rfl, Below.refl _ _⟩
  case round =>
    obtain ⟨k, hk, rfl, hbl⟩ := hrel
    by_cases hlt : k < l.length
    · obtain ⟨ad, rfl, _, hb, hat⟩ := (h.below (hbl.mono hB)).2 (by omega)
      obtain ⟨v0, v1, v2, ⟨c0, c1, c2⟩, hv⟩ := hat k hlt
      obtain ⟨ad', rfl, _, hb', hat'⟩ := (h'.below (hbl.mono hB')).2 (by omega)
      obtain ⟨u0, u1, u2, ⟨d0, d1, d2⟩, hu⟩ := hat' k hlt
      have hsz1 : unSz l[k] ≤ 1048576 := by have := sum_get unSz hlt; unfold unsSz at hl; omega
      have hc := eqUnit_c l[k] v0 v1 v2 u0 u1 u2 wr.drew L B L' B' (UnV.keep (w := wr) (w' := wr.drew) hv (fun _ _ _ => rfl)) (UnV.keep (w := wr) (w' := wr.drew) hu (fun _ _ _ => rfl)) (Nat.le_trans hB hbl.size) (Nat.le_trans hB' hbl.size) hsz1
      have Hc := Lib.hid hc
      clear hc hat hat'
      go_wp2
      go_still_tail 8, (by kernel_rfl)
      change wpList _ _ _ _ _ wr.drew
      go_wp2_with fail
      refine Hc.out.mono ?_
      rintro e w1 ⟨rfl, hb1⟩
      go_wp2
      go_roundw
      case rel => exact ⟨k + 1, by omega, by go_num, hbl.drew.trans (hb1.mono hbl.size)⟩
      case measure => simp [intOf]; omega
    · go_wp2
      go_ret
      exact ⟨rfl, hbl⟩

set_option maxHeartbeats 1000000 in
theorem eqCode_c (l : List Un) (A D : Option Addr) (c d L B L' B' : Nat) (w : World) (hB : B ≤ w.heap.size) (hB' : B' ≤ w.heap.size) (hl : unsSz l ≤ 1048576) (h : UnL w L B A l) (h' : UnL w L' B' D l) :
    Calls Tryz.prog 43 #[.agg #[.slice A l.length c], .agg #[.slice D l.length d]] w fun e w' => e = .returned (.bool true) ∧ Below w.heap.size w w' := by
  have hb0 : Below w.heap.size w ((w.alloc (.cells #[.slice A l.length c] 37)).alloc (.cells #[.slice D l.length d] 37)) :=
    ((Below.refl _ _).alloc (Nat.le_refl _) _).alloc (by simp) _
  have hS0 := h.below (hb0.mono hB)
  have hS1 := h'.below (hb0.mono hB')
  go_enter Tryz.func43, Tryz.ntmps43
  go_wp2_with fail
  refine (eqUnitS_c l A D c d L B L' B' _ (by simp; omega) (by simp; omega) hl hS0 hS1).mono ?_
  rintro e w2 ⟨rfl, hb2⟩
  go_wp2
  go_ret
  exact ⟨rfl, hb0.trans (hb2.mono hb0.size)⟩
end Cod
end Go.Proofs.YtddjcjjnpidhiaaGreatDoor
