/-
  The laws' own size, copy, likeness of arenas; values.
-/
import Derived.Test.YtfmlgpnjckamjaaArn
import Derived.Deep.DeepCutAuto
import Derived.Deep.RegionHeld3
import Derived.Deep.RegionWith
namespace Go.Proofs.Ytfmlgpnjckamjaa
open Go.RowKit
set_option linter.unusedVariables false

set_option maxHeartbeats 400000 in
theorem szBytes_c (A : Option Addr) (n c : Nat) (left : Int) (w : World) (hn : n ≤ 9223372036854775807) (h0 : 0 ≤ left) (h1 : left ≤ 1050000) :
    Calls Try.prog 145 #[.slice A n c, .int .i64 left] w fun e w' => e = .returned (.int .i64 (lft left n)) ∧ w = w' := by
  rcases lft_cases left n with ⟨hlt, he⟩ | ⟨hge, he⟩
  all_goals
    rw [he]
    clear he
    go_enter Try.func145, Try.ntmps145
    go_wp2
    go_ret
    exact ⟨rfl, rfl⟩
set_option maxHeartbeats 400000 in
theorem szIntS_c (A : Option Addr) (n c : Nat) (left : Int) (w : World) (hn : n ≤ 9223372036854775807) (h0 : 0 ≤ left) (h1 : left ≤ 1050000) :
    Calls Try.prog 33 #[.slice A n c, .int .i64 left] w fun e w' => e = .returned (.int .i64 (lft left n)) ∧ w = w' := by
  rcases lft_cases left n with ⟨hlt, he⟩ | ⟨hge, he⟩
  all_goals
    rw [he]
    clear he
    go_enter Try.func33, Try.ntmps33
    go_wp2
    go_ret
    exact ⟨rfl, rfl⟩

set_option maxHeartbeats 1000000 in
theorem szField_c (f : Fd) (v0 v1 v2 v3 : Value) (left : Int) (w : World) (L B : Nat) (hv : FdV w L B v0 v1 v2 v3 f) (h0 : 0 ≤ left) (h1 : left ≤ 1050000) :
    Calls Try.prog 123 #[.agg #[v0, v1, v2, v3], .int .i64 left] w (SzA (fdSz f) left w) := by
  obtain ⟨A, c, rfl, hR, hm, rfl, rfl, rfl⟩ := hv
  unfold maxLen at hm
  unfold fdSz
  have hs := szBytes_c A f.name.length c left (w.alloc (.cells #[.slice A f.name.length c, .int .i64 f.k, .int .i64 f.n, .int .i64 f.g] 151)) hm h0 h1
  have hbl : Below w.heap.size w (w.alloc (.cells #[.slice A f.name.length c, .int .i64 f.k, .int .i64 f.n, .int .i64 f.g] 151)) := (Below.refl _ _).alloc (Nat.le_refl _) _
  rcases lft_cases left f.name.length with ⟨hlt, he⟩ | ⟨hge, he⟩
  · rw [he] at hs
    have Hs := Lib.hid hs
    clear he hs
    go_enter Try.func123, Try.ntmps123
    go_wp2_with fail
    refine Hs.out.mono ?_
    rintro e w' ⟨rfl, rfl⟩
    go_wp2
    go_ret
    exact ⟨-1, rfl, by omega, by omega, by omega, hbl⟩
  · rw [he] at hs
    have Hs := Lib.hid hs
    clear he hs
    go_enter Try.func123, Try.ntmps123
    go_wp2_with fail
    refine Hs.out.mono ?_
    rintro e w' ⟨rfl, rfl⟩
    go_wp2
    go_ret
    exact ⟨left - f.name.length, rfl, by omega, by omega, fun _ => by omega, hbl⟩

set_option maxHeartbeats 1000000 in
theorem szFieldS_c (l : List Fd) (A : Option Addr) (c L B : Nat) (left : Int) (w : World) (hB : B ≤ w.heap.size) (h0 : 0 ≤ left) (h1 : left ≤ 1050000) (h : FdL w L B A l) :
    Calls Try.prog 93 #[.slice A l.length c, .int .i64 left] w (SzA (fsSz l) left w) := by
  have hn := h.1
  unfold maxLen at hn
  by_cases hlt : left - l.length < 0
  · go_enter Try.func93, Try.ntmps93
    go_wp2
    go_ret
    exact ⟨-1, rfl, by omega, by omega, by omega, Below.refl _ _⟩
  have hge : 0 ≤ left - l.length := by omega
  clear hlt
  have htot := sumIn_all fdSz l
  have Htot := Lib.hid htot
  clear htot
  go_enter Try.func93, Try.ntmps93
  go_wp2
  go_loopw [1, 5] (fun s i wr => ∃ (k : Nat) (r : Int), k ≤ l.length ∧ i = .int .i64 k ∧ s = .int .i64 r ∧ 0 ≤ r ∧ (l.length : Int) + sumIn fdSz l k + r ≤ left ∧ Below w.heap.size w wr) (fun _ i _ => l.length - (intOf i).toNat)
  case atStart => exact ⟨0, left - l.length, Nat.zero_le _, rfl, rfl, by omega, by simp [sumIn]; omega, Below.refl _ _⟩
  case round =>
    obtain ⟨k, r, hk, rfl, rfl, hr0, hr1, hbl⟩ := hrel
    by_cases hlt : k < l.length
    · obtain ⟨ad, rfl, _, hb, hat⟩ := (h.below (hbl.mono hB)).2 (by omega)
      obtain ⟨v0, v1, v2, v3, ⟨c0, c1, c2, c3⟩, hv⟩ := hat k hlt
      have hst := sumIn_step fdSz hlt
      have hr2 : r ≤ 1050000 := by omega
      have hc := szField_c l[k] v0 v1 v2 v3 r wr L B hv hr0 hr2
      have Hc := Lib.hid hc
      clear hc hat
      go_wp2_with fail
      refine Hc.out.mono ?_
      rintro e w1 ⟨r1, rfl, q1, q2, q3, hb1⟩
      have hbn := hbl.trans (hb1.mono hbl.size)
      by_cases hr : r1 < 0
      · clear hst q3
        go_wp2
        go_ret
        exact ⟨-1, rfl, by omega, by omega, by omega, hbn⟩
      · have hr' : 0 ≤ r1 := by omega
        have q4 := q3 hr'
        have hst' : (sumIn fdSz l (k + 1) : Int) ≤ sumIn fdSz l k + fdSz l[k] := by omega
        clear hst q3 hr
        go_wp2
        go_roundw
        case rel => exact ⟨k + 1, r1, by omega, by go_num, rfl, by omega, by omega, hbn⟩
        case measure => simp [intOf]; omega
    · go_wp2
      go_ret
      have : k = l.length := by omega
      subst this
      exact ⟨r, rfl, by omega, by omega, fun _ => by have := Htot.out; unfold fsSz; omega, hbl⟩

set_option maxHeartbeats 1000000 in
theorem szSlot_c (s : Sl) (v0 v1 v2 v3 : Value) (left : Int) (w : World) (L B : Nat) (hv : SlV w L B v0 v1 v2 v3 s) (hB : B ≤ w.heap.size) (h0 : 0 ≤ left) (h1 : left ≤ 1050000) :
    Calls Try.prog 66 #[.agg #[v0, v1, v2, v3], .int .i64 left] w (SzA (slSz s) left w) := by
  obtain ⟨rfl, rfl, rfl, A, c, rfl, hx⟩ := hv
  unfold slSz
  have hbl : Below w.heap.size w (w.alloc (.cells #[.bool s.live, .int .i64 s.gen, .int .i64 s.count, .slice A s.fs.length c] 86)) := (Below.refl _ _).alloc (Nat.le_refl _) _
  have hc := szFieldS_c s.fs A c L B left (w.alloc (.cells #[.bool s.live, .int .i64 s.gen, .int .i64 s.count, .slice A s.fs.length c] 86)) (by simp; omega) h0 h1 (hx.below (hbl.mono hB))
  have Hc := Lib.hid hc
  clear hc
  go_enter Try.func66, Try.ntmps66
  go_wp2_with fail
  refine Hc.out.mono ?_
  rintro e w1 ⟨r1, rfl, q1, q2, q3, hb1⟩
  have hbn := hbl.trans (hb1.mono hbl.size)
  by_cases hr : r1 < 0
  · clear q3
    go_wp2
    go_ret
    exact ⟨-1, rfl, by omega, by omega, by omega, hbn⟩
  · have hr' : 0 ≤ r1 := by omega
    have q4 := q3 hr'
    clear q3 hr
    go_wp2
    go_ret
    exact ⟨r1, rfl, by omega, by omega, fun _ => by omega, hbn⟩

set_option maxHeartbeats 1000000 in
theorem szSlotS_c (l : List Sl) (A : Option Addr) (c L B : Nat) (left : Int) (w : World) (hB : B ≤ w.heap.size) (h0 : 0 ≤ left) (h1 : left ≤ 1050000) (h : SlL w L B A l) :
    Calls Try.prog 32 #[.slice A l.length c, .int .i64 left] w (SzA (slsSz l) left w) := by
  have hn := h.1
  unfold maxLen at hn
  by_cases hlt : left - l.length < 0
  · go_enter Try.func32, Try.ntmps32
    go_wp2
    go_ret
    exact ⟨-1, rfl, by omega, by omega, by omega, Below.refl _ _⟩
  have hge : 0 ≤ left - l.length := by omega
  clear hlt
  have htot := sumIn_all slSz l
  have Htot := Lib.hid htot
  clear htot
  go_enter Try.func32, Try.ntmps32
  go_wp2
  go_loopw [1, 5] (fun s i wr => ∃ (k : Nat) (r : Int), k ≤ l.length ∧ i = .int .i64 k ∧ s = .int .i64 r ∧ 0 ≤ r ∧ (l.length : Int) + sumIn slSz l k + r ≤ left ∧ Below w.heap.size w wr) (fun _ i _ => l.length - (intOf i).toNat)
  case atStart => exact ⟨0, left - l.length, Nat.zero_le _, rfl, rfl, by omega, by simp [sumIn]; omega, Below.refl _ _⟩
  case round =>
    obtain ⟨k, r, hk, rfl, rfl, hr0, hr1, hbl⟩ := hrel
    by_cases hlt : k < l.length
    · obtain ⟨ad, rfl, _, hb, hat⟩ := (h.below (hbl.mono hB)).2 (by omega)
      obtain ⟨v0, v1, v2, v3, ⟨c0, c1, c2, c3⟩, hv⟩ := hat k hlt
      have hst := sumIn_step slSz hlt
      have hr2 : r ≤ 1050000 := by omega
      have hc := szSlot_c l[k] v0 v1 v2 v3 r wr L B hv (Nat.le_trans hB hbl.size) hr0 hr2
      have Hc := Lib.hid hc
      clear hc hat
      go_wp2_with fail
      refine Hc.out.mono ?_
      rintro e w1 ⟨r1, rfl, q1, q2, q3, hb1⟩
      have hbn := hbl.trans (hb1.mono hbl.size)
      by_cases hr : r1 < 0
      · clear hst q3
        go_wp2
        go_ret
        exact ⟨-1, rfl, by omega, by omega, by omega, hbn⟩
      · have hr' : 0 ≤ r1 := by omega
        have q4 := q3 hr'
        have hst' : (sumIn slSz l (k + 1) : Int) ≤ sumIn slSz l k + slSz l[k] := by omega
        clear hst q3 hr
        go_wp2
        go_roundw
        case rel => exact ⟨k + 1, r1, by omega, by go_num, rfl, by omega, by omega, hbn⟩
        case measure => simp [intOf]; omega
    · go_wp2
      go_ret
      have : k = l.length := by omega
      subst this
      exact ⟨r, rfl, by omega, by omega, fun _ => by have := Htot.out; unfold slsSz; omega, hbl⟩

set_option maxHeartbeats 1000000 in
theorem szArena_c (a : Ar) (A0 A1 A2 : Option Addr) (c0 c1 c2 L B : Nat) (left : Int) (w : World) (hB : B ≤ w.heap.size) (h0 : 0 ≤ left) (h1 : left ≤ 1050000) (h : ArL w L B A0 A1 A2 a) :
    Calls Try.prog 9 #[.agg #[.slice A0 a.slots.length c0, .slice A1 a.queue.length c1, .slice A2 a.purple.length c2], .int .i64 left] w (SzA (arSz a) left w) := by
  have hq := h.2.1.1
  have hp := h.2.2.1
  unfold maxLen at hq hp
  have hbl : Below w.heap.size w (w.alloc (.cells #[.slice A0 a.slots.length c0, .slice A1 a.queue.length c1, .slice A2 a.purple.length c2] 25)) := (Below.refl _ _).alloc (Nat.le_refl _) _
  have hc := szSlotS_c a.slots A0 c0 L B left (w.alloc (.cells #[.slice A0 a.slots.length c0, .slice A1 a.queue.length c1, .slice A2 a.purple.length c2] 25)) (by simp; omega) h0 h1 (h.1.below (hbl.mono hB))
  have Hc := Lib.hid hc
  clear hc
  go_enter Try.func9, Try.ntmps9
  go_wp2_with fail
  refine Hc.out.mono ?_
  rintro e w1 ⟨r1, rfl, q1, q2, q3, hb1⟩
  have K1 : Blk w1 w.heap.size 25 #[.slice A0 a.slots.length c0, .slice A1 a.queue.length c1, .slice A2 a.purple.length c2] := (Blk.new w _ _).below hb1 (by simp)
  have d1 := K1.cel 1 rfl
  have d2 := K1.cel 2 rfl
  have hbn := hbl.trans (hb1.mono hbl.size)
  clear hb1
  by_cases hr : r1 < 0
  · clear q3
    go_wp2
    go_ret
    exact ⟨-1, rfl, by omega, by omega, by omega, hbn⟩
  have hr' : 0 ≤ r1 := by omega
  have q4 := q3 hr'
  clear q3 hr
  have hs := szIntS_c A1 a.queue.length c1 r1 w1 (by omega) hr' (by omega)
  rcases lft_cases r1 a.queue.length with ⟨hlt, he⟩ | ⟨hge, he⟩
  · rw [he] at hs
    have Hs := Lib.hid hs
    clear he hs
    go_wp2_with fail
    refine Hs.out.mono ?_
    rintro e w' ⟨rfl, rfl⟩
    go_wp2
    go_ret
    exact ⟨-1, rfl, by omega, by omega, by omega, hbn⟩
  rw [he] at hs
  have Hs := Lib.hid hs
  clear he hs
  go_wp2_with fail
  refine Hs.out.mono ?_
  rintro e w' ⟨rfl, rfl⟩
  obtain ⟨r2, hr2⟩ : ∃ r2, r2 = r1 - (a.queue.length : Int) := ⟨_, rfl⟩
  rw [← hr2] at hge ⊢
  have hs := szIntS_c A2 a.purple.length c2 r2 w1 (by omega) hge (by omega)
  rcases lft_cases r2 a.purple.length with ⟨hlt, he⟩ | ⟨hge', he⟩
  · rw [he] at hs
    have Hs := Lib.hid hs
    have Hr2 := Lib.hid hr2
    clear he hs hr2
    go_wp2_with fail
    refine Hs.out.mono ?_
    rintro e w' ⟨rfl, rfl⟩
    go_wp2
    go_ret
    have := Hr2.out
    exact ⟨-1, rfl, by omega, by omega, by omega, hbn⟩
  rw [he] at hs
  have Hs := Lib.hid hs
  have Hr2 := Lib.hid hr2
  clear he hs hr2
  go_wp2_with fail
  refine Hs.out.mono ?_
  rintro e w' ⟨rfl, rfl⟩
  go_wp2
  go_ret
  have := Hr2.out
  exact ⟨r2 - (a.purple.length : Int), rfl, by omega, by omega, fun _ => by unfold arSz; omega, hbn⟩
end Go.Proofs.Ytfmlgpnjckamjaa

namespace Go.Proofs.Ytfmlgpnjckamjaa
open Go.RowKit
set_option linter.unusedVariables false

set_option maxHeartbeats 1000000 in
theorem toVal_c (k n g : Int) (w : World) :
    Calls Try.prog 19 #[.agg #[.int .i64 k, .int .i64 n, .int .i64 g]] w fun e w' => e = .returned (.agg #[.int .i64 k, .int .i64 n, .int .i64 g]) ∧ Below w.heap.size w w' := by
  go_enter Try.func19, Try.ntmps19
  go_wp2
  refine bodyPost_ret (v := .agg #[.int .i64 k, .int .i64 n, .int .i64 g]) (by simp [results, Try.results19, go_sem]) rfl ⟨rfl, ?_⟩
  have hb0 : Below w.heap.size w (((w.alloc (.cells #[.int .i64 k, .int .i64 n, .int .i64 g] 40)).alloc (.cells #[.int .i64 k, .int .i64 n, .int .i64 g] 43)).alloc (.cells #[.int .i64 k, .int .i64 n, .int .i64 g] 43)) := (((Below.refl _ _).alloc (Nat.le_refl _) _).alloc (by simp) _).alloc (by simp; omega) _
  exact hb0

theorem infoFd : (Try.prog.info? 92).map (fun i => (i.zero, i.size, i.bytes)) = some (some (.agg #[.slice none 0 0, .int .i64 0, .int .i64 0, .int .i64 0]), 4, 48) := by kernel_rfl
theorem infoSl : (Try.prog.info? 90).map (fun i => (i.zero, i.size, i.bytes)) = some (some (.agg #[.bool false, .int .i64 0, .int .i64 0, .slice none 0 0]), 4, 48) := by kernel_rfl
theorem infoI : (Try.prog.info? 3).map (fun i => (i.zero, i.size, i.bytes)) = some (some (.int .i64 0), 1, 8) := by kernel_rfl

set_option maxHeartbeats 1000000 in
theorem toField_c (f : Fd) (v0 v1 v2 v3 : Value) (L B : Nat) (w : World) (hB : B ≤ w.heap.size) (hl : fdSz f ≤ 1050000) (hv : FdV w L B v0 v1 v2 v3 f) :
    Calls Try.prog 124 #[.agg #[v0, v1, v2, v3]] w fun e w' => ∃ g, e = .returned (.agg #[.slice (some ⟨g, 0, none⟩) f.name.length f.name.length, .int .i64 f.k, .int .i64 f.n, .int .i64 f.g]) ∧
      Blk w' g 5 (vb f.name).toArray ∧ w.heap.size ≤ g ∧ g < w'.heap.size ∧ Below w.heap.size w w' := by
  obtain ⟨A, c, rfl, hR, hm, rfl, rfl, rfl⟩ := hv
  obtain ⟨l, k, n, gn⟩ := f
  unfold fdSz at hl
  dsimp only at *
  go_enter Try.func124, Try.ntmps124
  go_wp2_with fail
  refine (toByteS_c l A c B _ (by omega) (by simp; omega) (((hR.1.alloc hB _).alloc (by simp; omega) _).alloc (by simp; omega) _)).mono ?_
  rintro e w1 ⟨g1, rfl, hB1, hg1, hs1, hb1⟩
  have K3 : Blk w1 (w.heap.size + 1 + 1) 92 #[.slice none 0 0, .int .i64 0, .int .i64 0, .int .i64 0] :=
    Blk.below (by have := Blk.new ((w.alloc (.cells #[.slice A l.length c, .int .i64 k, .int .i64 n, .int .i64 gn] 151)).alloc (.cells #[.slice none 0 0, .int .i64 0, .int .i64 0, .int .i64 0] 92)) 92 #[.slice none 0 0, .int .i64 0, .int .i64 0, .int .i64 0]; simpa using this) hb1 (by simp)
  have K2 : Blk w1 (w.heap.size + 1) 92 #[.slice none 0 0, .int .i64 0, .int .i64 0, .int .i64 0] :=
    Blk.below ((by have := Blk.new (w.alloc (.cells #[.slice A l.length c, .int .i64 k, .int .i64 n, .int .i64 gn] 151)) 92 #[.slice none 0 0, .int .i64 0, .int .i64 0, .int .i64 0]; simpa using this : Blk ((w.alloc (.cells #[.slice A l.length c, .int .i64 k, .int .i64 n, .int .i64 gn] 151)).alloc (.cells #[.slice none 0 0, .int .i64 0, .int .i64 0, .int .i64 0] 92)) (w.heap.size + 1) 92 _).alloc _) hb1 (by simp)
  have K0 : Blk w1 w.heap.size 151 #[.slice A l.length c, .int .i64 k, .int .i64 n, .int .i64 gn] :=
    Blk.below (((Blk.new w 151 _).alloc _).alloc _) hb1 (by simp; omega)
  have hg1' : w.heap.size + 1 + 1 + 1 ≤ g1 := by simpa using hg1
  have hbw : Below w.heap.size w w1 := ((((Below.refl _ _).alloc (Nat.le_refl _) _).alloc (by simp) _).alloc (by simp; omega) _).trans (hb1.mono (by simp; omega))
  have a1 := K0.cel 1 rfl
  have a2 := K0.cel 2 rfl
  have a3 := K0.cel 3 rfl
  have n0 := K3.cel 0 rfl
  have fz0 : w1.frozen? ⟨w.heap.size + 1 + 1, 0, none⟩ = false := K3.frozen 0
  clear hb1 hg1
  go_wp2_with fail
  obtain ⟨W1, hW1⟩ : ∃ W1, W1 = w1.setCell ⟨w.heap.size + 1 + 1, 0, none⟩ (.slice (some ⟨g1, 0, none⟩) l.length l.length) := ⟨_, rfl⟩
  have KA := (K3.set_ 0 (.slice (some ⟨g1, 0, none⟩) l.length l.length))
  have KB := (K2.far (p := ⟨w.heap.size + 1 + 1, 0, none⟩) (by simp) (.slice (some ⟨g1, 0, none⟩) l.length l.length))
  have hB1' := (hB1.far (p := ⟨w.heap.size + 1 + 1, 0, none⟩) (by simp; omega) (.slice (some ⟨g1, 0, none⟩) l.length l.length))
  have hbW := hbw.setCell (p := ⟨w.heap.size + 1 + 1, 0, none⟩) (by simp; omega) (.slice (some ⟨g1, 0, none⟩) l.length l.length)
  have hsz : W1.heap.size = w1.heap.size := by rw [hW1]; simp
  rw [← hW1] at KA KB hB1' hbW
  rw [← hW1]
  clear hW1
  refine (toVal_c k n gn W1).mono ?_
  rintro e w2 ⟨rfl, hb2⟩
  have KA2 := KA.below hb2 KA.lt
  have KB2 := KB.below hb2 KB.lt
  have hB2 := hB1'.below hb2 hB1'.lt
  have hbw2 := hbW.trans (hb2.mono hbW.size)
  have n0 := KA2.cel 0 rfl
  have n1 := KA2.cel 1 rfl
  have n2 := KA2.cel 2 rfl
  have n3 := KA2.cel 3 rfl
  have m0 := KB2.cel 0 rfl
  have m1 := KB2.cel 1 rfl
  have m2 := KB2.cel 2 rfl
  have m3 := KB2.cel 3 rfl
  have x0 : w2.frozen? ⟨w.heap.size + 1 + 1, 0, none⟩ = false := KA2.frozen 0
  have x1 : w2.frozen? ⟨w.heap.size + 1 + 1, 1, none⟩ = false := KA2.frozen 1
  have x2 : w2.frozen? ⟨w.heap.size + 1 + 1, 2, none⟩ = false := KA2.frozen 2
  have x3 : w2.frozen? ⟨w.heap.size + 1 + 1, 3, none⟩ = false := KA2.frozen 3
  have y0 : w2.frozen? ⟨w.heap.size + 1, 0, none⟩ = false := KB2.frozen 0
  have y1 : w2.frozen? ⟨w.heap.size + 1, 1, none⟩ = false := KB2.frozen 1
  have y2 : w2.frozen? ⟨w.heap.size + 1, 2, none⟩ = false := KB2.frozen 2
  have y3 : w2.frozen? ⟨w.heap.size + 1, 3, none⟩ = false := KB2.frozen 3
  have hs2 : w1.heap.size ≤ w2.heap.size := by have := hb2.size; omega
  clear hb2 a1 a2 a3 K0 K2 K3 hbW
  go_wp2_with fail
  refine bodyPost_ret (v := .agg #[.slice (some ⟨g1, 0, none⟩) l.length l.length, .int .i64 k, .int .i64 n, .int .i64 gn]) (by simp [results, Try.results124, go_sem, m0, m1, m2, m3]) rfl
    ⟨g1, rfl, ?_, by omega, by simp; omega, ?_⟩
  · exact ((((((hB2.far (by simp; omega) _).far (by simp; omega) _).far (by simp; omega) _).far (by simp; omega) _).far (by simp; omega) _).far (by simp; omega) _).far (by simp; omega) _
  · exact ((((((hbw2.setCell (by simp; omega) _).setCell (by simp; omega) _).setCell (by simp; omega) _).setCell (by simp) _).setCell (by simp) _).setCell (by simp) _).setCell (by simp) _

set_option maxHeartbeats 2000000 in
theorem toFieldS_c (l : List Fd) (A : Option Addr) (c L B : Nat) (w : World) (hB : B ≤ w.heap.size) (hl : fsSz l ≤ 1050000) (h : FdL w L B A l) :
    Calls Try.prog 94 #[.slice A l.length c] w fun r w' => ∃ g, r = .returned (.slice (some ⟨g, 0, none⟩) l.length l.length) ∧ g < w'.heap.size ∧ w.heap.size ≤ g ∧ FdL w' w.heap.size w'.heap.size (some ⟨g, 0, none⟩) l ∧ Below w.heap.size w w' := by
  obtain ⟨i0, hi, hz0, hz1, hz2⟩ := info_parts infoFd
  have hlen : l.length ≤ 1050000 := by unfold fsSz at hl; omega
  have hmk : ∀ u : World, (Instr.makeSlice 88 (.int .i64 (l.length : Int)) (.int .i64 (l.length : Int))).run Try.prog u =
      .ok (.slice (some ⟨u.heap.size, 0, none⟩) l.length l.length) (u.alloc (.cells (madeCells #[.slice none 0 0, .int .i64 0, .int .i64 0, .int .i64 0] (l.length * 4)) 92)) := fun u => by
    have h := run_make (P := Try.prog) u 88 92 i0 (.agg #[.slice none 0 0, .int .i64 0, .int .i64 0, .int .i64 0]) Try.underlying88 hi hz0 .i64 .i64 (l.length : Int) (l.length : Int) (by omega) (Int.le_refl _) (by rw [hz2]; omega) (by omega)
    rw [Int.toNat_natCast] at h
    simpa [hz1, Value.cells] using h
  clear hi hz0 hz1 hz2
  go_enter Try.func94, Try.ntmps94
  go_wp2
  go_loopw [4] (fun i wr => ∃ (k : Nat) (cs : Array Value), k ≤ l.length ∧ i = .int .i64 k ∧ cs.size = l.length * 4 ∧ Blk wr w.heap.size 92 cs ∧ RowP (FdV wr (w.heap.size + 1) wr.heap.size) cs l k ∧ Below w.heap.size w wr) (fun i _ => l.length - (intOf i).toNat)
  case atStart => exact ⟨0, _, Nat.zero_le _, rfl, by simp [madeCells], Blk.new _ _ _, fun i _ hk => by omega, (Below.refl _ _).alloc (Nat.le_refl _) _⟩
  case round =>
    obtain ⟨k, cs, hk, rfl, hcs, hblk, hown, hbl⟩ := hrel
    have Hcs := Lib.hid hcs
    have Hown := Lib.hid hown
    clear hcs hown
    by_cases hlt : k < l.length
    · obtain ⟨ad, rfl, _, hb, hat⟩ := (h.below (hbl.mono hB)).2 (by omega)
      obtain ⟨v0, v1, v2, v3, ⟨c0, c1, c2, c3⟩, hv⟩ := hat k hlt
      have hsz1 : fdSz l[k] ≤ 1050000 := by have := sum_get fdSz hlt; unfold fsSz at hl; omega
      have hc := toField_c l[k] v0 v1 v2 v3 L B wr (Nat.le_trans hB hbl.size) hsz1 hv
      have Hc := Lib.hid hc
      clear hc hat
      go_wp2_with fail
      refine Hc.out.mono ?_
      rintro e w1 ⟨g1, rfl, hB1, hg1, hs1, hb1⟩
      have hmn : l[k].name.length ≤ maxLen := by unfold maxLen; unfold fdSz at hsz1; omega
      have hu : FdV w1 (w.heap.size + 1) w1.heap.size (.slice (some ⟨g1, 0, none⟩) l[k].name.length l[k].name.length) (.int .i64 l[k].k) (.int .i64 l[k].n) (.int .i64 l[k].g) l[k] :=
        ⟨_, _, rfl, ⟨RB.of_blk hB1 hs1, fun _ => ⟨_, rfl, by show w.heap.size + 1 ≤ g1; have := hblk.lt; omega⟩⟩, hmn, rfl, rfl, rfl⟩
      have hblk1 := hblk.below hb1 hblk.lt
      have hsz := Hcs.out
      obtain ⟨x0, e0⟩ : ∃ v, cs[k * 4]? = some v := ⟨_, Array.getElem?_eq_getElem (by omega)⟩
      obtain ⟨x1, e1⟩ : ∃ v, cs[k * 4 + 1]? = some v := ⟨_, Array.getElem?_eq_getElem (by omega)⟩
      obtain ⟨x2, e2⟩ : ∃ v, cs[k * 4 + 2]? = some v := ⟨_, Array.getElem?_eq_getElem (by omega)⟩
      obtain ⟨x3, e3⟩ : ∃ v, cs[k * 4 + 3]? = some v := ⟨_, Array.getElem?_eq_getElem (by omega)⟩
      have q0 : w1.cell? ⟨w.heap.size, k * 4, none⟩ = some x0 := by rw [hblk1.cell]; exact e0
      have q1 : w1.cell? ⟨w.heap.size, k * 4 + 1, none⟩ = some x1 := by rw [hblk1.cell]; exact e1
      have q2 : w1.cell? ⟨w.heap.size, k * 4 + 2, none⟩ = some x2 := by rw [hblk1.cell]; exact e2
      have q3 : w1.cell? ⟨w.heap.size, k * 4 + 3, none⟩ = some x3 := by rw [hblk1.cell]; exact e3
      have z0 : w1.frozen? ⟨w.heap.size, k * 4, none⟩ = false := hblk1.frozen _
      have z1 : w1.frozen? ⟨w.heap.size, k * 4 + 1, none⟩ = false := hblk1.frozen _
      have z2 : w1.frozen? ⟨w.heap.size, k * 4 + 2, none⟩ = false := hblk1.frozen _
      have z3 : w1.frozen? ⟨w.heap.size, k * 4 + 3, none⟩ = false := hblk1.frozen _
      have hlt1 := hblk.lt
      have hbl1 := hbl.trans (hb1.mono hbl.size)
      have hfin := (Hown.out.mono (V' := FdV w1 (w.heap.size + 1) w1.heap.size) (fun _ _ _ _ _ hv => (FdV.keep hv (fun _ _ hp => hb1.cell hp)).more (Nat.le_refl _) hb1.size)).step hlt (by omega) hu
      have hfin2 := hfin.mono (V' := FdV ((((w1.setCell ⟨w.heap.size, k * 4, none⟩ (.slice (some ⟨g1, 0, none⟩) l[k].name.length l[k].name.length)).setCell ⟨w.heap.size, k * 4 + 1, none⟩ (.int .i64 l[k].k)).setCell ⟨w.heap.size, k * 4 + 2, none⟩ (.int .i64 l[k].n)).setCell ⟨w.heap.size, k * 4 + 3, none⟩ (.int .i64 l[k].g)) (w.heap.size + 1) w1.heap.size)
        (fun _ _ _ _ _ hv => FdV.keep hv (fun p hp _ => by
          rw [World.cell?_setCell_other _ _ _ _ (fun e => by subst e; simp at hp; omega), World.cell?_setCell_other _ _ _ _ (fun e => by subst e; simp at hp; omega), World.cell?_setCell_other _ _ _ _ (fun e => by subst e; simp at hp; omega), World.cell?_setCell_other _ _ _ _ (fun e => by subst e; simp at hp; omega)]))
      have Hfin := Lib.hid hfin2
      clear hsz e0 e1 e2 e3 hfin hfin2 hu
      go_wp2
      go_roundw
      case rel =>
        exact ⟨k + 1, _, by omega, by go_num, by rw [pt4_size]; exact Hcs.out, hblk1.pt4 (k * 4) _ _ _ _, by simpa only [World.size_setCell] using Hfin.out, (((hbl1.setCell (by simp) _).setCell (by simp) _).setCell (by simp) _).setCell (by simp) _⟩
      case measure => simp [intOf]; omega
    · go_wp2
      go_ret
      have : k = l.length := by omega
      subst this
      exact ⟨_, rfl, hblk.lt, Nat.le_refl _, Hown.out.row (by unfold maxLen; omega) hblk (Nat.le_refl _) |>.more (Nat.le_refl _) (Nat.le_refl _) (fun _ _ _ _ _ hv => FdV.more hv (by omega) (Nat.le_refl _)), hbl⟩

set_option maxHeartbeats 2000000 in
theorem toSlot_c (f : Sl) (v0 v1 v2 v3 : Value) (L B : Nat) (w : World) (hB : B ≤ w.heap.size) (hl : slSz f ≤ 1050000) (hv : SlV w L B v0 v1 v2 v3 f) :
    Calls Try.prog 72 #[.agg #[v0, v1, v2, v3]] w fun e w' => ∃ g, e = .returned (.agg #[.bool f.live, .int .i64 f.gen, .int .i64 f.count, .slice (some ⟨g, 0, none⟩) f.fs.length f.fs.length]) ∧
      FdL w' w.heap.size w'.heap.size (some ⟨g, 0, none⟩) f.fs ∧ Below w.heap.size w w' := by
  obtain ⟨rfl, rfl, rfl, A, c, rfl, hx⟩ := hv
  obtain ⟨lv, gn, ct, l⟩ := f
  unfold slSz at hl
  dsimp only at *
  have hb0 : Below w.heap.size w (((w.alloc (.cells #[.bool lv, .int .i64 gn, .int .i64 ct, .slice A l.length c] 86)).alloc (.cells #[.bool false, .int .i64 0, .int .i64 0, .slice none 0 0] 90)).alloc (.cells #[.bool lv, .int .i64 gn, .int .i64 ct, .slice none 0 0] 90)) := (((Below.refl _ _).alloc (Nat.le_refl _) _).alloc (by simp) _).alloc (by simp; omega) _
  have hx0 := hx.below (hb0.mono hB)
  go_enter Try.func72, Try.ntmps72
  go_wp2_with fail
  refine (toFieldS_c l A c L B _ (by simp; omega) hl hx0).mono ?_
  rintro e w1 ⟨g1, rfl, hs1, hg1, hx1, hb1⟩
  have K3 : Blk w1 (w.heap.size + 1 + 1) 90 #[.bool lv, .int .i64 gn, .int .i64 ct, .slice none 0 0] :=
    Blk.below (by have := Blk.new ((w.alloc (.cells #[.bool lv, .int .i64 gn, .int .i64 ct, .slice A l.length c] 86)).alloc (.cells #[.bool false, .int .i64 0, .int .i64 0, .slice none 0 0] 90)) 90 #[.bool lv, .int .i64 gn, .int .i64 ct, .slice none 0 0]; simpa using this) hb1 (by simp)
  have K2 : Blk w1 (w.heap.size + 1) 90 #[.bool false, .int .i64 0, .int .i64 0, .slice none 0 0] :=
    Blk.below ((by have := Blk.new (w.alloc (.cells #[.bool lv, .int .i64 gn, .int .i64 ct, .slice A l.length c] 86)) 90 #[.bool false, .int .i64 0, .int .i64 0, .slice none 0 0]; simpa using this : Blk ((w.alloc (.cells #[.bool lv, .int .i64 gn, .int .i64 ct, .slice A l.length c] 86)).alloc (.cells #[.bool false, .int .i64 0, .int .i64 0, .slice none 0 0] 90)) (w.heap.size + 1) 90 _).alloc _) hb1 (by simp)
  have hg1' : w.heap.size + 1 + 1 + 1 ≤ g1 := by simpa using hg1
  have hbw : Below w.heap.size w w1 := hb0.trans (hb1.mono (by simp; omega))
  have n0 := K3.cel 0 rfl
  have n1 := K3.cel 1 rfl
  have n2 := K3.cel 2 rfl
  have n3 := K3.cel 3 rfl
  have m0 := K2.cel 0 rfl
  have m1 := K2.cel 1 rfl
  have m2 := K2.cel 2 rfl
  have m3 := K2.cel 3 rfl
  have x3 : w1.frozen? ⟨w.heap.size + 1 + 1, 3, none⟩ = false := K3.frozen 3
  have y0 : w1.frozen? ⟨w.heap.size + 1, 0, none⟩ = false := K2.frozen 0
  have y1 : w1.frozen? ⟨w.heap.size + 1, 1, none⟩ = false := K2.frozen 1
  have y2 : w1.frozen? ⟨w.heap.size + 1, 2, none⟩ = false := K2.frozen 2
  have y3 : w1.frozen? ⟨w.heap.size + 1, 3, none⟩ = false := K2.frozen 3
  have hs2 : w.heap.size + 1 + 1 < w1.heap.size := K3.lt
  have hx2 : FdL w1 (w.heap.size + 1 + 1 + 1) w1.heap.size (some ⟨g1, 0, none⟩) l := by simpa using hx1
  clear hb1 hg1 hx1 hx hx0 hb0 K3 K2
  go_wp2_with fail
  refine bodyPost_ret (v := .agg #[.bool lv, .int .i64 gn, .int .i64 ct, .slice (some ⟨g1, 0, none⟩) l.length l.length]) (by simp [results, Try.results72, go_sem, m0, m1, m2, m3]) rfl
    ⟨g1, rfl, ?_, ?_⟩
  · refine (hx2.keep (fun p hp _ => ?_)).more (by omega) (by simp)
    rw [World.cell?_setCell_other _ _ _ _ (fun e => by subst e; simp at hp; omega), World.cell?_setCell_other _ _ _ _ (fun e => by subst e; simp at hp; omega), World.cell?_setCell_other _ _ _ _ (fun e => by subst e; simp at hp; omega), World.cell?_setCell_other _ _ _ _ (fun e => by subst e; simp at hp; omega), World.cell?_setCell_other _ _ _ _ (fun e => by subst e; simp at hp; omega)]
  · exact ((((hbw.setCell (by simp; omega) _).setCell (by simp) _).setCell (by simp) _).setCell (by simp) _).setCell (by simp) _

set_option maxHeartbeats 2000000 in
theorem toSlotS_c (l : List Sl) (A : Option Addr) (c L B : Nat) (w : World) (hB : B ≤ w.heap.size) (hl : slsSz l ≤ 1050000) (h : SlL w L B A l) :
    Calls Try.prog 36 #[.slice A l.length c] w fun r w' => ∃ g, r = .returned (.slice (some ⟨g, 0, none⟩) l.length l.length) ∧ g < w'.heap.size ∧ w.heap.size ≤ g ∧ SlL w' w.heap.size w'.heap.size (some ⟨g, 0, none⟩) l ∧ Below w.heap.size w w' := by
  obtain ⟨i0, hi, hz0, hz1, hz2⟩ := info_parts infoSl
  have hlen : l.length ≤ 1050000 := by unfold slsSz at hl; omega
  have hmk : ∀ u : World, (Instr.makeSlice 30 (.int .i64 (l.length : Int)) (.int .i64 (l.length : Int))).run Try.prog u =
      .ok (.slice (some ⟨u.heap.size, 0, none⟩) l.length l.length) (u.alloc (.cells (madeCells #[.bool false, .int .i64 0, .int .i64 0, .slice none 0 0] (l.length * 4)) 90)) := fun u => by
    have h := run_make (P := Try.prog) u 30 90 i0 (.agg #[.bool false, .int .i64 0, .int .i64 0, .slice none 0 0]) Try.underlying30 hi hz0 .i64 .i64 (l.length : Int) (l.length : Int) (by omega) (Int.le_refl _) (by rw [hz2]; omega) (by omega)
    rw [Int.toNat_natCast] at h
    simpa [hz1, Value.cells] using h
  clear hi hz0 hz1 hz2
  go_enter Try.func36, Try.ntmps36
  go_wp2
  go_loopw [4] (fun i wr => ∃ (k : Nat) (cs : Array Value), k ≤ l.length ∧ i = .int .i64 k ∧ cs.size = l.length * 4 ∧ Blk wr w.heap.size 90 cs ∧ RowP (SlV wr (w.heap.size + 1) wr.heap.size) cs l k ∧ Below w.heap.size w wr) (fun i _ => l.length - (intOf i).toNat)
  case atStart => exact ⟨0, _, Nat.zero_le _, rfl, by simp [madeCells], Blk.new _ _ _, fun i _ hk => by omega, (Below.refl _ _).alloc (Nat.le_refl _) _⟩
  case round =>
    obtain ⟨k, cs, hk, rfl, hcs, hblk, hown, hbl⟩ := hrel
    have Hcs := Lib.hid hcs
    have Hown := Lib.hid hown
    clear hcs hown
    by_cases hlt : k < l.length
    · obtain ⟨ad, rfl, _, hb, hat⟩ := (h.below (hbl.mono hB)).2 (by omega)
      obtain ⟨v0, v1, v2, v3, ⟨c0, c1, c2, c3⟩, hv⟩ := hat k hlt
      have hsz1 : slSz l[k] ≤ 1050000 := by have := sum_get slSz hlt; unfold slsSz at hl; omega
      have hc := toSlot_c l[k] v0 v1 v2 v3 L B wr (Nat.le_trans hB hbl.size) hsz1 hv
      have Hc := Lib.hid hc
      clear hc hat
      go_wp2_with fail
      refine Hc.out.mono ?_
      rintro e w1 ⟨g1, rfl, hF1, hb1⟩
      have hu : SlV w1 (w.heap.size + 1) w1.heap.size (.bool l[k].live) (.int .i64 l[k].gen) (.int .i64 l[k].count) (.slice (some ⟨g1, 0, none⟩) l[k].fs.length l[k].fs.length) l[k] :=
        ⟨rfl, rfl, rfl, _, _, rfl, hF1.more (by have := hblk.lt; omega) (Nat.le_refl _)⟩
      have hblk1 := hblk.below hb1 hblk.lt
      have hsz := Hcs.out
      obtain ⟨x0, e0⟩ : ∃ v, cs[k * 4]? = some v := ⟨_, Array.getElem?_eq_getElem (by omega)⟩
      obtain ⟨x1, e1⟩ : ∃ v, cs[k * 4 + 1]? = some v := ⟨_, Array.getElem?_eq_getElem (by omega)⟩
      obtain ⟨x2, e2⟩ : ∃ v, cs[k * 4 + 2]? = some v := ⟨_, Array.getElem?_eq_getElem (by omega)⟩
      obtain ⟨x3, e3⟩ : ∃ v, cs[k * 4 + 3]? = some v := ⟨_, Array.getElem?_eq_getElem (by omega)⟩
      have q0 : w1.cell? ⟨w.heap.size, k * 4, none⟩ = some x0 := by rw [hblk1.cell]; exact e0
      have q1 : w1.cell? ⟨w.heap.size, k * 4 + 1, none⟩ = some x1 := by rw [hblk1.cell]; exact e1
      have q2 : w1.cell? ⟨w.heap.size, k * 4 + 2, none⟩ = some x2 := by rw [hblk1.cell]; exact e2
      have q3 : w1.cell? ⟨w.heap.size, k * 4 + 3, none⟩ = some x3 := by rw [hblk1.cell]; exact e3
      have z0 : w1.frozen? ⟨w.heap.size, k * 4, none⟩ = false := hblk1.frozen _
      have z1 : w1.frozen? ⟨w.heap.size, k * 4 + 1, none⟩ = false := hblk1.frozen _
      have z2 : w1.frozen? ⟨w.heap.size, k * 4 + 2, none⟩ = false := hblk1.frozen _
      have z3 : w1.frozen? ⟨w.heap.size, k * 4 + 3, none⟩ = false := hblk1.frozen _
      have hlt1 := hblk.lt
      have hbl1 := hbl.trans (hb1.mono hbl.size)
      have hfin := (Hown.out.mono (V' := SlV w1 (w.heap.size + 1) w1.heap.size) (fun _ _ _ _ _ hv => (SlV.keep hv (fun _ _ hp => hb1.cell hp)).more (Nat.le_refl _) hb1.size)).step hlt (by omega) hu
      have hfin2 := hfin.mono (V' := SlV ((((w1.setCell ⟨w.heap.size, k * 4, none⟩ (.bool l[k].live)).setCell ⟨w.heap.size, k * 4 + 1, none⟩ (.int .i64 l[k].gen)).setCell ⟨w.heap.size, k * 4 + 2, none⟩ (.int .i64 l[k].count)).setCell ⟨w.heap.size, k * 4 + 3, none⟩ (.slice (some ⟨g1, 0, none⟩) l[k].fs.length l[k].fs.length)) (w.heap.size + 1) w1.heap.size)
        (fun _ _ _ _ _ hv => SlV.keep hv (fun p hp _ => by
          rw [World.cell?_setCell_other _ _ _ _ (fun e => by subst e; simp at hp; omega), World.cell?_setCell_other _ _ _ _ (fun e => by subst e; simp at hp; omega), World.cell?_setCell_other _ _ _ _ (fun e => by subst e; simp at hp; omega), World.cell?_setCell_other _ _ _ _ (fun e => by subst e; simp at hp; omega)]))
      have Hfin := Lib.hid hfin2
      clear hsz e0 e1 e2 e3 hfin hfin2 hu
      go_wp2
      go_roundw
      case rel =>
        exact ⟨k + 1, _, by omega, by go_num, by rw [pt4_size]; exact Hcs.out, hblk1.pt4 (k * 4) _ _ _ _, by simpa only [World.size_setCell] using Hfin.out, (((hbl1.setCell (by simp) _).setCell (by simp) _).setCell (by simp) _).setCell (by simp) _⟩
      case measure => simp [intOf]; omega
    · go_wp2
      go_ret
      have : k = l.length := by omega
      subst this
      exact ⟨_, rfl, hblk.lt, Nat.le_refl _, Hown.out.row (by unfold maxLen; omega) hblk (Nat.le_refl _) |>.more (Nat.le_refl _) (Nat.le_refl _) (fun _ _ _ _ _ hv => SlV.more hv (by omega) (Nat.le_refl _)), hbl⟩
end Go.Proofs.Ytfmlgpnjckamjaa

namespace Go.Proofs.Ytfmlgpnjckamjaa
open Go.RowKit
set_option linter.unusedVariables false

/-- the values of a list of numbers -/
def vi (l : List Int) : List Value := l.map fun b => .int .i64 b
theorem vi_len (l : List Int) : (vi l).length = l.length := by simp [vi]
theorem vi_get (l : List Int) (k : Nat) : (vi l)[k]? = (l[k]?).map fun b => .int .i64 b := by simp [vi]
theorem IL.of_blk {w : World} {L B g : Nat} {l : List Int} {t : TypeId} (h : Blk w g t (vi l).toArray) (hL : L ≤ g) (hg : g < B) (hm : l.length ≤ maxLen) : IL w L B (some ⟨g, 0, none⟩) l := by
  refine ⟨hm, fun _ => ⟨_, rfl, hL, hg, fun k hk => ?_⟩⟩
  rw [add_zero_, h.cell]
  simp [vi, List.getElem?_eq_getElem hk]

set_option maxHeartbeats 400000 in
theorem toIntS_c (l : List Int) (A : Option Addr) (c L B : Nat) (w : World) (hl : l.length ≤ 1050000) (hB : B ≤ w.heap.size) (h : IL w L B A l) :
    Calls Try.prog 37 #[.slice A l.length c] w fun e w' => ∃ g, e = .returned (.slice (some ⟨g, 0, none⟩) l.length l.length) ∧ Blk w' g 3 (vi l).toArray ∧ w.heap.size ≤ g ∧ g < w'.heap.size ∧ Below w.heap.size w w' := by
  have hmk := run_make_row' (P := Try.prog) 23 3 (.int .i64 0) 8 Try.underlying23 infoI rfl .i64 .i64 l.length (by omega) (by omega)
  go_enter Try.func37, Try.ntmps37
  go_wp2
  go_loopw [4] (fun i wr => ∃ (k : Nat) (cs : Array Value), k ≤ l.length ∧ i = .int .i64 k ∧ cs.size = l.length ∧ (∀ j, j < k → cs[j]? = (vi l)[j]?) ∧ wr = w.alloc (.cells cs 3)) (fun i _ => l.length - (intOf i).toNat)
  case atStart => exact ⟨0, madeCells #[.int .i64 0] l.length, Nat.zero_le _, rfl, by simp [madeCells], fun j hj => by omega, rfl⟩
  case round =>
    obtain ⟨k, cs, hk, rfl, hcs, hsame, rfl⟩ := hrel
    have hc := Lib.hid hcs
    have hs := Lib.hid hsame
    clear hcs hsame
    by_cases hlt : k < l.length
    · obtain ⟨ad, rfl, _, hb, hcell⟩ := (h.below ((Below.refl B w).alloc hB (.cells cs 3))).2 (by omega)
      have hck := hcell k hlt
      clear hcell
      obtain ⟨v, hv⟩ : ∃ v, cs[k]? = some v := ⟨_, Array.getElem?_eq_getElem (by have := hc.out; omega)⟩
      go_wp2
      go_roundw
      case rel =>
        refine ⟨k + 1, cs.setIfInBounds k (.int .i64 l[k]), by omega, by go_num, by simpa using hc.out, fun j hj => ?_, ?_⟩
        · have h1 := hs.out j
          have h2 := hc.out
          by_cases hjk : j = k
          · subst hjk
            rw [Array.getElem?_setIfInBounds_self_of_lt (by omega), vi_get, List.getElem?_eq_getElem hlt]; rfl
          · rw [Array.getElem?_setIfInBounds_ne (by omega)]
            exact h1 (by omega)
        · simp
      case measure => simp [intOf]; omega
    · go_wp2
      go_ret
      have : k = l.length := by omega
      subst this
      have e : cs = (vi l).toArray := by
        apply Array.ext'
        apply List.ext_getElem?
        intro j
        have h1 := hs.out j
        have h2 := hc.out
        by_cases hj : j < l.length
        · simpa using h1 hj
        · rw [List.getElem?_eq_none, List.getElem?_eq_none] <;> simp [vi] <;> omega
      subst e
      exact ⟨_, rfl, Blk.new _ _ _, Nat.le_refl _, by simp, (Below.refl _ _).alloc (Nat.le_refl _) _⟩

set_option maxHeartbeats 2000000 in
theorem toArena_c (a : Ar) (A0 A1 A2 : Option Addr) (c0 c1 c2 L B : Nat) (w : World) (hB : B ≤ w.heap.size) (hl : arSz a ≤ 1050000) (h : ArL w L B A0 A1 A2 a) :
    Calls Try.prog 11 #[.agg #[.slice A0 a.slots.length c0, .slice A1 a.queue.length c1, .slice A2 a.purple.length c2]] w fun e w' => ∃ g0 g1 g2,
      e = .returned (.agg #[.slice (some ⟨g0, 0, none⟩) a.slots.length a.slots.length, .slice (some ⟨g1, 0, none⟩) a.queue.length a.queue.length, .slice (some ⟨g2, 0, none⟩) a.purple.length a.purple.length]) ∧
      ArL w' w.heap.size w'.heap.size (some ⟨g0, 0, none⟩) (some ⟨g1, 0, none⟩) (some ⟨g2, 0, none⟩) a ∧ Below w.heap.size w w' := by
  obtain ⟨S, Q, P⟩ := a
  obtain ⟨hS, hQ, hP⟩ := h
  unfold arSz at hl
  dsimp only at *
  have hb0 : Below w.heap.size w (((w.alloc (.cells #[.slice A0 S.length c0, .slice A1 Q.length c1, .slice A2 P.length c2] 25)).alloc (.cells #[.slice none 0 0, .slice none 0 0, .slice none 0 0] 32)).alloc (.cells #[.slice none 0 0, .slice none 0 0, .slice none 0 0] 32)) := (((Below.refl _ _).alloc (Nat.le_refl _) _).alloc (by simp) _).alloc (by simp; omega) _
  have hS0 := hS.below (hb0.mono hB)
  go_enter Try.func11, Try.ntmps11
  go_wp2_with fail
  refine (toSlotS_c S A0 c0 L B _ (by simp; omega) (by omega) hS0).mono ?_
  rintro e w1 ⟨g1, rfl, hs1, hg1, hx1, hb1⟩
  have K3 : Blk w1 (w.heap.size + 1 + 1) 32 #[.slice none 0 0, .slice none 0 0, .slice none 0 0] :=
    Blk.below (by have := Blk.new ((w.alloc (.cells #[.slice A0 S.length c0, .slice A1 Q.length c1, .slice A2 P.length c2] 25)).alloc (.cells #[.slice none 0 0, .slice none 0 0, .slice none 0 0] 32)) 32 #[.slice none 0 0, .slice none 0 0, .slice none 0 0]; simpa using this) hb1 (by simp)
  have K2 : Blk w1 (w.heap.size + 1) 32 #[.slice none 0 0, .slice none 0 0, .slice none 0 0] :=
    Blk.below ((by have := Blk.new (w.alloc (.cells #[.slice A0 S.length c0, .slice A1 Q.length c1, .slice A2 P.length c2] 25)) 32 #[.slice none 0 0, .slice none 0 0, .slice none 0 0]; simpa using this : Blk ((w.alloc (.cells #[.slice A0 S.length c0, .slice A1 Q.length c1, .slice A2 P.length c2] 25)).alloc (.cells #[.slice none 0 0, .slice none 0 0, .slice none 0 0] 32)) (w.heap.size + 1) 32 _).alloc _) hb1 (by simp)
  have K0 : Blk w1 w.heap.size 25 #[.slice A0 S.length c0, .slice A1 Q.length c1, .slice A2 P.length c2] :=
    Blk.below (((Blk.new w 25 _).alloc _).alloc _) hb1 (by simp; omega)
  have hbw : Below w.heap.size w w1 := hb0.trans (hb1.mono (by simp; omega))
  have hx1' : SlL w1 (w.heap.size + 1 + 1 + 1) w1.heap.size (some ⟨g1, 0, none⟩) S := by simpa using hx1
  have a1 := K0.cel 1 rfl
  have a2 := K0.cel 2 rfl
  have n0 := K3.cel 0 rfl
  have x0 : w1.frozen? ⟨w.heap.size + 1 + 1, 0, none⟩ = false := K3.frozen 0
  have hs1' := K3.lt
  clear hb1 hx1 hb0 hg1 hS hS0
  go_wp2_with fail
  obtain ⟨W1, hW1⟩ : ∃ W1, W1 = w1.setCell ⟨w.heap.size + 1 + 1, 0, none⟩ (.slice (some ⟨g1, 0, none⟩) S.length S.length) := ⟨_, rfl⟩
  have KA := (K3.set_ 0 (.slice (some ⟨g1, 0, none⟩) S.length S.length))
  have KB := (K2.far (p := ⟨w.heap.size + 1 + 1, 0, none⟩) (by simp) (.slice (some ⟨g1, 0, none⟩) S.length S.length))
  have KC := (K0.far (p := ⟨w.heap.size + 1 + 1, 0, none⟩) (by simp; omega) (.slice (some ⟨g1, 0, none⟩) S.length S.length))
  have hxW : SlL (w1.setCell ⟨w.heap.size + 1 + 1, 0, none⟩ (.slice (some ⟨g1, 0, none⟩) S.length S.length)) (w.heap.size + 1 + 1 + 1) w1.heap.size (some ⟨g1, 0, none⟩) S :=
    hx1'.keep fun p hp _ => World.cell?_setCell_other _ _ _ _ (fun e => by subst e; simp at hp; omega)
  have hbW := hbw.setCell (p := ⟨w.heap.size + 1 + 1, 0, none⟩) (by simp; omega) (.slice (some ⟨g1, 0, none⟩) S.length S.length)
  have hsz : (w1.setCell ⟨w.heap.size + 1 + 1, 0, none⟩ (.slice (some ⟨g1, 0, none⟩) S.length S.length)).heap.size = w1.heap.size := by simp
  rw [← hW1] at KA KB KC hxW hbW hsz
  rw [← hW1]
  clear hW1 K0 K2 K3 a1 a2 n0 x0 hx1'
  refine (toIntS_c Q A1 c1 L B W1 (by omega) (by omega) (hQ.below (hbW.mono hB))).mono ?_
  rintro e w2 ⟨g2, rfl, hB2, hg2, hs2, hb2⟩
  have KA2 := KA.below hb2 KA.lt
  have KB2 := KB.below hb2 KB.lt
  have KC2 := KC.below hb2 KC.lt
  have hbw2 := hbW.trans (hb2.mono hbW.size)
  have hx2 := (hxW.below (hb2.mono (by omega)))
  have a2 := KC2.cel 2 rfl
  have n1 := KA2.cel 1 rfl
  have x1 : w2.frozen? ⟨w.heap.size + 1 + 1, 1, none⟩ = false := KA2.frozen 1
  have hsz2 := hb2.size
  clear hb2 KA KB KC hbW hxW
  go_wp2_with fail
  obtain ⟨W2, hW2⟩ : ∃ W2, W2 = w2.setCell ⟨w.heap.size + 1 + 1, 1, none⟩ (.slice (some ⟨g2, 0, none⟩) Q.length Q.length) := ⟨_, rfl⟩
  have KA := (KA2.set_ 1 (.slice (some ⟨g2, 0, none⟩) Q.length Q.length))
  have KB := (KB2.far (p := ⟨w.heap.size + 1 + 1, 1, none⟩) (by simp) (.slice (some ⟨g2, 0, none⟩) Q.length Q.length))
  have hBW := (hB2.far (p := ⟨w.heap.size + 1 + 1, 1, none⟩) (by simp; omega) (.slice (some ⟨g2, 0, none⟩) Q.length Q.length))
  have hxW : SlL (w2.setCell ⟨w.heap.size + 1 + 1, 1, none⟩ (.slice (some ⟨g2, 0, none⟩) Q.length Q.length)) (w.heap.size + 1 + 1 + 1) w1.heap.size (some ⟨g1, 0, none⟩) S :=
    hx2.keep fun p hp _ => World.cell?_setCell_other _ _ _ _ (fun e => by subst e; simp at hp; omega)
  have hbW := hbw2.setCell (p := ⟨w.heap.size + 1 + 1, 1, none⟩) (by simp; omega) (.slice (some ⟨g2, 0, none⟩) Q.length Q.length)
  have hszz : (w2.setCell ⟨w.heap.size + 1 + 1, 1, none⟩ (.slice (some ⟨g2, 0, none⟩) Q.length Q.length)).heap.size = w2.heap.size := by simp
  rw [← hW2] at KA KB hBW hxW hbW hszz
  rw [← hW2]
  clear hW2 KA2 KB2 KC2 a2 n1 x1 hx2
  refine (toIntS_c P A2 c2 L B W2 (by omega) (by have := hbW.size; omega) (hP.below (hbW.mono hB))).mono ?_
  rintro e w3 ⟨g3, rfl, hB3, hg3, hs3, hb3⟩
  have KA3 := KA.below hb3 KA.lt
  have KB3 := KB.below hb3 KB.lt
  have hBQ := hBW.below hb3 hBW.lt
  have hbw3 := hbW.trans (hb3.mono hbW.size)
  have hx3 := (hxW.below (hb3.mono (by omega)))
  have n0 := KA3.cel 0 rfl
  have n1 := KA3.cel 1 rfl
  have n2 := KA3.cel 2 rfl
  have m0 := KB3.cel 0 rfl
  have m1 := KB3.cel 1 rfl
  have m2 := KB3.cel 2 rfl
  have x2 : w3.frozen? ⟨w.heap.size + 1 + 1, 2, none⟩ = false := KA3.frozen 2
  have y0 : w3.frozen? ⟨w.heap.size + 1, 0, none⟩ = false := KB3.frozen 0
  have y1 : w3.frozen? ⟨w.heap.size + 1, 1, none⟩ = false := KB3.frozen 1
  have y2 : w3.frozen? ⟨w.heap.size + 1, 2, none⟩ = false := KB3.frozen 2
  have hsz3 := hb3.size
  clear hb3 KA KB hbW hxW hBW KA3 KB3
  go_wp2_with fail
  refine bodyPost_ret (v := .agg #[.slice (some ⟨g1, 0, none⟩) S.length S.length, .slice (some ⟨g2, 0, none⟩) Q.length Q.length, .slice (some ⟨g3, 0, none⟩) P.length P.length]) (by simp [results, Try.results11, go_sem, m0, m1, m2]) rfl
    ⟨g1, g2, g3, rfl, ⟨?_, ?_, ?_⟩, ?_⟩
  · refine (hx3.keep (fun p hp _ => ?_)).more (by omega) (by simp; omega)
    rw [World.cell?_setCell_other _ _ _ _ (fun e => by subst e; simp at hp; omega), World.cell?_setCell_other _ _ _ _ (fun e => by subst e; simp at hp; omega), World.cell?_setCell_other _ _ _ _ (fun e => by subst e; simp at hp; omega), World.cell?_setCell_other _ _ _ _ (fun e => by subst e; simp at hp; omega)]
  · refine IL.of_blk ((((hBQ.far (by simp; omega) _).far (by simp; omega) _).far (by simp; omega) _).far (by simp; omega) _) (by omega) (by simp; omega) (by show Q.length ≤ _; unfold maxLen; omega)
  · refine IL.of_blk ((((hB3.far (by simp; omega) _).far (by simp; omega) _).far (by simp; omega) _).far (by simp; omega) _) (by omega) (by simp; omega) (by show P.length ≤ _; unfold maxLen; omega)
  · exact (((hbw3.setCell (by simp; omega) _).setCell (by simp) _).setCell (by simp) _).setCell (by simp) _
end Go.Proofs.Ytfmlgpnjckamjaa

namespace Go.Proofs.Ytfmlgpnjckamjaa
open Go.RowKit
set_option linter.unusedVariables false

theorem eqVal_c (k n g : Int) (w : World) :
    Calls Try.prog 26 #[.agg #[.int .i64 k, .int .i64 n, .int .i64 g], .agg #[.int .i64 k, .int .i64 n, .int .i64 g]] w fun e w' => e = .returned (.bool true) ∧ Below w.heap.size w w' := by
  go_enter Try.func26, Try.ntmps26
  go_wp2
  go_ret
  exact ⟨rfl, ((Below.refl _ _).alloc (Nat.le_refl _) _).alloc (by simp) _⟩

theorem eqField_c (f : Fd) (v0 v1 v2 v3 u0 u1 u2 u3 : Value) (w : World) (L B L' B' : Nat) (hv : FdV w L B v0 v1 v2 v3 f) (hu : FdV w L' B' u0 u1 u2 u3 f) (hB : B ≤ w.heap.size) (hB' : B' ≤ w.heap.size) (hsz : fdSz f ≤ 1050000) :
    Calls Try.prog 135 #[.agg #[v0, v1, v2, v3], .agg #[u0, u1, u2, u3]] w fun r w' => r = .returned (.bool true) ∧ Below w.heap.size w w' := by
  obtain ⟨A, c, rfl, hR, hm, rfl, rfl, rfl⟩ := hv
  obtain ⟨D, d, rfl, hS, _, rfl, rfl, rfl⟩ := hu
  obtain ⟨l, k, n, gn⟩ := f
  unfold fdSz at hsz
  dsimp only at *
  have hb0 : Below w.heap.size w ((w.alloc (.cells #[.slice A l.length c, .int .i64 k, .int .i64 n, .int .i64 gn] 92)).alloc (.cells #[.slice D l.length d, .int .i64 k, .int .i64 n, .int .i64 gn] 92)) :=
    ((Below.refl _ _).alloc (Nat.le_refl _) _).alloc (by simp) _
  have hR0 := (hR.keep (fun p _ hp => (hb0.mono hB).cell hp)).1
  have hS0 := (hS.keep (fun p _ hp => (hb0.mono hB').cell hp)).1
  go_enter Try.func135, Try.ntmps135
  go_wp2_with fail
  refine (eqByteS_c l A D c d B B' _ (by omega) hR0 hS0).mono ?_
  rintro e w1 ⟨rfl, m, rfl⟩
  go_wp2_with fail
  refine (eqVal_c k n gn _).mono ?_
  rintro e w2 ⟨rfl, hb2⟩
  go_wp2
  go_ret
  exact ⟨rfl, (blw_drewN hb0 m).trans (hb2.mono (blw_drewN hb0 m).size)⟩

set_option maxRecDepth 100000 in
set_option maxHeartbeats 1000000 in
theorem eqFieldS_c (l : List Fd) (A A' : Option Addr) (c c' L B L' B' : Nat) (w : World) (hB : B ≤ w.heap.size) (hB' : B' ≤ w.heap.size) (hl : fsSz l ≤ 1050000) (h : FdL w L B A l) (h' : FdL w L' B' A' l) :
    Calls Try.prog 106 #[.slice A l.length c, .slice A' l.length c'] w fun r w' => r = .returned (.bool true) ∧ Below w.heap.size w w' := by
  have hlen : l.length ≤ 1050000 := by unfold fsSz at hl; omega
  go_enter Try.func106, Try.ntmps106
  go_wp2
  go_loopw [5] (fun i wr => ∃ (k : Nat), k ≤ l.length ∧ i = .int .i64 k ∧ Below w.heap.size w wr) (fun i _ => l.length - (intOf i).toNat)
  case atStart => exact ⟨0, Nat.zero_le _, rfl, Below.refl _ _⟩
  case round =>
    obtain ⟨k, hk, rfl, hbl⟩ := hrel
    by_cases hlt : k < l.length
    · obtain ⟨ad, rfl, _, hb, hat⟩ := (h.below (hbl.mono hB)).2 (by omega)
      obtain ⟨v0, v1, v2, v3, ⟨c0, c1, c2, c3⟩, hv⟩ := hat k hlt
      obtain ⟨ad', rfl, _, hb', hat'⟩ := (h'.below (hbl.mono hB')).2 (by omega)
      obtain ⟨u0, u1, u2, u3, ⟨d0, d1, d2, d3⟩, hu⟩ := hat' k hlt
      have hsz1 : fdSz l[k] ≤ 1050000 := by have := sum_get fdSz hlt; unfold fsSz at hl; omega
      have hc := eqField_c l[k] v0 v1 v2 v3 u0 u1 u2 u3 wr.drew L B L' B' (FdV.keep (w := wr) (w' := wr.drew) hv (fun _ _ _ => rfl)) (FdV.keep (w := wr) (w' := wr.drew) hu (fun _ _ _ => rfl)) (Nat.le_trans hB hbl.size) (Nat.le_trans hB' hbl.size) hsz1
      have Hc := Lib.hid hc
      clear hc hat hat'
      go_wp2
      go_still_tail 8, (by kernel_rfl)
      change wpList _ _ _ _ _ wr.drew
      go_wp2_with fail
      refine Hc.out.mono ?_
      rintro e w1 ⟨rfl, hb1⟩
      go_wp2
      go_roundw
      case rel => exact ⟨k + 1, by omega, by go_num, hbl.drew.trans (hb1.mono hbl.size)⟩
      case measure => simp [intOf]; omega
    · go_wp2
      go_ret
      exact ⟨rfl, hbl⟩

theorem eqSlot_c (f : Sl) (v0 v1 v2 v3 u0 u1 u2 u3 : Value) (w : World) (L B L' B' : Nat) (hv : SlV w L B v0 v1 v2 v3 f) (hu : SlV w L' B' u0 u1 u2 u3 f) (hB : B ≤ w.heap.size) (hB' : B' ≤ w.heap.size) (hsz : slSz f ≤ 1050000) :
    Calls Try.prog 78 #[.agg #[v0, v1, v2, v3], .agg #[u0, u1, u2, u3]] w fun r w' => r = .returned (.bool true) ∧ Below w.heap.size w w' := by
  obtain ⟨rfl, rfl, rfl, A, c, rfl, hx⟩ := hv
  obtain ⟨rfl, rfl, rfl, D, d, rfl, hy⟩ := hu
  obtain ⟨lv, gn, ct, l⟩ := f
  unfold slSz at hsz
  dsimp only at *
  have hb0 : Below w.heap.size w ((w.alloc (.cells #[.bool lv, .int .i64 gn, .int .i64 ct, .slice A l.length c] 90)).alloc (.cells #[.bool lv, .int .i64 gn, .int .i64 ct, .slice D l.length d] 90)) :=
    ((Below.refl _ _).alloc (Nat.le_refl _) _).alloc (by simp) _
  have hx0 := hx.below (hb0.mono hB)
  have hy0 := hy.below (hb0.mono hB')
  go_enter Try.func78, Try.ntmps78
  go_wp2_with fail
  refine (eqFieldS_c l A D c d L B L' B' _ (by simp; omega) (by simp; omega) hsz hx0 hy0).mono ?_
  rintro e w2 ⟨rfl, hb2⟩
  go_wp2
  go_ret
  exact ⟨rfl, hb0.trans (hb2.mono hb0.size)⟩

set_option maxRecDepth 100000 in
set_option maxHeartbeats 1000000 in
theorem eqSlotS_c (l : List Sl) (A A' : Option Addr) (c c' L B L' B' : Nat) (w : World) (hB : B ≤ w.heap.size) (hB' : B' ≤ w.heap.size) (hl : slsSz l ≤ 1050000) (h : SlL w L B A l) (h' : SlL w L' B' A' l) :
    Calls Try.prog 40 #[.slice A l.length c, .slice A' l.length c'] w fun r w' => r = .returned (.bool true) ∧ Below w.heap.size w w' := by
  have hlen : l.length ≤ 1050000 := by unfold slsSz at hl; omega
  go_enter Try.func40, Try.ntmps40
  go_wp2
  go_loopw [5] (fun i wr => ∃ (k : Nat), k ≤ l.length ∧ i = .int .i64 k ∧ Below w.heap.size w wr) (fun i _ => l.length - (intOf i).toNat)
  case atStart => exact ⟨0, Nat.zero_le _, rfl, Below.refl _ _⟩
  case round =>
    obtain ⟨k, hk, rfl, hbl⟩ := hrel
    by_cases hlt : k < l.length
    · obtain ⟨ad, rfl, _, hb, hat⟩ := (h.below (hbl.mono hB)).2 (by omega)
      obtain ⟨v0, v1, v2, v3, ⟨c0, c1, c2, c3⟩, hv⟩ := hat k hlt
      obtain ⟨ad', rfl, _, hb', hat'⟩ := (h'.below (hbl.mono hB')).2 (by omega)
      obtain ⟨u0, u1, u2, u3, ⟨d0, d1, d2, d3⟩, hu⟩ := hat' k hlt
      have hsz1 : slSz l[k] ≤ 1050000 := by have := sum_get slSz hlt; unfold slsSz at hl; omega
      have hc := eqSlot_c l[k] v0 v1 v2 v3 u0 u1 u2 u3 wr.drew L B L' B' (SlV.keep (w := wr) (w' := wr.drew) hv (fun _ _ _ => rfl)) (SlV.keep (w := wr) (w' := wr.drew) hu (fun _ _ _ => rfl)) (Nat.le_trans hB hbl.size) (Nat.le_trans hB' hbl.size) hsz1
      have Hc := Lib.hid hc
      clear hc hat hat'
      go_wp2
      go_still_tail 8, (by kernel_rfl)
      change wpList _ _ _ _ _ wr.drew
      go_wp2_with fail
      refine Hc.out.mono ?_
      rintro e w1 ⟨rfl, hb1⟩
      go_wp2
      go_roundw
      case rel => exact ⟨k + 1, by omega, by go_num, hbl.drew.trans (hb1.mono hbl.size)⟩
      case measure => simp [intOf]; omega
    · go_wp2
      go_ret
      exact ⟨rfl, hbl⟩

set_option maxHeartbeats 400000 in
theorem eqIntS_c (l : List Int) (A A' : Option Addr) (c c' L B L' B' : Nat) (w : World) (h : IL w L B A l) (h' : IL w L' B' A' l) :
    Calls Try.prog 41 #[.slice A l.length c, .slice A' l.length c'] w fun e w' => e = .returned (.bool true) ∧ ∃ n, w' = w.drewN n := by
  have hm := h.1
  unfold maxLen at hm
  go_enter Try.func41, Try.ntmps41
  go_wp2
  go_loopw [5] (fun i wr => ∃ (k : Nat), k ≤ l.length ∧ i = .int .i64 k ∧ ∃ n, wr = w.drewN n) (fun i _ => l.length - (intOf i).toNat)
  case atStart => exact ⟨0, Nat.zero_le _, rfl, 0, rfl⟩
  case round =>
    obtain ⟨k, hk, rfl, n, rfl⟩ := hrel
    by_cases hlt : k < l.length
    · obtain ⟨ad, rfl, _, hb, hcell⟩ := h.2 (by omega)
      obtain ⟨ad', rfl, _, hb', hcell'⟩ := h'.2 (by omega)
      have h1 := hcell k hlt
      have h2 := hcell' k hlt
      clear hcell hcell'
      go_wp2
      go_quiet (fail)
      go_wp2
      go_roundw
      case rel => exact ⟨k + 1, by omega, by go_num, _, rfl⟩
      case measure => simp [intOf]; omega
    · go_wp2
      go_ret
      exact ⟨rfl, _, rfl⟩

set_option maxHeartbeats 1000000 in
theorem eqArena_c (a : Ar) (A0 A1 A2 D0 D1 D2 : Option Addr) (c0 c1 c2 d0 d1 d2 L B L' B' : Nat) (w : World) (hB : B ≤ w.heap.size) (hB' : B' ≤ w.heap.size) (hl : arSz a ≤ 1050000) (h : ArL w L B A0 A1 A2 a) (h' : ArL w L' B' D0 D1 D2 a) :
    Calls Try.prog 14 #[.agg #[.slice A0 a.slots.length c0, .slice A1 a.queue.length c1, .slice A2 a.purple.length c2], .agg #[.slice D0 a.slots.length d0, .slice D1 a.queue.length d1, .slice D2 a.purple.length d2]] w fun e w' => e = .returned (.bool true) ∧ Below w.heap.size w w' := by
  obtain ⟨S, Q, P⟩ := a
  obtain ⟨hS, hQ, hP⟩ := h
  obtain ⟨hS', hQ', hP'⟩ := h'
  unfold arSz at hl
  dsimp only at *
  have hb0 : Below w.heap.size w ((w.alloc (.cells #[.slice A0 S.length c0, .slice A1 Q.length c1, .slice A2 P.length c2] 32)).alloc (.cells #[.slice D0 S.length d0, .slice D1 Q.length d1, .slice D2 P.length d2] 32)) :=
    ((Below.refl _ _).alloc (Nat.le_refl _) _).alloc (by simp) _
  have hS0 := hS.below (hb0.mono hB)
  have hS1 := hS'.below (hb0.mono hB')
  go_enter Try.func14, Try.ntmps14
  go_wp2_with fail
  refine (eqSlotS_c S A0 D0 c0 d0 L B L' B' _ (by simp; omega) (by simp; omega) (by omega) hS0 hS1).mono ?_
  rintro e w2 ⟨rfl, hb2⟩
  have K0 : Blk w2 w.heap.size 32 #[.slice A0 S.length c0, .slice A1 Q.length c1, .slice A2 P.length c2] := ((Blk.new w 32 _).alloc _).below hb2 (by simp; omega)
  have K1 : Blk w2 (w.heap.size + 1) 32 #[.slice D0 S.length d0, .slice D1 Q.length d1, .slice D2 P.length d2] := by
    have := Blk.new (w.alloc (.cells #[.slice A0 S.length c0, .slice A1 Q.length c1, .slice A2 P.length c2] 32)) 32 #[.slice D0 S.length d0, .slice D1 Q.length d1, .slice D2 P.length d2]
    exact Blk.below (by simpa using this) hb2 (by simp)
  have hbw := hb0.trans (hb2.mono hb0.size)
  have a1 := K0.cel 1 rfl
  have a2 := K0.cel 2 rfl
  have b1 := K1.cel 1 rfl
  have b2 := K1.cel 2 rfl
  clear hb2
  go_wp2_with fail
  refine (eqIntS_c Q A1 D1 c1 d1 L B L' B' w2 (hQ.below (hbw.mono hB)) (hQ'.below (hbw.mono hB'))).mono ?_
  rintro e w3 ⟨rfl, m, rfl⟩
  have a2' : (w2.drewN m).cell? ⟨w.heap.size, 2, none⟩ = some (.slice A2 P.length c2) := a2
  have b2' : (w2.drewN m).cell? ⟨w.heap.size + 1, 2, none⟩ = some (.slice D2 P.length d2) := b2
  go_wp2_with fail
  refine (eqIntS_c P A2 D2 c2 d2 L B L' B' (w2.drewN m) (hP.below (blw_drewN (hbw.mono hB) m)) (hP'.below (blw_drewN (hbw.mono hB') m))).mono ?_
  rintro e w3 ⟨rfl, m', rfl⟩
  go_wp2
  go_ret
  exact ⟨rfl, blw_drewN hbw (m + m')⟩
end Go.Proofs.Ytfmlgpnjckamjaa

namespace Go.Proofs.Ytfmlgpnjckamjaa
open Go.RowKit
set_option linter.unusedVariables false

theorem blw1 (w : World) (a : Obj) : Below w.heap.size w (w.alloc a) := (Below.refl _ _).alloc (Nat.le_refl _) _
theorem blw2 (w : World) (a b : Obj) : Below w.heap.size w ((w.alloc a).alloc b) := (blw1 w a).alloc (by simp) _

/-- the slot of a number -/
def slotAt (S : List Sl) (n : Int) : Option Sl := if 0 ≤ n ∧ n < S.length then S[n.toNat]? else none
theorem slotAt_cases (S : List Sl) (n : Int) : (slotAt S n = none ∧ ¬ (0 ≤ n ∧ n < S.length)) ∨ ∃ (m : Nat) (h : m < S.length), n = m ∧ slotAt S n = some S[m] := by
  by_cases h : 0 ≤ n ∧ n < S.length
  · refine .inr ⟨n.toNat, by omega, by omega, ?_⟩
    unfold slotAt
    rw [if_pos h, List.getElem?_eq_getElem (by omega)]
  · exact .inl ⟨by unfold slotAt; rw [if_neg h], h⟩
/-- is a value right? -/
def valOk (S : List Sl) (k n g : Int) : Bool :=
  if k = 0 then n == 0 && g == 0
  else if k = 1 then g == 0
  else if k = 2 then (match slotAt S n with | some s => s.live && s.gen == g | none => false)
  else if k = 3 then (match slotAt S n with | some s => decide (0 ≤ g) && decide (g ≤ s.gen) | none => false)
  else false

set_option maxRecDepth 100000 in
set_option maxHeartbeats 2000000 in
theorem l4val_c (S : List Sl) (A0 : Option Addr) (c0 L B : Nat) (v1 v2 : Value) (k n g : Int) (hv1 : v1.cells = #[v1]) (hv2 : v2.cells = #[v2]) (w : World) (hB : B ≤ w.heap.size) (h : SlL w L B A0 S) :
    Calls Try.prog 44 #[.agg #[.slice A0 S.length c0, v1, v2], .agg #[.int .i64 k, .int .i64 n, .int .i64 g]] w fun e w' => e = .returned (.bool (valOk S k n g)) ∧ Below w.heap.size w w' := by
  have hm := h.1
  unfold maxLen at hm
  by_cases h0 : k = 0
  · subst h0
    by_cases hn : n = 0
    · subst hn
      have e : valOk S 0 0 g = (g == 0) := by simp [valOk]
      rw [e]
      go_enter Try.func44, Try.ntmps44
      go_wp2
      go_ret
      exact ⟨rfl, blw2 _ _ _⟩
    · have e : valOk S 0 n g = false := by simp [valOk, hn]
      rw [e]
      go_enter Try.func44, Try.ntmps44
      go_wp2
      go_ret
      exact ⟨rfl, blw2 _ _ _⟩
  by_cases h1 : k = 1
  · subst h1
    have e : valOk S 1 n g = (g == 0) := by simp [valOk]
    rw [e]
    go_enter Try.func44, Try.ntmps44
    go_wp2
    go_ret
    exact ⟨rfl, blw2 _ _ _⟩
  by_cases h2 : k = 2
  · subst h2
    rcases slotAt_cases S n with ⟨hs, hno⟩ | ⟨m, hlt, rfl, hs⟩
    · have e : valOk S 2 n g = false := by simp [valOk, hs]
      rw [e]
      by_cases hn0 : 0 ≤ n
      · have hn1 : decide (n < (S.length : Int)) = false := decide_eq_false (fun h => hno ⟨hn0, h⟩)
        clear hno hs
        go_enter Try.func44, Try.ntmps44
        go_wp2
        go_quiet (fail)
        go_wp2
        go_ret
        exact ⟨rfl, blw_drewN (blw2 _ _ _) _⟩
      · have hn1 : decide (0 ≤ n) = false := decide_eq_false hn0
        clear hno hs
        go_enter Try.func44, Try.ntmps44
        go_wp2
        go_quiet (fail)
        go_wp2
        go_ret
        exact ⟨rfl, blw_drewN (blw2 _ _ _) _⟩
    · have e : valOk S 2 m g = (S[m].live && S[m].gen == g) := by simp [valOk, hs]
      rw [e]
      have hb0 := blw2 w (.cells #[.slice A0 S.length c0, v1, v2] 32) (.cells #[.int .i64 2, .int .i64 m, .int .i64 g] 43)
      obtain ⟨ad, rfl, _, hb, hat⟩ := (h.below (hb0.mono hB)).2 (by omega)
      obtain ⟨x0, x1, x2, x3, ⟨d0, d1, d2, d3⟩, rfl, rfl, rfl, _⟩ := hat m hlt
      clear hat hs
      cases hlv : S[m].live
      · rw [hlv] at d0
        go_enter Try.func44, Try.ntmps44
        go_wp2
        go_quiet (fail)
        go_wp2
        go_ret
        exact ⟨rfl, blw_drewN (blw2 _ _ _) _⟩
      · rw [hlv] at d0
        go_enter Try.func44, Try.ntmps44
        go_wp2
        go_quiet (fail)
        go_wp2
        go_ret
        exact ⟨rfl, blw_drewN (blw2 _ _ _) _⟩
  by_cases h3 : k = 3
  · subst h3
    rcases slotAt_cases S n with ⟨hs, hno⟩ | ⟨m, hlt, rfl, hs⟩
    · have e : valOk S 3 n g = false := by simp [valOk, hs]
      rw [e]
      by_cases hn0 : 0 ≤ n
      · have hn1 : decide (n < (S.length : Int)) = false := decide_eq_false (fun h => hno ⟨hn0, h⟩)
        clear hno hs
        go_enter Try.func44, Try.ntmps44
        go_wp2
        go_quiet (fail)
        go_wp2
        go_ret
        exact ⟨rfl, blw_drewN (blw2 _ _ _) _⟩
      · have hn1 : decide (0 ≤ n) = false := decide_eq_false hn0
        clear hno hs
        go_enter Try.func44, Try.ntmps44
        go_wp2
        go_quiet (fail)
        go_wp2
        go_ret
        exact ⟨rfl, blw_drewN (blw2 _ _ _) _⟩
    · have e : valOk S 3 m g = (decide (0 ≤ g) && decide (g ≤ S[m].gen)) := by simp [valOk, hs]
      rw [e]
      have hb0 := blw2 w (.cells #[.slice A0 S.length c0, v1, v2] 32) (.cells #[.int .i64 3, .int .i64 m, .int .i64 g] 43)
      obtain ⟨ad, rfl, _, hb, hat⟩ := (h.below (hb0.mono hB)).2 (by omega)
      obtain ⟨x0, x1, x2, x3, ⟨d0, d1, d2, d3⟩, rfl, rfl, rfl, _⟩ := hat m hlt
      clear hat hs
      by_cases hg : 0 ≤ g
      · rw [decide_eq_true hg, Bool.true_and]
        go_enter Try.func44, Try.ntmps44
        go_wp2
        go_quiet (fail)
        go_wp2
        go_ret
        exact ⟨rfl, blw_drewN (blw2 _ _ _) _⟩
      · have hg1 : decide (0 ≤ g) = false := decide_eq_false hg
        rw [hg1, Bool.false_and]
        go_enter Try.func44, Try.ntmps44
        go_wp2
        go_quiet (fail)
        go_wp2
        go_ret
        exact ⟨rfl, blw_drewN (blw2 _ _ _) _⟩
  have e : valOk S k n g = false := by simp [valOk, h0, h1, h2, h3]
  rw [e]
  go_enter Try.func44, Try.ntmps44
  go_wp2
  go_ret
  exact ⟨rfl, blw2 _ _ _⟩

/-- are all of these numbers of slots? -/
def inAll (l : List Int) (n : Int) : Bool := l.all fun x => decide (0 ≤ x ∧ x < n)

theorem all_takeI {p : Int → Bool} {l : List Int} {k : Nat} (h : (l.take k).all p = true) (hk : k < l.length) (hp : p l[k] = true) : (l.take (k + 1)).all p = true := by
  rw [List.take_succ_eq_append_getElem hk, List.all_append, h]; simp [hp]
theorem all_notI {p : Int → Bool} {l : List Int} {k : Nat} (hk : k < l.length) (hp : p l[k] = false) : l.all p = false := by
  rw [List.all_eq_false]
  exact ⟨l[k], List.getElem_mem hk, by simp [hp]⟩

set_option maxHeartbeats 1000000 in
theorem l4list_c (l : List Int) (A : Option Addr) (c L B : Nat) (n : Nat) (w : World) (h : IL w L B A l) :
    Calls Try.prog 67 #[.slice A l.length c, .int .i64 n] w fun e w' => e = .returned (.bool (inAll l n)) ∧ w = w' := by
  have hm := h.1
  unfold maxLen at hm
  go_enter Try.func67, Try.ntmps67
  go_wp2
  go_loopw [5] (fun i wr => ∃ (k : Nat), k ≤ l.length ∧ i = .int .i64 k ∧ (l.take k).all (fun x => decide (0 ≤ x ∧ x < (n : Int))) = true ∧ wr = w) (fun i _ => l.length - (intOf i).toNat)
  case atStart => exact ⟨0, Nat.zero_le _, rfl, by simp, by trivial⟩
  case round =>
    obtain ⟨k, hk, rfl, hall, rfl⟩ := hrel
    have Hall := Lib.hid hall
    clear hall
    by_cases hlt : k < l.length
    · obtain ⟨ad, rfl, _, hb, hat⟩ := h.2 (by omega)
      have hck := hat k hlt
      obtain ⟨x, hx⟩ : ∃ x, x = l[k] := ⟨_, rfl⟩
      have Hx := Lib.hid hx
      rw [← hx] at hck
      clear hat hx
      by_cases h0 : x < 0
      · go_wp2
        go_ret
        refine ⟨?_, rfl⟩
        have hx := Hx.out
        rw [show inAll l n = false from all_notI hlt (decide_eq_false (by omega))]; rfl
      · have h0' : 0 ≤ x := by omega
        clear h0
        by_cases h1 : x < (n : Int)
        · go_wp2
          go_roundw
          case rel =>
            have hx := Hx.out
            exact ⟨k + 1, by omega, by go_num, all_takeI Hall.out hlt (decide_eq_true (by omega)), by trivial⟩
          case measure => simp [intOf]; omega
        · have h1' : (n : Int) ≤ x := by omega
          clear h1
          go_wp2
          go_ret
          refine ⟨?_, rfl⟩
          have hx := Hx.out
          rw [show inAll l n = false from all_notI hlt (decide_eq_false (by omega))]; rfl
    · go_wp2
      go_ret
      refine ⟨?_, rfl⟩
      have : k = l.length := by omega
      subst this
      have h2 := Hall.out
      rw [List.take_length] at h2
      rw [show inAll l n = true from h2]; rfl

theorem hasI_take {l : List Int} {k : Nat} {x : Int} (h : (l.take k).contains x = false) (hk : k < l.length) (hx : l[k] ≠ x) : (l.take (k + 1)).contains x = false := by
  rw [List.contains_eq_any_beq, List.any_eq_false] at h ⊢
  intro y hy
  rw [List.take_succ_eq_append_getElem hk] at hy
  rcases List.mem_append.1 hy with hy | hy
  · exact h y hy
  · simp at hy; subst hy; simpa using fun e => hx e.symm

set_option maxHeartbeats 1000000 in
theorem l4has_c (l : List Int) (A : Option Addr) (c L B : Nat) (n : Nat) (x : Int) (w : World) (hn : n ≤ l.length) (h : IL w L B A l) :
    Calls Try.prog 68 #[.slice A n c, .int .i64 x] w fun e w' => e = .returned (.bool ((l.take n).contains x)) ∧ w = w' := by
  have hm := h.1
  unfold maxLen at hm
  go_enter Try.func68, Try.ntmps68
  go_wp2
  go_loopw [5] (fun i wr => ∃ (k : Nat), k ≤ n ∧ i = .int .i64 k ∧ (l.take k).contains x = false ∧ wr = w) (fun i _ => n - (intOf i).toNat)
  case atStart => exact ⟨0, Nat.zero_le _, rfl, by simp, by trivial⟩
  case round =>
    obtain ⟨k, hk, rfl, hall, rfl⟩ := hrel
    have Hall := Lib.hid hall
    clear hall
    by_cases hlt : k < n
    · obtain ⟨ad, rfl, _, hb, hat⟩ := h.2 (by omega)
      have hck := hat k (by omega)
      obtain ⟨y, hy⟩ : ∃ y, y = l[k]'(by omega) := ⟨_, rfl⟩
      have Hy := Lib.hid hy
      rw [← hy] at hck
      clear hat hy
      by_cases h0 : y = x
      · subst h0
        go_wp2
        go_ret
        refine ⟨?_, rfl⟩
        have hy := Hy.out
        have : (l.take n).contains y = true := by
          rw [List.contains_iff_mem, hy, List.mem_take_iff_getElem]
          exact ⟨k, by omega, rfl⟩
        rw [this]; rfl
      · have h0' : (y == x) = false := by simpa using h0
        go_wp2
        go_roundw
        case rel =>
          have hy := Hy.out
          exact ⟨k + 1, by omega, by go_num, hasI_take Hall.out (by omega) (by rw [← hy]; exact h0), by trivial⟩
        case measure => simp [intOf]; omega
    · go_wp2
      go_ret
      refine ⟨?_, rfl⟩
      have : k = n := by omega
      subst this
      rw [Hall.out]; rfl
end Go.Proofs.Ytfmlgpnjckamjaa
