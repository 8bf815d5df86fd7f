/-
  The model's check of expressions: each kind.
-/
import Derived.Test.YtmejbmfopdfbjaaSpecEx
import Derived.BigQuiet
import Derived.Deep.QuietTactic
namespace Go.Proofs.Ytmejbmfopdfbjaa
open Go.RowKit
set_option linter.unusedVariables false

theorem l2argsQ (k v : Int) (hv : argsOf k = v) (h0 : 0 ≤ k) (h8 : k ≤ 8) (w : World) :
    Calls Try.prog 107 #[.int .i64 k] w fun e w' => e = .returned (.int .i64 v) ∧ w' = w := by
  subst hv
  exact (l2args_c k h0 h8 w).mono fun _ _ hh => ⟨hh.1, hh.2.symm⟩
theorem Past.drewN {g : Nat} {a w : World} (h : Past g a w) (n : Nat) : Past g a (w.drewN n) := ⟨h.os, h.tape, h.output, h.size, h.block⟩
theorem sp_no {yes : Bool} {n g : Nat} {left u : Int} {w w' : World} (hP : Past g w w') (hK : Blk w' g 62 #[.int .i64 u]) (hno : ¬ (yes = true ∧ (n : Int) ≤ left)) : SpP yes n g left w (.returned (.bool false)) w' :=
  ⟨false, rfl, hP, u, hK, ⟨fun hh => Bool.noConfusion hh, fun hh => absurd hh hno⟩, fun hh => Bool.noConfusion hh⟩
theorem not_ok {k n : Int} {name : List UInt8} {args : List Ex} (h : exOk1 k n name args.length = false) (d m : Nat) (left : Int) : ¬ (exGood (.mk k n name args) d = true ∧ (m : Int) ≤ left) := fun hh => by
  have hG := hh.1
  rw [exGood_mk, h] at hG
  simp at hG
theorem sp_yes {k n : Int} {name : List UInt8} {args : List Ex} {d g : Nat} {left u : Int} {w w' : World} (hP : Past g w w') (hK : Blk w' g 62 #[.int .i64 u]) (hok : exOk1 k n name args.length = true) (hd : d ≤ 7) (hg : exsGood args (d + 1) = true) (hu : u = left - 1 - exsN args) (h0 : 0 ≤ u) :
    SpP (exGood (.mk k n name args) d) (exN (.mk k n name args)) g left w (.returned (.bool true)) w' :=
  ⟨true, rfl, hP, u, hK, ⟨fun _ => ⟨by rw [exGood_mk, hok, hg]; simp [hd], by rw [exN_mk]; omega⟩, fun _ => rfl⟩, fun _ => by rw [exN_mk]; omega⟩
theorem sp_not {k n : Int} {name : List UInt8} {args : List Ex} {d j : Nat} {left a : Int} (hj : j < args.length) (ha : a = left - 1 - exsN (args.take j)) (hno : ¬ (exGood args[j] (d + 1) = true ∧ (exN args[j] : Int) ≤ a)) :
    ¬ (exGood (.mk k n name args) d = true ∧ (exN (.mk k n name args) : Int) ≤ left) := fun hh => by
  obtain ⟨hG, hN⟩ := hh
  rw [exGood_mk] at hG
  rw [exN_mk] at hN
  simp only [Bool.and_eq_true] at hG
  have := exsN_get hj
  exact hno ⟨exsGood_get hj hG.2, by omega⟩

set_option maxRecDepth 100000 in
set_option maxHeartbeats 8000000 in
theorem l2ex_0 (n : Int) (name : List UInt8) (args : List Ex) (ih : ∀ e ∈ args, SpEx e) (v0 v1 v2 v3 : Value) (L B g d : Nat) (left : Int) (w : World) (h : ExV w L B v0 v1 v2 v3 (.mk 0 n name args)) (hB : B ≤ w.heap.size) (hg : B ≤ g) (hsz : exSz (.mk 0 n name args) ≤ 1048576)
    (hK : Blk w g 62 #[.int .i64 left]) (h0 : 1 ≤ left) (h1 : left ≤ 90) (hd : d ≤ 7) :
    Calls Try.prog 83 #[.agg #[v0, v1, v2, v3], .int .i64 (d : Int), .pointer (some ⟨g, 0, none⟩)] w (SpP (exGood (.mk 0 n name args) d) (exN (.mk 0 n name args)) g left w) := by
  obtain ⟨A, c, A', c', rfl, rfl, rfl, rfl, hR, hm, hx⟩ := h.open_
  rw [exSz_mk] at hsz
  have hne : w.heap.size ≠ g := by have := hK.lt; omega
  have c0 : ∀ o, (w.alloc o).cell? ⟨g, 0, none⟩ = some (.int .i64 left) := fun o => (hK.alloc o).cell_of 0 rfl
  have f0 : ∀ o, (w.alloc o).frozen? ⟨g, 0, none⟩ = false := fun o => (hK.alloc o).frozen 0
  have hl' : 0 ≤ left - 1 := by omega
  have h7' : (d : Int) ≤ 7 := by omega
  have hPs : ∀ o u, Past g w ((w.alloc o).setCell ⟨g, 0, none⟩ u) := fun o u => ((Past.refl g w).alloc _).set_ (.inl rfl) _
  have hKs : ∀ o u, Blk ((w.alloc o).setCell ⟨g, 0, none⟩ (.int .i64 u)) g 62 #[.int .i64 u] := fun o u => (hK.alloc o).set_ 0 (.int .i64 u)
  have hKB : ∀ (u0 u1 u2 u3 uu : Value), Blk ((w.alloc (.cells #[u0, u1, u2, u3] 73)).setCell ⟨g, 0, none⟩ uu) w.heap.size 73 #[u0, u1, u2, u3] := fun u0 u1 u2 u3 uu => (Blk.new w 73 #[u0, u1, u2, u3]).far (p := ⟨g, 0, none⟩) hne uu
  have Hx := Lib.hid hx
  have Ih := Lib.hid ih
  have Hsz := Lib.hid hsz
  have HK := Lib.hid hK
  clear hx ih hR h hsz hK
  by_cases c1 : 0 < (name.length : Int)
  · have c1n : ¬ name = [] := fun e => by subst e; simp at c1
    have hno := not_ok (k := 0) (n := n) (name := name) (args := args) (by simp [exOk1, c1n]) d (exN (.mk 0 n name args)) left
    have Hno := Lib.hid hno
    clear hno
    go_enter Try.func83, Try.ntmps83
    go_wp2
    go_ret
    exact sp_no (hPs _ _) (hKs _ _) Hno.out
  obtain rfl : name = [] := List.eq_nil_of_length_eq_zero (by omega)
  clear c1
  by_cases c4 : ¬ n = 0
  · have hno := not_ok (k := 0) (n := n) (name := []) (args := args) (by simp [exOk1, c4]) d (exN (.mk 0 n [] args)) left
    have Hno := Lib.hid hno
    clear hno
    go_enter Try.func83, Try.ntmps83
    go_wp2
    go_ret
    exact sp_no (hPs _ _) (hKs _ _) Hno.out
  obtain rfl : n = 0 := by omega
  clear c4
  by_cases c6 : ¬ (args.length : Int) = 0
  · have c6n : ¬ args = [] := fun e => by subst e; simp at c6
    have hno := not_ok (k := 0) (n := 0) (name := []) (args := args) (by simp [exOk1, c6n]) d (exN (.mk 0 0 [] args)) left
    have Hno := Lib.hid hno
    clear hno
    go_enter Try.func83, Try.ntmps83
    go_wp2_with fail
    go_quiet ((go_at_call 107; refine Calls.quiet_of_same (l2argsQ 0 0 rfl (by omega) (by omega) _)))
    go_wp2
    go_ret
    exact sp_no ((hPs _ _).drewN _) ((hKs _ _).drewN _) Hno.out
  have c6' : (args.length : Int) = 0 := by omega
  clear c6
  obtain rfl : args = [] := List.eq_nil_of_length_eq_zero (by omega)
  have hok : exOk1 0 0 [] ([] : List Ex).length = true := by simp [exOk1]
  have Hok := Lib.hid hok
  clear hok c6'
  go_enter Try.func83, Try.ntmps83
  go_wp2_with fail
  go_quiet ((go_at_call 107; refine Calls.quiet_of_same (l2argsQ 0 0 rfl (by omega) (by omega) _)))
  go_wp2
  go_loopw [8] (fun i wr => i = .int .i64 0 ∧ ∃ m, wr = World.drewN (((w.alloc (.cells #[.int .i64 0, .int .i64 0, .slice A ([] : List UInt8).length c, .slice A' ([] : List Ex).length c'] 73)).setCell ⟨g, 0, none⟩ (.int .i64 (left - 1)))) m) (fun i _ => 0)
  case atStart => exact ⟨rfl, _, rfl⟩
  case round =>
    obtain ⟨rfl, m, rfl⟩ := hrel
    have b3 := (Blk.drewN (hKB (.int .i64 0) (.int .i64 0) (.slice A ([] : List UInt8).length c) (.slice A' ([] : List Ex).length c') (.int .i64 (left - 1))) m).cell_of 3 rfl
    go_wp2
    go_ret
    exact sp_yes ((hPs _ _).drewN m) ((hKs _ _).drewN m) Hok.out hd (by simp [exsGood]) (by simp [exsN]) hl'

set_option maxRecDepth 100000 in
set_option maxHeartbeats 8000000 in
theorem l2ex_1 (n : Int) (name : List UInt8) (args : List Ex) (ih : ∀ e ∈ args, SpEx e) (v0 v1 v2 v3 : Value) (L B g d : Nat) (left : Int) (w : World) (h : ExV w L B v0 v1 v2 v3 (.mk 1 n name args)) (hB : B ≤ w.heap.size) (hg : B ≤ g) (hsz : exSz (.mk 1 n name args) ≤ 1048576)
    (hK : Blk w g 62 #[.int .i64 left]) (h0 : 1 ≤ left) (h1 : left ≤ 90) (hd : d ≤ 7) :
    Calls Try.prog 83 #[.agg #[v0, v1, v2, v3], .int .i64 (d : Int), .pointer (some ⟨g, 0, none⟩)] w (SpP (exGood (.mk 1 n name args) d) (exN (.mk 1 n name args)) g left w) := by
  obtain ⟨A, c, A', c', rfl, rfl, rfl, rfl, hR, hm, hx⟩ := h.open_
  rw [exSz_mk] at hsz
  have hne : w.heap.size ≠ g := by have := hK.lt; omega
  have c0 : ∀ o, (w.alloc o).cell? ⟨g, 0, none⟩ = some (.int .i64 left) := fun o => (hK.alloc o).cell_of 0 rfl
  have f0 : ∀ o, (w.alloc o).frozen? ⟨g, 0, none⟩ = false := fun o => (hK.alloc o).frozen 0
  have hl' : 0 ≤ left - 1 := by omega
  have h7' : (d : Int) ≤ 7 := by omega
  have hPs : ∀ o u, Past g w ((w.alloc o).setCell ⟨g, 0, none⟩ u) := fun o u => ((Past.refl g w).alloc _).set_ (.inl rfl) _
  have hKs : ∀ o u, Blk ((w.alloc o).setCell ⟨g, 0, none⟩ (.int .i64 u)) g 62 #[.int .i64 u] := fun o u => (hK.alloc o).set_ 0 (.int .i64 u)
  have hKB : ∀ (u0 u1 u2 u3 uu : Value), Blk ((w.alloc (.cells #[u0, u1, u2, u3] 73)).setCell ⟨g, 0, none⟩ uu) w.heap.size 73 #[u0, u1, u2, u3] := fun u0 u1 u2 u3 uu => (Blk.new w 73 #[u0, u1, u2, u3]).far (p := ⟨g, 0, none⟩) hne uu
  have Hx := Lib.hid hx
  have Ih := Lib.hid ih
  have Hsz := Lib.hid hsz
  have HK := Lib.hid hK
  clear hx ih hR h hsz hK
  by_cases c1 : 0 < (name.length : Int)
  · have c1n : ¬ name = [] := fun e => by subst e; simp at c1
    have hno := not_ok (k := 1) (n := n) (name := name) (args := args) (by simp [exOk1, c1n]) d (exN (.mk 1 n name args)) left
    have Hno := Lib.hid hno
    clear hno
    go_enter Try.func83, Try.ntmps83
    go_wp2
    go_ret
    exact sp_no (hPs _ _) (hKs _ _) Hno.out
  obtain rfl : name = [] := List.eq_nil_of_length_eq_zero (by omega)
  clear c1
  by_cases c4 : n < 0
  · have hno := not_ok (k := 1) (n := n) (name := []) (args := args) (by simp [exOk1]; omega) d (exN (.mk 1 n [] args)) left
    have Hno := Lib.hid hno
    clear hno
    go_enter Try.func83, Try.ntmps83
    go_wp2
    go_ret
    exact sp_no (hPs _ _) (hKs _ _) Hno.out
  have c4' : 0 ≤ n := by omega
  clear c4
  by_cases c5 : 999999 < n
  · have hno := not_ok (k := 1) (n := n) (name := []) (args := args) (by simp [exOk1]; omega) d (exN (.mk 1 n [] args)) left
    have Hno := Lib.hid hno
    clear hno
    go_enter Try.func83, Try.ntmps83
    go_wp2
    go_ret
    exact sp_no (hPs _ _) (hKs _ _) Hno.out
  have c5' : n ≤ 999999 := by omega
  clear c5
  by_cases c6 : ¬ (args.length : Int) = 0
  · have c6n : ¬ args = [] := fun e => by subst e; simp at c6
    have hno := not_ok (k := 1) (n := n) (name := []) (args := args) (by simp [exOk1, c6n]) d (exN (.mk 1 n [] args)) left
    have Hno := Lib.hid hno
    clear hno
    go_enter Try.func83, Try.ntmps83
    go_wp2_with fail
    go_quiet ((go_at_call 107; refine Calls.quiet_of_same (l2argsQ 1 0 rfl (by omega) (by omega) _)))
    go_wp2
    go_ret
    exact sp_no ((hPs _ _).drewN _) ((hKs _ _).drewN _) Hno.out
  have c6' : (args.length : Int) = 0 := by omega
  clear c6
  obtain rfl : args = [] := List.eq_nil_of_length_eq_zero (by omega)
  have hok : exOk1 1 n [] ([] : List Ex).length = true := by simp [exOk1]; omega
  have Hok := Lib.hid hok
  clear hok c6'
  go_enter Try.func83, Try.ntmps83
  go_wp2_with fail
  go_quiet ((go_at_call 107; refine Calls.quiet_of_same (l2argsQ 1 0 rfl (by omega) (by omega) _)))
  go_wp2
  go_loopw [8] (fun i wr => i = .int .i64 0 ∧ ∃ m, wr = World.drewN (((w.alloc (.cells #[.int .i64 1, .int .i64 n, .slice A ([] : List UInt8).length c, .slice A' ([] : List Ex).length c'] 73)).setCell ⟨g, 0, none⟩ (.int .i64 (left - 1)))) m) (fun i _ => 0)
  case atStart => exact ⟨rfl, _, rfl⟩
  case round =>
    obtain ⟨rfl, m, rfl⟩ := hrel
    have b3 := (Blk.drewN (hKB (.int .i64 1) (.int .i64 n) (.slice A ([] : List UInt8).length c) (.slice A' ([] : List Ex).length c') (.int .i64 (left - 1))) m).cell_of 3 rfl
    go_wp2
    go_ret
    exact sp_yes ((hPs _ _).drewN m) ((hKs _ _).drewN m) Hok.out hd (by simp [exsGood]) (by simp [exsN]) hl'

set_option maxRecDepth 100000 in
set_option maxHeartbeats 8000000 in
theorem l2ex_2 (n : Int) (name : List UInt8) (args : List Ex) (ih : ∀ e ∈ args, SpEx e) (v0 v1 v2 v3 : Value) (L B g d : Nat) (left : Int) (w : World) (h : ExV w L B v0 v1 v2 v3 (.mk 2 n name args)) (hB : B ≤ w.heap.size) (hg : B ≤ g) (hsz : exSz (.mk 2 n name args) ≤ 1048576)
    (hK : Blk w g 62 #[.int .i64 left]) (h0 : 1 ≤ left) (h1 : left ≤ 90) (hd : d ≤ 7) :
    Calls Try.prog 83 #[.agg #[v0, v1, v2, v3], .int .i64 (d : Int), .pointer (some ⟨g, 0, none⟩)] w (SpP (exGood (.mk 2 n name args) d) (exN (.mk 2 n name args)) g left w) := by
  obtain ⟨A, c, A', c', rfl, rfl, rfl, rfl, hR, hm, hx⟩ := h.open_
  rw [exSz_mk] at hsz
  have hne : w.heap.size ≠ g := by have := hK.lt; omega
  have c0 : ∀ o, (w.alloc o).cell? ⟨g, 0, none⟩ = some (.int .i64 left) := fun o => (hK.alloc o).cell_of 0 rfl
  have f0 : ∀ o, (w.alloc o).frozen? ⟨g, 0, none⟩ = false := fun o => (hK.alloc o).frozen 0
  have hl' : 0 ≤ left - 1 := by omega
  have h7' : (d : Int) ≤ 7 := by omega
  have hPs : ∀ o u, Past g w ((w.alloc o).setCell ⟨g, 0, none⟩ u) := fun o u => ((Past.refl g w).alloc _).set_ (.inl rfl) _
  have hKs : ∀ o u, Blk ((w.alloc o).setCell ⟨g, 0, none⟩ (.int .i64 u)) g 62 #[.int .i64 u] := fun o u => (hK.alloc o).set_ 0 (.int .i64 u)
  have hKB : ∀ (u0 u1 u2 u3 uu : Value), Blk ((w.alloc (.cells #[u0, u1, u2, u3] 73)).setCell ⟨g, 0, none⟩ uu) w.heap.size 73 #[u0, u1, u2, u3] := fun u0 u1 u2 u3 uu => (Blk.new w 73 #[u0, u1, u2, u3]).far (p := ⟨g, 0, none⟩) hne uu
  have hw := fun o u => specWordOk_c name A c B ((w.alloc o).setCell ⟨g, 0, none⟩ u) (by omega) (hR.1.below ((hPs o u).below hg hB))
  have hk := fun (u0 u1 u2 u3 : Value) (uu : Int) => (specKept_c name A c B ((w.alloc (.cells #[u0, u1, u2, u3] 73)).setCell ⟨g, 0, none⟩ (.int .i64 uu)) (hR.1.below ((hPs _ _).below hg hB))).mono
    (R' := fun r w' => r = .returned (.bool (kept name)) ∧ Past g w w' ∧ Blk w' g 62 #[.int .i64 uu] ∧ Blk w' w.heap.size 73 #[u0, u1, u2, u3] ∧ w'.cell? ⟨w.heap.size, 0, none⟩ = some u0 ∧ w'.cell? ⟨w.heap.size, 1, none⟩ = some u1 ∧ w'.cell? ⟨w.heap.size, 2, none⟩ = some u2 ∧ w'.cell? ⟨w.heap.size, 3, none⟩ = some u3)
    (fun r w' hh => by
      have KB := (hKB u0 u1 u2 u3 (.int .i64 uu)).below hh.2 (by simp)
      exact ⟨hh.1, (hPs _ _).trans (Past.of hh.2 g), (hKs _ _).below hh.2 (by have := hK.lt; simp; omega), KB, KB.cell_of 0 rfl, KB.cell_of 1 rfl, KB.cell_of 2 rfl, KB.cell_of 3 rfl⟩)
  have Hx := Lib.hid hx
  have Ih := Lib.hid ih
  have Hsz := Lib.hid hsz
  have HK := Lib.hid hK
  clear hx ih hR h hsz hK
  by_cases c1 : name.length = 0
  · obtain rfl : name = [] := List.eq_nil_of_length_eq_zero c1
    clear hw hk c1
    have hno := not_ok (k := 2) (n := n) (name := []) (args := args) (by simp [exOk1, nameOk, wordOk]) d (exN (.mk 2 n [] args)) left
    have Hno := Lib.hid hno
    clear hno
    go_enter Try.func83, Try.ntmps83
    go_wp2
    go_ret
    exact sp_no (hPs _ _) (hKs _ _) Hno.out
  have c1' : 0 < (name.length : Int) := by omega
  clear c1
  by_cases c2 : wordOk name = false
  · rw [c2] at hw
    have Hw := Lib.hid hw
    have hno := not_ok (k := 2) (n := n) (name := name) (args := args) (by simp [exOk1, nameOk, c2]) d (exN (.mk 2 n name args)) left
    clear hw hk c2
    have Hno := Lib.hid hno
    clear hno
    go_enter Try.func83, Try.ntmps83
    go_wp2_with fail
    refine (Hw.out _ _).mono ?_
    rintro r w' ⟨rfl, rfl⟩
    go_wp2
    go_ret
    exact sp_no (hPs _ _) (hKs _ _) Hno.out
  have c2' : wordOk name = true := by simpa using c2
  rw [c2'] at hw
  have Hw := Lib.hid hw
  clear hw c2
  by_cases c3 : kept name = true
  · rw [c3] at hk
    have Hk := Lib.hid hk
    have hno := not_ok (k := 2) (n := n) (name := name) (args := args) (by simp [exOk1, nameOk, c3]) d (exN (.mk 2 n name args)) left
    clear hk c3 c2'
    have Hno := Lib.hid hno
    clear hno
    go_enter Try.func83, Try.ntmps83
    go_wp2_with fail
    refine (Hw.out _ _).mono ?_
    rintro r w' ⟨rfl, rfl⟩
    go_wp2_with fail
    refine (Hk.out _ _ _ _ _).mono ?_
    rintro r w2 ⟨rfl, hP2, hK2, KB, q0, q1, q2, q3⟩
    go_wp2
    go_ret
    exact sp_no (hP2) (hK2) Hno.out
  have c3' : kept name = false := by simpa using c3
  rw [c3'] at hk
  have Hk := Lib.hid hk
  have hnm : nameOk name = true := by unfold nameOk; rw [c2', c3']; rfl
  have Hnm := Lib.hid hnm
  clear hk c3 c2' c3' hnm
  by_cases c4 : ¬ n = 0
  · have hno := not_ok (k := 2) (n := n) (name := name) (args := args) (by simp [exOk1, c4]) d (exN (.mk 2 n name args)) left
    have Hno := Lib.hid hno
    clear hno
    go_enter Try.func83, Try.ntmps83
    go_wp2_with fail
    refine (Hw.out _ _).mono ?_
    rintro r w' ⟨rfl, rfl⟩
    go_wp2_with fail
    refine (Hk.out _ _ _ _ _).mono ?_
    rintro r w2 ⟨rfl, hP2, hK2, KB, q0, q1, q2, q3⟩
    go_wp2
    go_ret
    exact sp_no (hP2) (hK2) Hno.out
  obtain rfl : n = 0 := by omega
  clear c4
  by_cases c6 : ¬ (args.length : Int) = 0
  · have c6n : ¬ args = [] := fun e => by subst e; simp at c6
    have hno := not_ok (k := 2) (n := 0) (name := name) (args := args) (by simp [exOk1, c6n]) d (exN (.mk 2 0 name args)) left
    have Hno := Lib.hid hno
    clear hno
    go_enter Try.func83, Try.ntmps83
    go_wp2_with fail
    refine (Hw.out _ _).mono ?_
    rintro r w' ⟨rfl, rfl⟩
    go_wp2_with fail
    refine (Hk.out _ _ _ _ _).mono ?_
    rintro r w2 ⟨rfl, hP2, hK2, KB, q0, q1, q2, q3⟩
    go_wp2_with fail
    go_quiet ((go_at_call 107; refine Calls.quiet_of_same (l2argsQ 2 0 rfl (by omega) (by omega) _)))
    go_wp2
    go_ret
    exact sp_no ((hP2).drewN _) ((hK2).drewN _) Hno.out
  have c6' : (args.length : Int) = 0 := by omega
  clear c6
  obtain rfl : args = [] := List.eq_nil_of_length_eq_zero (by omega)
  have hok : exOk1 2 0 name ([] : List Ex).length = true := by simp [exOk1, Hnm.out]
  have Hok := Lib.hid hok
  clear hok c6'
  go_enter Try.func83, Try.ntmps83
  go_wp2_with fail
  refine (Hw.out _ _).mono ?_
  rintro r w' ⟨rfl, rfl⟩
  go_wp2_with fail
  refine (Hk.out _ _ _ _ _).mono ?_
  rintro r w2 ⟨rfl, hP2, hK2, KB, q0, q1, q2, q3⟩
  go_wp2_with fail
  go_quiet ((go_at_call 107; refine Calls.quiet_of_same (l2argsQ 2 0 rfl (by omega) (by omega) _)))
  go_wp2
  go_loopw [8] (fun i wr => i = .int .i64 0 ∧ ∃ m, wr = World.drewN (w2) m) (fun i _ => 0)
  case atStart => exact ⟨rfl, _, rfl⟩
  case round =>
    obtain ⟨rfl, m, rfl⟩ := hrel
    have b3 := (Blk.drewN (KB) m).cell_of 3 rfl
    go_wp2
    go_ret
    exact sp_yes ((hP2).drewN m) ((hK2).drewN m) Hok.out hd (by simp [exsGood]) (by simp [exsN]) hl'

set_option maxRecDepth 100000 in
set_option maxHeartbeats 8000000 in
theorem l2ex_3 (n : Int) (name : List UInt8) (args : List Ex) (ih : ∀ e ∈ args, SpEx e) (v0 v1 v2 v3 : Value) (L B g d : Nat) (left : Int) (w : World) (h : ExV w L B v0 v1 v2 v3 (.mk 3 n name args)) (hB : B ≤ w.heap.size) (hg : B ≤ g) (hsz : exSz (.mk 3 n name args) ≤ 1048576)
    (hK : Blk w g 62 #[.int .i64 left]) (h0 : 1 ≤ left) (h1 : left ≤ 90) (hd : d ≤ 7) :
    Calls Try.prog 83 #[.agg #[v0, v1, v2, v3], .int .i64 (d : Int), .pointer (some ⟨g, 0, none⟩)] w (SpP (exGood (.mk 3 n name args) d) (exN (.mk 3 n name args)) g left w) := by
  obtain ⟨A, c, A', c', rfl, rfl, rfl, rfl, hR, hm, hx⟩ := h.open_
  rw [exSz_mk] at hsz
  have hne : w.heap.size ≠ g := by have := hK.lt; omega
  have c0 : ∀ o, (w.alloc o).cell? ⟨g, 0, none⟩ = some (.int .i64 left) := fun o => (hK.alloc o).cell_of 0 rfl
  have f0 : ∀ o, (w.alloc o).frozen? ⟨g, 0, none⟩ = false := fun o => (hK.alloc o).frozen 0
  have hl' : 0 ≤ left - 1 := by omega
  have h7' : (d : Int) ≤ 7 := by omega
  have hPs : ∀ o u, Past g w ((w.alloc o).setCell ⟨g, 0, none⟩ u) := fun o u => ((Past.refl g w).alloc _).set_ (.inl rfl) _
  have hKs : ∀ o u, Blk ((w.alloc o).setCell ⟨g, 0, none⟩ (.int .i64 u)) g 62 #[.int .i64 u] := fun o u => (hK.alloc o).set_ 0 (.int .i64 u)
  have hKB : ∀ (u0 u1 u2 u3 uu : Value), Blk ((w.alloc (.cells #[u0, u1, u2, u3] 73)).setCell ⟨g, 0, none⟩ uu) w.heap.size 73 #[u0, u1, u2, u3] := fun u0 u1 u2 u3 uu => (Blk.new w 73 #[u0, u1, u2, u3]).far (p := ⟨g, 0, none⟩) hne uu
  have Hx := Lib.hid hx
  have Ih := Lib.hid ih
  have Hsz := Lib.hid hsz
  have HK := Lib.hid hK
  clear hx ih hR h hsz hK
  by_cases c1 : 0 < (name.length : Int)
  · have c1n : ¬ name = [] := fun e => by subst e; simp at c1
    have hno := not_ok (k := 3) (n := n) (name := name) (args := args) (by simp [exOk1, c1n]) d (exN (.mk 3 n name args)) left
    have Hno := Lib.hid hno
    clear hno
    go_enter Try.func83, Try.ntmps83
    go_wp2
    go_ret
    exact sp_no (hPs _ _) (hKs _ _) Hno.out
  obtain rfl : name = [] := List.eq_nil_of_length_eq_zero (by omega)
  clear c1
  by_cases c4 : ¬ n = 0
  · have hno := not_ok (k := 3) (n := n) (name := []) (args := args) (by simp [exOk1, c4]) d (exN (.mk 3 n [] args)) left
    have Hno := Lib.hid hno
    clear hno
    go_enter Try.func83, Try.ntmps83
    go_wp2
    go_ret
    exact sp_no (hPs _ _) (hKs _ _) Hno.out
  obtain rfl : n = 0 := by omega
  clear c4
  by_cases c6 : ¬ (args.length : Int) = 0
  · have c6n : ¬ args = [] := fun e => by subst e; simp at c6
    have hno := not_ok (k := 3) (n := 0) (name := []) (args := args) (by simp [exOk1, c6n]) d (exN (.mk 3 0 [] args)) left
    have Hno := Lib.hid hno
    clear hno
    go_enter Try.func83, Try.ntmps83
    go_wp2_with fail
    go_quiet ((go_at_call 107; refine Calls.quiet_of_same (l2argsQ 3 0 rfl (by omega) (by omega) _)))
    go_wp2
    go_ret
    exact sp_no ((hPs _ _).drewN _) ((hKs _ _).drewN _) Hno.out
  have c6' : (args.length : Int) = 0 := by omega
  clear c6
  obtain rfl : args = [] := List.eq_nil_of_length_eq_zero (by omega)
  have hok : exOk1 3 0 [] ([] : List Ex).length = true := by simp [exOk1]
  have Hok := Lib.hid hok
  clear hok c6'
  go_enter Try.func83, Try.ntmps83
  go_wp2_with fail
  go_quiet ((go_at_call 107; refine Calls.quiet_of_same (l2argsQ 3 0 rfl (by omega) (by omega) _)))
  go_wp2
  go_loopw [8] (fun i wr => i = .int .i64 0 ∧ ∃ m, wr = World.drewN (((w.alloc (.cells #[.int .i64 3, .int .i64 0, .slice A ([] : List UInt8).length c, .slice A' ([] : List Ex).length c'] 73)).setCell ⟨g, 0, none⟩ (.int .i64 (left - 1)))) m) (fun i _ => 0)
  case atStart => exact ⟨rfl, _, rfl⟩
  case round =>
    obtain ⟨rfl, m, rfl⟩ := hrel
    have b3 := (Blk.drewN (hKB (.int .i64 3) (.int .i64 0) (.slice A ([] : List UInt8).length c) (.slice A' ([] : List Ex).length c') (.int .i64 (left - 1))) m).cell_of 3 rfl
    go_wp2
    go_ret
    exact sp_yes ((hPs _ _).drewN m) ((hKs _ _).drewN m) Hok.out hd (by simp [exsGood]) (by simp [exsN]) hl'

end Go.Proofs.Ytmejbmfopdfbjaa
