/-
  The model's check of expressions: each kind, a further part.
-/
import Derived.Test.YtmejbmfopdfbjaaSpecExK1
import Derived.BigQuiet
import Derived.Deep.QuietTactic
namespace Go.Proofs.Ytmejbmfopdfbjaa
open Go.RowKit
set_option linter.unusedVariables false

set_option maxRecDepth 100000 in
set_option maxHeartbeats 8000000 in
theorem l2ex_4 (n : Int) (name : List UInt8) (args : List Ex) (ih : ∀ e ∈ args, SpEx e) (v0 v1 v2 v3 : Value) (L B g d : Nat) (left : Int) (w : World) (h : ExV w L B v0 v1 v2 v3 (.mk 4 n name args)) (hB : B ≤ w.heap.size) (hg : B ≤ g) (hsz : exSz (.mk 4 n name args) ≤ 1048576)
    (hK : Blk w g 62 #[.int .i64 left]) (h0 : 1 ≤ left) (h1 : left ≤ 90) (hd : d ≤ 7) :
    Calls Try.prog 83 #[.agg #[v0, v1, v2, v3], .int .i64 (d : Int), .pointer (some ⟨g, 0, none⟩)] w (SpP (exGood (.mk 4 n name args) d) (exN (.mk 4 n name args)) g left w) := by
  obtain ⟨A, c, A', c', rfl, rfl, rfl, rfl, hR, hm, hx⟩ := h.open_
  rw [exSz_mk] at hsz
  have hne : w.heap.size ≠ g := by have := hK.lt; omega
  have c0 : ∀ o, (w.alloc o).cell? ⟨g, 0, none⟩ = some (.int .i64 left) := fun o => (hK.alloc o).cell_of 0 rfl
  have f0 : ∀ o, (w.alloc o).frozen? ⟨g, 0, none⟩ = false := fun o => (hK.alloc o).frozen 0
  have hl' : 0 ≤ left - 1 := by omega
  have h7' : (d : Int) ≤ 7 := by omega
  have hPs : ∀ o u, Past g w ((w.alloc o).setCell ⟨g, 0, none⟩ u) := fun o u => ((Past.refl g w).alloc _).set_ (.inl rfl) _
  have hKs : ∀ o u, Blk ((w.alloc o).setCell ⟨g, 0, none⟩ (.int .i64 u)) g 62 #[.int .i64 u] := fun o u => (hK.alloc o).set_ 0 (.int .i64 u)
  have hKB : ∀ (u0 u1 u2 u3 uu : Value), Blk ((w.alloc (.cells #[u0, u1, u2, u3] 73)).setCell ⟨g, 0, none⟩ uu) w.heap.size 73 #[u0, u1, u2, u3] := fun u0 u1 u2 u3 uu => (Blk.new w 73 #[u0, u1, u2, u3]).far (p := ⟨g, 0, none⟩) hne uu
  have hw := fun o u => specWordOk_c name A c B ((w.alloc o).setCell ⟨g, 0, none⟩ u) (by omega) (hR.1.below ((hPs o u).below hg hB))
  have hk := fun (u0 u1 u2 u3 : Value) (uu : Int) => (specKept_c name A c B ((w.alloc (.cells #[u0, u1, u2, u3] 73)).setCell ⟨g, 0, none⟩ (.int .i64 uu)) (hR.1.below ((hPs _ _).below hg hB))).mono
    (R' := fun r w' => r = .returned (.bool (kept name)) ∧ Past g w w' ∧ Blk w' g 62 #[.int .i64 uu] ∧ Blk w' w.heap.size 73 #[u0, u1, u2, u3] ∧ w'.cell? ⟨w.heap.size, 0, none⟩ = some u0 ∧ w'.cell? ⟨w.heap.size, 1, none⟩ = some u1 ∧ w'.cell? ⟨w.heap.size, 2, none⟩ = some u2 ∧ w'.cell? ⟨w.heap.size, 3, none⟩ = some u3)
    (fun r w' hh => by
      have KB := (hKB u0 u1 u2 u3 (.int .i64 uu)).below hh.2 (by simp)
      exact ⟨hh.1, (hPs _ _).trans (Past.of hh.2 g), (hKs _ _).below hh.2 (by have := hK.lt; simp; omega), KB, KB.cell_of 0 rfl, KB.cell_of 1 rfl, KB.cell_of 2 rfl, KB.cell_of 3 rfl⟩)
  have Hx := Lib.hid hx
  have Ih := Lib.hid ih
  have Hsz := Lib.hid hsz
  have HK := Lib.hid hK
  clear hx ih hR h hsz hK
  by_cases c1 : name.length = 0
  · obtain rfl : name = [] := List.eq_nil_of_length_eq_zero c1
    clear hw hk c1
    have hno := not_ok (k := 4) (n := n) (name := []) (args := args) (by simp [exOk1, nameOk, wordOk]) d (exN (.mk 4 n [] args)) left
    have Hno := Lib.hid hno
    clear hno
    go_enter Try.func83, Try.ntmps83
    go_wp2
    go_ret
    exact sp_no (hPs _ _) (hKs _ _) Hno.out
  have c1' : 0 < (name.length : Int) := by omega
  clear c1
  by_cases c2 : wordOk name = false
  · rw [c2] at hw
    have Hw := Lib.hid hw
    have hno := not_ok (k := 4) (n := n) (name := name) (args := args) (by simp [exOk1, nameOk, c2]) d (exN (.mk 4 n name args)) left
    clear hw hk c2
    have Hno := Lib.hid hno
    clear hno
    go_enter Try.func83, Try.ntmps83
    go_wp2_with fail
    refine (Hw.out _ _).mono ?_
    rintro r w' ⟨rfl, rfl⟩
    go_wp2
    go_ret
    exact sp_no (hPs _ _) (hKs _ _) Hno.out
  have c2' : wordOk name = true := by simpa using c2
  rw [c2'] at hw
  have Hw := Lib.hid hw
  clear hw c2
  by_cases c3 : kept name = true
  · rw [c3] at hk
    have Hk := Lib.hid hk
    have hno := not_ok (k := 4) (n := n) (name := name) (args := args) (by simp [exOk1, nameOk, c3]) d (exN (.mk 4 n name args)) left
    clear hk c3 c2'
    have Hno := Lib.hid hno
    clear hno
    go_enter Try.func83, Try.ntmps83
    go_wp2_with fail
    refine (Hw.out _ _).mono ?_
    rintro r w' ⟨rfl, rfl⟩
    go_wp2_with fail
    refine (Hk.out _ _ _ _ _).mono ?_
    rintro r w2 ⟨rfl, hP2, hK2, KB, q0, q1, q2, q3⟩
    go_wp2
    go_ret
    exact sp_no (hP2) (hK2) Hno.out
  have c3' : kept name = false := by simpa using c3
  rw [c3'] at hk
  have Hk := Lib.hid hk
  have hnm : nameOk name = true := by unfold nameOk; rw [c2', c3']; rfl
  have Hnm := Lib.hid hnm
  clear hk c3 c2' c3' hnm
  by_cases c4 : ¬ n = 0
  · have hno := not_ok (k := 4) (n := n) (name := name) (args := args) (by simp [exOk1, c4]) d (exN (.mk 4 n name args)) left
    have Hno := Lib.hid hno
    clear hno
    go_enter Try.func83, Try.ntmps83
    go_wp2_with fail
    refine (Hw.out _ _).mono ?_
    rintro r w' ⟨rfl, rfl⟩
    go_wp2_with fail
    refine (Hk.out _ _ _ _ _).mono ?_
    rintro r w2 ⟨rfl, hP2, hK2, KB, q0, q1, q2, q3⟩
    go_wp2
    go_ret
    exact sp_no (hP2) (hK2) Hno.out
  obtain rfl : n = 0 := by omega
  clear c4
  by_cases c6 : ¬ (args.length : Int) = 1
  · have hno := not_ok (k := 4) (n := 0) (name := name) (args := args) (by simp [exOk1]; intros; omega) d (exN (.mk 4 0 name args)) left
    have Hno := Lib.hid hno
    clear hno
    go_enter Try.func83, Try.ntmps83
    go_wp2_with fail
    refine (Hw.out _ _).mono ?_
    rintro r w' ⟨rfl, rfl⟩
    go_wp2_with fail
    refine (Hk.out _ _ _ _ _).mono ?_
    rintro r w2 ⟨rfl, hP2, hK2, KB, q0, q1, q2, q3⟩
    go_wp2_with fail
    go_quiet ((go_at_call 107; refine Calls.quiet_of_same (l2argsQ 4 1 rfl (by omega) (by omega) _)))
    go_wp2
    go_ret
    exact sp_no ((hP2).drewN _) ((hK2).drewN _) Hno.out
  have c6' : (args.length : Int) = 1 := by omega
  clear c6
  have hok : exOk1 4 0 name args.length = true := by simp [exOk1, Hnm.out]; omega
  have Hok := Lib.hid hok
  have Hx0 := Hx
  have hal : args.length ≤ 3 := by omega
  clear hok
  go_enter Try.func83, Try.ntmps83
  go_wp2_with fail
  refine (Hw.out _ _).mono ?_
  rintro r w' ⟨rfl, rfl⟩
  go_wp2_with fail
  refine (Hk.out _ _ _ _ _).mono ?_
  rintro r w2 ⟨rfl, hP2, hK2, KB, q0, q1, q2, q3⟩
  go_wp2_with fail
  go_quiet ((go_at_call 107; refine Calls.quiet_of_same (l2argsQ 4 1 rfl (by omega) (by omega) _)))
  go_wp2
  clear c6'
  go_loopw [8] (fun i wr => ∃ (j : Nat) (a' : Int), j ≤ args.length ∧ i = .int .i64 j ∧ Past g w wr ∧ Blk wr g 62 #[.int .i64 a'] ∧ Blk wr w.heap.size 73 #[.int .i64 4, .int .i64 0, .slice A name.length c, .slice A' args.length c'] ∧ a' = left - 1 - exsN (args.take j) ∧ 0 ≤ a' ∧ Hid (exsGood (args.take j) (d + 1) = true)) (fun i _ => args.length - (intOf i).toNat)
  case atStart => exact ⟨0, left - 1, Nat.zero_le _, rfl, (hP2).drewN _, (hK2).drewN _, (KB).drewN _, by simp [exsN], hl', Lib.hid (by simp [exsGood])⟩
  case round =>
    obtain ⟨j, a', hj, rfl, hP, hKr, hKb, ea, ha0, hgood⟩ := hrel
    have b0 := hKb.cell_of 0 rfl
    have b1 := hKb.cell_of 1 rfl
    have b2 := hKb.cell_of 2 rfl
    have b3 := hKb.cell_of 3 rfl
    have Ea := Lib.hid ea
    clear ea
    by_cases hlt : j < args.length
    · obtain ⟨ad, rfl, _, hbk, hat⟩ := (Hx0.out.below (hP.below hg hB)).2 (by omega)
      obtain ⟨x0, x1, x2, x3, ⟨y0, y1, y2, y3⟩, hv⟩ := hat j hlt
      have hBr : B ≤ wr.heap.size := Nat.le_trans hB hP.size
      have hc := Ih.out args[j] (List.getElem_mem hlt) x0 x1 x2 x3 L B g (d + 1) a' wr hv hBr hg (by have := exsSz_get hlt; have := Hsz.out; omega) hKr ha0 (by have := Ea.out; omega) (by omega)
      rw [show (((d + 1 : Nat)) : Int) = (d : Int) + 1 by omega] at hc
      have Hc := Lib.hid hc
      clear hc hat hv
      go_wp2_with fail
      refine Hc.out.mono ?_
      rintro r w6 ⟨b, rfl, hP6, a6, hK6, hiff, himp⟩
      have Hiff := Lib.hid hiff
      have Himp := Lib.hid himp
      have hKb6 := hKb.past hP6 hne
      clear hiff himp b0 b1 b2 b3 y0 y1 y2 y3
      cases b
      · go_wp2
        go_ret
        exact sp_no (hP.trans hP6) hK6 (sp_not hlt Ea.out (fun hh => Bool.noConfusion (Hiff.out.2 hh)))
      · go_wp2
        go_roundw
        case rel =>
          obtain ⟨g1, g2⟩ := Hiff.out.1 (by trivial)
          have m1 := Himp.out (by trivial)
          have e1 := Ea.out
          exact ⟨j + 1, a6, by omega, by go_num, hP.trans hP6, hK6, hKb6, by rw [exsN_step hlt]; omega, by omega, Lib.hid (by rw [exsGood_step hlt, hgood.out, g1]; rfl)⟩
        case measure => simp [intOf]; omega
    · go_wp2
      go_ret
      have hjl : j = args.length := by omega
      subst hjl
      have e1 := Ea.out
      have g1 := hgood.out
      rw [List.take_length] at e1 g1
      exact sp_yes hP hKr Hok.out hd g1 e1 ha0

set_option maxRecDepth 100000 in
set_option maxHeartbeats 8000000 in
theorem l2ex_5 (n : Int) (name : List UInt8) (args : List Ex) (ih : ∀ e ∈ args, SpEx e) (v0 v1 v2 v3 : Value) (L B g d : Nat) (left : Int) (w : World) (h : ExV w L B v0 v1 v2 v3 (.mk 5 n name args)) (hB : B ≤ w.heap.size) (hg : B ≤ g) (hsz : exSz (.mk 5 n name args) ≤ 1048576)
    (hK : Blk w g 62 #[.int .i64 left]) (h0 : 1 ≤ left) (h1 : left ≤ 90) (hd : d ≤ 7) :
    Calls Try.prog 83 #[.agg #[v0, v1, v2, v3], .int .i64 (d : Int), .pointer (some ⟨g, 0, none⟩)] w (SpP (exGood (.mk 5 n name args) d) (exN (.mk 5 n name args)) g left w) := by
  obtain ⟨A, c, A', c', rfl, rfl, rfl, rfl, hR, hm, hx⟩ := h.open_
  rw [exSz_mk] at hsz
  have hne : w.heap.size ≠ g := by have := hK.lt; omega
  have c0 : ∀ o, (w.alloc o).cell? ⟨g, 0, none⟩ = some (.int .i64 left) := fun o => (hK.alloc o).cell_of 0 rfl
  have f0 : ∀ o, (w.alloc o).frozen? ⟨g, 0, none⟩ = false := fun o => (hK.alloc o).frozen 0
  have hl' : 0 ≤ left - 1 := by omega
  have h7' : (d : Int) ≤ 7 := by omega
  have hPs : ∀ o u, Past g w ((w.alloc o).setCell ⟨g, 0, none⟩ u) := fun o u => ((Past.refl g w).alloc _).set_ (.inl rfl) _
  have hKs : ∀ o u, Blk ((w.alloc o).setCell ⟨g, 0, none⟩ (.int .i64 u)) g 62 #[.int .i64 u] := fun o u => (hK.alloc o).set_ 0 (.int .i64 u)
  have hKB : ∀ (u0 u1 u2 u3 uu : Value), Blk ((w.alloc (.cells #[u0, u1, u2, u3] 73)).setCell ⟨g, 0, none⟩ uu) w.heap.size 73 #[u0, u1, u2, u3] := fun u0 u1 u2 u3 uu => (Blk.new w 73 #[u0, u1, u2, u3]).far (p := ⟨g, 0, none⟩) hne uu
  have hw := fun o u => specWordOk_c name A c B ((w.alloc o).setCell ⟨g, 0, none⟩ u) (by omega) (hR.1.below ((hPs o u).below hg hB))
  have hk := fun (u0 u1 u2 u3 : Value) (uu : Int) => (specKept_c name A c B ((w.alloc (.cells #[u0, u1, u2, u3] 73)).setCell ⟨g, 0, none⟩ (.int .i64 uu)) (hR.1.below ((hPs _ _).below hg hB))).mono
    (R' := fun r w' => r = .returned (.bool (kept name)) ∧ Past g w w' ∧ Blk w' g 62 #[.int .i64 uu] ∧ Blk w' w.heap.size 73 #[u0, u1, u2, u3] ∧ w'.cell? ⟨w.heap.size, 0, none⟩ = some u0 ∧ w'.cell? ⟨w.heap.size, 1, none⟩ = some u1 ∧ w'.cell? ⟨w.heap.size, 2, none⟩ = some u2 ∧ w'.cell? ⟨w.heap.size, 3, none⟩ = some u3)
    (fun r w' hh => by
      have KB := (hKB u0 u1 u2 u3 (.int .i64 uu)).below hh.2 (by simp)
      exact ⟨hh.1, (hPs _ _).trans (Past.of hh.2 g), (hKs _ _).below hh.2 (by have := hK.lt; simp; omega), KB, KB.cell_of 0 rfl, KB.cell_of 1 rfl, KB.cell_of 2 rfl, KB.cell_of 3 rfl⟩)
  have Hx := Lib.hid hx
  have Ih := Lib.hid ih
  have Hsz := Lib.hid hsz
  have HK := Lib.hid hK
  clear hx ih hR h hsz hK
  by_cases c1 : name.length = 0
  · obtain rfl : name = [] := List.eq_nil_of_length_eq_zero c1
    clear hw hk c1
    have hno := not_ok (k := 5) (n := n) (name := []) (args := args) (by simp [exOk1, nameOk, wordOk]) d (exN (.mk 5 n [] args)) left
    have Hno := Lib.hid hno
    clear hno
    go_enter Try.func83, Try.ntmps83
    go_wp2
    go_ret
    exact sp_no (hPs _ _) (hKs _ _) Hno.out
  have c1' : 0 < (name.length : Int) := by omega
  clear c1
  by_cases c2 : wordOk name = false
  · rw [c2] at hw
    have Hw := Lib.hid hw
    have hno := not_ok (k := 5) (n := n) (name := name) (args := args) (by simp [exOk1, nameOk, c2]) d (exN (.mk 5 n name args)) left
    clear hw hk c2
    have Hno := Lib.hid hno
    clear hno
    go_enter Try.func83, Try.ntmps83
    go_wp2_with fail
    refine (Hw.out _ _).mono ?_
    rintro r w' ⟨rfl, rfl⟩
    go_wp2
    go_ret
    exact sp_no (hPs _ _) (hKs _ _) Hno.out
  have c2' : wordOk name = true := by simpa using c2
  rw [c2'] at hw
  have Hw := Lib.hid hw
  clear hw c2
  by_cases c3 : kept name = true
  · rw [c3] at hk
    have Hk := Lib.hid hk
    have hno := not_ok (k := 5) (n := n) (name := name) (args := args) (by simp [exOk1, nameOk, c3]) d (exN (.mk 5 n name args)) left
    clear hk c3 c2'
    have Hno := Lib.hid hno
    clear hno
    go_enter Try.func83, Try.ntmps83
    go_wp2_with fail
    refine (Hw.out _ _).mono ?_
    rintro r w' ⟨rfl, rfl⟩
    go_wp2_with fail
    refine (Hk.out _ _ _ _ _).mono ?_
    rintro r w2 ⟨rfl, hP2, hK2, KB, q0, q1, q2, q3⟩
    go_wp2
    go_ret
    exact sp_no (hP2) (hK2) Hno.out
  have c3' : kept name = false := by simpa using c3
  rw [c3'] at hk
  have Hk := Lib.hid hk
  have hnm : nameOk name = true := by unfold nameOk; rw [c2', c3']; rfl
  have Hnm := Lib.hid hnm
  clear hk c3 c2' c3' hnm
  by_cases c4 : ¬ n = 0
  · have hno := not_ok (k := 5) (n := n) (name := name) (args := args) (by simp [exOk1, c4]) d (exN (.mk 5 n name args)) left
    have Hno := Lib.hid hno
    clear hno
    go_enter Try.func83, Try.ntmps83
    go_wp2_with fail
    refine (Hw.out _ _).mono ?_
    rintro r w' ⟨rfl, rfl⟩
    go_wp2_with fail
    refine (Hk.out _ _ _ _ _).mono ?_
    rintro r w2 ⟨rfl, hP2, hK2, KB, q0, q1, q2, q3⟩
    go_wp2
    go_ret
    exact sp_no (hP2) (hK2) Hno.out
  obtain rfl : n = 0 := by omega
  clear c4
  by_cases c6 : 3 < (args.length : Int)
  · have hno := not_ok (k := 5) (n := 0) (name := name) (args := args) (by simp [exOk1]; intros; omega) d (exN (.mk 5 0 name args)) left
    have Hno := Lib.hid hno
    clear hno
    go_enter Try.func83, Try.ntmps83
    go_wp2_with fail
    refine (Hw.out _ _).mono ?_
    rintro r w' ⟨rfl, rfl⟩
    go_wp2_with fail
    refine (Hk.out _ _ _ _ _).mono ?_
    rintro r w2 ⟨rfl, hP2, hK2, KB, q0, q1, q2, q3⟩
    go_wp2_with fail
    go_quiet ((go_at_call 107; refine Calls.quiet_of_same (l2argsQ 5 0 rfl (by omega) (by omega) _)))
    go_wp2
    go_ret
    exact sp_no ((hP2).drewN _) ((hK2).drewN _) Hno.out
  have c6' : (args.length : Int) ≤ 3 := by omega
  clear c6
  have c6d : decide (3 < (args.length : Int)) = false := by simp; omega
  have hok : exOk1 5 0 name args.length = true := by simp [exOk1, Hnm.out]; omega
  have Hok := Lib.hid hok
  have Hx0 := Hx
  have hal : args.length ≤ 3 := by omega
  clear hok
  go_enter Try.func83, Try.ntmps83
  go_wp2_with fail
  refine (Hw.out _ _).mono ?_
  rintro r w' ⟨rfl, rfl⟩
  go_wp2_with fail
  refine (Hk.out _ _ _ _ _).mono ?_
  rintro r w2 ⟨rfl, hP2, hK2, KB, q0, q1, q2, q3⟩
  go_wp2_with fail
  go_quiet ((go_at_call 107; refine Calls.quiet_of_same (l2argsQ 5 0 rfl (by omega) (by omega) _)))
  go_wp2
  clear c6' c6d
  go_loopw [8] (fun i wr => ∃ (j : Nat) (a' : Int), j ≤ args.length ∧ i = .int .i64 j ∧ Past g w wr ∧ Blk wr g 62 #[.int .i64 a'] ∧ Blk wr w.heap.size 73 #[.int .i64 5, .int .i64 0, .slice A name.length c, .slice A' args.length c'] ∧ a' = left - 1 - exsN (args.take j) ∧ 0 ≤ a' ∧ Hid (exsGood (args.take j) (d + 1) = true)) (fun i _ => args.length - (intOf i).toNat)
  case atStart => exact ⟨0, left - 1, Nat.zero_le _, rfl, (hP2).drewN _, (hK2).drewN _, (KB).drewN _, by simp [exsN], hl', Lib.hid (by simp [exsGood])⟩
  case round =>
    obtain ⟨j, a', hj, rfl, hP, hKr, hKb, ea, ha0, hgood⟩ := hrel
    have b0 := hKb.cell_of 0 rfl
    have b1 := hKb.cell_of 1 rfl
    have b2 := hKb.cell_of 2 rfl
    have b3 := hKb.cell_of 3 rfl
    have Ea := Lib.hid ea
    clear ea
    by_cases hlt : j < args.length
    · obtain ⟨ad, rfl, _, hbk, hat⟩ := (Hx0.out.below (hP.below hg hB)).2 (by omega)
      obtain ⟨x0, x1, x2, x3, ⟨y0, y1, y2, y3⟩, hv⟩ := hat j hlt
      have hBr : B ≤ wr.heap.size := Nat.le_trans hB hP.size
      have hc := Ih.out args[j] (List.getElem_mem hlt) x0 x1 x2 x3 L B g (d + 1) a' wr hv hBr hg (by have := exsSz_get hlt; have := Hsz.out; omega) hKr ha0 (by have := Ea.out; omega) (by omega)
      rw [show (((d + 1 : Nat)) : Int) = (d : Int) + 1 by omega] at hc
      have Hc := Lib.hid hc
      clear hc hat hv
      go_wp2_with fail
      refine Hc.out.mono ?_
      rintro r w6 ⟨b, rfl, hP6, a6, hK6, hiff, himp⟩
      have Hiff := Lib.hid hiff
      have Himp := Lib.hid himp
      have hKb6 := hKb.past hP6 hne
      clear hiff himp b0 b1 b2 b3 y0 y1 y2 y3
      cases b
      · go_wp2
        go_ret
        exact sp_no (hP.trans hP6) hK6 (sp_not hlt Ea.out (fun hh => Bool.noConfusion (Hiff.out.2 hh)))
      · go_wp2
        go_roundw
        case rel =>
          obtain ⟨g1, g2⟩ := Hiff.out.1 (by trivial)
          have m1 := Himp.out (by trivial)
          have e1 := Ea.out
          exact ⟨j + 1, a6, by omega, by go_num, hP.trans hP6, hK6, hKb6, by rw [exsN_step hlt]; omega, by omega, Lib.hid (by rw [exsGood_step hlt, hgood.out, g1]; rfl)⟩
        case measure => simp [intOf]; omega
    · go_wp2
      go_ret
      have hjl : j = args.length := by omega
      subst hjl
      have e1 := Ea.out
      have g1 := hgood.out
      rw [List.take_length] at e1 g1
      exact sp_yes hP hKr Hok.out hd g1 e1 ha0

end Go.Proofs.Ytmejbmfopdfbjaa
