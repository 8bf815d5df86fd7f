/-
  The library's AppendInt of a small number, behind a row of bytes that a conversion may have made.
-/
import Derived.Test.YtebgigiakfjocaaDoorApp
import Derived.Test.YtebgigiakfjocaaDoorShelf
namespace Go.Proofs.YtebgigiakfjocaaDoor
open Go.RowKit
set_option linter.unusedVariables false
set_option linter.unusedSimpArgs false

theorem dig_small {u : Nat} (hu : u < 100) : (Lib.decDigits u).length ≤ 2 := by
  rw [Lib.decDigits_length]
  by_cases h10 : u < 10
  · rw [Lib.nDigits_small h10]; omega
  · rw [Lib.nDigits_big h10, Lib.nDigits_small (show u / 10 < 10 by omega)]; omega

section
variable (l : List UInt8) (v : Value) (u B : Nat) (w : World)
set_option maxRecDepth 100000 in
set_option maxHeartbeats 2000000 in
theorem appUintS_c (hu : u < 100) (hB : B ≤ w.heap.size) (hl : l.length ≤ 140737488355000) (h : OwnT w B v l) :
    Calls Tryd.prog 103 #[v, .int .u64 u, .int .i64 10] w fun e w' => ∃ A c, e = .returned (.slice A (l ++ Lib.decDigits u).length c) ∧ OwnT w' B (.slice A (l ++ Lib.decDigits u).length c) (l ++ Lib.decDigits u) ∧ Say B w w' := by
  obtain ⟨A0, c0, rfl, _⟩ := h.form
  have hd := dig_small hu
  obtain ⟨d, hde⟩ : ∃ d, d = Lib.decDigits u := ⟨_, rfl⟩
  obtain ⟨y, hy⟩ : ∃ y, l ++ d = y := ⟨_, rfl⟩
  have Hs := Lib.hid (fun w => Tryd.internal_strconv_small u hu w)
  rw [← hde] at hd Hs ⊢
  rw [hy]
  have Hy := Lib.hid hy
  have H := Lib.hid h
  have hu' : (u : Int) < 100 := by omega
  clear h hy hde
  go_enter Tryd.func103, Tryd.ntmps103
  go_wp2_with (first
    | (go_at_call 123; refine (Hs.out _).mono ?_; rintro e w' ⟨rfl, rfl⟩)
    | (at_builtin; refine wpList_strT rfl (.tmp 13) (.tmp 16) rfl rfl H.out rfl (by simp) Hy.out (by omega) hB ?_; intro A1 c1 w1 hO1 hS1; have HO1 := Lib.hid hO1; have HS1 := Lib.hid hS1; clear hO1 hS1))
  go_ret
  exact ⟨A1, c1, rfl, HO1.out, HS1.out⟩

set_option maxRecDepth 100000 in
set_option maxHeartbeats 2000000 in
theorem appIntS_c (hu : u < 100) (hB : B ≤ w.heap.size) (hl : l.length ≤ 140737488355000) (h : OwnT w B v l) :
    Calls Tryd.prog 45 #[v, .int .i64 u, .int .i64 10] w fun e w' => ∃ A c, e = .returned (.slice A (l ++ Lib.decDigits u).length c) ∧ OwnT w' B (.slice A (l ++ Lib.decDigits u).length c) (l ++ Lib.decDigits u) ∧ Say B w w' := by
  have hin : Calls Tryd.prog 81 #[v, .int .i64 u, .int .i64 10] w fun e w' => ∃ A c, e = .returned (.slice A (l ++ Lib.decDigits u).length c) ∧ OwnT w' B (.slice A (l ++ Lib.decDigits u).length c) (l ++ Lib.decDigits u) ∧ Say B w w' := by
    obtain ⟨A0, c0, rfl, _⟩ := h.form
    have Hu := Lib.hid (appUintS_c l (.slice A0 l.length c0) u B w hu hB hl h)
    have hu0 : ¬ (u : Int) < 0 := by omega
    have hu64 : (u : Int) < 18446744073709551616 := by omega
    clear h
    obtain ⟨y, hy⟩ : ∃ y, l ++ Lib.decDigits u = y := ⟨_, rfl⟩
    rw [hy] at Hu ⊢
    clear hy
    go_enter Tryd.func81, Tryd.ntmps81
    go_wp2_with fail
    refine Hu.out.mono ?_
    rintro e w1 ⟨A1, c1, rfl, hO1, hS1⟩
    have HO1 := Lib.hid hO1
    have HS1 := Lib.hid hS1
    clear hO1 hS1 Hu
    go_wp2
    go_ret
    exact ⟨A1, c1, rfl, HO1.out, HS1.out⟩
  obtain ⟨A0, c0, rfl, _⟩ := h.form
  have Hin := Lib.hid hin
  clear h hin
  obtain ⟨y, hy⟩ : ∃ y, l ++ Lib.decDigits u = y := ⟨_, rfl⟩
  rw [hy] at Hin ⊢
  clear hy
  go_enter Tryd.func45, Tryd.ntmps45
  go_wp2_with fail
  refine Hin.out.mono ?_
  rintro e w1 ⟨A1, c1, rfl, hO1, hS1⟩
  have HO1 := Lib.hid hO1
  have HS1 := Lib.hid hS1
  clear hO1 hS1 Hin
  go_wp2
  go_ret
  exact ⟨A1, c1, rfl, HO1.out, HS1.out⟩
end
end Go.Proofs.YtebgigiakfjocaaDoor
