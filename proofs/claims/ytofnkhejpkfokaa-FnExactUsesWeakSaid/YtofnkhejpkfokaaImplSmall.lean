/-
  The program's small checks: names, signs, fields of an expression, of a statement.
-/
import Derived.Test.YtofnkhejpkfokaaForm
namespace Go.Proofs.Ytofnkhejpkfokaa
open Go.RowKit
set_option linter.unusedVariables false

theorem implNameOk_c (l : List UInt8) (A : Option Addr) (c B : Nat) (w : World) (hl : l.length ≤ 4294967296) (h : RB w B A l) :
    Calls Try.prog 115 #[.slice A l.length c] w fun e w' => e = .returned (.bool (nameOk l)) ∧ w = w' := by
  cases hw : wordOk l
  · have hn : nameOk l = false := by unfold nameOk; rw [hw]; rfl
    rw [hn]
    have hc := implWordOk_c l A c B w hl h
    rw [hw] at hc
    have Hc := Lib.hid hc
    clear hc hw hn
    go_enter Try.func115, Try.ntmps115
    go_wp2_with (go_at_call 123; refine Hc.out.mono ?_; rintro e w' ⟨rfl, rfl⟩)
    go_ret
    exact ⟨rfl, rfl⟩
  · have hn : nameOk l = !kept l := by unfold nameOk; rw [hw]; rfl
    rw [hn]
    have hc := implWordOk_c l A c B w hl h
    rw [hw] at hc
    have Hc := Lib.hid hc
    clear hc hw hn
    go_enter Try.func115, Try.ntmps115
    go_wp2_with (first
      | (go_at_call 123; refine Hc.out.mono ?_; rintro e w' ⟨rfl, rfl⟩)
      | (go_at_call 124; refine (implKept_c l A c B _ h).mono ?_; rintro e w' ⟨rfl, rfl⟩))
    go_ret
    exact ⟨rfl, rfl⟩

theorem binSign_c (n : Int) (w : World) :
    Calls Try.prog 135 #[.int .i64 n] w fun e w' => e = .returned (.bool (isBin n)) ∧ w = w' := by
  by_cases h : n = 43 ∨ n = 45 ∨ n = 42 ∨ n = 60 ∨ n = 61
  · rcases h with rfl | rfl | rfl | rfl | rfl
    all_goals
      go_enter Try.func135, Try.ntmps135
      go_wp2
      go_ret
      exact ⟨rfl, rfl⟩
  · have hn : isBin n = false := by unfold isBin; simp; omega
    rw [hn]
    have h1 : ¬ n = 43 := by omega
    have h2 : ¬ n = 45 := by omega
    have h3 : ¬ n = 42 := by omega
    have h4 : ¬ n = 60 := by omega
    have h5 : ¬ n = 61 := by omega
    clear h hn
    go_enter Try.func135, Try.ntmps135
    go_wp2
    go_ret
    exact ⟨rfl, rfl⟩

theorem ret_bool' {a b : Bool} (h : b = a) : Ending.returned (.bool a) = .returned (.bool b) := by rw [h]

set_option maxHeartbeats 1000000 in
theorem exEmpty_c (e : Ex) (v0 v1 v2 v3 : Value) (L B : Nat) (w : World) (h : ExV w L B v0 v1 v2 v3 e) :
    Calls Try.prog 133 #[.agg #[v0, v1, v2, v3]] w fun r w' => r = .returned (.bool (exNone e)) ∧ Below w.heap.size w w' := by
  cases e with
  | mk k n name args =>
    obtain ⟨A, c, A', c', rfl, rfl, rfl, rfl, hR, hm, hx⟩ := h.open_
    unfold maxLen at hm
    have hm' := hx.1
    unfold maxLen at hm'
    have hb : Below w.heap.size w (w.alloc (.cells #[.int .i64 k, .int .i64 n, .slice A name.length c, .slice A' args.length c'] 78)) := (Below.refl _ _).alloc (Nat.le_refl _) _
    clear hx hR h
    go_enter Try.func133, Try.ntmps133
    go_wp2
    all_goals
      go_ret
      refine ⟨ret_bool' ?_, by first | exact hb | simp_all⟩
      first
        | (simp_all [exNone]; done)
        | (simp_all [exNone]; rw [Bool.eq_iff_iff, beq_iff_eq, beq_iff_eq]; omega)

theorem nat_beq (n : Nat) (m : Nat) : ((n : Int) == (m : Int)) = (n == m) := by rw [Bool.eq_iff_iff, beq_iff_eq, beq_iff_eq]; omega
theorem nat_le (n : Nat) (m : Nat) : decide ((n : Int) ≤ (m : Int)) = decide (n ≤ m) := by rw [Bool.eq_iff_iff, decide_eq_true_iff, decide_eq_true_iff]; omega

set_option maxHeartbeats 4000000 in
theorem exOk_c (k n : Int) (name : List UInt8) (args : List Ex) (v0 v1 v2 v3 : Value) (L B : Nat) (w : World) (hl : name.length ≤ 4294967296) (hB : B ≤ w.heap.size) (h : ExV w L B v0 v1 v2 v3 (.mk k n name args)) :
    Calls Try.prog 134 #[.agg #[v0, v1, v2, v3]] w fun r w' => r = .returned (.bool (exOk1 k n name args.length)) ∧ Below w.heap.size w w' := by
  obtain ⟨A, c, A', c', rfl, rfl, rfl, rfl, hR, hm, hx⟩ := h.open_
  unfold maxLen at hm
  have hm' := hx.1
  unfold maxLen at hm'
  have hb : Below w.heap.size w (w.alloc (.cells #[.int .i64 k, .int .i64 n, .slice A name.length c, .slice A' args.length c'] 78)) := (Below.refl _ _).alloc (Nat.le_refl _) _
  have hc := fun o => implNameOk_c name A c B (w.alloc o) hl (hR.1.alloc hB o)
  have hs := binSign_c n
  have Hc := Lib.hid hc
  have Hs := Lib.hid hs
  clear hx hR h hc hs
  by_cases hk : 0 ≤ k ∧ k ≤ 8
  · have hks : k = 0 ∨ k = 1 ∨ k = 2 ∨ k = 3 ∨ k = 4 ∨ k = 5 ∨ k = 6 ∨ k = 7 ∨ k = 8 := by omega
    clear hk
    rcases hks with rfl | rfl | rfl | rfl | rfl | rfl | rfl | rfl | rfl
    all_goals
      go_enter Try.func134, Try.ntmps134
      go_wp2_with (first
        | (go_at_call 115; refine (Hc.out _).mono ?_; rintro e w' ⟨rfl, rfl⟩)
        | (go_at_call 135; refine (Hs.out _).mono ?_; rintro e w' ⟨rfl, rfl⟩))
    all_goals
      go_ret
      refine ⟨ret_bool' ?_, by first | exact hb | simp_all⟩
      first
        | (simp_all [exOk1]; done)
        | (simp [exOk1, *]; done)
        | (simp [exOk1, *]; omega)
        | (simp [exOk1, *]; rw [Bool.eq_iff_iff]; simp; omega)
        | (simp_all [exOk1]; exact (nat_beq _ 0).symm)
  · have he : exOk1 k n name args.length = false := by
      unfold exOk1
      rw [if_neg (by omega), if_neg (by omega), if_neg (by omega), if_neg (by omega), if_neg (by omega), if_neg (by omega), if_neg (by omega)]
    rw [he]
    have k0 : ¬ k = 0 := by omega
    have k1 : ¬ k = 1 := by omega
    have k2 : ¬ k = 2 := by omega
    have k3 : ¬ k = 3 := by omega
    have k4 : ¬ k = 4 := by omega
    have k5 : ¬ k = 5 := by omega
    have k6 : ¬ k = 6 := by omega
    have k7 : ¬ k = 7 := by omega
    have k8 : ¬ k = 8 := by omega
    clear he hk Hc Hs
    go_enter Try.func134, Try.ntmps134
    go_wp2
    go_ret
    exact ⟨rfl, hb⟩
end Go.Proofs.Ytofnkhejpkfokaa
