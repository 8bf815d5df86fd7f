/-
  The model's check of expressions.
-/
import Derived.Test.YtmejbmfopdfbjaaImplBase
namespace Go.Proofs.Ytmejbmfopdfbjaa
open Go.RowKit
set_option linter.unusedVariables false

/-- what the model's check tells: yes, and what is left; or no -/
def SpP (yes : Bool) (n g : Nat) (left : Int) (w : World) (r : Ending) (w' : World) : Prop :=
  ∃ b, r = .returned (.bool b) ∧ Past g w w' ∧ ∃ a' : Int, Blk w' g 62 #[.int .i64 a'] ∧ (b = true ↔ (yes = true ∧ (n : Int) ≤ left)) ∧ (b = true → a' = left - n)

def SpEx (e : Ex) : Prop := ∀ (v0 v1 v2 v3 : Value) (L B g d : Nat) (left : Int) (w : World), ExV w L B v0 v1 v2 v3 e → B ≤ w.heap.size → B ≤ g → exSz e ≤ 1048576 →
  Blk w g 62 #[.int .i64 left] → 0 ≤ left → left ≤ 90 → d ≤ 8 →
  Calls Try.prog 83 #[.agg #[v0, v1, v2, v3], .int .i64 (d : Int), .pointer (some ⟨g, 0, none⟩)] w (SpP (exGood e d) (exN e) g left w)

theorem l2op_c (n : Int) (w : World) :
    Calls Try.prog 106 #[.int .i64 n] w fun e w' => e = .returned (.bool (isBin n)) ∧ w = w' := by
  by_cases h : n = 43 ∨ n = 45 ∨ n = 42 ∨ n = 60 ∨ n = 61
  · rcases h with rfl | rfl | rfl | rfl | rfl
    all_goals
      go_enter Try.func106, Try.ntmps106
      go_wp2
      go_ret
      exact ⟨rfl, rfl⟩
  · have hn : isBin n = false := by unfold isBin; simp; omega
    rw [hn]
    have h1 : ¬ n = 43 := by omega
    have h2 : ¬ n = 45 := by omega
    have h3 : ¬ n = 42 := by omega
    have h4 : ¬ n = 60 := by omega
    have h5 : ¬ n = 61 := by omega
    clear h hn
    go_enter Try.func106, Try.ntmps106
    go_wp2
    go_ret
    refine ⟨?_, rfl⟩
    simp_all

def argsOf (k : Int) : Int := if k = 4 ∨ k = 7 ∨ k = 8 then 1 else if k = 6 then 2 else 0
theorem l2args_c (k : Int) (h0 : 0 ≤ k) (h8 : k ≤ 8) (w : World) :
    Calls Try.prog 107 #[.int .i64 k] w fun e w' => e = .returned (.int .i64 (argsOf k)) ∧ w = w' := by
  have hks : k = 0 ∨ k = 1 ∨ k = 2 ∨ k = 3 ∨ k = 4 ∨ k = 5 ∨ k = 6 ∨ k = 7 ∨ k = 8 := by omega
  clear h0 h8
  rcases hks with rfl | rfl | rfl | rfl | rfl | rfl | rfl | rfl | rfl
  all_goals
    go_enter Try.func107, Try.ntmps107
    go_wp2
    go_ret
    exact ⟨rfl, rfl⟩

set_option maxRecDepth 100000 in
set_option maxHeartbeats 4000000 in
theorem l2ex_early (k n : Int) (name : List UInt8) (args : List Ex) (v0 v1 v2 v3 : Value) (L B g d : Nat) (left : Int) (w : World) (h : ExV w L B v0 v1 v2 v3 (.mk k n name args)) (hB : B ≤ w.heap.size) (hg : B ≤ g)
    (hK : Blk w g 62 #[.int .i64 left]) (h0 : 0 ≤ left) (h1 : left ≤ 90) (hd : d ≤ 8) (hno : left < 1 ∨ 7 < d ∨ k < 0 ∨ 8 < k) :
    Calls Try.prog 83 #[.agg #[v0, v1, v2, v3], .int .i64 (d : Int), .pointer (some ⟨g, 0, none⟩)] w (SpP (exGood (.mk k n name args) d) (exN (.mk k n name args)) g left w) := by
  obtain ⟨A, c, A', c', rfl, rfl, rfl, rfl, hR, hm, hx⟩ := h.open_
  have hne : w.heap.size ≠ g := by have := hK.lt; omega
  have fin : ∀ o u, SpP (exGood (.mk k n name args) d) (exN (.mk k n name args)) g left w (.returned (.bool false)) ((w.alloc o).setCell ⟨g, 0, none⟩ (.int .i64 u)) := fun o u =>
    ⟨false, rfl, ((Past.refl g w).alloc _).set_ (.inl rfl) _, u, (hK.alloc _).set_ 0 _, ⟨fun hh => Bool.noConfusion hh, fun hh => by
      have hG := hh.1
      have hN := hh.2
      rw [exN_mk] at hN
      rw [exGood_mk] at hG
      simp only [Bool.and_eq_true, decide_eq_true_eq] at hG
      have hkk : 0 ≤ k ∧ k ≤ 8 := by
        have ho := hG.1.2
        unfold exOk1 at ho
        by_cases a0 : k = 0 ∨ k = 3
        · omega
        rw [if_neg a0] at ho
        by_cases a1 : k = 1
        · omega
        rw [if_neg a1] at ho
        by_cases a2 : k = 2
        · omega
        rw [if_neg a2] at ho
        by_cases a3 : k = 4
        · omega
        rw [if_neg a3] at ho
        by_cases a4 : k = 5
        · omega
        rw [if_neg a4] at ho
        by_cases a5 : k = 6
        · omega
        rw [if_neg a5] at ho
        by_cases a6 : k = 7 ∨ k = 8
        · omega
        rw [if_neg a6] at ho
        cases ho
      omega⟩, fun hh => Bool.noConfusion hh⟩
  have Fin := Lib.hid fin
  have c0 : ∀ o, (w.alloc o).cell? ⟨g, 0, none⟩ = some (.int .i64 left) := fun o => (hK.alloc o).cell_of 0 rfl
  have f0 : ∀ o, (w.alloc o).frozen? ⟨g, 0, none⟩ = false := fun o => (hK.alloc o).frozen 0
  clear hR hx h fin hm hB hg hK
  by_cases hl : left < 1
  · clear hno
    go_enter Try.func83, Try.ntmps83
    go_wp2
    go_ret
    exact Fin.out _ _
  have hl' : 0 ≤ left - 1 := by omega
  by_cases h7 : 7 < (d : Int)
  · clear hno hl
    go_enter Try.func83, Try.ntmps83
    go_wp2
    go_ret
    exact Fin.out _ _
  have h7' : (d : Int) ≤ 7 := by omega
  by_cases hk0 : k < 0
  · clear hno hl h7
    go_enter Try.func83, Try.ntmps83
    go_wp2
    go_ret
    exact Fin.out _ _
  · have hk0' : 0 ≤ k := by omega
    have hk8 : 8 < k := by omega
    clear hno hl h7 hk0
    go_enter Try.func83, Try.ntmps83
    go_wp2
    go_ret
    exact Fin.out _ _
end Go.Proofs.Ytmejbmfopdfbjaa
