/-
  The program's measure: a part more.
-/
import Derived.Test.YtofnkhejpkfokaaStOk
namespace Go.Proofs.Ytofnkhejpkfokaa
open Go.RowKit
set_option linter.unusedVariables false

def enterOk (a d : Int) : Bool := decide (a + 1 ≤ 90) && decide (d ≤ 7)

set_option maxHeartbeats 1000000 in
theorem enter_c (g : Nat) (a c d : Int) (w : World) (hK : Blk w g 65 #[.int .i64 a, .int .i64 c]) (ha : 0 ≤ a) (ha' : a ≤ 90) (hc : 0 ≤ c) (hc' : c ≤ 100) (hd : 0 ≤ d) (hd' : d ≤ 8) :
    Calls Try.prog 125 #[.pointer (some ⟨g, 0, none⟩), .int .i64 d] w fun e w' => e = .returned (.bool (enterOk a d)) ∧ Past g w w' ∧ Blk w' g 65 #[.int .i64 (a + 1), .int .i64 (max c d)] := by
  have c0 := hK.cell_of 0 rfl
  have c1 := hK.cell_of 1 rfl
  have f0 := hK.frozen 0
  have f1 := hK.frozen 1
  go_enter Try.func125, Try.ntmps125
  go_wp2
  all_goals
    go_ret
    refine ⟨ret_bool' (by unfold enterOk; first | (simp_all; done) | (simp_all; omega)), ((Past.refl g w).set_ (.inl rfl) _).set_ (.inl rfl) _, ?_⟩
    have K := (hK.set_ 0 (.int .i64 (a + 1))).set_ 1 (.int .i64 (max c d))
    have hm : (max c d = d ∧ c ≤ d) ∨ (max c d = c ∧ d ≤ c) := by omega
    rcases hm with ⟨hm, _⟩ | ⟨hm, _⟩
    all_goals
      rw [hm] at K ⊢
      first
        | exact K
        | (exfalso; omega)
        | (have : c = d := by omega
           subst this
           exact K)
end Go.Proofs.Ytofnkhejpkfokaa
