/-
  The laws' own size of bytes.
-/
import Derived.Test.YtofnkhejpkfokaaBytes
namespace Go.Proofs.Ytofnkhejpkfokaa
open Go.RowKit

/-- what is left of a budget -/
def sub (left : Int) (n : Nat) : Int := if left - n < 0 then -1 else left - n
theorem sub_cases (left : Int) (n : Nat) : (left - n < 0 ∧ sub left n = -1) ∨ (0 ≤ left - n ∧ sub left n = left - n) := by
  unfold sub; by_cases h : left - n < 0
  · exact Or.inl ⟨h, if_pos h⟩
  · exact Or.inr ⟨by omega, if_neg h⟩

set_option maxHeartbeats 400000 in
theorem szByteS_c (A : Option Addr) (n c : Nat) (left : Int) (w : World) (hn : n ≤ 9223372036854775807) (h0 : 0 ≤ left) (h1 : left ≤ 1048576) :
    Calls Try.prog 73 #[.slice A n c, .int .i64 left] w fun e w' => e = .returned (.int .i64 (sub left n)) ∧ w = w' := by
  rcases sub_cases left n with ⟨hlt, he⟩ | ⟨hge, he⟩
  all_goals
    rw [he]
    clear he
    go_enter Try.func73, Try.ntmps73
    go_wp2
    go_ret
    exact ⟨rfl, rfl⟩

end Go.Proofs.Ytofnkhejpkfokaa
