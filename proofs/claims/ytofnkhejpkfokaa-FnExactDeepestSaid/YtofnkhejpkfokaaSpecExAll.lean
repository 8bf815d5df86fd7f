/-
  The model's check of expressions: all kinds.
-/
import Derived.Test.YtofnkhejpkfokaaSpecExK3
import Derived.Test.YtofnkhejpkfokaaSpecExK2
import Derived.Test.YtofnkhejpkfokaaParts
namespace Go.Proofs.Ytofnkhejpkfokaa
open Go.RowKit
set_option linter.unusedVariables false

theorem specEx_c (e : Ex) : SpEx e := by
  refine Ex.ind (P := SpEx) ?_ e
  intro k n name args ih v0 v1 v2 v3 L B g d left w h hB hg hsz hK h0 h1 hd
  by_cases hno : left < 1 ∨ 7 < d ∨ k < 0 ∨ 8 < k
  · exact l2ex_early k n name args v0 v1 v2 v3 L B g d left w h hB hg hK h0 h1 hd hno
  have hl : 1 ≤ left := by omega
  have hd7 : d ≤ 7 := by omega
  have hks : k = 0 ∨ k = 1 ∨ k = 2 ∨ k = 3 ∨ k = 4 ∨ k = 5 ∨ k = 6 ∨ k = 7 ∨ k = 8 := by omega
  rcases hks with rfl | rfl | rfl | rfl | rfl | rfl | rfl | rfl | rfl
  · exact l2ex_0 n name args ih v0 v1 v2 v3 L B g d left w h hB hg hsz hK hl h1 hd7
  · exact l2ex_1 n name args ih v0 v1 v2 v3 L B g d left w h hB hg hsz hK hl h1 hd7
  · exact l2ex_2 n name args ih v0 v1 v2 v3 L B g d left w h hB hg hsz hK hl h1 hd7
  · exact l2ex_3 n name args ih v0 v1 v2 v3 L B g d left w h hB hg hsz hK hl h1 hd7
  · exact l2ex_4 n name args ih v0 v1 v2 v3 L B g d left w h hB hg hsz hK hl h1 hd7
  · exact l2ex_5 n name args ih v0 v1 v2 v3 L B g d left w h hB hg hsz hK hl h1 hd7
  · exact l2ex_6 n name args ih v0 v1 v2 v3 L B g d left w h hB hg hsz hK hl h1 hd7
  · exact l2ex_7 n name args ih v0 v1 v2 v3 L B g d left w h hB hg hsz hK hl h1 hd7
  · exact l2ex_8 n name args ih v0 v1 v2 v3 L B g d left w h hB hg hsz hK hl h1 hd7
end Go.Proofs.Ytofnkhejpkfokaa
