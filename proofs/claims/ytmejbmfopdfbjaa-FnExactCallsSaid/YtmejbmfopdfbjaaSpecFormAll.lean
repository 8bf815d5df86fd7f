/-
  The model's FormOk, whole.
-/
import Derived.Test.YtmejbmfopdfbjaaSpecExK3
import Derived.Test.YtmejbmfopdfbjaaSpecExK2
import Derived.Test.YtmejbmfopdfbjaaStParts
import Derived.Test.YtmejbmfopdfbjaaSpecStK1
import Derived.Test.YtmejbmfopdfbjaaSpecStK2
import Derived.Test.YtmejbmfopdfbjaaSpecForm
namespace Go.Proofs.Ytmejbmfopdfbjaa
open Go.RowKit
set_option linter.unusedVariables false

theorem specEx_c (e : Ex) : SpEx e := by
  refine Ex.ind (P := SpEx) ?_ e
  intro k n name args ih v0 v1 v2 v3 L B g d left w h hB hg hsz hK h0 h1 hd
  by_cases hno : left < 1 ∨ 7 < d ∨ k < 0 ∨ 8 < k
  · exact l2ex_early k n name args v0 v1 v2 v3 L B g d left w h hB hg hK h0 h1 hd hno
  have hl : 1 ≤ left := by omega
  have hd7 : d ≤ 7 := by omega
  have hks : k = 0 ∨ k = 1 ∨ k = 2 ∨ k = 3 ∨ k = 4 ∨ k = 5 ∨ k = 6 ∨ k = 7 ∨ k = 8 := by omega
  rcases hks with rfl | rfl | rfl | rfl | rfl | rfl | rfl | rfl | rfl
  · exact l2ex_0 n name args ih v0 v1 v2 v3 L B g d left w h hB hg hsz hK hl h1 hd7
  · exact l2ex_1 n name args ih v0 v1 v2 v3 L B g d left w h hB hg hsz hK hl h1 hd7
  · exact l2ex_2 n name args ih v0 v1 v2 v3 L B g d left w h hB hg hsz hK hl h1 hd7
  · exact l2ex_3 n name args ih v0 v1 v2 v3 L B g d left w h hB hg hsz hK hl h1 hd7
  · exact l2ex_4 n name args ih v0 v1 v2 v3 L B g d left w h hB hg hsz hK hl h1 hd7
  · exact l2ex_5 n name args ih v0 v1 v2 v3 L B g d left w h hB hg hsz hK hl h1 hd7
  · exact l2ex_6 n name args ih v0 v1 v2 v3 L B g d left w h hB hg hsz hK hl h1 hd7
  · exact l2ex_7 n name args ih v0 v1 v2 v3 L B g d left w h hB hg hsz hK hl h1 hd7
  · exact l2ex_8 n name args ih v0 v1 v2 v3 L B g d left w h hB hg hsz hK hl h1 hd7
end Go.Proofs.Ytmejbmfopdfbjaa

namespace Go.Proofs.Ytmejbmfopdfbjaa
open Go.RowKit
set_option linter.unusedVariables false

theorem specSt_c (s : St) : SpSt s := by
  refine St.ind (P := SpSt) ?_ s
  intro k name e f body els ih1 ih2 vs L B g d left w h hB hg hsz hK h0 h1 hd
  by_cases hno : left < 1 ∨ 7 < d ∨ k < 0 ∨ 7 < k
  · exact l2st_early k name e f body els vs L B g d left w h hB hg hK h0 h1 hd hno
  have hl : 1 ≤ left := by omega
  have hd7 : d ≤ 7 := by omega
  have hks : k = 0 ∨ k = 1 ∨ k = 2 ∨ k = 3 ∨ k = 4 ∨ k = 5 ∨ k = 6 ∨ k = 7 := by omega
  rcases hks with rfl | rfl | rfl | rfl | rfl | rfl | rfl | rfl
  · exact l2st_0 name e f body els (specEx_c e) (specEx_c f) (specSts_of body ih1) (specSts_of els ih2) vs L B g d left w h hB hg hsz hK hl h1 hd7
  · exact l2st_1 name e f body els (specEx_c e) (specEx_c f) (specSts_of body ih1) (specSts_of els ih2) vs L B g d left w h hB hg hsz hK hl h1 hd7
  · exact l2st_2 name e f body els (specEx_c e) (specEx_c f) (specSts_of body ih1) (specSts_of els ih2) vs L B g d left w h hB hg hsz hK hl h1 hd7
  · exact l2st_3 name e f body els (specEx_c e) (specEx_c f) (specSts_of body ih1) (specSts_of els ih2) vs L B g d left w h hB hg hsz hK hl h1 hd7
  · exact l2st_4 name e f body els (specEx_c e) (specEx_c f) (specSts_of body ih1) (specSts_of els ih2) vs L B g d left w h hB hg hsz hK hl h1 hd7
  · exact l2st_5 name e f body els (specEx_c e) (specEx_c f) (specSts_of body ih1) (specSts_of els ih2) vs L B g d left w h hB hg hsz hK hl h1 hd7
  · exact l2st_6 name e f body els (specEx_c e) (specEx_c f) (specSts_of body ih1) (specSts_of els ih2) vs L B g d left w h hB hg hsz hK hl h1 hd7
  · exact l2st_7 name e f body els (specEx_c e) (specEx_c f) (specSts_of body ih1) (specSts_of els ih2) vs L B g d left w h hB hg hsz hK hl h1 hd7
theorem specSts_c (l : List St) : SpSts l := specSts_of l fun s _ => specSt_c s
theorem specFormOk_c (l : List Fn) (A : Option Addr) (cp L B : Nat) (w : World) (hB : B ≤ w.heap.size) (hsz : fnsSz l ≤ 1048576) (h : FnL w L B A l) :
    Calls Try.prog 73 #[.agg #[.slice A l.length cp]] w fun r w' => r = .returned (.bool (formOk l)) ∧ Below w.heap.size w w' :=
  specFormOk_of l (fun f _ => specSts_c f.body) A cp L B w hB hsz h
end Go.Proofs.Ytmejbmfopdfbjaa
