/-
  How many numbers a program's mark writes, against the laws' own size.
-/
import Derived.Test.YtmejbmfopdfbjaaOwnMark
namespace Go.Proofs.Ytmejbmfopdfbjaa
open Go.RowKit Go.Shelf
set_option linter.unusedVariables false

mutual
theorem mkEx_sz : ∀ e : Ex, mkEx e ≤ 2 + 2 * exSz e
  | .mk k n name args => by
    have h := mkExs_sz args
    rw [mkEx, exSz]
    omega
theorem mkExs_sz : ∀ l : List Ex, mkExs l ≤ 2 * exsSz l
  | [] => by rw [mkExs, exsSz]; omega
  | e :: r => by
    have h1 := mkEx_sz e
    have h2 := mkExs_sz r
    rw [mkExs, exsSz]
    omega
end
mutual
theorem mkSt_sz : ∀ s : St, mkSt s ≤ 5 + 5 * stSz s
  | .mk k name e f body els => by
    have h1 := mkEx_sz e
    have h2 := mkEx_sz f
    have h3 := mkSts_sz body
    have h4 := mkSts_sz els
    rw [mkSt, stSz]
    omega
theorem mkSts_sz : ∀ l : List St, mkSts l ≤ 5 * stsSz l
  | [] => by rw [mkSts, stsSz]; omega
  | e :: r => by
    have h1 := mkSt_sz e
    have h2 := mkSts_sz r
    rw [mkSts, stsSz]
    omega
end
theorem bsIn_all (l : List (List UInt8)) : bsIn l l.length = mkBs l := by unfold bsIn mkBs; rw [List.take_length]
theorem mkBs_sz (l : List (List UInt8)) : mkBs l ≤ bsSz l := by unfold bsSz; rw [bsIn_all]; omega
theorem mkFn_sz (f : Fn) : mkFn f ≤ 5 * fnSz f := by
  have h1 := mkBs_sz f.params
  have h2 := mkSts_sz f.body
  unfold mkFn fnSz
  omega
theorem fnsIn_all (l : List Fn) : fnsIn l l.length = (l.map fnSz).sum := by unfold fnsIn; rw [List.take_length]
theorem mkFns_sz (l : List Fn) : mkFns l ≤ 5 * fnsSz l := by
  have h : ∀ l : List Fn, (l.map mkFn).sum ≤ 5 * (l.map fnSz).sum := fun l => by
    induction l with
    | nil => simp
    | cons f r ih =>
      have := mkFn_sz f
      simp only [List.map_cons, List.sum_cons]
      omega
  have := h l
  unfold mkFns fnsSz
  rw [fnsIn_all]
  omega
end Go.Proofs.Ytmejbmfopdfbjaa
