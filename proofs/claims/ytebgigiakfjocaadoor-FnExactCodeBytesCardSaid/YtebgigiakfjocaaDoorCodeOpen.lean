/-
  A code that is handed in, opened.
-/
import Derived.Test.YtebgigiakfjocaaDoorUnitOpen
import Derived.Test.YtebgigiakfjocaaDoorOpen
import Derived.Deep.RegionWith
namespace Go.Proofs.YtebgigiakfjocaaDoor
open Go.ChangeShapes Go.WideShapes Go.ChangeAt Go.RowKit
set_option linter.unusedVariables false
namespace CodOpen

theorem cellsUnS : Tryd.prog.cellsOf 49 = 1 := by kernel_rfl
theorem cellsCo : Tryd.prog.cellsOf 51 = 1 := by kernel_rfl

set_option maxRecDepth 100000 in
/-- A code that came in. -/
theorem open_code {H : Type} {enc : TypeId × Value → H} {W : World} {base : Nat} {v : Value} {d : DataW H} {p : List MemPlace}
    (hval : Value.okWide Tryd.prog W .any base 51 v) (h : DataW.Trod enc Tryd.prog W 0 (fun _ => true) true 51 v d p) :
    ∃ (A : Option Addr) (l : List Un) (c : Nat), v = .agg #[.slice A l.length c] ∧ UnL W 0 W.heap.size A l := by
  obtain ⟨cs, rfl, hsz⟩ := okWide_struct Tryd.underlying51 hval
  obtain ⟨fuel, hf⟩ := h
  obtain ⟨xs, n, _, hx, hlen, hxl, hfs⟩ := DataW.trod_struct Tryd.underlying51 hf
  rw [cellsCo] at hlen
  obtain ⟨l⟩ := cs
  have hlen' : l.length = 1 := hlen
  obtain ⟨v0, rfl⟩ := list1 hlen'
  have hxl' : xs.length = 1 := hxl
  obtain ⟨y0, e0⟩ := some_at hxl' (i := 0) (by omega)
  have t0 : DataW.trod enc Tryd.prog W 0 (fun _ => true) true n 49 [v0] = some y0 := by
    have : DataW.trod enc Tryd.prog W 0 (fun _ => true) true n 49 (([v0].drop 0).take (Tryd.prog.cellsOf 49)) = xs[0]? := hfs 0 _ rfl
    rw [e0, cellsUnS] at this
    exact this
  obtain ⟨A, S, c, rfl, hS, _⟩ := trod_row3 Tryd.underlying49 cellsUn trod_un t0
  exact ⟨A, S, c, rfl, hS⟩
end CodOpen
end Go.Proofs.YtebgigiakfjocaaDoor
