/-
  A law's end where one variable is named.
-/
import Derived.Test.YtebgigiakfjocaaDoorOpen
import Derived.OpenShut
import Derived.ChangeVars
namespace Go.Proofs.YtebgigiakfjocaaDoor
open Go.ChangeShapes Go.WideShapes Go.ChangeAt Go.RowKit
set_option linter.unusedVariables false
set_option linter.unusedSimpArgs false
namespace PV
section
variable {H : Type} {enc : TypeId × Value → H} {P : Program}
theorem var_stays {n : String} {g : Nat} {t : TypeId} {W W' : World} {gs : List (DataW H)} {q : List MemPlace} (hl : laidOutB P = true) (hb : Below W.heap.size W W') (hg : P.globalNamed n = some g) (ht : (P.globals[g]?).map (·.type) = some t)
    (hr : P.readableRec t = true) (hrow : t < P.types.size) (h : DataW.TrodVars enc P W (fun _ => true) [n] gs q) (hlt : ∀ x ∈ q, x.block < W.heap.size) : DataW.TrodVars enc P W' (fun b => decide (b < W.heap.size)) [n] gs q := by
  obtain ⟨g', t', cs, fuel, d, p, rfl, h1, h2, h3, h4, rfl⟩ := trodVars_one h
  obtain rfl : g' = g := Option.some.inj (h1.symm.trans hg)
  obtain rfl : t' = t := Option.some.inj (h2.symm.trans ht)
  obtain ⟨fuel', h4'⟩ := Below.trod hl hr hrow (v := .agg cs) ⟨fuel, h4⟩ hb (fun x hx => hlt x (List.mem_append_right _ hx))
  have h3' : W'.var? P n = some cs := by
    simp only [World.var?, h1, Option.bind_some] at h3 ⊢
    split at h3
    · rename_i c ty fr hbk
      have hlt' : g' < W.heap.size := by
        rcases Nat.lt_or_ge g' W.heap.size with h | h
        · exact h
        · rw [Array.getElem?_eq_none h] at hbk
          cases hbk
      rw [hb.block g' hlt', hbk]
      exact h3
    · cases h3
  exact trodVars_mk1 h1 h2 h3' h4'
theorem post_var {f : Func} {s : ChangeSpec} {W W' : World} {args : Array Value} {ds gs : List (DataW H)} {before : List MemPlace} {tb : TypeId} {n : String} {g : Nat} {t : TypeId}
    (hW : DataW.Whole enc P f.params.toList s.vars false W args.toList ds gs before) (hv : s.vars = [n]) (hg : P.globalNamed n = some g) (ht : (P.globals[g]?).map (·.type) = some t)
    (hrv : P.readableRec t = true) (hrow : t < P.types.size)
    (hres : (s.fn H (ds ++ gs)).results = [.lit (.bool true)]) (hargs : (s.fn H (ds ++ gs)).args = ds) (hvars : (s.fn H (ds ++ gs)).vars = gs)
    (hr : f.resultTypes = #[tb]) (htb : P.underlying tb = some .bool) (hl : laidOutB P = true)
    (hread : f.params.toList.all (fun t => P.readableRec t && decide (t < P.types.size)) = true) (hb : Below W.heap.size W W') :
    s.post enc P f false true false false W args (.bool true) W' := by
  have hW' := hW
  obtain ⟨p, q, hA, hV, rfl, _, _⟩ := hW
  have hlt : ∀ x ∈ p ++ q, x.block < W.heap.size := fun x hx => hW'.lt x hx
  refine ⟨ds, gs, p ++ q, [], p, q, hW', ?_, ?_, ?_, ?_, fun h => by cases h⟩
  · rw [hres, hr]
    exact trodAll_cons_mk (shut_bool htb _) trodAll_mk0
  · rw [hargs]
    exact trodAll_below hl hb hread hA (fun x hx => hlt x (List.mem_append_left _ hx))
  · rw [hvars]
    rw [hv] at hV ⊢
    exact var_stays hl hb hg ht hrv hrow hV (fun x hx => hlt x (List.mem_append_right _ hx))
  · exact World.keptBut_mono (fun x hx => ⟨hx, by
      rcases List.mem_append.1 hx with h | h
      · exact Or.inr (Or.inl h)
      · exact Or.inr (Or.inr h)⟩) (hb.frame _)
end
end PV
end Go.Proofs.YtebgigiakfjocaaDoor
