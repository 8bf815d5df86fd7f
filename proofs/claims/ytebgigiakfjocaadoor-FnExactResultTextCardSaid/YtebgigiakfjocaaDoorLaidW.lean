/-
  The table of codes' words, out of what the card lists.
-/
import Derived.Test.YtebgigiakfjocaaDoorCodeWd
import Derived.Test.YtebgigiakfjocaaDoorPostVar
namespace Go.Proofs.YtebgigiakfjocaaDoor
open Go.ChangeShapes Go.WideShapes Go.ChangeAt Go.RowKit
set_option linter.unusedVariables false
set_option linter.unusedSimpArgs false
namespace CodeWd

theorem gTab : Tryd.prog.globalNamed "loop.example/g00547/impl.codeWords" = some 0 := by kernel_rfl
theorem gTabType : (Tryd.prog.globals[0]?).map (·.type) = some 95 := by kernel_rfl
theorem cellsTab : Tryd.prog.cellsOf 95 = 6 := by kernel_rfl
theorem cellsStr : Tryd.prog.cellsOf 9 = 1 := by kernel_rfl
/-- the k-th word of the listed datum -/
def rowD (k : Nat) : DataW Unit := match (Rows.laid_loop_example_g00547_impl_codeWords : DataW Unit) with
  | .agg l => l.getD k .nil
  | _ => .nil
theorem rowD_is : ∀ k : Fin 6, rowD k.1 = .lit (.string (wd k.1))
  | ⟨0, _⟩ => rfl
  | ⟨1, _⟩ => rfl
  | ⟨2, _⟩ => rfl
  | ⟨3, _⟩ => rfl
  | ⟨4, _⟩ => rfl
  | ⟨5, _⟩ => rfl

theorem words_of {W : World} (h : laidMet Tryd.prog [("loop.example/g00547/impl.codeWords", Rows.laid_loop_example_g00547_impl_codeWords)] W) : Words W W.heap.size := by
  obtain ⟨_, hv, _⟩ := h
  obtain ⟨g, t, cs, fuel, p, q, h1, h2, h3, h4, _⟩ := hv
  obtain rfl : g = 0 := (Option.some.inj (gTab.symm.trans h1)).symm
  obtain rfl : t = 95 := (Option.some.inj (gTabType.symm.trans h2)).symm
  obtain ⟨xs, m, hf, hx, hlen, hxl, hall⟩ := DataW.trod_array Tryd.underlying95 h4
  rw [cellsTab] at hlen
  rw [cellsStr] at hall
  have hblk : ∃ ty fr, W.heap[0]? = some (.cells cs ty fr) := by
    simp only [World.var?, h1, Option.bind_some] at h3
    split at h3
    · rename_i c ty fr hb
      simp only [Option.some.injEq] at h3
      subst h3
      exact ⟨ty, fr, hb⟩
    · cases h3
  obtain ⟨ty, fr, hb⟩ := hblk
  have hlt : 0 < W.heap.size := by
    rcases Nat.lt_or_ge 0 W.heap.size with h | h
    · exact h
    · rw [Array.getElem?_eq_none h] at hb
      cases hb
  refine ⟨hlt, fun k hk => ?_⟩
  obtain ⟨x, ex⟩ : ∃ x, xs[k]? = some x := ⟨xs[k]'(by omega), List.getElem?_eq_getElem (by omega)⟩
  have hk5 := hall k hk
  rw [ex] at hk5
  have hxk : x.1 = rowD k := by
    have hx' := congrArg Prod.fst hx
    have hr : (Rows.laid_loop_example_g00547_impl_codeWords : DataW Unit) = .agg (xs.map (·.1)) := hx'
    unfold rowD
    rw [hr]
    simp [ex]
  have hcs : cs.size = 6 := by simpa using hlen
  have hone : ∃ v, cs[k]? = some v := ⟨cs[k]'(by omega), Array.getElem?_eq_getElem (by omega)⟩
  obtain ⟨v, hv⟩ := hone
  have hv1 : ((cs.toList.drop (k * 1)).take 1) = [v] := by
    have h0 : (cs.toList.drop (k * 1))[0]? = some v := by rw [List.getElem?_drop]; simpa using hv
    match hd : cs.toList.drop (k * 1), h0 with
    | a :: r, h0 => simp at h0; subst h0; rfl
  rw [hv1] at hk5
  obtain ⟨s, e1, e2, _⟩ := DataW.trod_string Tryd.underlying9 hk5
  rw [rowD_is ⟨k, hk⟩] at hxk
  have hcell : W.cell? ⟨0, k, none⟩ = cs[k]? := by simp [World.cell?, hb]
  rw [hcell, hv]
  simp only [List.cons.injEq, and_true] at e1
  rw [e2] at hxk
  simp only [DataW.lit.injEq, Lit.string.injEq] at hxk
  rw [e1, ← hxk]
end CodeWd
end Go.Proofs.YtebgigiakfjocaaDoor
