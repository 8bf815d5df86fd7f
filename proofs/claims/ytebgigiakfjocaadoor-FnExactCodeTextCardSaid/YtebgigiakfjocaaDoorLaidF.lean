/-
  The table of orders, out of what the card lists; a law's end where one variable is named.
-/
import Derived.Test.YtebgigiakfjocaaDoorOrdOk
import Derived.Test.YtebgigiakfjocaaDoorCodTxtI
import Derived.Test.YtebgigiakfjocaaDoorOpen
import Derived.OpenShut
import Derived.ChangeVars
namespace Go.Proofs.YtebgigiakfjocaaDoor
open Go.ChangeShapes Go.WideShapes Go.ChangeAt Go.RowKit
set_option linter.unusedVariables false
set_option linter.unusedSimpArgs false
namespace Cod

theorem gTab : Tryd.prog.globalNamed "loop.example/g00547/impl.orderForms" = some 1 := by kernel_rfl
theorem gTabType : (Tryd.prog.globals[1]?).map (·.type) = some 109 := by kernel_rfl
theorem cellsTab : Tryd.prog.cellsOf 109 = 75 := by kernel_rfl
theorem cellsForm : Tryd.prog.cellsOf 108 = 5 := by kernel_rfl
theorem cellsStr : Tryd.prog.cellsOf 9 = 1 := by kernel_rfl
theorem cellsWant : Tryd.prog.cellsOf 106 = 1 := by kernel_rfl
theorem cellsBoo : Tryd.prog.cellsOf 4 = 1 := by kernel_rfl

/-- the k-th row of the listed datum -/
def rowD (k : Nat) : DataW Unit := match (Rows.laid_loop_example_g00547_impl_orderForms : DataW Unit) with
  | .agg l => l.getD k .nil
  | _ => .nil
theorem rowD_is : ∀ k : Fin 15, rowD k.1 = .agg [.lit (.string (opW k.1)), .lit (.int .i64 (wA.getD k.1 0)), .lit (.int .i64 (wB.getD k.1 0)), .lit (.int .i64 (wC.getD k.1 0)), .lit (.bool (nmd k.1))]
  | ⟨0, _⟩ => rfl
  | ⟨1, _⟩ => rfl
  | ⟨2, _⟩ => rfl
  | ⟨3, _⟩ => rfl
  | ⟨4, _⟩ => rfl
  | ⟨5, _⟩ => rfl
  | ⟨6, _⟩ => rfl
  | ⟨7, _⟩ => rfl
  | ⟨8, _⟩ => rfl
  | ⟨9, _⟩ => rfl
  | ⟨10, _⟩ => rfl
  | ⟨11, _⟩ => rfl
  | ⟨12, _⟩ => rfl
  | ⟨13, _⟩ => rfl
  | ⟨14, _⟩ => rfl
theorem tie5 {α : Type} {l : List α} (h : l.length = 5) : ∃ a b c d e, l = [a, b, c, d, e] := by
  match l, h with
  | [a, b, c, d, e], _ => exact ⟨a, b, c, d, e, rfl⟩

/-- a row of the table that reads as listed holds what is listed -/
theorem form_cells {W : World} {fuel : Nat} {cs : List Value} {x : DataW Unit × List MemPlace} {k : Nat} (hk : k < 15)
    (h : DataW.trod (fun _ => ()) Tryd.prog W 0 (fun _ => true) false fuel 108 cs = some x) (hx : x.1 = rowD k) :
    cs = [.string ⟨(opW k).toArray⟩, .int .i64 (wA.getD k 0), .int .i64 (wB.getD k 0), .int .i64 (wC.getD k 0), .bool (nmd k)] := by
  have hs := rowD_is ⟨k, hk⟩
  rw [hs] at hx
  obtain ⟨xs, n, hf, hx2, hlen, hxl, hfs⟩ := DataW.trod_struct Tryd.underlying108 h
  rw [cellsForm] at hlen
  obtain ⟨v0, v1, v2, v3, v4, rfl⟩ := tie5 hlen
  have hxl' : xs.length = 5 := hxl
  obtain ⟨y0, y1, y2, y3, y4, rfl⟩ := tie5 hxl'
  rw [hx2] at hx
  simp only [List.map_cons, List.map_nil, DataW.agg.injEq, List.cons.injEq, and_true] at hx
  obtain ⟨e0, e1, e2, e3, e4⟩ := hx
  have t0 : DataW.trod (fun _ => ()) Tryd.prog W 0 (fun _ => true) false n 9 [v0] = some y0 := by
    have : DataW.trod (fun _ => ()) Tryd.prog W 0 (fun _ => true) false n 9 (([v0, v1, v2, v3, v4].drop 0).take (Tryd.prog.cellsOf 9)) = [y0, y1, y2, y3, y4][0]? := hfs 0 _ rfl
    rw [cellsStr] at this
    exact this
  have t1 : DataW.trod (fun _ => ()) Tryd.prog W 0 (fun _ => true) false n 106 [v1] = some y1 := by
    have : DataW.trod (fun _ => ()) Tryd.prog W 0 (fun _ => true) false n 106 (([v0, v1, v2, v3, v4].drop 1).take (Tryd.prog.cellsOf 106)) = [y0, y1, y2, y3, y4][1]? := hfs 1 _ rfl
    rw [cellsWant] at this
    exact this
  have t2 : DataW.trod (fun _ => ()) Tryd.prog W 0 (fun _ => true) false n 106 [v2] = some y2 := by
    have : DataW.trod (fun _ => ()) Tryd.prog W 0 (fun _ => true) false n 106 (([v0, v1, v2, v3, v4].drop 2).take (Tryd.prog.cellsOf 106)) = [y0, y1, y2, y3, y4][2]? := hfs 2 _ rfl
    rw [cellsWant] at this
    exact this
  have t3 : DataW.trod (fun _ => ()) Tryd.prog W 0 (fun _ => true) false n 106 [v3] = some y3 := by
    have : DataW.trod (fun _ => ()) Tryd.prog W 0 (fun _ => true) false n 106 (([v0, v1, v2, v3, v4].drop 3).take (Tryd.prog.cellsOf 106)) = [y0, y1, y2, y3, y4][3]? := hfs 3 _ rfl
    rw [cellsWant] at this
    exact this
  have t4 : DataW.trod (fun _ => ()) Tryd.prog W 0 (fun _ => true) false n 4 [v4] = some y4 := by
    have : DataW.trod (fun _ => ()) Tryd.prog W 0 (fun _ => true) false n 4 (([v0, v1, v2, v3, v4].drop 4).take (Tryd.prog.cellsOf 4)) = [y0, y1, y2, y3, y4][4]? := hfs 4 _ rfl
    rw [cellsBoo] at this
    exact this
  obtain ⟨s0, q0, rfl, hnp⟩ := DataW.trod_string Tryd.underlying9 t0
  obtain ⟨n1, q1, rfl, _⟩ := DataW.trod_int Tryd.underlying106 t1
  obtain ⟨n2, q2, rfl, _⟩ := DataW.trod_int Tryd.underlying106 t2
  obtain ⟨n3, q3, rfl, _⟩ := DataW.trod_int Tryd.underlying106 t3
  obtain ⟨b4, q4, rfl⟩ := DataW.trod_bool Tryd.underlying4 t4
  simp only [List.cons.injEq, and_true] at q0 q1 q2 q3 q4
  simp only [DataW.lit.injEq, Lit.int.injEq, Lit.bool.injEq, Lit.string.injEq, true_and] at e0 e1 e2 e3 e4
  subst q0 q1 q2 q3 q4
  have e0' : s0 = ⟨(opW k).toArray⟩ := by rw [← e0]
  rw [e0', e1, e2, e3, e4]

theorem both_of {W : World} (h : laidMet Tryd.prog [("loop.example/g00547/impl.orderForms", Rows.laid_loop_example_g00547_impl_orderForms)] W) : Forms W W.heap.size ∧ WordsF W W.heap.size := by
  obtain ⟨_, hv, _⟩ := h
  obtain ⟨g, t, cs, fuel, p, q, h1, h2, h3, h4, _⟩ := hv
  obtain rfl : g = 1 := (Option.some.inj (gTab.symm.trans h1)).symm
  obtain rfl : t = 109 := (Option.some.inj (gTabType.symm.trans h2)).symm
  obtain ⟨xs, m, hf, hx, hlen, hxl, hall⟩ := DataW.trod_array Tryd.underlying109 h4
  rw [cellsTab] at hlen
  rw [cellsForm] at hall
  have hblk : ∃ ty fr, W.heap[1]? = some (.cells cs ty fr) := by
    simp only [World.var?, h1, Option.bind_some] at h3
    split at h3
    · rename_i c ty fr hb
      simp only [Option.some.injEq] at h3
      subst h3
      exact ⟨ty, fr, hb⟩
    · cases h3
  obtain ⟨ty, fr, hb⟩ := hblk
  have hlt : 1 < W.heap.size := by
    rcases Nat.lt_or_ge 1 W.heap.size with h | h
    · exact h
    · rw [Array.getElem?_eq_none h] at hb
      cases hb
  suffices hall2 : ∀ k, k < 15 → W.cell? ⟨1, k * 5, none⟩ = some (.string ⟨(opW k).toArray⟩) ∧
      W.cell? ⟨1, k * 5 + 1, none⟩ = some (.int .i64 (wA.getD k 0)) ∧ W.cell? ⟨1, k * 5 + 2, none⟩ = some (.int .i64 (wB.getD k 0)) ∧
      W.cell? ⟨1, k * 5 + 3, none⟩ = some (.int .i64 (wC.getD k 0)) ∧ W.cell? ⟨1, k * 5 + 4, none⟩ = some (.bool (nmd k)) from
    ⟨⟨hlt, fun k hk => ⟨_, hall2 k hk⟩⟩, ⟨hlt, fun k hk => (hall2 k hk).1⟩⟩
  intro k hk
  obtain ⟨x, ex⟩ : ∃ x, xs[k]? = some x := ⟨xs[k]'(by omega), List.getElem?_eq_getElem (by omega)⟩
  have hk5 := hall k hk
  rw [ex] at hk5
  have hxk : x.1 = rowD k := by
    have hx' := congrArg Prod.fst hx
    have hr : (Rows.laid_loop_example_g00547_impl_orderForms : DataW Unit) = .agg (xs.map (·.1)) := hx'
    unfold rowD
    rw [hr]
    simp [ex]
  have hs := form_cells hk hk5 hxk
  have hc : ∀ i, i < 5 → cs[k * 5 + i]? = ([Value.string ⟨(opW k).toArray⟩, .int .i64 (wA.getD k 0), .int .i64 (wB.getD k 0), .int .i64 (wC.getD k 0), .bool (nmd k)] : List Value)[i]? := fun i hi => by
    rw [← hs, List.getElem?_take_of_lt hi, List.getElem?_drop]
    simp
  have hcell : ∀ i, W.cell? ⟨1, i, none⟩ = cs[i]? := fun i => by simp [World.cell?, hb]
  exact ⟨by rw [hcell]; exact hc 0 (by omega), by rw [hcell]; exact hc 1 (by omega), by rw [hcell]; exact hc 2 (by omega), by rw [hcell]; exact hc 3 (by omega), by rw [hcell]; exact hc 4 (by omega)⟩

end Cod
end Go.Proofs.YtebgigiakfjocaaDoor
