/-
  The table of orders, out of what the card lists; a law's end where one variable is named.
-/
import Derived.Test.YtebgigiakfjocaaDoorOrdOk
import Derived.Test.YtebgigiakfjocaaDoorOpen
import Derived.OpenShut
import Derived.ChangeVars
namespace Go.Proofs.YtebgigiakfjocaaDoor
open Go.ChangeShapes Go.WideShapes Go.ChangeAt Go.RowKit
set_option linter.unusedVariables false
set_option linter.unusedSimpArgs false
namespace Cod

theorem gTab : Tryd.prog.globalNamed "loop.example/g00547/impl.orderForms" = some 1 := by kernel_rfl
theorem gTabType : (Tryd.prog.globals[1]?).map (·.type) = some 109 := by kernel_rfl
theorem cellsTab : Tryd.prog.cellsOf 109 = 75 := by kernel_rfl
theorem cellsForm : Tryd.prog.cellsOf 108 = 5 := by kernel_rfl
theorem cellsStr : Tryd.prog.cellsOf 9 = 1 := by kernel_rfl
theorem cellsWant : Tryd.prog.cellsOf 106 = 1 := by kernel_rfl
theorem cellsBoo : Tryd.prog.cellsOf 4 = 1 := by kernel_rfl

/-- the k-th row of the listed datum -/
def rowD (k : Nat) : DataW Unit := match (Rows.laid_loop_example_g00547_impl_orderForms : DataW Unit) with
  | .agg l => l.getD k .nil
  | _ => .nil
theorem rowD_is : ∀ k : Fin 15, ∃ s : List UInt8, rowD k.1 = .agg [.lit (.string s), .lit (.int .i64 (wA.getD k.1 0)), .lit (.int .i64 (wB.getD k.1 0)), .lit (.int .i64 (wC.getD k.1 0)), .lit (.bool (nmd k.1))]
  | ⟨0, _⟩ => ⟨_, rfl⟩
  | ⟨1, _⟩ => ⟨_, rfl⟩
  | ⟨2, _⟩ => ⟨_, rfl⟩
  | ⟨3, _⟩ => ⟨_, rfl⟩
  | ⟨4, _⟩ => ⟨_, rfl⟩
  | ⟨5, _⟩ => ⟨_, rfl⟩
  | ⟨6, _⟩ => ⟨_, rfl⟩
  | ⟨7, _⟩ => ⟨_, rfl⟩
  | ⟨8, _⟩ => ⟨_, rfl⟩
  | ⟨9, _⟩ => ⟨_, rfl⟩
  | ⟨10, _⟩ => ⟨_, rfl⟩
  | ⟨11, _⟩ => ⟨_, rfl⟩
  | ⟨12, _⟩ => ⟨_, rfl⟩
  | ⟨13, _⟩ => ⟨_, rfl⟩
  | ⟨14, _⟩ => ⟨_, rfl⟩
theorem tie5 {α : Type} {l : List α} (h : l.length = 5) : ∃ a b c d e, l = [a, b, c, d, e] := by
  match l, h with
  | [a, b, c, d, e], _ => exact ⟨a, b, c, d, e, rfl⟩

/-- a row of the table that reads as listed holds what is listed -/
theorem form_cells {W : World} {fuel : Nat} {cs : List Value} {x : DataW Unit × List MemPlace} {k : Nat} (hk : k < 15)
    (h : DataW.trod (fun _ => ()) Tryd.prog W 0 (fun _ => true) false fuel 108 cs = some x) (hx : x.1 = rowD k) :
    ∃ s : ByteArray, cs = [.string s, .int .i64 (wA.getD k 0), .int .i64 (wB.getD k 0), .int .i64 (wC.getD k 0), .bool (nmd k)] := by
  obtain ⟨s, hs⟩ := rowD_is ⟨k, hk⟩
  rw [hs] at hx
  obtain ⟨xs, n, hf, hx2, hlen, hxl, hfs⟩ := DataW.trod_struct Tryd.underlying108 h
  rw [cellsForm] at hlen
  obtain ⟨v0, v1, v2, v3, v4, rfl⟩ := tie5 hlen
  have hxl' : xs.length = 5 := hxl
  obtain ⟨y0, y1, y2, y3, y4, rfl⟩ := tie5 hxl'
  rw [hx2] at hx
  simp only [List.map_cons, List.map_nil, DataW.agg.injEq, List.cons.injEq, and_true] at hx
  obtain ⟨e0, e1, e2, e3, e4⟩ := hx
  have t0 : DataW.trod (fun _ => ()) Tryd.prog W 0 (fun _ => true) false n 9 [v0] = some y0 := by
    have : DataW.trod (fun _ => ()) Tryd.prog W 0 (fun _ => true) false n 9 (([v0, v1, v2, v3, v4].drop 0).take (Tryd.prog.cellsOf 9)) = [y0, y1, y2, y3, y4][0]? := hfs 0 _ rfl
    rw [cellsStr] at this
    exact this
  have t1 : DataW.trod (fun _ => ()) Tryd.prog W 0 (fun _ => true) false n 106 [v1] = some y1 := by
    have : DataW.trod (fun _ => ()) Tryd.prog W 0 (fun _ => true) false n 106 (([v0, v1, v2, v3, v4].drop 1).take (Tryd.prog.cellsOf 106)) = [y0, y1, y2, y3, y4][1]? := hfs 1 _ rfl
    rw [cellsWant] at this
    exact this
  have t2 : DataW.trod (fun _ => ()) Tryd.prog W 0 (fun _ => true) false n 106 [v2] = some y2 := by
    have : DataW.trod (fun _ => ()) Tryd.prog W 0 (fun _ => true) false n 106 (([v0, v1, v2, v3, v4].drop 2).take (Tryd.prog.cellsOf 106)) = [y0, y1, y2, y3, y4][2]? := hfs 2 _ rfl
    rw [cellsWant] at this
    exact this
  have t3 : DataW.trod (fun _ => ()) Tryd.prog W 0 (fun _ => true) false n 106 [v3] = some y3 := by
    have : DataW.trod (fun _ => ()) Tryd.prog W 0 (fun _ => true) false n 106 (([v0, v1, v2, v3, v4].drop 3).take (Tryd.prog.cellsOf 106)) = [y0, y1, y2, y3, y4][3]? := hfs 3 _ rfl
    rw [cellsWant] at this
    exact this
  have t4 : DataW.trod (fun _ => ()) Tryd.prog W 0 (fun _ => true) false n 4 [v4] = some y4 := by
    have : DataW.trod (fun _ => ()) Tryd.prog W 0 (fun _ => true) false n 4 (([v0, v1, v2, v3, v4].drop 4).take (Tryd.prog.cellsOf 4)) = [y0, y1, y2, y3, y4][4]? := hfs 4 _ rfl
    rw [cellsBoo] at this
    exact this
  obtain ⟨s0, q0, rfl, _⟩ := DataW.trod_string Tryd.underlying9 t0
  obtain ⟨n1, q1, rfl, _⟩ := DataW.trod_int Tryd.underlying106 t1
  obtain ⟨n2, q2, rfl, _⟩ := DataW.trod_int Tryd.underlying106 t2
  obtain ⟨n3, q3, rfl, _⟩ := DataW.trod_int Tryd.underlying106 t3
  obtain ⟨b4, q4, rfl⟩ := DataW.trod_bool Tryd.underlying4 t4
  simp only [List.cons.injEq, and_true] at q0 q1 q2 q3 q4
  simp only [DataW.lit.injEq, Lit.int.injEq, Lit.bool.injEq, true_and] at e1 e2 e3 e4
  subst q0 q1 q2 q3 q4
  exact ⟨s0, by rw [e1, e2, e3, e4]⟩

theorem forms_of {W : World} (h : laidMet Tryd.prog [("loop.example/g00547/impl.orderForms", Rows.laid_loop_example_g00547_impl_orderForms)] W) : Forms W W.heap.size := by
  obtain ⟨_, hv, _⟩ := h
  obtain ⟨g, t, cs, fuel, p, q, h1, h2, h3, h4, _⟩ := hv
  obtain rfl : g = 1 := (Option.some.inj (gTab.symm.trans h1)).symm
  obtain rfl : t = 109 := (Option.some.inj (gTabType.symm.trans h2)).symm
  obtain ⟨xs, m, hf, hx, hlen, hxl, hall⟩ := DataW.trod_array Tryd.underlying109 h4
  rw [cellsTab] at hlen
  rw [cellsForm] at hall
  have hblk : ∃ ty fr, W.heap[1]? = some (.cells cs ty fr) := by
    simp only [World.var?, h1, Option.bind_some] at h3
    split at h3
    · rename_i c ty fr hb
      simp only [Option.some.injEq] at h3
      subst h3
      exact ⟨ty, fr, hb⟩
    · cases h3
  obtain ⟨ty, fr, hb⟩ := hblk
  have hlt : 1 < W.heap.size := by
    rcases Nat.lt_or_ge 1 W.heap.size with h | h
    · exact h
    · rw [Array.getElem?_eq_none h] at hb
      cases hb
  refine ⟨hlt, fun k hk => ?_⟩
  obtain ⟨x, ex⟩ : ∃ x, xs[k]? = some x := ⟨xs[k]'(by omega), List.getElem?_eq_getElem (by omega)⟩
  have hk5 := hall k hk
  rw [ex] at hk5
  have hxk : x.1 = rowD k := by
    have hx' := congrArg Prod.fst hx
    have hr : (Rows.laid_loop_example_g00547_impl_orderForms : DataW Unit) = .agg (xs.map (·.1)) := hx'
    unfold rowD
    rw [hr]
    simp [ex]
  obtain ⟨s, hs⟩ := form_cells hk hk5 hxk
  have hc : ∀ i, i < 5 → cs[k * 5 + i]? = ([Value.string s, .int .i64 (wA.getD k 0), .int .i64 (wB.getD k 0), .int .i64 (wC.getD k 0), .bool (nmd k)] : List Value)[i]? := fun i hi => by
    rw [← hs, List.getElem?_take_of_lt hi, List.getElem?_drop]
    simp
  have hcell : ∀ i, W.cell? ⟨1, i, none⟩ = cs[i]? := fun i => by simp [World.cell?, hb]
  exact ⟨s, by rw [hcell]; exact hc 0 (by omega), by rw [hcell]; exact hc 1 (by omega), by rw [hcell]; exact hc 2 (by omega), by rw [hcell]; exact hc 3 (by omega), by rw [hcell]; exact hc 4 (by omega)⟩

section
variable {H : Type} {enc : TypeId × Value → H} {P : Program}
theorem var_stays {n : String} {g : Nat} {t : TypeId} {W W' : World} {gs : List (DataW H)} {q : List MemPlace} (hl : laidOutB P = true) (hb : Below W.heap.size W W') (hg : P.globalNamed n = some g) (ht : (P.globals[g]?).map (·.type) = some t)
    (hr : P.readableRec t = true) (hrow : t < P.types.size) (h : DataW.TrodVars enc P W (fun _ => true) [n] gs q) (hlt : ∀ x ∈ q, x.block < W.heap.size) : DataW.TrodVars enc P W' (fun b => decide (b < W.heap.size)) [n] gs q := by
  obtain ⟨g', t', cs, fuel, d, p, rfl, h1, h2, h3, h4, rfl⟩ := trodVars_one h
  obtain rfl : g' = g := Option.some.inj (h1.symm.trans hg)
  obtain rfl : t' = t := Option.some.inj (h2.symm.trans ht)
  obtain ⟨fuel', h4'⟩ := Below.trod hl hr hrow (v := .agg cs) ⟨fuel, h4⟩ hb (fun x hx => hlt x (List.mem_append_right _ hx))
  have h3' : W'.var? P n = some cs := by
    simp only [World.var?, h1, Option.bind_some] at h3 ⊢
    split at h3
    · rename_i c ty fr hbk
      have hlt' : g' < W.heap.size := by
        rcases Nat.lt_or_ge g' W.heap.size with h | h
        · exact h
        · rw [Array.getElem?_eq_none h] at hbk
          cases hbk
      rw [hb.block g' hlt', hbk]
      exact h3
    · cases h3
  exact trodVars_mk1 h1 h2 h3' h4'
theorem post_var {f : Func} {s : ChangeSpec} {W W' : World} {args : Array Value} {ds gs : List (DataW H)} {before : List MemPlace} {tb : TypeId} {n : String} {g : Nat} {t : TypeId}
    (hW : DataW.Whole enc P f.params.toList s.vars false W args.toList ds gs before) (hv : s.vars = [n]) (hg : P.globalNamed n = some g) (ht : (P.globals[g]?).map (·.type) = some t)
    (hrv : P.readableRec t = true) (hrow : t < P.types.size)
    (hres : (s.fn H (ds ++ gs)).results = [.lit (.bool true)]) (hargs : (s.fn H (ds ++ gs)).args = ds) (hvars : (s.fn H (ds ++ gs)).vars = gs)
    (hr : f.resultTypes = #[tb]) (htb : P.underlying tb = some .bool) (hl : laidOutB P = true)
    (hread : f.params.toList.all (fun t => P.readableRec t && decide (t < P.types.size)) = true) (hb : Below W.heap.size W W') :
    s.post enc P f false true false false W args (.bool true) W' := by
  have hW' := hW
  obtain ⟨p, q, hA, hV, rfl, _, _⟩ := hW
  have hlt : ∀ x ∈ p ++ q, x.block < W.heap.size := fun x hx => hW'.lt x hx
  refine ⟨ds, gs, p ++ q, [], p, q, hW', ?_, ?_, ?_, ?_, fun h => by cases h⟩
  · rw [hres, hr]
    exact trodAll_cons_mk (shut_bool htb _) trodAll_mk0
  · rw [hargs]
    exact trodAll_below hl hb hread hA (fun x hx => hlt x (List.mem_append_left _ hx))
  · rw [hvars]
    rw [hv] at hV ⊢
    exact var_stays hl hb hg ht hrv hrow hV (fun x hx => hlt x (List.mem_append_right _ hx))
  · exact World.keptBut_mono (fun x hx => ⟨hx, by
      rcases List.mem_append.1 hx with h | h
      · exact Or.inr (Or.inl h)
      · exact Or.inr (Or.inr h)⟩) (hb.frame _)
end
end Cod
end Go.Proofs.YtebgigiakfjocaaDoor
