/-
  A row of values that is handed in, opened.
-/
import Derived.Test.YtiofabnicdlceaaArnOpen
import Derived.Test.YtiofabnicdlceaaValsTo
namespace Go.Proofs.Ytiofabnicdlceaa
open Go.ChangeShapes Go.WideShapes Go.ChangeAt Go.RowKit
set_option linter.unusedVariables false
namespace ValOpen
open ArnOpen
section
variable {H : Type} {enc : TypeId × Value → H} {W : World}

/-- a slice of things of 3 cells -/
theorem trod_row3 {α : Type} {T TS : TypeId} {V : Value → Value → Value → α → Prop} (hTS : Try.prog.underlying TS = some (.slice T)) (hT : Try.prog.cellsOf T = 3)
    (hel : ∀ (q : Nat) (cs : List Value) (x : DataW H × List MemPlace), DataW.trod enc Try.prog W 0 (fun _ => true) true q T cs = some x → ∃ v0 v1 v2 e, cs = [v0, v1, v2] ∧ V v0 v1 v2 e)
    {n : Nat} {v : Value} {y : DataW H × List MemPlace} (h : DataW.trod enc Try.prog W 0 (fun _ => true) true n TS [v] = some y) :
    ∃ (A : Option Addr) (l : List α) (c : Nat), v = .slice A l.length c ∧ Row3 V W 0 W.heap.size A l ∧ l.length ≤ c := by
  rcases DataW.trod_slice hTS h with ⟨hn, _⟩ | ⟨a, len, cap, elems, rest, q, hq, hcs, _, _, hlc, hcm, hel', heach, _, _⟩
  · simp at hn
    subst hn
    exact ⟨none, [], 0, rfl, Row3.none_ _ _ _ _ _, Nat.le_refl _⟩
  · simp at hcs
    subst hcs
    have each : ∀ i, i < len → ∃ (e : α), (∃ v0 v1 v2, C3 W (a.add (i * 3)) v0 v1 v2 ∧ V v0 v1 v2 e) ∧ a.block < W.heap.size := by
      intro i hi
      have hb := heach i hi
      obtain ⟨z, ez⟩ := some_at hel' hi
      rw [hT, ez, Option.bind_eq_some_iff] at hb
      obtain ⟨cs', hc', ht'⟩ := hb
      obtain ⟨v0, v1, v2, e, rfl, hv⟩ := hel q cs' z ht'
      obtain ⟨_, _, hat⟩ := World.cells?_some hc'
      have g0 := hat 0 (by omega)
      have g1 := hat 1 (by omega)
      have g2 := hat 2 (by omega)
      rw [add_plain _ _ _ (by omega)] at g1 g2
      have g0' : W.cell? (a.add (i * 3)) = some v0 := by simpa [Addr.add] using g0
      exact ⟨e, ⟨v0, v1, v2, ⟨g0', g1, g2⟩, hv⟩, block_lt g0'⟩
    let f : Fin len → α := fun i => Classical.choose (each i.1 i.2)
    have hfl : (List.ofFn f).length = len := by simp
    refine ⟨some a, List.ofFn f, cap, by rw [hfl], ⟨by rw [hfl]; omega, fun hn => ?_⟩, by rw [hfl]; omega⟩
    rw [hfl] at hn
    refine ⟨a, rfl, Nat.zero_le _, ?_, fun i hi' => ?_⟩
    · obtain ⟨_, _, hb⟩ := each 0 hn
      exact hb
    · have hil : i < len := by rw [hfl] at hi'; exact hi'
      have hs := (Classical.choose_spec (each i hil)).1
      have hget : (List.ofFn f)[i] = f ⟨i, hil⟩ := by simp
      rw [hget]
      exact hs

end
theorem vals_el {H : Type} {enc : TypeId × Value → H} {W : World} (q : Nat) (cs : List Value) (x : DataW H × List MemPlace) (h : DataW.trod enc Try.prog W 0 (fun _ => true) true q 62 cs = some x) :
    ∃ v0 v1 v2 e, cs = [v0, v1, v2] ∧ VlV v0 v1 v2 e := by
  obtain ⟨k, n, g, e⟩ := trod_val h
  exact ⟨_, _, _, ⟨k, n, g⟩, e, rfl, rfl, rfl⟩
set_option maxRecDepth 100000 in
/-- A row of values that came in. -/
theorem open_vals {H : Type} {enc : TypeId × Value → H} {W : World} {base : Nat} {v : Value} {d : DataW H} {p : List MemPlace}
    (hval : Value.okWide Try.prog W .any base 26 v) (h : DataW.Trod enc Try.prog W 0 (fun _ => true) true 26 v d p) :
    ∃ (A : Option Addr) (l : List Vl) (c : Nat), v = .slice A l.length c ∧ VlR W 0 W.heap.size A l := by
  obtain ⟨a0, len0, cap0, rfl⟩ := okWide_slice Try.underlying26 hval
  obtain ⟨fuel, hf⟩ := h
  obtain ⟨A, l, c, e, hR, _⟩ := trod_row3 Try.underlying26 cellsVal vals_el hf
  exact ⟨A, l, c, e, hR⟩
end ValOpen
end Go.Proofs.Ytiofabnicdlceaa
