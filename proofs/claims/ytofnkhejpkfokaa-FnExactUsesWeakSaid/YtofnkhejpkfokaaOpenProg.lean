/-
  Programs that came in: from a reading to what the walks ask for.
-/
import Derived.Test.YtofnkhejpkfokaaOpenSt
import Derived.Deep.RegionWith
namespace Go.Proofs.Ytofnkhejpkfokaa
open Go.ChangeShapes Go.WideShapes Go.ChangeAt Go.RowKit
set_option linter.unusedVariables false

theorem cellsFnS : Try.prog.cellsOf 22 = 1 := by kernel_rfl
theorem cellsPr : Try.prog.cellsOf 24 = 1 := by kernel_rfl

theorem trod_bss {H : Type} {enc : TypeId × Value → H} {W : World} {n : Nat} {v : Value} {y : DataW H × List MemPlace}
    (h : DataW.trod enc Try.prog W 0 (fun _ => true) true n 41 [v] = some y) : ∃ (A : Option Addr) (l : List (List UInt8)) (c : Nat), v = .slice A l.length c ∧ BsL W 0 W.heap.size A l := by
  rcases DataW.trod_slice Try.underlying41 h with ⟨hn, _⟩ | ⟨a, len, cap, elems, rest, q, hq, hcs, _, _, hlc, hcm, hel, heach, _, _⟩
  · simp at hn
    subst hn
    exact ⟨none, [], 0, rfl, Nat.zero_le _, fun h => by simp at h⟩
  · simp at hcs
    subst hcs
    have each : ∀ i, i < len → ∃ (l : List UInt8), (∃ (A : Option Addr) (c : Nat), W.cell? (a.add i) = some (.slice A l.length c) ∧ RBL W 0 W.heap.size A l ∧ l.length ≤ maxLen) ∧ a.block < W.heap.size := by
      intro i hi
      have hb := heach i hi
      obtain ⟨z, ez⟩ := some_at hel hi
      rw [cellsBs, ez, Nat.mul_one, Option.bind_eq_some_iff] at hb
      obtain ⟨cs', hc', ht'⟩ := hb
      obtain ⟨_, hl1, hat⟩ := World.cells?_some hc'
      obtain ⟨u, rfl⟩ : ∃ u, cs' = [u] := by
        match cs', hl1 with
        | [u], _ => exact ⟨u, rfl⟩
      obtain ⟨A, l, c, rfl, hl, hR⟩ := trod_bytes Try.underlying34 Try.underlying5 cellsU8 ht'
      have g := hat 0 (by omega)
      have g' : W.cell? (a.add i) = some (.slice A l.length c) := by simpa [Addr.add] using g
      exact ⟨l, ⟨A, c, g', RBL.zero hR, hl⟩, block_lt g'⟩
    let f : Fin len → List UInt8 := fun i => Classical.choose (each i.1 i.2)
    have hfl : (List.ofFn f).length = len := by simp
    refine ⟨some a, List.ofFn f, cap, by rw [hfl], by rw [hfl]; omega, fun hn => ?_⟩
    rw [hfl] at hn
    refine ⟨a, rfl, Nat.zero_le _, ?_, fun i hi' => ?_⟩
    · obtain ⟨_, _, hb⟩ := each 0 hn
      exact hb
    · have hil : i < len := by rw [hfl] at hi'; exact hi'
      have hs := (Classical.choose_spec (each i hil)).1
      have hget : (List.ofFn f)[i] = f ⟨i, hil⟩ := by simp
      rw [hget]
      exact hs

theorem trod_fn {H : Type} {enc : TypeId × Value → H} {W : World} (fuel : Nat) (cs : List Value) (x : DataW H × List MemPlace) (h : DataW.trod enc Try.prog W 0 (fun _ => true) true fuel 44 cs = some x) :
    ∃ v0 v1 v2 f, cs = [v0, v1, v2] ∧ FnV W 0 W.heap.size v0 v1 v2 f := by
    obtain ⟨xs, n, hf, hx, hlen, hxl, hfs⟩ := DataW.trod_struct Try.underlying44 h
    rw [cellsFn] at hlen
    obtain ⟨v0, v1, v2, rfl⟩ := list3 hlen
    have hxl' : xs.length = 3 := hxl
    obtain ⟨y0, e0⟩ := some_at hxl' (i := 0) (by omega)
    obtain ⟨y1, e1⟩ := some_at hxl' (i := 1) (by omega)
    obtain ⟨y2, e2⟩ := some_at hxl' (i := 2) (by omega)
    have t0 : DataW.trod enc Try.prog W 0 (fun _ => true) true n 34 [v0] = some y0 := by
      have : DataW.trod enc Try.prog W 0 (fun _ => true) true n 34 (([v0, v1, v2].drop 0).take (Try.prog.cellsOf 34)) = xs[0]? := hfs 0 _ rfl
      rw [e0, cellsBs] at this
      exact this
    have t1 : DataW.trod enc Try.prog W 0 (fun _ => true) true n 41 [v1] = some y1 := by
      have : DataW.trod enc Try.prog W 0 (fun _ => true) true n 41 (([v0, v1, v2].drop 1).take (Try.prog.cellsOf 41)) = xs[1]? := hfs 1 _ rfl
      rw [e1, cellsBss] at this
      exact this
    have t2 : DataW.trod enc Try.prog W 0 (fun _ => true) true n 42 [v2] = some y2 := by
      have : DataW.trod enc Try.prog W 0 (fun _ => true) true n 42 (([v0, v1, v2].drop 2).take (Try.prog.cellsOf 42)) = xs[2]? := hfs 2 _ rfl
      rw [e2, cellsStS] at this
      exact this
    obtain ⟨A, l, c, rfl, hl, hR⟩ := trod_bytes Try.underlying34 Try.underlying5 cellsU8 t0
    obtain ⟨A1, l1, c1, rfl, hp⟩ := trod_bss t1
    obtain ⟨A2, l2, c2, rfl, hb⟩ := stl_of (fun q _ => trod_st q) t2
    exact ⟨_, _, _, ⟨l, l1, l2⟩, rfl, A, c, A1, c1, A2, c2, rfl, rfl, rfl, RBL.zero hR, hl, hp, hb⟩

theorem trod_fns {H : Type} {enc : TypeId × Value → H} {W : World} {n : Nat} {v : Value} {y : DataW H × List MemPlace}
    (h : DataW.trod enc Try.prog W 0 (fun _ => true) true n 22 [v] = some y) : ∃ (A : Option Addr) (l : List Fn) (c : Nat), v = .slice A l.length c ∧ FnL W 0 W.heap.size A l := by
  rcases DataW.trod_slice Try.underlying22 h with ⟨hn, _⟩ | ⟨a, len, cap, elems, rest, q, hq, hcs, _, _, hlc, hcm, hel, heach, _, _⟩
  · simp at hn
    subst hn
    exact ⟨none, [], 0, rfl, Nat.zero_le _, fun h => by simp at h⟩
  · simp at hcs
    subst hcs
    have each : ∀ i, i < len → ∃ (f : Fn), (∃ v0 v1 v2, At3 W (a.add (i * 3)) v0 v1 v2 ∧ FnV W 0 W.heap.size v0 v1 v2 f) ∧ a.block < W.heap.size := by
      intro i hi
      have hb := heach i hi
      obtain ⟨z, ez⟩ := some_at hel hi
      rw [cellsFn, ez, Option.bind_eq_some_iff] at hb
      obtain ⟨cs', hc', ht'⟩ := hb
      obtain ⟨v0, v1, v2, f, rfl, hv⟩ := trod_fn q cs' z ht'
      obtain ⟨_, _, hat⟩ := World.cells?_some hc'
      have g0 := hat 0 (by omega)
      have g1 := hat 1 (by omega)
      have g2 := hat 2 (by omega)
      rw [add_plain _ _ _ (by omega)] at g1 g2
      have g0' : W.cell? (a.add (i * 3)) = some v0 := by simpa [Addr.add] using g0
      exact ⟨f, ⟨v0, v1, v2, ⟨g0', g1, g2⟩, hv⟩, block_lt g0'⟩
    let f : Fin len → Fn := fun i => Classical.choose (each i.1 i.2)
    have hfl : (List.ofFn f).length = len := by simp
    refine ⟨some a, List.ofFn f, cap, by rw [hfl], by rw [hfl]; omega, fun hn => ?_⟩
    rw [hfl] at hn
    refine ⟨a, rfl, Nat.zero_le _, ?_, fun i hi' => ?_⟩
    · obtain ⟨_, _, hb⟩ := each 0 hn
      exact hb
    · have hil : i < len := by rw [hfl] at hi'; exact hi'
      have hs := (Classical.choose_spec (each i hil)).1
      have hget : (List.ofFn f)[i] = f ⟨i, hil⟩ := by simp
      rw [hget]
      exact hs

set_option maxRecDepth 100000 in
/-- A program that came in. -/
theorem open_prog {H : Type} {enc : TypeId × Value → H} {W : World} {base : Nat} {v : Value} {d : DataW H} {p : List MemPlace}
    (hval : Value.okWide Try.prog W .any base 24 v) (h : DataW.Trod enc Try.prog W 0 (fun _ => true) true 24 v d p) :
    ∃ (A : Option Addr) (l : List Fn) (c : Nat), v = .agg #[.slice A l.length c] ∧ FnL W 0 W.heap.size A l := by
  obtain ⟨cs, rfl, hsz⟩ := okWide_struct Try.underlying24 hval
  obtain ⟨fuel, hf⟩ := h
  obtain ⟨xs, n, _, hx, hlen, hxl, hfs⟩ := DataW.trod_struct Try.underlying24 hf
  rw [cellsPr] at hlen
  obtain ⟨l⟩ := cs
  have hlen' : l.length = 1 := hlen
  obtain ⟨v0, rfl⟩ : ∃ v0, l = [v0] := by
    match l, hlen' with
    | [u], _ => exact ⟨u, rfl⟩
  have hxl' : xs.length = 1 := hxl
  obtain ⟨y0, e0⟩ := some_at hxl' (i := 0) (by omega)
  have t0 : DataW.trod enc Try.prog W 0 (fun _ => true) true n 22 [v0] = some y0 := by
    have : DataW.trod enc Try.prog W 0 (fun _ => true) true n 22 (([v0].drop 0).take (Try.prog.cellsOf 22)) = xs[0]? := hfs 0 _ rfl
    rw [e0, cellsFnS] at this
    exact this
  obtain ⟨A, fs, c, rfl, hL⟩ := trod_fns t0
  exact ⟨A, fs, c, rfl, hL⟩
end Go.Proofs.Ytofnkhejpkfokaa
