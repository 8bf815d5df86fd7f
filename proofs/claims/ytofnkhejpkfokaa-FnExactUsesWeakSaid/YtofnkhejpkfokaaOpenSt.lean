/-
  Statements, functions and programs that came in: from a reading to what the walks ask for.
-/
import Derived.Test.YtofnkhejpkfokaaOpenEx
import Derived.Test.YtofnkhejpkfokaaFn
namespace Go.Proofs.Ytofnkhejpkfokaa
open Go.ChangeShapes Go.WideShapes Go.ChangeAt Go.RowKit
set_option linter.unusedVariables false

theorem cellsStS : Try.prog.cellsOf 42 = 1 := by kernel_rfl
theorem cellsSt : Try.prog.cellsOf 127 = 12 := by kernel_rfl
theorem cellsFn : Try.prog.cellsOf 44 = 3 := by kernel_rfl
theorem cellsBss : Try.prog.cellsOf 41 = 1 := by kernel_rfl

theorem list12 {α : Type} {l : List α} (h : l.length = 12) : ∃ a b c d e f g h i j k m, l = [a, b, c, d, e, f, g, h, i, j, k, m] := by
  match l, h with
  | [a, b, c, d, e, f, g, h, i, j, k, m], _ => exact ⟨a, b, c, d, e, f, g, h, i, j, k, m, rfl⟩
theorem list3 {α : Type} {l : List α} (h : l.length = 3) : ∃ a b c, l = [a, b, c] := by
  match l, h with
  | [a, b, c], _ => exact ⟨a, b, c, rfl⟩

theorem block_lt {W : World} {a : Addr} {m : Nat} {v : Value} (h : W.cell? (a.add m) = some v) : a.block < W.heap.size := by
  rcases Nat.lt_or_ge a.block W.heap.size with hlt | hge
  · exact hlt
  · have hn : W.heap[(a.add m).block]? = none := Array.getElem?_eq_none (by rw [block_of_add]; exact hge)
    simp [World.cell?, hn] at h

/-- a slice of statements, out of what each of its elements reads as -/
theorem stl_of {H : Type} {enc : TypeId × Value → H} {W : World} {n : Nat} {v : Value} {y : DataW H × List MemPlace}
    (ih : ∀ q, q < n → ∀ (cs : List Value) (x : DataW H × List MemPlace), DataW.trod enc Try.prog W 0 (fun _ => true) true q 127 cs = some x → ∃ s, cs.length = 12 ∧ StV W 0 W.heap.size cs s)
    (h : DataW.trod enc Try.prog W 0 (fun _ => true) true n 42 [v] = some y) : ∃ (A : Option Addr) (l : List St) (c : Nat), v = .slice A l.length c ∧ StL W 0 W.heap.size A l := by
  rcases DataW.trod_slice Try.underlying42 h with ⟨hn, _⟩ | ⟨a, len, cap, elems, rest, q, hq, hcs, _, _, hlc, hcm, hel, heach, _, _⟩
  · simp at hn
    subst hn
    exact ⟨none, [], 0, rfl, Nat.zero_le _, fun h => by simp at h⟩
  · simp at hcs
    subst hcs
    have each : ∀ i, i < len → ∃ (us : List Value) (s : St), (AtN W (a.add (i * 12)) us ∧ StV W 0 W.heap.size us s) ∧ a.block < W.heap.size := by
      intro i hi
      have hb := heach i hi
      obtain ⟨z, ez⟩ := some_at hel hi
      rw [cellsSt, ez, Option.bind_eq_some_iff] at hb
      obtain ⟨cs', hc', ht'⟩ := hb
      obtain ⟨s, hl12, hv⟩ := ih q (by omega) cs' z ht'
      obtain ⟨_, _, hat⟩ := World.cells?_some hc'
      have hN : AtN W (a.add (i * 12)) cs' := by
        intro j v hj
        have hj' : j < 12 := by have := (List.getElem?_eq_some_iff.1 hj).1; omega
        have g := hat j (by omega)
        by_cases h0 : j = 0
        · subst h0
          rw [if_pos rfl]
          have g' : W.cell? (a.add (i * 12)) = cs'[0]? := by simpa [Addr.add] using g
          rw [g', hj]
        · rw [if_neg h0, ← add_plain _ _ _ (by omega), g, hj]
      refine ⟨cs', s, ⟨hN, hv⟩, ?_⟩
      have g0 := hN 0 (cs'[0]'(by omega)) (List.getElem?_eq_getElem (by omega))
      rw [if_pos rfl] at g0
      exact block_lt g0
    let f : Fin len → St := fun i => Classical.choose (Classical.choose_spec (each i.1 i.2))
    have hfl : (List.ofFn f).length = len := by simp
    refine ⟨some a, List.ofFn f, cap, by rw [hfl], by rw [hfl]; omega, fun hn => ?_⟩
    rw [hfl] at hn
    refine ⟨a, rfl, Nat.zero_le _, ?_, fun i hi' => ?_⟩
    · obtain ⟨_, _, _, hb⟩ := each 0 hn
      exact hb
    · have hil : i < len := by rw [hfl] at hi'; exact hi'
      have hs := (Classical.choose_spec (Classical.choose_spec (each i hil))).1
      refine ⟨_, hs.1, ?_⟩
      have hget : (List.ofFn f)[i] = f ⟨i, hil⟩ := by simp
      rw [hget]
      exact hs.2

theorem trod_st {H : Type} {enc : TypeId × Value → H} {W : World} : ∀ (fuel : Nat) (cs : List Value) (x : DataW H × List MemPlace), DataW.trod enc Try.prog W 0 (fun _ => true) true fuel 127 cs = some x →
    ∃ s, cs.length = 12 ∧ StV W 0 W.heap.size cs s := by
  intro fuel
  induction fuel using Nat.strongRecOn with
  | _ fuel ih =>
    intro cs x h
    obtain ⟨xs, n, hf, hx, hlen, hxl, hfs⟩ := DataW.trod_struct Try.underlying127 h
    rw [cellsSt] at hlen
    obtain ⟨v0, v1, v2, v3, v4, v5, v6, v7, v8, v9, v10, v11, rfl⟩ := list12 hlen
    have hxl' : xs.length = 6 := hxl
    obtain ⟨y0, e0⟩ := some_at hxl' (i := 0) (by omega)
    obtain ⟨y1, e1⟩ := some_at hxl' (i := 1) (by omega)
    obtain ⟨y2, e2⟩ := some_at hxl' (i := 2) (by omega)
    obtain ⟨y3, e3⟩ := some_at hxl' (i := 3) (by omega)
    obtain ⟨y4, e4⟩ := some_at hxl' (i := 4) (by omega)
    obtain ⟨y5, e5⟩ := some_at hxl' (i := 5) (by omega)
    have t0 : DataW.trod enc Try.prog W 0 (fun _ => true) true n 3 [v0] = some y0 := by
      have : DataW.trod enc Try.prog W 0 (fun _ => true) true n 3 (([v0, v1, v2, v3, v4, v5, v6, v7, v8, v9, v10, v11].drop 0).take (Try.prog.cellsOf 3)) = xs[0]? := hfs 0 _ rfl
      rw [e0, cellsI] at this
      exact this
    have t1 : DataW.trod enc Try.prog W 0 (fun _ => true) true n 34 [v1] = some y1 := by
      have : DataW.trod enc Try.prog W 0 (fun _ => true) true n 34 (([v0, v1, v2, v3, v4, v5, v6, v7, v8, v9, v10, v11].drop 1).take (Try.prog.cellsOf 34)) = xs[1]? := hfs 1 _ rfl
      rw [e1, cellsBs] at this
      exact this
    have t2 : DataW.trod enc Try.prog W 0 (fun _ => true) true n 125 [v2, v3, v4, v5] = some y2 := by
      have : DataW.trod enc Try.prog W 0 (fun _ => true) true n 125 (([v0, v1, v2, v3, v4, v5, v6, v7, v8, v9, v10, v11].drop 2).take (Try.prog.cellsOf 125)) = xs[2]? := hfs 2 _ rfl
      rw [e2, cellsEx] at this
      exact this
    have t3 : DataW.trod enc Try.prog W 0 (fun _ => true) true n 125 [v6, v7, v8, v9] = some y3 := by
      have : DataW.trod enc Try.prog W 0 (fun _ => true) true n 125 (([v0, v1, v2, v3, v4, v5, v6, v7, v8, v9, v10, v11].drop 6).take (Try.prog.cellsOf 125)) = xs[3]? := hfs 3 _ rfl
      rw [e3, cellsEx] at this
      exact this
    have t4 : DataW.trod enc Try.prog W 0 (fun _ => true) true n 42 [v10] = some y4 := by
      have : DataW.trod enc Try.prog W 0 (fun _ => true) true n 42 (([v0, v1, v2, v3, v4, v5, v6, v7, v8, v9, v10, v11].drop 10).take (Try.prog.cellsOf 42)) = xs[4]? := hfs 4 _ rfl
      rw [e4, cellsStS] at this
      exact this
    have t5 : DataW.trod enc Try.prog W 0 (fun _ => true) true n 42 [v11] = some y5 := by
      have : DataW.trod enc Try.prog W 0 (fun _ => true) true n 42 (([v0, v1, v2, v3, v4, v5, v6, v7, v8, v9, v10, v11].drop 11).take (Try.prog.cellsOf 42)) = xs[5]? := hfs 5 _ rfl
      rw [e5, cellsStS] at this
      exact this
    obtain ⟨k, rfl⟩ := trod_int1 t0
    obtain ⟨A, l, c, rfl, hl, hR⟩ := trod_bytes Try.underlying34 Try.underlying5 cellsU8 t1
    obtain ⟨_, _, _, _, e, he, hve⟩ := trod_ex _ _ _ t2
    obtain ⟨_, _, _, _, f, hf', hvf⟩ := trod_ex _ _ _ t3
    simp only [List.cons.injEq, and_true] at he hf'
    obtain ⟨rfl, rfl, rfl, rfl⟩ := he
    obtain ⟨rfl, rfl, rfl, rfl⟩ := hf'
    obtain ⟨A1, b1, c1, rfl, hb1⟩ := stl_of (fun q hq => ih q (by omega)) t4
    obtain ⟨A2, b2, c2, rfl, hb2⟩ := stl_of (fun q hq => ih q (by omega)) t5
    exact ⟨.mk k l e f b1 b2, rfl, StV.mk_ (RBL.zero hR) hl hve hvf hb1 hb2⟩
end Go.Proofs.Ytofnkhejpkfokaa
