/-
  A program that is handed in, opened.
-/
import Derived.Test.YtmejbmfopdfbjaaOpen
import Derived.Test.YtmejbmfopdfbjaaData
import Derived.Deep.RegionWith
namespace Go.Proofs.Ytmejbmfopdfbjaa
open Go.ChangeShapes Go.WideShapes Go.ChangeAt Go.RowKit
set_option linter.unusedVariables false

theorem cellsI : Try.prog.cellsOf 3 = 1 := by kernel_rfl
theorem cellsBs : Try.prog.cellsOf 22 = 1 := by kernel_rfl
theorem cellsExS : Try.prog.cellsOf 91 = 1 := by kernel_rfl
theorem cellsEx : Try.prog.cellsOf 93 = 4 := by kernel_rfl

theorem list4 {α : Type} {l : List α} (h : l.length = 4) : ∃ a b c d, l = [a, b, c, d] := by
  match l, h with
  | [a, b, c, d], _ => exact ⟨a, b, c, d, rfl⟩

theorem some_at {α : Type} {l : List α} {n i : Nat} (h : l.length = n) (hi : i < n) : ∃ x, l[i]? = some x := ⟨l[i]'(by omega), List.getElem?_eq_getElem (by omega)⟩

theorem add_plain (a : Addr) (m j : Nat) (hj : 0 < j) : (a.add m).add j = ⟨(a.add m).block, (a.add m).off + j, none⟩ := by
  rw [show (a.add m).add j = { (a.add m) with off := (a.add m).off + j, spot := none } from by rw [Addr.add, if_neg (by omega)]]

theorem RBL.zero {w : World} {B : Nat} {A : Option Addr} {l : List UInt8} (h : RB w B A l) : RBL w 0 B A l :=
  ⟨h, fun hn => by obtain ⟨ad, e, _⟩ := h.2 hn; exact ⟨ad, e, Nat.zero_le _⟩⟩

theorem trod_int1 {H : Type} {enc : TypeId × Value → H} {W : World} {fuel : Nat} {v : Value} {x : DataW H × List MemPlace} (h : DataW.trod enc Try.prog W 0 (fun _ => true) true fuel 3 [v] = some x) : ∃ n : Int, v = .int .i64 n := by
  obtain ⟨m, h1, _⟩ := DataW.trod_int Try.underlying3 h
  simp at h1
  exact ⟨m, h1⟩

theorem trod_ex {H : Type} {enc : TypeId × Value → H} {W : World} : ∀ (fuel : Nat) (cs : List Value) (x : DataW H × List MemPlace), DataW.trod enc Try.prog W 0 (fun _ => true) true fuel 93 cs = some x →
    ∃ v0 v1 v2 v3 e, cs = [v0, v1, v2, v3] ∧ ExV W 0 W.heap.size v0 v1 v2 v3 e := by
  intro fuel
  induction fuel using Nat.strongRecOn with
  | _ fuel ih =>
    intro cs x h
    obtain ⟨xs, n, hf, hx, hlen, hxl, hfs⟩ := DataW.trod_struct Try.underlying93 h
    rw [cellsEx] at hlen
    obtain ⟨v0, v1, v2, v3, rfl⟩ := list4 hlen
    have hxl' : xs.length = 4 := hxl
    obtain ⟨y0, e0⟩ := some_at hxl' (i := 0) (by omega)
    obtain ⟨y1, e1⟩ := some_at hxl' (i := 1) (by omega)
    obtain ⟨y2, e2⟩ := some_at hxl' (i := 2) (by omega)
    obtain ⟨y3, e3⟩ := some_at hxl' (i := 3) (by omega)
    have t0 : DataW.trod enc Try.prog W 0 (fun _ => true) true n 3 [v0] = some y0 := by
      have : DataW.trod enc Try.prog W 0 (fun _ => true) true n 3 (([v0, v1, v2, v3].drop 0).take (Try.prog.cellsOf 3)) = xs[0]? := hfs 0 _ rfl
      rw [e0, cellsI] at this
      exact this
    have t1 : DataW.trod enc Try.prog W 0 (fun _ => true) true n 3 [v1] = some y1 := by
      have : DataW.trod enc Try.prog W 0 (fun _ => true) true n 3 (([v0, v1, v2, v3].drop 1).take (Try.prog.cellsOf 3)) = xs[1]? := hfs 1 _ rfl
      rw [e1, cellsI] at this
      exact this
    have t2 : DataW.trod enc Try.prog W 0 (fun _ => true) true n 22 [v2] = some y2 := by
      have : DataW.trod enc Try.prog W 0 (fun _ => true) true n 22 (([v0, v1, v2, v3].drop 2).take (Try.prog.cellsOf 22)) = xs[2]? := hfs 2 _ rfl
      rw [e2, cellsBs] at this
      exact this
    have t3 : DataW.trod enc Try.prog W 0 (fun _ => true) true n 91 [v3] = some y3 := by
      have : DataW.trod enc Try.prog W 0 (fun _ => true) true n 91 (([v0, v1, v2, v3].drop 3).take (Try.prog.cellsOf 91)) = xs[3]? := hfs 3 _ rfl
      rw [e3, cellsExS] at this
      exact this
    obtain ⟨k, rfl⟩ := trod_int1 t0
    obtain ⟨m, rfl⟩ := trod_int1 t1
    obtain ⟨A, l, c, rfl, hl, hR⟩ := trod_bytes Try.underlying22 Try.underlying5 cellsU8 t2
    rcases DataW.trod_slice Try.underlying91 t3 with ⟨hn, _⟩ | ⟨a, len, cap, elems, rest, q, hq, hcs, _, _, hlc, hcm, hel, heach, _, _⟩
    · simp at hn
      subst hn
      exact ⟨_, _, _, _, .mk k m l [], rfl, ExV.mk_ (args := []) (A' := none) (c' := 0) (RBL.zero hR) hl ⟨Nat.zero_le _, fun h => by simp at h⟩⟩
    · simp at hcs
      subst hcs
      have each : ∀ i, i < len → ∃ (u0 u1 u2 u3 : Value) (e : Ex), (At4 W (a.add (i * 4)) u0 u1 u2 u3 ∧ ExV W 0 W.heap.size u0 u1 u2 u3 e) ∧ a.block < W.heap.size := by
        intro i hi
        have hb := heach i hi
        obtain ⟨z, ez⟩ := some_at hel hi
        rw [cellsEx, ez, Option.bind_eq_some_iff] at hb
        obtain ⟨cs', hc', ht'⟩ := hb
        obtain ⟨u0, u1, u2, u3, e, rfl, hv⟩ := ih q (by omega) cs' z ht'
        obtain ⟨_, _, hat⟩ := World.cells?_some hc'
        have g0 := hat 0 (by omega)
        have g1 := hat 1 (by omega)
        have g2 := hat 2 (by omega)
        have g3 := hat 3 (by omega)
        rw [add_plain _ _ _ (by omega)] at g1 g2 g3
        have g0' : W.cell? (a.add (i * 4)) = some u0 := by simpa [Addr.add] using g0
        refine ⟨u0, u1, u2, u3, e, ⟨⟨g0', g1, g2, g3⟩, hv⟩, ?_⟩
        rcases Nat.lt_or_ge a.block W.heap.size with hlt | hge
        · exact hlt
        · have hn : W.heap[(a.add (i * 4)).block]? = none := Array.getElem?_eq_none (by rw [block_of_add]; exact hge)
          simp [World.cell?, hn] at g0'
      let f : Fin len → Ex := fun i => Classical.choose (Classical.choose_spec (Classical.choose_spec (Classical.choose_spec (Classical.choose_spec (each i.1 i.2)))))
      have hfl : (List.ofFn f).length = len := by simp
      refine ⟨_, _, _, _, .mk k m l (List.ofFn f), rfl, ?_⟩
      have hx : ExL W 0 W.heap.size (some a) (List.ofFn f) := by
        refine ⟨by rw [hfl]; omega, fun hn => ?_⟩
        rw [hfl] at hn
        refine ⟨a, rfl, Nat.zero_le _, ?_, fun i hi' => ?_⟩
        · obtain ⟨_, _, _, _, _, _, hb⟩ := each 0 hn
          exact hb
        · have hil : i < len := by rw [hfl] at hi'; exact hi'
          have hs := (Classical.choose_spec (Classical.choose_spec (Classical.choose_spec (Classical.choose_spec (Classical.choose_spec (each i hil)))))).1
          refine ⟨_, _, _, _, hs.1, ?_⟩
          have hget : (List.ofFn f)[i] = f ⟨i, hil⟩ := by simp
          rw [hget]
          exact hs.2
      have := ExV.mk_ (k := k) (n := m) (c := c) (c' := cap) (RBL.zero hR) hl hx
      rw [hfl] at this
      exact this
end Go.Proofs.Ytmejbmfopdfbjaa

namespace Go.Proofs.Ytmejbmfopdfbjaa
open Go.ChangeShapes Go.WideShapes Go.ChangeAt Go.RowKit
set_option linter.unusedVariables false

theorem cellsStS : Try.prog.cellsOf 24 = 1 := by kernel_rfl
theorem cellsSt : Try.prog.cellsOf 95 = 12 := by kernel_rfl
theorem cellsFn : Try.prog.cellsOf 26 = 3 := by kernel_rfl
theorem cellsBss : Try.prog.cellsOf 23 = 1 := by kernel_rfl

theorem list12 {α : Type} {l : List α} (h : l.length = 12) : ∃ a b c d e f g h i j k m, l = [a, b, c, d, e, f, g, h, i, j, k, m] := by
  match l, h with
  | [a, b, c, d, e, f, g, h, i, j, k, m], _ => exact ⟨a, b, c, d, e, f, g, h, i, j, k, m, rfl⟩
theorem list3 {α : Type} {l : List α} (h : l.length = 3) : ∃ a b c, l = [a, b, c] := by
  match l, h with
  | [a, b, c], _ => exact ⟨a, b, c, rfl⟩

theorem block_lt {W : World} {a : Addr} {m : Nat} {v : Value} (h : W.cell? (a.add m) = some v) : a.block < W.heap.size := by
  rcases Nat.lt_or_ge a.block W.heap.size with hlt | hge
  · exact hlt
  · have hn : W.heap[(a.add m).block]? = none := Array.getElem?_eq_none (by rw [block_of_add]; exact hge)
    simp [World.cell?, hn] at h

/-- a slice of statements, out of what each of its elements reads as -/
theorem stl_of {H : Type} {enc : TypeId × Value → H} {W : World} {n : Nat} {v : Value} {y : DataW H × List MemPlace}
    (ih : ∀ q, q < n → ∀ (cs : List Value) (x : DataW H × List MemPlace), DataW.trod enc Try.prog W 0 (fun _ => true) true q 95 cs = some x → ∃ s, cs.length = 12 ∧ StV W 0 W.heap.size cs s)
    (h : DataW.trod enc Try.prog W 0 (fun _ => true) true n 24 [v] = some y) : ∃ (A : Option Addr) (l : List St) (c : Nat), v = .slice A l.length c ∧ StL W 0 W.heap.size A l := by
  rcases DataW.trod_slice Try.underlying24 h with ⟨hn, _⟩ | ⟨a, len, cap, elems, rest, q, hq, hcs, _, _, hlc, hcm, hel, heach, _, _⟩
  · simp at hn
    subst hn
    exact ⟨none, [], 0, rfl, Nat.zero_le _, fun h => by simp at h⟩
  · simp at hcs
    subst hcs
    have each : ∀ i, i < len → ∃ (us : List Value) (s : St), (AtN W (a.add (i * 12)) us ∧ StV W 0 W.heap.size us s) ∧ a.block < W.heap.size := by
      intro i hi
      have hb := heach i hi
      obtain ⟨z, ez⟩ := some_at hel hi
      rw [cellsSt, ez, Option.bind_eq_some_iff] at hb
      obtain ⟨cs', hc', ht'⟩ := hb
      obtain ⟨s, hl12, hv⟩ := ih q (by omega) cs' z ht'
      obtain ⟨_, _, hat⟩ := World.cells?_some hc'
      have hN : AtN W (a.add (i * 12)) cs' := by
        intro j v hj
        have hj' : j < 12 := by have := (List.getElem?_eq_some_iff.1 hj).1; omega
        have g := hat j (by omega)
        by_cases h0 : j = 0
        · subst h0
          rw [if_pos rfl]
          have g' : W.cell? (a.add (i * 12)) = cs'[0]? := by simpa [Addr.add] using g
          rw [g', hj]
        · rw [if_neg h0, ← add_plain _ _ _ (by omega), g, hj]
      refine ⟨cs', s, ⟨hN, hv⟩, ?_⟩
      have g0 := hN 0 (cs'[0]'(by omega)) (List.getElem?_eq_getElem (by omega))
      rw [if_pos rfl] at g0
      exact block_lt g0
    let f : Fin len → St := fun i => Classical.choose (Classical.choose_spec (each i.1 i.2))
    have hfl : (List.ofFn f).length = len := by simp
    refine ⟨some a, List.ofFn f, cap, by rw [hfl], by rw [hfl]; omega, fun hn => ?_⟩
    rw [hfl] at hn
    refine ⟨a, rfl, Nat.zero_le _, ?_, fun i hi' => ?_⟩
    · obtain ⟨_, _, _, hb⟩ := each 0 hn
      exact hb
    · have hil : i < len := by rw [hfl] at hi'; exact hi'
      have hs := (Classical.choose_spec (Classical.choose_spec (each i hil))).1
      refine ⟨_, hs.1, ?_⟩
      have hget : (List.ofFn f)[i] = f ⟨i, hil⟩ := by simp
      rw [hget]
      exact hs.2

theorem trod_st {H : Type} {enc : TypeId × Value → H} {W : World} : ∀ (fuel : Nat) (cs : List Value) (x : DataW H × List MemPlace), DataW.trod enc Try.prog W 0 (fun _ => true) true fuel 95 cs = some x →
    ∃ s, cs.length = 12 ∧ StV W 0 W.heap.size cs s := by
  intro fuel
  induction fuel using Nat.strongRecOn with
  | _ fuel ih =>
    intro cs x h
    obtain ⟨xs, n, hf, hx, hlen, hxl, hfs⟩ := DataW.trod_struct Try.underlying95 h
    rw [cellsSt] at hlen
    obtain ⟨v0, v1, v2, v3, v4, v5, v6, v7, v8, v9, v10, v11, rfl⟩ := list12 hlen
    have hxl' : xs.length = 6 := hxl
    obtain ⟨y0, e0⟩ := some_at hxl' (i := 0) (by omega)
    obtain ⟨y1, e1⟩ := some_at hxl' (i := 1) (by omega)
    obtain ⟨y2, e2⟩ := some_at hxl' (i := 2) (by omega)
    obtain ⟨y3, e3⟩ := some_at hxl' (i := 3) (by omega)
    obtain ⟨y4, e4⟩ := some_at hxl' (i := 4) (by omega)
    obtain ⟨y5, e5⟩ := some_at hxl' (i := 5) (by omega)
    have t0 : DataW.trod enc Try.prog W 0 (fun _ => true) true n 3 [v0] = some y0 := by
      have : DataW.trod enc Try.prog W 0 (fun _ => true) true n 3 (([v0, v1, v2, v3, v4, v5, v6, v7, v8, v9, v10, v11].drop 0).take (Try.prog.cellsOf 3)) = xs[0]? := hfs 0 _ rfl
      rw [e0, cellsI] at this
      exact this
    have t1 : DataW.trod enc Try.prog W 0 (fun _ => true) true n 22 [v1] = some y1 := by
      have : DataW.trod enc Try.prog W 0 (fun _ => true) true n 22 (([v0, v1, v2, v3, v4, v5, v6, v7, v8, v9, v10, v11].drop 1).take (Try.prog.cellsOf 22)) = xs[1]? := hfs 1 _ rfl
      rw [e1, cellsBs] at this
      exact this
    have t2 : DataW.trod enc Try.prog W 0 (fun _ => true) true n 93 [v2, v3, v4, v5] = some y2 := by
      have : DataW.trod enc Try.prog W 0 (fun _ => true) true n 93 (([v0, v1, v2, v3, v4, v5, v6, v7, v8, v9, v10, v11].drop 2).take (Try.prog.cellsOf 93)) = xs[2]? := hfs 2 _ rfl
      rw [e2, cellsEx] at this
      exact this
    have t3 : DataW.trod enc Try.prog W 0 (fun _ => true) true n 93 [v6, v7, v8, v9] = some y3 := by
      have : DataW.trod enc Try.prog W 0 (fun _ => true) true n 93 (([v0, v1, v2, v3, v4, v5, v6, v7, v8, v9, v10, v11].drop 6).take (Try.prog.cellsOf 93)) = xs[3]? := hfs 3 _ rfl
      rw [e3, cellsEx] at this
      exact this
    have t4 : DataW.trod enc Try.prog W 0 (fun _ => true) true n 24 [v10] = some y4 := by
      have : DataW.trod enc Try.prog W 0 (fun _ => true) true n 24 (([v0, v1, v2, v3, v4, v5, v6, v7, v8, v9, v10, v11].drop 10).take (Try.prog.cellsOf 24)) = xs[4]? := hfs 4 _ rfl
      rw [e4, cellsStS] at this
      exact this
    have t5 : DataW.trod enc Try.prog W 0 (fun _ => true) true n 24 [v11] = some y5 := by
      have : DataW.trod enc Try.prog W 0 (fun _ => true) true n 24 (([v0, v1, v2, v3, v4, v5, v6, v7, v8, v9, v10, v11].drop 11).take (Try.prog.cellsOf 24)) = xs[5]? := hfs 5 _ rfl
      rw [e5, cellsStS] at this
      exact this
    obtain ⟨k, rfl⟩ := trod_int1 t0
    obtain ⟨A, l, c, rfl, hl, hR⟩ := trod_bytes Try.underlying22 Try.underlying5 cellsU8 t1
    obtain ⟨_, _, _, _, e, he, hve⟩ := trod_ex _ _ _ t2
    obtain ⟨_, _, _, _, f, hf', hvf⟩ := trod_ex _ _ _ t3
    simp only [List.cons.injEq, and_true] at he hf'
    obtain ⟨rfl, rfl, rfl, rfl⟩ := he
    obtain ⟨rfl, rfl, rfl, rfl⟩ := hf'
    obtain ⟨A1, b1, c1, rfl, hb1⟩ := stl_of (fun q hq => ih q (by omega)) t4
    obtain ⟨A2, b2, c2, rfl, hb2⟩ := stl_of (fun q hq => ih q (by omega)) t5
    exact ⟨.mk k l e f b1 b2, rfl, StV.mk_ (RBL.zero hR) hl hve hvf hb1 hb2⟩
end Go.Proofs.Ytmejbmfopdfbjaa

namespace Go.Proofs.Ytmejbmfopdfbjaa
open Go.ChangeShapes Go.WideShapes Go.ChangeAt Go.RowKit
set_option linter.unusedVariables false

theorem cellsFnS : Try.prog.cellsOf 47 = 1 := by kernel_rfl
theorem cellsPr : Try.prog.cellsOf 49 = 1 := by kernel_rfl

theorem trod_bss {H : Type} {enc : TypeId × Value → H} {W : World} {n : Nat} {v : Value} {y : DataW H × List MemPlace}
    (h : DataW.trod enc Try.prog W 0 (fun _ => true) true n 23 [v] = some y) : ∃ (A : Option Addr) (l : List (List UInt8)) (c : Nat), v = .slice A l.length c ∧ BsL W 0 W.heap.size A l ∧ l.length ≤ c ∧ c ≤ maxLen := by
  rcases DataW.trod_slice Try.underlying23 h with ⟨hn, _⟩ | ⟨a, len, cap, elems, rest, q, hq, hcs, _, _, hlc, hcm, hel, heach, _, _⟩
  · simp at hn
    subst hn
    exact ⟨none, [], 0, rfl, ⟨Nat.zero_le _, fun h => by simp at h⟩, Nat.le_refl _, Nat.zero_le _⟩
  · simp at hcs
    subst hcs
    have each : ∀ i, i < len → ∃ (l : List UInt8), (∃ (A : Option Addr) (c : Nat), W.cell? (a.add i) = some (.slice A l.length c) ∧ RBL W 0 W.heap.size A l ∧ l.length ≤ maxLen) ∧ a.block < W.heap.size := by
      intro i hi
      have hb := heach i hi
      obtain ⟨z, ez⟩ := some_at hel hi
      rw [cellsBs, ez, Nat.mul_one, Option.bind_eq_some_iff] at hb
      obtain ⟨cs', hc', ht'⟩ := hb
      obtain ⟨_, hl1, hat⟩ := World.cells?_some hc'
      obtain ⟨u, rfl⟩ : ∃ u, cs' = [u] := by
        match cs', hl1 with
        | [u], _ => exact ⟨u, rfl⟩
      obtain ⟨A, l, c, rfl, hl, hR⟩ := trod_bytes Try.underlying22 Try.underlying5 cellsU8 ht'
      have g := hat 0 (by omega)
      have g' : W.cell? (a.add i) = some (.slice A l.length c) := by simpa [Addr.add] using g
      exact ⟨l, ⟨A, c, g', RBL.zero hR, hl⟩, block_lt g'⟩
    let f : Fin len → List UInt8 := fun i => Classical.choose (each i.1 i.2)
    have hfl : (List.ofFn f).length = len := by simp
    refine ⟨some a, List.ofFn f, cap, by rw [hfl], ⟨by rw [hfl]; omega, fun hn => ?_⟩, by rw [hfl]; omega, hcm⟩
    rw [hfl] at hn
    refine ⟨a, rfl, Nat.zero_le _, ?_, fun i hi' => ?_⟩
    · obtain ⟨_, _, hb⟩ := each 0 hn
      exact hb
    · have hil : i < len := by rw [hfl] at hi'; exact hi'
      have hs := (Classical.choose_spec (each i hil)).1
      have hget : (List.ofFn f)[i] = f ⟨i, hil⟩ := by simp
      rw [hget]
      exact hs

theorem trod_fn {H : Type} {enc : TypeId × Value → H} {W : World} (fuel : Nat) (cs : List Value) (x : DataW H × List MemPlace) (h : DataW.trod enc Try.prog W 0 (fun _ => true) true fuel 26 cs = some x) :
    ∃ v0 v1 v2 f, cs = [v0, v1, v2] ∧ FnV W 0 W.heap.size v0 v1 v2 f := by
    obtain ⟨xs, n, hf, hx, hlen, hxl, hfs⟩ := DataW.trod_struct Try.underlying26 h
    rw [cellsFn] at hlen
    obtain ⟨v0, v1, v2, rfl⟩ := list3 hlen
    have hxl' : xs.length = 3 := hxl
    obtain ⟨y0, e0⟩ := some_at hxl' (i := 0) (by omega)
    obtain ⟨y1, e1⟩ := some_at hxl' (i := 1) (by omega)
    obtain ⟨y2, e2⟩ := some_at hxl' (i := 2) (by omega)
    have t0 : DataW.trod enc Try.prog W 0 (fun _ => true) true n 22 [v0] = some y0 := by
      have : DataW.trod enc Try.prog W 0 (fun _ => true) true n 22 (([v0, v1, v2].drop 0).take (Try.prog.cellsOf 22)) = xs[0]? := hfs 0 _ rfl
      rw [e0, cellsBs] at this
      exact this
    have t1 : DataW.trod enc Try.prog W 0 (fun _ => true) true n 23 [v1] = some y1 := by
      have : DataW.trod enc Try.prog W 0 (fun _ => true) true n 23 (([v0, v1, v2].drop 1).take (Try.prog.cellsOf 23)) = xs[1]? := hfs 1 _ rfl
      rw [e1, cellsBss] at this
      exact this
    have t2 : DataW.trod enc Try.prog W 0 (fun _ => true) true n 24 [v2] = some y2 := by
      have : DataW.trod enc Try.prog W 0 (fun _ => true) true n 24 (([v0, v1, v2].drop 2).take (Try.prog.cellsOf 24)) = xs[2]? := hfs 2 _ rfl
      rw [e2, cellsStS] at this
      exact this
    obtain ⟨A, l, c, rfl, hl, hR⟩ := trod_bytes Try.underlying22 Try.underlying5 cellsU8 t0
    obtain ⟨A1, l1, c1, rfl, hp, hcp⟩ := trod_bss t1
    obtain ⟨A2, l2, c2, rfl, hb⟩ := stl_of (fun q _ => trod_st q) t2
    exact ⟨_, _, _, ⟨l, l1, l2⟩, rfl, A, c, A1, c1, A2, c2, rfl, rfl, rfl, RBL.zero hR, hl, hp, hb, hcp⟩

theorem trod_fns {H : Type} {enc : TypeId × Value → H} {W : World} {n : Nat} {v : Value} {y : DataW H × List MemPlace}
    (h : DataW.trod enc Try.prog W 0 (fun _ => true) true n 47 [v] = some y) : ∃ (A : Option Addr) (l : List Fn) (c : Nat), v = .slice A l.length c ∧ FnL W 0 W.heap.size A l := by
  rcases DataW.trod_slice Try.underlying47 h with ⟨hn, _⟩ | ⟨a, len, cap, elems, rest, q, hq, hcs, _, _, hlc, hcm, hel, heach, _, _⟩
  · simp at hn
    subst hn
    exact ⟨none, [], 0, rfl, Nat.zero_le _, fun h => by simp at h⟩
  · simp at hcs
    subst hcs
    have each : ∀ i, i < len → ∃ (f : Fn), (∃ v0 v1 v2, At3 W (a.add (i * 3)) v0 v1 v2 ∧ FnV W 0 W.heap.size v0 v1 v2 f) ∧ a.block < W.heap.size := by
      intro i hi
      have hb := heach i hi
      obtain ⟨z, ez⟩ := some_at hel hi
      rw [cellsFn, ez, Option.bind_eq_some_iff] at hb
      obtain ⟨cs', hc', ht'⟩ := hb
      obtain ⟨v0, v1, v2, f, rfl, hv⟩ := trod_fn q cs' z ht'
      obtain ⟨_, _, hat⟩ := World.cells?_some hc'
      have g0 := hat 0 (by omega)
      have g1 := hat 1 (by omega)
      have g2 := hat 2 (by omega)
      rw [add_plain _ _ _ (by omega)] at g1 g2
      have g0' : W.cell? (a.add (i * 3)) = some v0 := by simpa [Addr.add] using g0
      exact ⟨f, ⟨v0, v1, v2, ⟨g0', g1, g2⟩, hv⟩, block_lt g0'⟩
    let f : Fin len → Fn := fun i => Classical.choose (each i.1 i.2)
    have hfl : (List.ofFn f).length = len := by simp
    refine ⟨some a, List.ofFn f, cap, by rw [hfl], by rw [hfl]; omega, fun hn => ?_⟩
    rw [hfl] at hn
    refine ⟨a, rfl, Nat.zero_le _, ?_, fun i hi' => ?_⟩
    · obtain ⟨_, _, hb⟩ := each 0 hn
      exact hb
    · have hil : i < len := by rw [hfl] at hi'; exact hi'
      have hs := (Classical.choose_spec (each i hil)).1
      have hget : (List.ofFn f)[i] = f ⟨i, hil⟩ := by simp
      rw [hget]
      exact hs

set_option maxRecDepth 100000 in
/-- A program that came in. -/
theorem open_prog {H : Type} {enc : TypeId × Value → H} {W : World} {base : Nat} {v : Value} {d : DataW H} {p : List MemPlace}
    (hval : Value.okWide Try.prog W .any base 49 v) (h : DataW.Trod enc Try.prog W 0 (fun _ => true) true 49 v d p) :
    ∃ (A : Option Addr) (l : List Fn) (c : Nat), v = .agg #[.slice A l.length c] ∧ FnL W 0 W.heap.size A l := by
  obtain ⟨cs, rfl, hsz⟩ := okWide_struct Try.underlying49 hval
  obtain ⟨fuel, hf⟩ := h
  obtain ⟨xs, n, _, hx, hlen, hxl, hfs⟩ := DataW.trod_struct Try.underlying49 hf
  rw [cellsPr] at hlen
  obtain ⟨l⟩ := cs
  have hlen' : l.length = 1 := hlen
  obtain ⟨v0, rfl⟩ : ∃ v0, l = [v0] := by
    match l, hlen' with
    | [u], _ => exact ⟨u, rfl⟩
  have hxl' : xs.length = 1 := hxl
  obtain ⟨y0, e0⟩ := some_at hxl' (i := 0) (by omega)
  have t0 : DataW.trod enc Try.prog W 0 (fun _ => true) true n 47 [v0] = some y0 := by
    have : DataW.trod enc Try.prog W 0 (fun _ => true) true n 47 (([v0].drop 0).take (Try.prog.cellsOf 47)) = xs[0]? := hfs 0 _ rfl
    rw [e0, cellsFnS] at this
    exact this
  obtain ⟨A, fs, c, rfl, hL⟩ := trod_fns t0
  exact ⟨A, fs, c, rfl, hL⟩

set_option maxRecDepth 100000 in
/-- A function that came in. -/
theorem open_func {H : Type} {enc : TypeId × Value → H} {W : World} {base : Nat} {v : Value} {d : DataW H} {p : List MemPlace}
    (hval : Value.okWide Try.prog W .any base 26 v) (h : DataW.Trod enc Try.prog W 0 (fun _ => true) true 26 v d p) :
    ∃ v0 v1 v2 f, v = .agg #[v0, v1, v2] ∧ FnV W 0 W.heap.size v0 v1 v2 f := by
  obtain ⟨cs, rfl, hsz⟩ := okWide_struct Try.underlying26 hval
  obtain ⟨fuel, hf⟩ := h
  obtain ⟨v0, v1, v2, f, hcs, hv⟩ := trod_fn fuel _ _ hf
  obtain ⟨l⟩ := cs
  have hl : l = [v0, v1, v2] := hcs
  subst hl
  exact ⟨v0, v1, v2, f, rfl, hv⟩
end Go.Proofs.Ytmejbmfopdfbjaa
