/-
  A unit that is handed in, opened.
-/
import Derived.Test.YtebgigiakfjocaaDoorCode
import Derived.Test.YtebgigiakfjocaaDoorOpen
import Derived.Deep.RegionWith
namespace Go.Proofs.YtebgigiakfjocaaDoor
open Go.ChangeShapes Go.WideShapes Go.ChangeAt Go.RowKit
set_option linter.unusedVariables false
namespace CodOpen

theorem cellsI : Tryd.prog.cellsOf 3 = 1 := by kernel_rfl
theorem cellsBs : Tryd.prog.cellsOf 27 = 1 := by kernel_rfl
theorem cellsIn : Tryd.prog.cellsOf 181 = 5 := by kernel_rfl
theorem cellsInS : Tryd.prog.cellsOf 137 = 1 := by kernel_rfl
theorem cellsUn : Tryd.prog.cellsOf 139 = 3 := by kernel_rfl

theorem list5 {α : Type} {l : List α} (h : l.length = 5) : ∃ a b c d e, l = [a, b, c, d, e] := by
  match l, h with
  | [a, b, c, d, e], _ => exact ⟨a, b, c, d, e, rfl⟩
theorem list3 {α : Type} {l : List α} (h : l.length = 3) : ∃ a b c, l = [a, b, c] := by
  match l, h with
  | [a, b, c], _ => exact ⟨a, b, c, rfl⟩
theorem list1 {α : Type} {l : List α} (h : l.length = 1) : ∃ a, l = [a] := by
  match l, h with
  | [a], _ => exact ⟨a, rfl⟩
theorem some_at {α : Type} {l : List α} {n i : Nat} (h : l.length = n) (hi : i < n) : ∃ x, l[i]? = some x := ⟨l[i]'(by omega), List.getElem?_eq_getElem (by omega)⟩
theorem add_plain (a : Addr) (m j : Nat) (hj : 0 < j) : (a.add m).add j = ⟨(a.add m).block, (a.add m).off + j, none⟩ := by
  rw [show (a.add m).add j = { (a.add m) with off := (a.add m).off + j, spot := none } from by rw [Addr.add, if_neg (by omega)]]
theorem block_lt {W : World} {a : Addr} {m : Nat} {v : Value} (h : W.cell? (a.add m) = some v) : a.block < W.heap.size := by
  rcases Nat.lt_or_ge a.block W.heap.size with hlt | hge
  · exact hlt
  · have hn : W.heap[(a.add m).block]? = none := Array.getElem?_eq_none (by rw [block_of_add]; exact hge)
    simp [World.cell?, hn] at h
theorem nmb_zero {w : World} {B : Nat} {A : Option Addr} {l : List UInt8} (h : RB w B A l) : NmB w 0 B A l :=
  ⟨h, fun hn => by obtain ⟨ad, e, _⟩ := h.2 hn; exact ⟨ad, e, Nat.zero_le _⟩⟩

section
variable {H : Type} {enc : TypeId × Value → H} {W : World}

theorem trod_int1 {fuel : Nat} {v : Value} {x : DataW H × List MemPlace} (h : DataW.trod enc Tryd.prog W 0 (fun _ => true) true fuel 3 [v] = some x) : ∃ n : Int, v = .int .i64 n := by
  obtain ⟨m, h1, _⟩ := DataW.trod_int Tryd.underlying3 h
  simp at h1
  exact ⟨m, h1⟩
/-- a slice of things of 5 cells -/
theorem trod_row5 {α : Type} {T TS : TypeId} {V : Value → Value → Value → Value → Value → α → Prop} (hTS : Tryd.prog.underlying TS = some (.slice T)) (hT : Tryd.prog.cellsOf T = 5)
    (hel : ∀ (q : Nat) (cs : List Value) (x : DataW H × List MemPlace), DataW.trod enc Tryd.prog W 0 (fun _ => true) true q T cs = some x → ∃ v0 v1 v2 v3 v4 e, cs = [v0, v1, v2, v3, v4] ∧ V v0 v1 v2 v3 v4 e)
    {n : Nat} {v : Value} {y : DataW H × List MemPlace} (h : DataW.trod enc Tryd.prog W 0 (fun _ => true) true n TS [v] = some y) :
    ∃ (A : Option Addr) (l : List α) (c : Nat), v = .slice A l.length c ∧ Row5 V W 0 W.heap.size A l ∧ l.length ≤ c := by
  rcases DataW.trod_slice hTS h with ⟨hn, _⟩ | ⟨a, len, cap, elems, rest, q, hq, hcs, _, _, hlc, hcm, hel', heach, _, _⟩
  · simp at hn
    subst hn
    exact ⟨none, [], 0, rfl, Row5.none_ _ _ _ _ _, Nat.le_refl _⟩
  · simp at hcs
    subst hcs
    have each : ∀ i, i < len → ∃ (e : α), (∃ v0 v1 v2 v3 v4, C5 W (a.add (i * 5)) v0 v1 v2 v3 v4 ∧ V v0 v1 v2 v3 v4 e) ∧ a.block < W.heap.size := by
      intro i hi
      have hb := heach i hi
      obtain ⟨z, ez⟩ := some_at hel' hi
      rw [hT, ez, Option.bind_eq_some_iff] at hb
      obtain ⟨cs', hc', ht'⟩ := hb
      obtain ⟨v0, v1, v2, v3, v4, e, rfl, hv⟩ := hel q cs' z ht'
      obtain ⟨_, _, hat⟩ := World.cells?_some hc'
      have g0 := hat 0 (by omega)
      have g1 := hat 1 (by omega)
      have g2 := hat 2 (by omega)
      have g3 := hat 3 (by omega)
      have g4 := hat 4 (by omega)
      rw [add_plain _ _ _ (by omega)] at g1 g2 g3 g4
      have g0' : W.cell? (a.add (i * 5)) = some v0 := by simpa [Addr.add] using g0
      exact ⟨e, ⟨v0, v1, v2, v3, v4, ⟨g0', g1, g2, g3, g4⟩, hv⟩, block_lt g0'⟩
    let f : Fin len → α := fun i => Classical.choose (each i.1 i.2)
    have hfl : (List.ofFn f).length = len := by simp
    refine ⟨some a, List.ofFn f, cap, by rw [hfl], ⟨by rw [hfl]; omega, fun hn => ?_⟩, by rw [hfl]; omega⟩
    rw [hfl] at hn
    refine ⟨a, rfl, Nat.zero_le _, ?_, fun i hi' => ?_⟩
    · obtain ⟨_, _, hb⟩ := each 0 hn
      exact hb
    · have hil : i < len := by rw [hfl] at hi'; exact hi'
      have hs := (Classical.choose_spec (each i hil)).1
      have hget : (List.ofFn f)[i] = f ⟨i, hil⟩ := by simp
      rw [hget]
      exact hs

/-- a slice of things of 3 cells -/
theorem trod_row3 {α : Type} {T TS : TypeId} {V : Value → Value → Value → α → Prop} (hTS : Tryd.prog.underlying TS = some (.slice T)) (hT : Tryd.prog.cellsOf T = 3)
    (hel : ∀ (q : Nat) (cs : List Value) (x : DataW H × List MemPlace), DataW.trod enc Tryd.prog W 0 (fun _ => true) true q T cs = some x → ∃ v0 v1 v2 e, cs = [v0, v1, v2] ∧ V v0 v1 v2 e)
    {n : Nat} {v : Value} {y : DataW H × List MemPlace} (h : DataW.trod enc Tryd.prog W 0 (fun _ => true) true n TS [v] = some y) :
    ∃ (A : Option Addr) (l : List α) (c : Nat), v = .slice A l.length c ∧ Row3 V W 0 W.heap.size A l ∧ l.length ≤ c := by
  rcases DataW.trod_slice hTS h with ⟨hn, _⟩ | ⟨a, len, cap, elems, rest, q, hq, hcs, _, _, hlc, hcm, hel', heach, _, _⟩
  · simp at hn
    subst hn
    exact ⟨none, [], 0, rfl, Row3.none_ _ _ _ _ _, Nat.le_refl _⟩
  · simp at hcs
    subst hcs
    have each : ∀ i, i < len → ∃ (e : α), (∃ v0 v1 v2, C3 W (a.add (i * 3)) v0 v1 v2 ∧ V v0 v1 v2 e) ∧ a.block < W.heap.size := by
      intro i hi
      have hb := heach i hi
      obtain ⟨z, ez⟩ := some_at hel' hi
      rw [hT, ez, Option.bind_eq_some_iff] at hb
      obtain ⟨cs', hc', ht'⟩ := hb
      obtain ⟨v0, v1, v2, e, rfl, hv⟩ := hel q cs' z ht'
      obtain ⟨_, _, hat⟩ := World.cells?_some hc'
      have g0 := hat 0 (by omega)
      have g1 := hat 1 (by omega)
      have g2 := hat 2 (by omega)
      rw [add_plain _ _ _ (by omega)] at g1 g2
      have g0' : W.cell? (a.add (i * 3)) = some v0 := by simpa [Addr.add] using g0
      exact ⟨e, ⟨v0, v1, v2, ⟨g0', g1, g2⟩, hv⟩, block_lt g0'⟩
    let f : Fin len → α := fun i => Classical.choose (each i.1 i.2)
    have hfl : (List.ofFn f).length = len := by simp
    refine ⟨some a, List.ofFn f, cap, by rw [hfl], ⟨by rw [hfl]; omega, fun hn => ?_⟩, by rw [hfl]; omega⟩
    rw [hfl] at hn
    refine ⟨a, rfl, Nat.zero_le _, ?_, fun i hi' => ?_⟩
    · obtain ⟨_, _, hb⟩ := each 0 hn
      exact hb
    · have hil : i < len := by rw [hfl] at hi'; exact hi'
      have hs := (Classical.choose_spec (each i hil)).1
      have hget : (List.ofFn f)[i] = f ⟨i, hil⟩ := by simp
      rw [hget]
      exact hs

/-- an order -/
theorem trod_in (fuel : Nat) (cs : List Value) (x : DataW H × List MemPlace) (h : DataW.trod enc Tryd.prog W 0 (fun _ => true) true fuel 181 cs = some x) :
    ∃ v0 v1 v2 v3 v4 e, cs = [v0, v1, v2, v3, v4] ∧ InV W 0 W.heap.size v0 v1 v2 v3 v4 e := by
  obtain ⟨xs, n, hf, hx, hlen, hxl, hfs⟩ := DataW.trod_struct Tryd.underlying181 h
  rw [cellsIn] at hlen
  obtain ⟨v0, v1, v2, v3, v4, rfl⟩ := list5 hlen
  have hxl' : xs.length = 5 := hxl
  obtain ⟨y0, e0⟩ := some_at hxl' (i := 0) (by omega)
  obtain ⟨y1, e1⟩ := some_at hxl' (i := 1) (by omega)
  obtain ⟨y2, e2⟩ := some_at hxl' (i := 2) (by omega)
  obtain ⟨y3, e3⟩ := some_at hxl' (i := 3) (by omega)
  obtain ⟨y4, e4⟩ := some_at hxl' (i := 4) (by omega)
  have t0 : DataW.trod enc Tryd.prog W 0 (fun _ => true) true n 3 [v0] = some y0 := by
    have : DataW.trod enc Tryd.prog W 0 (fun _ => true) true n 3 (([v0, v1, v2, v3, v4].drop 0).take (Tryd.prog.cellsOf 3)) = xs[0]? := hfs 0 _ rfl
    rw [e0, cellsI] at this
    exact this
  have t1 : DataW.trod enc Tryd.prog W 0 (fun _ => true) true n 3 [v1] = some y1 := by
    have : DataW.trod enc Tryd.prog W 0 (fun _ => true) true n 3 (([v0, v1, v2, v3, v4].drop 1).take (Tryd.prog.cellsOf 3)) = xs[1]? := hfs 1 _ rfl
    rw [e1, cellsI] at this
    exact this
  have t2 : DataW.trod enc Tryd.prog W 0 (fun _ => true) true n 3 [v2] = some y2 := by
    have : DataW.trod enc Tryd.prog W 0 (fun _ => true) true n 3 (([v0, v1, v2, v3, v4].drop 2).take (Tryd.prog.cellsOf 3)) = xs[2]? := hfs 2 _ rfl
    rw [e2, cellsI] at this
    exact this
  have t3 : DataW.trod enc Tryd.prog W 0 (fun _ => true) true n 3 [v3] = some y3 := by
    have : DataW.trod enc Tryd.prog W 0 (fun _ => true) true n 3 (([v0, v1, v2, v3, v4].drop 3).take (Tryd.prog.cellsOf 3)) = xs[3]? := hfs 3 _ rfl
    rw [e3, cellsI] at this
    exact this
  have t4 : DataW.trod enc Tryd.prog W 0 (fun _ => true) true n 27 [v4] = some y4 := by
    have : DataW.trod enc Tryd.prog W 0 (fun _ => true) true n 27 (([v0, v1, v2, v3, v4].drop 4).take (Tryd.prog.cellsOf 27)) = xs[4]? := hfs 4 _ rfl
    rw [e4, cellsBs] at this
    exact this
  obtain ⟨op, rfl⟩ := trod_int1 t0
  obtain ⟨a, rfl⟩ := trod_int1 t1
  obtain ⟨b, rfl⟩ := trod_int1 t2
  obtain ⟨c2, rfl⟩ := trod_int1 t3
  obtain ⟨A, l, c, rfl, hl, hR⟩ := trod_bytes Tryd.underlying27 Tryd.underlying5 cellsU8 t4
  exact ⟨_, _, _, _, _, ⟨op, a, b, c2, l⟩, rfl, rfl, rfl, rfl, rfl, A, c, rfl, nmb_zero hR, hl⟩

/-- a unit -/
theorem trod_un (fuel : Nat) (cs : List Value) (x : DataW H × List MemPlace) (h : DataW.trod enc Tryd.prog W 0 (fun _ => true) true fuel 139 cs = some x) :
    ∃ v0 v1 v2 e, cs = [v0, v1, v2] ∧ UnV W 0 W.heap.size v0 v1 v2 e := by
  obtain ⟨xs, n, hf, hx, hlen, hxl, hfs⟩ := DataW.trod_struct Tryd.underlying139 h
  rw [cellsUn] at hlen
  obtain ⟨v0, v1, v2, rfl⟩ := list3 hlen
  have hxl' : xs.length = 3 := hxl
  obtain ⟨y0, e0⟩ := some_at hxl' (i := 0) (by omega)
  obtain ⟨y1, e1⟩ := some_at hxl' (i := 1) (by omega)
  obtain ⟨y2, e2⟩ := some_at hxl' (i := 2) (by omega)
  have t0 : DataW.trod enc Tryd.prog W 0 (fun _ => true) true n 3 [v0] = some y0 := by
    have : DataW.trod enc Tryd.prog W 0 (fun _ => true) true n 3 (([v0, v1, v2].drop 0).take (Tryd.prog.cellsOf 3)) = xs[0]? := hfs 0 _ rfl
    rw [e0, cellsI] at this
    exact this
  have t1 : DataW.trod enc Tryd.prog W 0 (fun _ => true) true n 3 [v1] = some y1 := by
    have : DataW.trod enc Tryd.prog W 0 (fun _ => true) true n 3 (([v0, v1, v2].drop 1).take (Tryd.prog.cellsOf 3)) = xs[1]? := hfs 1 _ rfl
    rw [e1, cellsI] at this
    exact this
  have t2 : DataW.trod enc Tryd.prog W 0 (fun _ => true) true n 137 [v2] = some y2 := by
    have : DataW.trod enc Tryd.prog W 0 (fun _ => true) true n 137 (([v0, v1, v2].drop 2).take (Tryd.prog.cellsOf 137)) = xs[2]? := hfs 2 _ rfl
    rw [e2, cellsInS] at this
    exact this
  obtain ⟨pm, rfl⟩ := trod_int1 t0
  obtain ⟨rg, rfl⟩ := trod_int1 t1
  obtain ⟨A, l, c, rfl, hR, _⟩ := trod_row5 Tryd.underlying137 cellsIn trod_in t2
  exact ⟨_, _, _, ⟨pm, rg, l⟩, rfl, rfl, rfl, A, c, rfl, hR⟩
end

set_option maxRecDepth 100000 in
/-- A unit that came in. -/
theorem open_unit {H : Type} {enc : TypeId × Value → H} {W : World} {base : Nat} {v : Value} {d : DataW H} {p : List MemPlace}
    (hval : Value.okWide Tryd.prog W .any base 139 v) (h : DataW.Trod enc Tryd.prog W 0 (fun _ => true) true 139 v d p) :
    ∃ (A : Option Addr) (u : Un) (c : Nat), v = .agg #[.int .i64 u.params, .int .i64 u.regs, .slice A u.l.length c] ∧ InL W 0 W.heap.size A u.l := by
  obtain ⟨cs, rfl, hsz⟩ := okWide_struct Tryd.underlying139 hval
  obtain ⟨fuel, hf⟩ := h
  obtain ⟨v0, v1, v2, u, e, hv⟩ := trod_un _ _ _ hf
  obtain ⟨l⟩ := cs
  have hl : l = [v0, v1, v2] := e
  subst hl
  obtain ⟨rfl, rfl, A, c, rfl, hR⟩ := hv
  exact ⟨A, u, c, rfl, hR⟩
end CodOpen
end Go.Proofs.YtebgigiakfjocaaDoor
