/-
  What is handed in, opened.
-/
import Derived.Test.YtddjcjjnpidhiaaGreatDoorArn
import Derived.Test.YtddjcjjnpidhiaaGreatDoorOpen
import Derived.Deep.RegionWith
import Derived.Test.YtddjcjjnpidhiaaGreatDoorMfrm
import Derived.Test.YtddjcjjnpidhiaaGreatDoorCode
namespace Go.Proofs.YtddjcjjnpidhiaaGreatDoor
open Go.ChangeShapes Go.WideShapes Go.ChangeAt Go.RowKit
set_option linter.unusedVariables false
namespace ArnOpen

theorem cellsI : Tryz.prog.cellsOf 3 = 1 := by kernel_rfl
theorem cellsBo : Tryz.prog.cellsOf 4 = 1 := by kernel_rfl
theorem cellsBs : Tryz.prog.cellsOf 30 = 1 := by kernel_rfl
theorem cellsVal : Tryz.prog.cellsOf 152 = 3 := by kernel_rfl
theorem cellsFd : Tryz.prog.cellsOf 169 = 4 := by kernel_rfl
theorem cellsFdS : Tryz.prog.cellsOf 126 = 1 := by kernel_rfl
theorem cellsSl : Tryz.prog.cellsOf 128 = 4 := by kernel_rfl
theorem cellsSlS : Tryz.prog.cellsOf 25 = 1 := by kernel_rfl
theorem cellsIS : Tryz.prog.cellsOf 26 = 1 := by kernel_rfl
theorem cellsAr : Tryz.prog.cellsOf 28 = 3 := by kernel_rfl

theorem list4 {α : Type} {l : List α} (h : l.length = 4) : ∃ a b c d, l = [a, b, c, d] := by
  match l, h with
  | [a, b, c, d], _ => exact ⟨a, b, c, d, rfl⟩
theorem list3 {α : Type} {l : List α} (h : l.length = 3) : ∃ a b c, l = [a, b, c] := by
  match l, h with
  | [a, b, c], _ => exact ⟨a, b, c, rfl⟩
theorem some_at {α : Type} {l : List α} {n i : Nat} (h : l.length = n) (hi : i < n) : ∃ x, l[i]? = some x := ⟨l[i]'(by omega), List.getElem?_eq_getElem (by omega)⟩
theorem add_plain (a : Addr) (m j : Nat) (hj : 0 < j) : (a.add m).add j = ⟨(a.add m).block, (a.add m).off + j, none⟩ := by
  rw [show (a.add m).add j = { (a.add m) with off := (a.add m).off + j, spot := none } from by rw [Addr.add, if_neg (by omega)]]
theorem block_lt {W : World} {a : Addr} {m : Nat} {v : Value} (h : W.cell? (a.add m) = some v) : a.block < W.heap.size := by
  rcases Nat.lt_or_ge a.block W.heap.size with hlt | hge
  · exact hlt
  · have hn : W.heap[(a.add m).block]? = none := Array.getElem?_eq_none (by rw [block_of_add]; exact hge)
    simp [World.cell?, hn] at h
theorem nmb_zero {w : World} {B : Nat} {A : Option Addr} {l : List UInt8} (h : RB w B A l) : NmB w 0 B A l :=
  ⟨h, fun hn => by obtain ⟨ad, e, _⟩ := h.2 hn; exact ⟨ad, e, Nat.zero_le _⟩⟩

section
variable {H : Type} {enc : TypeId × Value → H} {W : World}

theorem trod_int1 {fuel : Nat} {v : Value} {x : DataW H × List MemPlace} (h : DataW.trod enc Tryz.prog W 0 (fun _ => true) true fuel 3 [v] = some x) : ∃ n : Int, v = .int .i64 n := by
  obtain ⟨m, h1, _⟩ := DataW.trod_int Tryz.underlying3 h
  simp at h1
  exact ⟨m, h1⟩
theorem trod_bool1 {fuel : Nat} {v : Value} {x : DataW H × List MemPlace} (h : DataW.trod enc Tryz.prog W 0 (fun _ => true) true fuel 4 [v] = some x) : ∃ b : Bool, v = .bool b := by
  obtain ⟨m, h1, _⟩ := DataW.trod_bool Tryz.underlying4 h
  simp at h1
  exact ⟨m, h1⟩

/-- a slice of things of four cells -/
theorem trod_row4 {α : Type} {T TS : TypeId} {V : Value → Value → Value → Value → α → Prop} (hTS : Tryz.prog.underlying TS = some (.slice T)) (hT : Tryz.prog.cellsOf T = 4)
    (hel : ∀ (q : Nat) (cs : List Value) (x : DataW H × List MemPlace), DataW.trod enc Tryz.prog W 0 (fun _ => true) true q T cs = some x → ∃ v0 v1 v2 v3 e, cs = [v0, v1, v2, v3] ∧ V v0 v1 v2 v3 e)
    {n : Nat} {v : Value} {y : DataW H × List MemPlace} (h : DataW.trod enc Tryz.prog W 0 (fun _ => true) true n TS [v] = some y) :
    ∃ (A : Option Addr) (l : List α) (c : Nat), v = .slice A l.length c ∧ Row4 V W 0 W.heap.size A l ∧ l.length ≤ c := by
  rcases DataW.trod_slice hTS h with ⟨hn, _⟩ | ⟨a, len, cap, elems, rest, q, hq, hcs, _, _, hlc, hcm, hel', heach, _, _⟩
  · simp at hn
    subst hn
    exact ⟨none, [], 0, rfl, Row4.none_ _ _ _ _ _, Nat.le_refl _⟩
  · simp at hcs
    subst hcs
    have each : ∀ i, i < len → ∃ (e : α), (∃ v0 v1 v2 v3, C4 W (a.add (i * 4)) v0 v1 v2 v3 ∧ V v0 v1 v2 v3 e) ∧ a.block < W.heap.size := by
      intro i hi
      have hb := heach i hi
      obtain ⟨z, ez⟩ := some_at hel' hi
      rw [hT, ez, Option.bind_eq_some_iff] at hb
      obtain ⟨cs', hc', ht'⟩ := hb
      obtain ⟨v0, v1, v2, v3, e, rfl, hv⟩ := hel q cs' z ht'
      obtain ⟨_, _, hat⟩ := World.cells?_some hc'
      have g0 := hat 0 (by omega)
      have g1 := hat 1 (by omega)
      have g2 := hat 2 (by omega)
      have g3 := hat 3 (by omega)
      rw [add_plain _ _ _ (by omega)] at g1 g2 g3
      have g0' : W.cell? (a.add (i * 4)) = some v0 := by simpa [Addr.add] using g0
      exact ⟨e, ⟨v0, v1, v2, v3, ⟨g0', g1, g2, g3⟩, hv⟩, block_lt g0'⟩
    let f : Fin len → α := fun i => Classical.choose (each i.1 i.2)
    have hfl : (List.ofFn f).length = len := by simp
    refine ⟨some a, List.ofFn f, cap, by rw [hfl], ⟨by rw [hfl]; omega, fun hn => ?_⟩, by rw [hfl]; omega⟩
    rw [hfl] at hn
    refine ⟨a, rfl, Nat.zero_le _, ?_, fun i hi' => ?_⟩
    · obtain ⟨_, _, hb⟩ := each 0 hn
      exact hb
    · have hil : i < len := by rw [hfl] at hi'; exact hi'
      have hs := (Classical.choose_spec (each i hil)).1
      have hget : (List.ofFn f)[i] = f ⟨i, hil⟩ := by simp
      rw [hget]
      exact hs

/-- a slice of numbers -/
theorem trod_ints {n : Nat} {v : Value} {y : DataW H × List MemPlace} (h : DataW.trod enc Tryz.prog W 0 (fun _ => true) true n 26 [v] = some y) :
    ∃ (A : Option Addr) (l : List Int) (c : Nat), v = .slice A l.length c ∧ IL W 0 W.heap.size A l ∧ l.length ≤ c := by
  rcases DataW.trod_slice Tryz.underlying26 h with ⟨hn, _⟩ | ⟨a, len, cap, elems, rest, q, hq, hcs, _, _, hlc, hcm, hel', heach, _, _⟩
  · simp at hn
    subst hn
    exact ⟨none, [], 0, rfl, IL.none_ _ _ _ _, Nat.le_refl _⟩
  · simp at hcs
    subst hcs
    have each : ∀ i, i < len → ∃ (e : Int), W.cell? (a.add i) = some (.int .i64 e) ∧ a.block < W.heap.size := by
      intro i hi
      have hb := heach i hi
      obtain ⟨z, ez⟩ := some_at hel' hi
      rw [cellsI, ez, Nat.mul_one, Option.bind_eq_some_iff] at hb
      obtain ⟨cs', hc', ht'⟩ := hb
      obtain ⟨_, hl1, hat⟩ := World.cells?_some hc'
      obtain ⟨u, rfl⟩ : ∃ u, cs' = [u] := by
        match cs', hl1 with
        | [u], _ => exact ⟨u, rfl⟩
      obtain ⟨m, rfl⟩ := trod_int1 ht'
      have g := hat 0 (by omega)
      have g' : W.cell? (a.add i) = some (.int .i64 m) := by simpa [Addr.add] using g
      exact ⟨m, g', block_lt g'⟩
    let f : Fin len → Int := fun i => Classical.choose (each i.1 i.2)
    have hfl : (List.ofFn f).length = len := by simp
    refine ⟨some a, List.ofFn f, cap, by rw [hfl], ⟨by rw [hfl]; omega, fun hn => ?_⟩, by rw [hfl]; omega⟩
    rw [hfl] at hn
    refine ⟨a, rfl, Nat.zero_le _, ?_, fun i hi' => ?_⟩
    · obtain ⟨_, _, hb⟩ := each 0 hn
      exact hb
    · have hil : i < len := by rw [hfl] at hi'; exact hi'
      have hs := (Classical.choose_spec (each i hil)).1
      have hget : (List.ofFn f)[i] = f ⟨i, hil⟩ := by simp
      rw [hget]
      exact hs

/-- a value -/
theorem trod_val {fuel : Nat} {cs : List Value} {x : DataW H × List MemPlace} (h : DataW.trod enc Tryz.prog W 0 (fun _ => true) true fuel 152 cs = some x) :
    ∃ k n g : Int, cs = [.int .i64 k, .int .i64 n, .int .i64 g] := by
  obtain ⟨xs, n, hf, hx, hlen, hxl, hfs⟩ := DataW.trod_struct Tryz.underlying152 h
  rw [cellsVal] at hlen
  obtain ⟨v0, v1, v2, rfl⟩ := list3 hlen
  have hxl' : xs.length = 3 := hxl
  obtain ⟨y0, e0⟩ := some_at hxl' (i := 0) (by omega)
  obtain ⟨y1, e1⟩ := some_at hxl' (i := 1) (by omega)
  obtain ⟨y2, e2⟩ := some_at hxl' (i := 2) (by omega)
  have t0 : DataW.trod enc Tryz.prog W 0 (fun _ => true) true n 3 [v0] = some y0 := by
    have : DataW.trod enc Tryz.prog W 0 (fun _ => true) true n 3 (([v0, v1, v2].drop 0).take (Tryz.prog.cellsOf 3)) = xs[0]? := hfs 0 _ rfl
    rw [e0, cellsI] at this
    exact this
  have t1 : DataW.trod enc Tryz.prog W 0 (fun _ => true) true n 3 [v1] = some y1 := by
    have : DataW.trod enc Tryz.prog W 0 (fun _ => true) true n 3 (([v0, v1, v2].drop 1).take (Tryz.prog.cellsOf 3)) = xs[1]? := hfs 1 _ rfl
    rw [e1, cellsI] at this
    exact this
  have t2 : DataW.trod enc Tryz.prog W 0 (fun _ => true) true n 3 [v2] = some y2 := by
    have : DataW.trod enc Tryz.prog W 0 (fun _ => true) true n 3 (([v0, v1, v2].drop 2).take (Tryz.prog.cellsOf 3)) = xs[2]? := hfs 2 _ rfl
    rw [e2, cellsI] at this
    exact this
  obtain ⟨k, rfl⟩ := trod_int1 t0
  obtain ⟨m, rfl⟩ := trod_int1 t1
  obtain ⟨g, rfl⟩ := trod_int1 t2
  exact ⟨k, m, g, rfl⟩

/-- a field -/
theorem trod_fd (fuel : Nat) (cs : List Value) (x : DataW H × List MemPlace) (h : DataW.trod enc Tryz.prog W 0 (fun _ => true) true fuel 169 cs = some x) :
    ∃ v0 v1 v2 v3 e, cs = [v0, v1, v2, v3] ∧ FdV W 0 W.heap.size v0 v1 v2 v3 e := by
  obtain ⟨xs, n, hf, hx, hlen, hxl, hfs⟩ := DataW.trod_struct Tryz.underlying169 h
  rw [cellsFd] at hlen
  obtain ⟨v0, v1, v2, v3, rfl⟩ := list4 hlen
  have hxl' : xs.length = 2 := hxl
  obtain ⟨y0, e0⟩ := some_at hxl' (i := 0) (by omega)
  obtain ⟨y1, e1⟩ := some_at hxl' (i := 1) (by omega)
  have t0 : DataW.trod enc Tryz.prog W 0 (fun _ => true) true n 30 [v0] = some y0 := by
    have : DataW.trod enc Tryz.prog W 0 (fun _ => true) true n 30 (([v0, v1, v2, v3].drop 0).take (Tryz.prog.cellsOf 30)) = xs[0]? := hfs 0 _ rfl
    rw [e0, cellsBs] at this
    exact this
  have t1 : DataW.trod enc Tryz.prog W 0 (fun _ => true) true n 152 [v1, v2, v3] = some y1 := by
    have : DataW.trod enc Tryz.prog W 0 (fun _ => true) true n 152 (([v0, v1, v2, v3].drop 1).take (Tryz.prog.cellsOf 152)) = xs[1]? := hfs 1 _ rfl
    rw [e1, cellsVal] at this
    exact this
  obtain ⟨A, l, c, rfl, hl, hR⟩ := trod_bytes Tryz.underlying30 Tryz.underlying5 cellsU8 t0
  obtain ⟨k, m, g, e⟩ := trod_val t1
  simp only [List.cons.injEq, and_true] at e
  obtain ⟨rfl, rfl, rfl⟩ := e
  exact ⟨_, _, _, _, ⟨l, k, m, g⟩, rfl, A, c, rfl, nmb_zero hR, hl, rfl, rfl, rfl⟩

/-- a slot -/
theorem trod_sl (fuel : Nat) (cs : List Value) (x : DataW H × List MemPlace) (h : DataW.trod enc Tryz.prog W 0 (fun _ => true) true fuel 128 cs = some x) :
    ∃ v0 v1 v2 v3 e, cs = [v0, v1, v2, v3] ∧ SlV W 0 W.heap.size v0 v1 v2 v3 e := by
  obtain ⟨xs, n, hf, hx, hlen, hxl, hfs⟩ := DataW.trod_struct Tryz.underlying128 h
  rw [cellsSl] at hlen
  obtain ⟨v0, v1, v2, v3, rfl⟩ := list4 hlen
  have hxl' : xs.length = 4 := hxl
  obtain ⟨y0, e0⟩ := some_at hxl' (i := 0) (by omega)
  obtain ⟨y1, e1⟩ := some_at hxl' (i := 1) (by omega)
  obtain ⟨y2, e2⟩ := some_at hxl' (i := 2) (by omega)
  obtain ⟨y3, e3⟩ := some_at hxl' (i := 3) (by omega)
  have t0 : DataW.trod enc Tryz.prog W 0 (fun _ => true) true n 4 [v0] = some y0 := by
    have : DataW.trod enc Tryz.prog W 0 (fun _ => true) true n 4 (([v0, v1, v2, v3].drop 0).take (Tryz.prog.cellsOf 4)) = xs[0]? := hfs 0 _ rfl
    rw [e0, cellsBo] at this
    exact this
  have t1 : DataW.trod enc Tryz.prog W 0 (fun _ => true) true n 3 [v1] = some y1 := by
    have : DataW.trod enc Tryz.prog W 0 (fun _ => true) true n 3 (([v0, v1, v2, v3].drop 1).take (Tryz.prog.cellsOf 3)) = xs[1]? := hfs 1 _ rfl
    rw [e1, cellsI] at this
    exact this
  have t2 : DataW.trod enc Tryz.prog W 0 (fun _ => true) true n 3 [v2] = some y2 := by
    have : DataW.trod enc Tryz.prog W 0 (fun _ => true) true n 3 (([v0, v1, v2, v3].drop 2).take (Tryz.prog.cellsOf 3)) = xs[2]? := hfs 2 _ rfl
    rw [e2, cellsI] at this
    exact this
  have t3 : DataW.trod enc Tryz.prog W 0 (fun _ => true) true n 126 [v3] = some y3 := by
    have : DataW.trod enc Tryz.prog W 0 (fun _ => true) true n 126 (([v0, v1, v2, v3].drop 3).take (Tryz.prog.cellsOf 126)) = xs[3]? := hfs 3 _ rfl
    rw [e3, cellsFdS] at this
    exact this
  obtain ⟨b, rfl⟩ := trod_bool1 t0
  obtain ⟨g, rfl⟩ := trod_int1 t1
  obtain ⟨c, rfl⟩ := trod_int1 t2
  obtain ⟨A, l, cp, rfl, hR, _⟩ := trod_row4 Tryz.underlying126 cellsFd trod_fd t3
  exact ⟨_, _, _, _, ⟨b, g, c, l⟩, rfl, rfl, rfl, rfl, A, cp, rfl, hR⟩
end

set_option maxRecDepth 100000 in
/-- An arena that came in. -/
theorem open_arena {H : Type} {enc : TypeId × Value → H} {W : World} {base : Nat} {v : Value} {d : DataW H} {p : List MemPlace}
    (hval : Value.okWide Tryz.prog W .any base 28 v) (h : DataW.Trod enc Tryz.prog W 0 (fun _ => true) true 28 v d p) :
    ∃ (A0 A1 A2 : Option Addr) (a : Ar) (c0 c1 c2 : Nat), v = .agg #[.slice A0 a.slots.length c0, .slice A1 a.queue.length c1, .slice A2 a.purple.length c2] ∧ ArL W 0 W.heap.size A0 A1 A2 a := by
  obtain ⟨cs, rfl, hsz⟩ := okWide_struct Tryz.underlying28 hval
  obtain ⟨fuel, hf⟩ := h
  obtain ⟨xs, n, _, hx, hlen, hxl, hfs⟩ := DataW.trod_struct Tryz.underlying28 hf
  rw [cellsAr] at hlen
  obtain ⟨l⟩ := cs
  have hlen' : l.length = 3 := hlen
  obtain ⟨v0, v1, v2, rfl⟩ := list3 hlen'
  have hxl' : xs.length = 3 := hxl
  obtain ⟨y0, e0⟩ := some_at hxl' (i := 0) (by omega)
  obtain ⟨y1, e1⟩ := some_at hxl' (i := 1) (by omega)
  obtain ⟨y2, e2⟩ := some_at hxl' (i := 2) (by omega)
  have t0 : DataW.trod enc Tryz.prog W 0 (fun _ => true) true n 25 [v0] = some y0 := by
    have : DataW.trod enc Tryz.prog W 0 (fun _ => true) true n 25 (([v0, v1, v2].drop 0).take (Tryz.prog.cellsOf 25)) = xs[0]? := hfs 0 _ rfl
    rw [e0, cellsSlS] at this
    exact this
  have t1 : DataW.trod enc Tryz.prog W 0 (fun _ => true) true n 26 [v1] = some y1 := by
    have : DataW.trod enc Tryz.prog W 0 (fun _ => true) true n 26 (([v0, v1, v2].drop 1).take (Tryz.prog.cellsOf 26)) = xs[1]? := hfs 1 _ rfl
    rw [e1, cellsIS] at this
    exact this
  have t2 : DataW.trod enc Tryz.prog W 0 (fun _ => true) true n 26 [v2] = some y2 := by
    have : DataW.trod enc Tryz.prog W 0 (fun _ => true) true n 26 (([v0, v1, v2].drop 2).take (Tryz.prog.cellsOf 26)) = xs[2]? := hfs 2 _ rfl
    rw [e2, cellsIS] at this
    exact this
  obtain ⟨A0, S, c0, rfl, hS, _⟩ := trod_row4 Tryz.underlying25 cellsSl trod_sl t0
  obtain ⟨A1, Q, c1, rfl, hQ, _⟩ := trod_ints t1
  obtain ⟨A2, P, c2, rfl, hP, _⟩ := trod_ints t2
  exact ⟨A0, A1, A2, ⟨S, Q, P⟩, c0, c1, c2, rfl, hS, hQ, hP⟩

set_option maxRecDepth 100000 in
/-- A value that came in. -/
theorem open_val {H : Type} {enc : TypeId × Value → H} {W : World} {base : Nat} {v : Value} {d : DataW H} {p : List MemPlace}
    (hval : Value.okWide Tryz.prog W .any base 152 v) (h : DataW.Trod enc Tryz.prog W 0 (fun _ => true) true 152 v d p) :
    ∃ k n g : Int, v = .agg #[.int .i64 k, .int .i64 n, .int .i64 g] := by
  obtain ⟨cs, rfl, hsz⟩ := okWide_struct Tryz.underlying152 hval
  obtain ⟨fuel, hf⟩ := h
  obtain ⟨k, n, g, e⟩ := trod_val hf
  obtain ⟨l⟩ := cs
  have hl : l = [.int .i64 k, .int .i64 n, .int .i64 g] := e
  subst hl
  exact ⟨k, n, g, rfl⟩
end ArnOpen
end Go.Proofs.YtddjcjjnpidhiaaGreatDoor

namespace Go.Proofs.YtddjcjjnpidhiaaGreatDoor
open Go.ChangeShapes Go.WideShapes Go.ChangeAt Go.RowKit
set_option linter.unusedVariables false
namespace ValOpen
open ArnOpen
section
variable {H : Type} {enc : TypeId × Value → H} {W : World}

/-- a slice of things of 3 cells -/
theorem trod_row3 {α : Type} {T TS : TypeId} {V : Value → Value → Value → α → Prop} (hTS : Tryz.prog.underlying TS = some (.slice T)) (hT : Tryz.prog.cellsOf T = 3)
    (hel : ∀ (q : Nat) (cs : List Value) (x : DataW H × List MemPlace), DataW.trod enc Tryz.prog W 0 (fun _ => true) true q T cs = some x → ∃ v0 v1 v2 e, cs = [v0, v1, v2] ∧ V v0 v1 v2 e)
    {n : Nat} {v : Value} {y : DataW H × List MemPlace} (h : DataW.trod enc Tryz.prog W 0 (fun _ => true) true n TS [v] = some y) :
    ∃ (A : Option Addr) (l : List α) (c : Nat), v = .slice A l.length c ∧ Row3 V W 0 W.heap.size A l ∧ l.length ≤ c := by
  rcases DataW.trod_slice hTS h with ⟨hn, _⟩ | ⟨a, len, cap, elems, rest, q, hq, hcs, _, _, hlc, hcm, hel', heach, _, _⟩
  · simp at hn
    subst hn
    exact ⟨none, [], 0, rfl, Row3.none_ _ _ _ _ _, Nat.le_refl _⟩
  · simp at hcs
    subst hcs
    have each : ∀ i, i < len → ∃ (e : α), (∃ v0 v1 v2, C3 W (a.add (i * 3)) v0 v1 v2 ∧ V v0 v1 v2 e) ∧ a.block < W.heap.size := by
      intro i hi
      have hb := heach i hi
      obtain ⟨z, ez⟩ := some_at hel' hi
      rw [hT, ez, Option.bind_eq_some_iff] at hb
      obtain ⟨cs', hc', ht'⟩ := hb
      obtain ⟨v0, v1, v2, e, rfl, hv⟩ := hel q cs' z ht'
      obtain ⟨_, _, hat⟩ := World.cells?_some hc'
      have g0 := hat 0 (by omega)
      have g1 := hat 1 (by omega)
      have g2 := hat 2 (by omega)
      rw [add_plain _ _ _ (by omega)] at g1 g2
      have g0' : W.cell? (a.add (i * 3)) = some v0 := by simpa [Addr.add] using g0
      exact ⟨e, ⟨v0, v1, v2, ⟨g0', g1, g2⟩, hv⟩, block_lt g0'⟩
    let f : Fin len → α := fun i => Classical.choose (each i.1 i.2)
    have hfl : (List.ofFn f).length = len := by simp
    refine ⟨some a, List.ofFn f, cap, by rw [hfl], ⟨by rw [hfl]; omega, fun hn => ?_⟩, by rw [hfl]; omega⟩
    rw [hfl] at hn
    refine ⟨a, rfl, Nat.zero_le _, ?_, fun i hi' => ?_⟩
    · obtain ⟨_, _, hb⟩ := each 0 hn
      exact hb
    · have hil : i < len := by rw [hfl] at hi'; exact hi'
      have hs := (Classical.choose_spec (each i hil)).1
      have hget : (List.ofFn f)[i] = f ⟨i, hil⟩ := by simp
      rw [hget]
      exact hs

end
theorem vals_el {H : Type} {enc : TypeId × Value → H} {W : World} (q : Nat) (cs : List Value) (x : DataW H × List MemPlace) (h : DataW.trod enc Tryz.prog W 0 (fun _ => true) true q 152 cs = some x) :
    ∃ v0 v1 v2 e, cs = [v0, v1, v2] ∧ VlV v0 v1 v2 e := by
  obtain ⟨k, n, g, e⟩ := trod_val h
  exact ⟨_, _, _, ⟨k, n, g⟩, e, rfl, rfl, rfl⟩
set_option maxRecDepth 100000 in
/-- A row of values that came in. -/
theorem open_vals {H : Type} {enc : TypeId × Value → H} {W : World} {base : Nat} {v : Value} {d : DataW H} {p : List MemPlace}
    (hval : Value.okWide Tryz.prog W .any base 86 v) (h : DataW.Trod enc Tryz.prog W 0 (fun _ => true) true 86 v d p) :
    ∃ (A : Option Addr) (l : List Vl) (c : Nat), v = .slice A l.length c ∧ VlR W 0 W.heap.size A l := by
  obtain ⟨a0, len0, cap0, rfl⟩ := okWide_slice Tryz.underlying86 hval
  obtain ⟨fuel, hf⟩ := h
  obtain ⟨A, l, c, e, hR, _⟩ := trod_row3 Tryz.underlying86 cellsVal vals_el hf
  exact ⟨A, l, c, e, hR⟩
end ValOpen
end Go.Proofs.YtddjcjjnpidhiaaGreatDoor

namespace Go.Proofs.YtddjcjjnpidhiaaGreatDoor
open Go.ChangeShapes Go.WideShapes Go.ChangeAt Go.RowKit
set_option linter.unusedVariables false
namespace CodOpen

theorem cellsI : Tryz.prog.cellsOf 3 = 1 := by kernel_rfl
theorem cellsBs : Tryz.prog.cellsOf 30 = 1 := by kernel_rfl
theorem cellsIn : Tryz.prog.cellsOf 166 = 5 := by kernel_rfl
theorem cellsInS : Tryz.prog.cellsOf 122 = 1 := by kernel_rfl
theorem cellsUn : Tryz.prog.cellsOf 124 = 3 := by kernel_rfl

theorem list5 {α : Type} {l : List α} (h : l.length = 5) : ∃ a b c d e, l = [a, b, c, d, e] := by
  match l, h with
  | [a, b, c, d, e], _ => exact ⟨a, b, c, d, e, rfl⟩
theorem list3 {α : Type} {l : List α} (h : l.length = 3) : ∃ a b c, l = [a, b, c] := by
  match l, h with
  | [a, b, c], _ => exact ⟨a, b, c, rfl⟩
theorem list1 {α : Type} {l : List α} (h : l.length = 1) : ∃ a, l = [a] := by
  match l, h with
  | [a], _ => exact ⟨a, rfl⟩
theorem some_at {α : Type} {l : List α} {n i : Nat} (h : l.length = n) (hi : i < n) : ∃ x, l[i]? = some x := ⟨l[i]'(by omega), List.getElem?_eq_getElem (by omega)⟩
theorem add_plain (a : Addr) (m j : Nat) (hj : 0 < j) : (a.add m).add j = ⟨(a.add m).block, (a.add m).off + j, none⟩ := by
  rw [show (a.add m).add j = { (a.add m) with off := (a.add m).off + j, spot := none } from by rw [Addr.add, if_neg (by omega)]]
theorem block_lt {W : World} {a : Addr} {m : Nat} {v : Value} (h : W.cell? (a.add m) = some v) : a.block < W.heap.size := by
  rcases Nat.lt_or_ge a.block W.heap.size with hlt | hge
  · exact hlt
  · have hn : W.heap[(a.add m).block]? = none := Array.getElem?_eq_none (by rw [block_of_add]; exact hge)
    simp [World.cell?, hn] at h
theorem nmb_zero {w : World} {B : Nat} {A : Option Addr} {l : List UInt8} (h : RB w B A l) : NmB w 0 B A l :=
  ⟨h, fun hn => by obtain ⟨ad, e, _⟩ := h.2 hn; exact ⟨ad, e, Nat.zero_le _⟩⟩

section
variable {H : Type} {enc : TypeId × Value → H} {W : World}

theorem trod_int1 {fuel : Nat} {v : Value} {x : DataW H × List MemPlace} (h : DataW.trod enc Tryz.prog W 0 (fun _ => true) true fuel 3 [v] = some x) : ∃ n : Int, v = .int .i64 n := by
  obtain ⟨m, h1, _⟩ := DataW.trod_int Tryz.underlying3 h
  simp at h1
  exact ⟨m, h1⟩
/-- a slice of things of 5 cells -/
theorem trod_row5 {α : Type} {T TS : TypeId} {V : Value → Value → Value → Value → Value → α → Prop} (hTS : Tryz.prog.underlying TS = some (.slice T)) (hT : Tryz.prog.cellsOf T = 5)
    (hel : ∀ (q : Nat) (cs : List Value) (x : DataW H × List MemPlace), DataW.trod enc Tryz.prog W 0 (fun _ => true) true q T cs = some x → ∃ v0 v1 v2 v3 v4 e, cs = [v0, v1, v2, v3, v4] ∧ V v0 v1 v2 v3 v4 e)
    {n : Nat} {v : Value} {y : DataW H × List MemPlace} (h : DataW.trod enc Tryz.prog W 0 (fun _ => true) true n TS [v] = some y) :
    ∃ (A : Option Addr) (l : List α) (c : Nat), v = .slice A l.length c ∧ Row5 V W 0 W.heap.size A l ∧ l.length ≤ c := by
  rcases DataW.trod_slice hTS h with ⟨hn, _⟩ | ⟨a, len, cap, elems, rest, q, hq, hcs, _, _, hlc, hcm, hel', heach, _, _⟩
  · simp at hn
    subst hn
    exact ⟨none, [], 0, rfl, Row5.none_ _ _ _ _ _, Nat.le_refl _⟩
  · simp at hcs
    subst hcs
    have each : ∀ i, i < len → ∃ (e : α), (∃ v0 v1 v2 v3 v4, C5 W (a.add (i * 5)) v0 v1 v2 v3 v4 ∧ V v0 v1 v2 v3 v4 e) ∧ a.block < W.heap.size := by
      intro i hi
      have hb := heach i hi
      obtain ⟨z, ez⟩ := some_at hel' hi
      rw [hT, ez, Option.bind_eq_some_iff] at hb
      obtain ⟨cs', hc', ht'⟩ := hb
      obtain ⟨v0, v1, v2, v3, v4, e, rfl, hv⟩ := hel q cs' z ht'
      obtain ⟨_, _, hat⟩ := World.cells?_some hc'
      have g0 := hat 0 (by omega)
      have g1 := hat 1 (by omega)
      have g2 := hat 2 (by omega)
      have g3 := hat 3 (by omega)
      have g4 := hat 4 (by omega)
      rw [add_plain _ _ _ (by omega)] at g1 g2 g3 g4
      have g0' : W.cell? (a.add (i * 5)) = some v0 := by simpa [Addr.add] using g0
      exact ⟨e, ⟨v0, v1, v2, v3, v4, ⟨g0', g1, g2, g3, g4⟩, hv⟩, block_lt g0'⟩
    let f : Fin len → α := fun i => Classical.choose (each i.1 i.2)
    have hfl : (List.ofFn f).length = len := by simp
    refine ⟨some a, List.ofFn f, cap, by rw [hfl], ⟨by rw [hfl]; omega, fun hn => ?_⟩, by rw [hfl]; omega⟩
    rw [hfl] at hn
    refine ⟨a, rfl, Nat.zero_le _, ?_, fun i hi' => ?_⟩
    · obtain ⟨_, _, hb⟩ := each 0 hn
      exact hb
    · have hil : i < len := by rw [hfl] at hi'; exact hi'
      have hs := (Classical.choose_spec (each i hil)).1
      have hget : (List.ofFn f)[i] = f ⟨i, hil⟩ := by simp
      rw [hget]
      exact hs

/-- a slice of things of 3 cells -/
theorem trod_row3 {α : Type} {T TS : TypeId} {V : Value → Value → Value → α → Prop} (hTS : Tryz.prog.underlying TS = some (.slice T)) (hT : Tryz.prog.cellsOf T = 3)
    (hel : ∀ (q : Nat) (cs : List Value) (x : DataW H × List MemPlace), DataW.trod enc Tryz.prog W 0 (fun _ => true) true q T cs = some x → ∃ v0 v1 v2 e, cs = [v0, v1, v2] ∧ V v0 v1 v2 e)
    {n : Nat} {v : Value} {y : DataW H × List MemPlace} (h : DataW.trod enc Tryz.prog W 0 (fun _ => true) true n TS [v] = some y) :
    ∃ (A : Option Addr) (l : List α) (c : Nat), v = .slice A l.length c ∧ Row3 V W 0 W.heap.size A l ∧ l.length ≤ c := by
  rcases DataW.trod_slice hTS h with ⟨hn, _⟩ | ⟨a, len, cap, elems, rest, q, hq, hcs, _, _, hlc, hcm, hel', heach, _, _⟩
  · simp at hn
    subst hn
    exact ⟨none, [], 0, rfl, Row3.none_ _ _ _ _ _, Nat.le_refl _⟩
  · simp at hcs
    subst hcs
    have each : ∀ i, i < len → ∃ (e : α), (∃ v0 v1 v2, C3 W (a.add (i * 3)) v0 v1 v2 ∧ V v0 v1 v2 e) ∧ a.block < W.heap.size := by
      intro i hi
      have hb := heach i hi
      obtain ⟨z, ez⟩ := some_at hel' hi
      rw [hT, ez, Option.bind_eq_some_iff] at hb
      obtain ⟨cs', hc', ht'⟩ := hb
      obtain ⟨v0, v1, v2, e, rfl, hv⟩ := hel q cs' z ht'
      obtain ⟨_, _, hat⟩ := World.cells?_some hc'
      have g0 := hat 0 (by omega)
      have g1 := hat 1 (by omega)
      have g2 := hat 2 (by omega)
      rw [add_plain _ _ _ (by omega)] at g1 g2
      have g0' : W.cell? (a.add (i * 3)) = some v0 := by simpa [Addr.add] using g0
      exact ⟨e, ⟨v0, v1, v2, ⟨g0', g1, g2⟩, hv⟩, block_lt g0'⟩
    let f : Fin len → α := fun i => Classical.choose (each i.1 i.2)
    have hfl : (List.ofFn f).length = len := by simp
    refine ⟨some a, List.ofFn f, cap, by rw [hfl], ⟨by rw [hfl]; omega, fun hn => ?_⟩, by rw [hfl]; omega⟩
    rw [hfl] at hn
    refine ⟨a, rfl, Nat.zero_le _, ?_, fun i hi' => ?_⟩
    · obtain ⟨_, _, hb⟩ := each 0 hn
      exact hb
    · have hil : i < len := by rw [hfl] at hi'; exact hi'
      have hs := (Classical.choose_spec (each i hil)).1
      have hget : (List.ofFn f)[i] = f ⟨i, hil⟩ := by simp
      rw [hget]
      exact hs

/-- an order -/
theorem trod_in (fuel : Nat) (cs : List Value) (x : DataW H × List MemPlace) (h : DataW.trod enc Tryz.prog W 0 (fun _ => true) true fuel 166 cs = some x) :
    ∃ v0 v1 v2 v3 v4 e, cs = [v0, v1, v2, v3, v4] ∧ InV W 0 W.heap.size v0 v1 v2 v3 v4 e := by
  obtain ⟨xs, n, hf, hx, hlen, hxl, hfs⟩ := DataW.trod_struct Tryz.underlying166 h
  rw [cellsIn] at hlen
  obtain ⟨v0, v1, v2, v3, v4, rfl⟩ := list5 hlen
  have hxl' : xs.length = 5 := hxl
  obtain ⟨y0, e0⟩ := some_at hxl' (i := 0) (by omega)
  obtain ⟨y1, e1⟩ := some_at hxl' (i := 1) (by omega)
  obtain ⟨y2, e2⟩ := some_at hxl' (i := 2) (by omega)
  obtain ⟨y3, e3⟩ := some_at hxl' (i := 3) (by omega)
  obtain ⟨y4, e4⟩ := some_at hxl' (i := 4) (by omega)
  have t0 : DataW.trod enc Tryz.prog W 0 (fun _ => true) true n 3 [v0] = some y0 := by
    have : DataW.trod enc Tryz.prog W 0 (fun _ => true) true n 3 (([v0, v1, v2, v3, v4].drop 0).take (Tryz.prog.cellsOf 3)) = xs[0]? := hfs 0 _ rfl
    rw [e0, cellsI] at this
    exact this
  have t1 : DataW.trod enc Tryz.prog W 0 (fun _ => true) true n 3 [v1] = some y1 := by
    have : DataW.trod enc Tryz.prog W 0 (fun _ => true) true n 3 (([v0, v1, v2, v3, v4].drop 1).take (Tryz.prog.cellsOf 3)) = xs[1]? := hfs 1 _ rfl
    rw [e1, cellsI] at this
    exact this
  have t2 : DataW.trod enc Tryz.prog W 0 (fun _ => true) true n 3 [v2] = some y2 := by
    have : DataW.trod enc Tryz.prog W 0 (fun _ => true) true n 3 (([v0, v1, v2, v3, v4].drop 2).take (Tryz.prog.cellsOf 3)) = xs[2]? := hfs 2 _ rfl
    rw [e2, cellsI] at this
    exact this
  have t3 : DataW.trod enc Tryz.prog W 0 (fun _ => true) true n 3 [v3] = some y3 := by
    have : DataW.trod enc Tryz.prog W 0 (fun _ => true) true n 3 (([v0, v1, v2, v3, v4].drop 3).take (Tryz.prog.cellsOf 3)) = xs[3]? := hfs 3 _ rfl
    rw [e3, cellsI] at this
    exact this
  have t4 : DataW.trod enc Tryz.prog W 0 (fun _ => true) true n 30 [v4] = some y4 := by
    have : DataW.trod enc Tryz.prog W 0 (fun _ => true) true n 30 (([v0, v1, v2, v3, v4].drop 4).take (Tryz.prog.cellsOf 30)) = xs[4]? := hfs 4 _ rfl
    rw [e4, cellsBs] at this
    exact this
  obtain ⟨op, rfl⟩ := trod_int1 t0
  obtain ⟨a, rfl⟩ := trod_int1 t1
  obtain ⟨b, rfl⟩ := trod_int1 t2
  obtain ⟨c2, rfl⟩ := trod_int1 t3
  obtain ⟨A, l, c, rfl, hl, hR⟩ := trod_bytes Tryz.underlying30 Tryz.underlying5 cellsU8 t4
  exact ⟨_, _, _, _, _, ⟨op, a, b, c2, l⟩, rfl, rfl, rfl, rfl, rfl, A, c, rfl, nmb_zero hR, hl⟩

/-- a unit -/
theorem trod_un (fuel : Nat) (cs : List Value) (x : DataW H × List MemPlace) (h : DataW.trod enc Tryz.prog W 0 (fun _ => true) true fuel 124 cs = some x) :
    ∃ v0 v1 v2 e, cs = [v0, v1, v2] ∧ UnV W 0 W.heap.size v0 v1 v2 e := by
  obtain ⟨xs, n, hf, hx, hlen, hxl, hfs⟩ := DataW.trod_struct Tryz.underlying124 h
  rw [cellsUn] at hlen
  obtain ⟨v0, v1, v2, rfl⟩ := list3 hlen
  have hxl' : xs.length = 3 := hxl
  obtain ⟨y0, e0⟩ := some_at hxl' (i := 0) (by omega)
  obtain ⟨y1, e1⟩ := some_at hxl' (i := 1) (by omega)
  obtain ⟨y2, e2⟩ := some_at hxl' (i := 2) (by omega)
  have t0 : DataW.trod enc Tryz.prog W 0 (fun _ => true) true n 3 [v0] = some y0 := by
    have : DataW.trod enc Tryz.prog W 0 (fun _ => true) true n 3 (([v0, v1, v2].drop 0).take (Tryz.prog.cellsOf 3)) = xs[0]? := hfs 0 _ rfl
    rw [e0, cellsI] at this
    exact this
  have t1 : DataW.trod enc Tryz.prog W 0 (fun _ => true) true n 3 [v1] = some y1 := by
    have : DataW.trod enc Tryz.prog W 0 (fun _ => true) true n 3 (([v0, v1, v2].drop 1).take (Tryz.prog.cellsOf 3)) = xs[1]? := hfs 1 _ rfl
    rw [e1, cellsI] at this
    exact this
  have t2 : DataW.trod enc Tryz.prog W 0 (fun _ => true) true n 122 [v2] = some y2 := by
    have : DataW.trod enc Tryz.prog W 0 (fun _ => true) true n 122 (([v0, v1, v2].drop 2).take (Tryz.prog.cellsOf 122)) = xs[2]? := hfs 2 _ rfl
    rw [e2, cellsInS] at this
    exact this
  obtain ⟨pm, rfl⟩ := trod_int1 t0
  obtain ⟨rg, rfl⟩ := trod_int1 t1
  obtain ⟨A, l, c, rfl, hR, _⟩ := trod_row5 Tryz.underlying122 cellsIn trod_in t2
  exact ⟨_, _, _, ⟨pm, rg, l⟩, rfl, rfl, rfl, A, c, rfl, hR⟩
end

set_option maxRecDepth 100000 in
/-- A unit that came in. -/
theorem open_unit {H : Type} {enc : TypeId × Value → H} {W : World} {base : Nat} {v : Value} {d : DataW H} {p : List MemPlace}
    (hval : Value.okWide Tryz.prog W .any base 124 v) (h : DataW.Trod enc Tryz.prog W 0 (fun _ => true) true 124 v d p) :
    ∃ (A : Option Addr) (u : Un) (c : Nat), v = .agg #[.int .i64 u.params, .int .i64 u.regs, .slice A u.l.length c] ∧ InL W 0 W.heap.size A u.l := by
  obtain ⟨cs, rfl, hsz⟩ := okWide_struct Tryz.underlying124 hval
  obtain ⟨fuel, hf⟩ := h
  obtain ⟨v0, v1, v2, u, e, hv⟩ := trod_un _ _ _ hf
  obtain ⟨l⟩ := cs
  have hl : l = [v0, v1, v2] := e
  subst hl
  obtain ⟨rfl, rfl, A, c, rfl, hR⟩ := hv
  exact ⟨A, u, c, rfl, hR⟩
end CodOpen
end Go.Proofs.YtddjcjjnpidhiaaGreatDoor

namespace Go.Proofs.YtddjcjjnpidhiaaGreatDoor
open Go.ChangeShapes Go.WideShapes Go.ChangeAt Go.RowKit
set_option linter.unusedVariables false
namespace CodOpen

theorem cellsUnS : Tryz.prog.cellsOf 22 = 1 := by kernel_rfl
theorem cellsCo : Tryz.prog.cellsOf 24 = 1 := by kernel_rfl

set_option maxRecDepth 100000 in
/-- A code that came in. -/
theorem open_code {H : Type} {enc : TypeId × Value → H} {W : World} {base : Nat} {v : Value} {d : DataW H} {p : List MemPlace}
    (hval : Value.okWide Tryz.prog W .any base 24 v) (h : DataW.Trod enc Tryz.prog W 0 (fun _ => true) true 24 v d p) :
    ∃ (A : Option Addr) (l : List Un) (c : Nat), v = .agg #[.slice A l.length c] ∧ UnL W 0 W.heap.size A l := by
  obtain ⟨cs, rfl, hsz⟩ := okWide_struct Tryz.underlying24 hval
  obtain ⟨fuel, hf⟩ := h
  obtain ⟨xs, n, _, hx, hlen, hxl, hfs⟩ := DataW.trod_struct Tryz.underlying24 hf
  rw [cellsCo] at hlen
  obtain ⟨l⟩ := cs
  have hlen' : l.length = 1 := hlen
  obtain ⟨v0, rfl⟩ := list1 hlen'
  have hxl' : xs.length = 1 := hxl
  obtain ⟨y0, e0⟩ := some_at hxl' (i := 0) (by omega)
  have t0 : DataW.trod enc Tryz.prog W 0 (fun _ => true) true n 22 [v0] = some y0 := by
    have : DataW.trod enc Tryz.prog W 0 (fun _ => true) true n 22 (([v0].drop 0).take (Tryz.prog.cellsOf 22)) = xs[0]? := hfs 0 _ rfl
    rw [e0, cellsUnS] at this
    exact this
  obtain ⟨A, S, c, rfl, hS, _⟩ := trod_row3 Tryz.underlying22 cellsUn trod_un t0
  exact ⟨A, S, c, rfl, hS⟩
end CodOpen
end Go.Proofs.YtddjcjjnpidhiaaGreatDoor

namespace Go.Proofs.YtddjcjjnpidhiaaGreatDoor
open Go.ChangeShapes Go.WideShapes Go.ChangeAt Go.RowKit
set_option linter.unusedVariables false
namespace FrmOpen
open ArnOpen
theorem cellsVlS : Tryz.prog.cellsOf 86 = 1 := by kernel_rfl
theorem cellsFr : Tryz.prog.cellsOf 88 = 4 := by kernel_rfl
theorem cellsFrS : Tryz.prog.cellsOf 29 = 1 := by kernel_rfl
theorem cellsVm : Tryz.prog.cellsOf 32 = 8 := by kernel_rfl
theorem list8 {α : Type} {l : List α} (h : l.length = 8) : ∃ a b c d e f g i, l = [a, b, c, d, e, f, g, i] := by
  match l, h with
  | [a, b, c, d, e, f, g, i], _ => exact ⟨a, b, c, d, e, f, g, i, rfl⟩
section
variable {H : Type} {enc : TypeId × Value → H} {W : World}

/-- a frame -/
theorem trod_fr (fuel : Nat) (cs : List Value) (x : DataW H × List MemPlace) (h : DataW.trod enc Tryz.prog W 0 (fun _ => true) true fuel 88 cs = some x) :
    ∃ v0 v1 v2 v3 e, cs = [v0, v1, v2, v3] ∧ FrV W 0 W.heap.size v0 v1 v2 v3 e := by
  obtain ⟨xs, n, hf, hx, hlen, hxl, hfs⟩ := DataW.trod_struct Tryz.underlying88 h
  rw [cellsFr] at hlen
  obtain ⟨v0, v1, v2, v3, rfl⟩ := list4 hlen
  have hxl' : xs.length = 4 := hxl
  obtain ⟨y0, e0⟩ := some_at hxl' (i := 0) (by omega)
  obtain ⟨y1, e1⟩ := some_at hxl' (i := 1) (by omega)
  obtain ⟨y2, e2⟩ := some_at hxl' (i := 2) (by omega)
  obtain ⟨y3, e3⟩ := some_at hxl' (i := 3) (by omega)
  have t0 : DataW.trod enc Tryz.prog W 0 (fun _ => true) true n 3 [v0] = some y0 := by
    have : DataW.trod enc Tryz.prog W 0 (fun _ => true) true n 3 (([v0, v1, v2, v3].drop 0).take (Tryz.prog.cellsOf 3)) = xs[0]? := hfs 0 _ rfl
    rw [e0, cellsI] at this
    exact this
  have t1 : DataW.trod enc Tryz.prog W 0 (fun _ => true) true n 3 [v1] = some y1 := by
    have : DataW.trod enc Tryz.prog W 0 (fun _ => true) true n 3 (([v0, v1, v2, v3].drop 1).take (Tryz.prog.cellsOf 3)) = xs[1]? := hfs 1 _ rfl
    rw [e1, cellsI] at this
    exact this
  have t2 : DataW.trod enc Tryz.prog W 0 (fun _ => true) true n 3 [v2] = some y2 := by
    have : DataW.trod enc Tryz.prog W 0 (fun _ => true) true n 3 (([v0, v1, v2, v3].drop 2).take (Tryz.prog.cellsOf 3)) = xs[2]? := hfs 2 _ rfl
    rw [e2, cellsI] at this
    exact this
  have t3 : DataW.trod enc Tryz.prog W 0 (fun _ => true) true n 86 [v3] = some y3 := by
    have : DataW.trod enc Tryz.prog W 0 (fun _ => true) true n 86 (([v0, v1, v2, v3].drop 3).take (Tryz.prog.cellsOf 86)) = xs[3]? := hfs 3 _ rfl
    rw [e3, cellsVlS] at this
    exact this
  obtain ⟨b, rfl⟩ := trod_int1 t0
  obtain ⟨g, rfl⟩ := trod_int1 t1
  obtain ⟨c, rfl⟩ := trod_int1 t2
  have hnn : v3 = .slice none 0 0 ∨ ∃ a n m, v3 = .slice (some a) n m := by
    rcases DataW.trod_slice Tryz.underlying86 t3 with ⟨hn, _⟩ | ⟨a, len, cap, _, _, _, _, hcs, _⟩
    · exact .inl (by simpa using hn)
    · exact .inr ⟨a, len, cap, by simpa using hcs⟩
  obtain ⟨A, l, cp, rfl, hR, _⟩ := ValOpen.trod_row3 Tryz.underlying86 cellsVal ValOpen.vals_el t3
  refine ⟨_, _, _, _, ⟨b, g, c, l⟩, rfl, rfl, rfl, rfl, A, cp, rfl, hR, fun h => ?_⟩
  subst h
  rcases hnn with e | ⟨_, _, _, e⟩
  · injection e
  · cases e

/-- a code's cell -/
theorem trod_code (fuel : Nat) (v0 : Value) (x : DataW H × List MemPlace) (hf : DataW.trod enc Tryz.prog W 0 (fun _ => true) true fuel 24 [v0] = some x) :
    ∃ (A : Option Addr) (l : List Un) (c : Nat), v0 = .slice A l.length c ∧ UnL W 0 W.heap.size A l := by
  obtain ⟨xs, n, _, hx, hlen, hxl, hfs⟩ := DataW.trod_struct Tryz.underlying24 hf
  have hxl' : xs.length = 1 := hxl
  obtain ⟨y0, e0⟩ := some_at hxl' (i := 0) (by omega)
  have t0 : DataW.trod enc Tryz.prog W 0 (fun _ => true) true n 22 [v0] = some y0 := by
    have : DataW.trod enc Tryz.prog W 0 (fun _ => true) true n 22 (([v0].drop 0).take (Tryz.prog.cellsOf 22)) = xs[0]? := hfs 0 _ rfl
    rw [e0, CodOpen.cellsUnS] at this
    exact this
  obtain ⟨A, S, c, rfl, hS, _⟩ := CodOpen.trod_row3 Tryz.underlying22 CodOpen.cellsUn CodOpen.trod_un t0
  exact ⟨A, S, c, rfl, hS⟩

/-- an arena's cells -/
theorem trod_arena (fuel : Nat) (v0 v1 v2 : Value) (x : DataW H × List MemPlace) (hf : DataW.trod enc Tryz.prog W 0 (fun _ => true) true fuel 28 [v0, v1, v2] = some x) :
    ∃ (A0 A1 A2 : Option Addr) (a : Ar) (c0 c1 c2 : Nat), v0 = .slice A0 a.slots.length c0 ∧ v1 = .slice A1 a.queue.length c1 ∧ v2 = .slice A2 a.purple.length c2 ∧ ArL W 0 W.heap.size A0 A1 A2 a := by
  obtain ⟨xs, n, _, hx, hlen, hxl, hfs⟩ := DataW.trod_struct Tryz.underlying28 hf
  have hxl' : xs.length = 3 := hxl
  obtain ⟨y0, e0⟩ := some_at hxl' (i := 0) (by omega)
  obtain ⟨y1, e1⟩ := some_at hxl' (i := 1) (by omega)
  obtain ⟨y2, e2⟩ := some_at hxl' (i := 2) (by omega)
  have t0 : DataW.trod enc Tryz.prog W 0 (fun _ => true) true n 25 [v0] = some y0 := by
    have : DataW.trod enc Tryz.prog W 0 (fun _ => true) true n 25 (([v0, v1, v2].drop 0).take (Tryz.prog.cellsOf 25)) = xs[0]? := hfs 0 _ rfl
    rw [e0, cellsSlS] at this
    exact this
  have t1 : DataW.trod enc Tryz.prog W 0 (fun _ => true) true n 26 [v1] = some y1 := by
    have : DataW.trod enc Tryz.prog W 0 (fun _ => true) true n 26 (([v0, v1, v2].drop 1).take (Tryz.prog.cellsOf 26)) = xs[1]? := hfs 1 _ rfl
    rw [e1, cellsIS] at this
    exact this
  have t2 : DataW.trod enc Tryz.prog W 0 (fun _ => true) true n 26 [v2] = some y2 := by
    have : DataW.trod enc Tryz.prog W 0 (fun _ => true) true n 26 (([v0, v1, v2].drop 2).take (Tryz.prog.cellsOf 26)) = xs[2]? := hfs 2 _ rfl
    rw [e2, cellsIS] at this
    exact this
  obtain ⟨A0, S, c0, rfl, hS, _⟩ := trod_row4 Tryz.underlying25 cellsSl trod_sl t0
  obtain ⟨A1, Q, c1, rfl, hQ, _⟩ := trod_ints t1
  obtain ⟨A2, P, c2, rfl, hP, _⟩ := trod_ints t2
  exact ⟨A0, A1, A2, ⟨S, Q, P⟩, c0, c1, c2, rfl, rfl, rfl, hS, hQ, hP⟩
end

set_option maxRecDepth 100000 in
/-- A machine that came in. -/
theorem open_vm {H : Type} {enc : TypeId × Value → H} {W : World} {base : Nat} {v : Value} {d : DataW H} {p : List MemPlace}
    (hval : Value.okWide Tryz.prog W .any base 32 v) (h : DataW.Trod enc Tryz.prog W 0 (fun _ => true) true 32 v d p) :
    ∃ (A0 A1 A2 A3 A4 A5 : Option Addr) (m : Ma) (c0 c1 c2 c3 c4 c5 : Nat), v = .agg (maV A0 A1 A2 A3 A4 A5 c0 c1 c2 c3 c4 c5 m) ∧ MaL W 0 W.heap.size A0 A1 A2 A3 A4 A5 m := by
  obtain ⟨cs, rfl, hsz⟩ := okWide_struct Tryz.underlying32 hval
  obtain ⟨fuel, hf⟩ := h
  obtain ⟨xs, n, _, hx, hlen, hxl, hfs⟩ := DataW.trod_struct Tryz.underlying32 hf
  rw [cellsVm] at hlen
  obtain ⟨l⟩ := cs
  have hlen' : l.length = 8 := hlen
  obtain ⟨v0, v1, v2, v3, v4, v5, v6, v7, rfl⟩ := list8 hlen'
  have hxl' : xs.length = 6 := hxl
  obtain ⟨y0, e0⟩ := some_at hxl' (i := 0) (by omega)
  obtain ⟨y1, e1⟩ := some_at hxl' (i := 1) (by omega)
  obtain ⟨y2, e2⟩ := some_at hxl' (i := 2) (by omega)
  obtain ⟨y3, e3⟩ := some_at hxl' (i := 3) (by omega)
  obtain ⟨y4, e4⟩ := some_at hxl' (i := 4) (by omega)
  obtain ⟨y5, e5⟩ := some_at hxl' (i := 5) (by omega)
  have t0 : DataW.trod enc Tryz.prog W 0 (fun _ => true) true n 24 [v0] = some y0 := by
    have : DataW.trod enc Tryz.prog W 0 (fun _ => true) true n 24 (([v0, v1, v2, v3, v4, v5, v6, v7].drop 0).take (Tryz.prog.cellsOf 24)) = xs[0]? := hfs 0 _ rfl
    rw [e0, CodOpen.cellsCo] at this
    exact this
  have t1 : DataW.trod enc Tryz.prog W 0 (fun _ => true) true n 28 [v1, v2, v3] = some y1 := by
    have : DataW.trod enc Tryz.prog W 0 (fun _ => true) true n 28 (([v0, v1, v2, v3, v4, v5, v6, v7].drop 1).take (Tryz.prog.cellsOf 28)) = xs[1]? := hfs 1 _ rfl
    rw [e1, cellsAr] at this
    exact this
  have t2 : DataW.trod enc Tryz.prog W 0 (fun _ => true) true n 29 [v4] = some y2 := by
    have : DataW.trod enc Tryz.prog W 0 (fun _ => true) true n 29 (([v0, v1, v2, v3, v4, v5, v6, v7].drop 4).take (Tryz.prog.cellsOf 29)) = xs[2]? := hfs 2 _ rfl
    rw [e2, cellsFrS] at this
    exact this
  have t3 : DataW.trod enc Tryz.prog W 0 (fun _ => true) true n 30 [v5] = some y3 := by
    have : DataW.trod enc Tryz.prog W 0 (fun _ => true) true n 30 (([v0, v1, v2, v3, v4, v5, v6, v7].drop 5).take (Tryz.prog.cellsOf 30)) = xs[3]? := hfs 3 _ rfl
    rw [e3, cellsBs] at this
    exact this
  have t4 : DataW.trod enc Tryz.prog W 0 (fun _ => true) true n 3 [v6] = some y4 := by
    have : DataW.trod enc Tryz.prog W 0 (fun _ => true) true n 3 (([v0, v1, v2, v3, v4, v5, v6, v7].drop 6).take (Tryz.prog.cellsOf 3)) = xs[4]? := hfs 4 _ rfl
    rw [e4, cellsI] at this
    exact this
  have t5 : DataW.trod enc Tryz.prog W 0 (fun _ => true) true n 3 [v7] = some y5 := by
    have : DataW.trod enc Tryz.prog W 0 (fun _ => true) true n 3 (([v0, v1, v2, v3, v4, v5, v6, v7].drop 7).take (Tryz.prog.cellsOf 3)) = xs[5]? := hfs 5 _ rfl
    rw [e5, cellsI] at this
    exact this
  obtain ⟨A0, co, c0, rfl, h0⟩ := trod_code _ _ _ t0
  obtain ⟨A1, A2, A3, a, c1, c2, c3, rfl, rfl, rfl, h1⟩ := trod_arena _ _ _ _ _ t1
  obtain ⟨A4, F, c4, rfl, h2, _⟩ := trod_row4 Tryz.underlying29 cellsFr trod_fr t2
  obtain ⟨A5, lg, c5, rfl, hl, hR⟩ := trod_bytes Tryz.underlying30 Tryz.underlying5 cellsU8 t3
  obtain ⟨tk, rfl⟩ := trod_int1 t4
  obtain ⟨st, rfl⟩ := trod_int1 t5
  exact ⟨A0, A1, A2, A3, A4, A5, ⟨co, a, F, lg, tk, st⟩, c0, c1, c2, c3, c4, c5, rfl, h0, h1, h2, nmb_zero hR, hl⟩
end FrmOpen
end Go.Proofs.YtddjcjjnpidhiaaGreatDoor
