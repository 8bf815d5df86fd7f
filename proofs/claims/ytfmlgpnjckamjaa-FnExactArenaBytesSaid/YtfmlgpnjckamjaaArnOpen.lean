/-
  An arena that is handed in, opened.
-/
import Derived.Test.YtfmlgpnjckamjaaArn
import Derived.Test.YtfmlgpnjckamjaaOpen
import Derived.Deep.RegionWith
namespace Go.Proofs.Ytfmlgpnjckamjaa
open Go.ChangeShapes Go.WideShapes Go.ChangeAt Go.RowKit
set_option linter.unusedVariables false
namespace ArnOpen

theorem cellsI : Try.prog.cellsOf 3 = 1 := by kernel_rfl
theorem cellsBo : Try.prog.cellsOf 4 = 1 := by kernel_rfl
theorem cellsBs : Try.prog.cellsOf 27 = 1 := by kernel_rfl
theorem cellsVal : Try.prog.cellsOf 40 = 3 := by kernel_rfl
theorem cellsFd : Try.prog.cellsOf 151 = 4 := by kernel_rfl
theorem cellsFdS : Try.prog.cellsOf 84 = 1 := by kernel_rfl
theorem cellsSl : Try.prog.cellsOf 86 = 4 := by kernel_rfl
theorem cellsSlS : Try.prog.cellsOf 22 = 1 := by kernel_rfl
theorem cellsIS : Try.prog.cellsOf 23 = 1 := by kernel_rfl
theorem cellsAr : Try.prog.cellsOf 25 = 3 := by kernel_rfl

theorem list4 {α : Type} {l : List α} (h : l.length = 4) : ∃ a b c d, l = [a, b, c, d] := by
  match l, h with
  | [a, b, c, d], _ => exact ⟨a, b, c, d, rfl⟩
theorem list3 {α : Type} {l : List α} (h : l.length = 3) : ∃ a b c, l = [a, b, c] := by
  match l, h with
  | [a, b, c], _ => exact ⟨a, b, c, rfl⟩
theorem some_at {α : Type} {l : List α} {n i : Nat} (h : l.length = n) (hi : i < n) : ∃ x, l[i]? = some x := ⟨l[i]'(by omega), List.getElem?_eq_getElem (by omega)⟩
theorem add_plain (a : Addr) (m j : Nat) (hj : 0 < j) : (a.add m).add j = ⟨(a.add m).block, (a.add m).off + j, none⟩ := by
  rw [show (a.add m).add j = { (a.add m) with off := (a.add m).off + j, spot := none } from by rw [Addr.add, if_neg (by omega)]]
theorem block_lt {W : World} {a : Addr} {m : Nat} {v : Value} (h : W.cell? (a.add m) = some v) : a.block < W.heap.size := by
  rcases Nat.lt_or_ge a.block W.heap.size with hlt | hge
  · exact hlt
  · have hn : W.heap[(a.add m).block]? = none := Array.getElem?_eq_none (by rw [block_of_add]; exact hge)
    simp [World.cell?, hn] at h
theorem nmb_zero {w : World} {B : Nat} {A : Option Addr} {l : List UInt8} (h : RB w B A l) : NmB w 0 B A l :=
  ⟨h, fun hn => by obtain ⟨ad, e, _⟩ := h.2 hn; exact ⟨ad, e, Nat.zero_le _⟩⟩

section
variable {H : Type} {enc : TypeId × Value → H} {W : World}

theorem trod_int1 {fuel : Nat} {v : Value} {x : DataW H × List MemPlace} (h : DataW.trod enc Try.prog W 0 (fun _ => true) true fuel 3 [v] = some x) : ∃ n : Int, v = .int .i64 n := by
  obtain ⟨m, h1, _⟩ := DataW.trod_int Try.underlying3 h
  simp at h1
  exact ⟨m, h1⟩
theorem trod_bool1 {fuel : Nat} {v : Value} {x : DataW H × List MemPlace} (h : DataW.trod enc Try.prog W 0 (fun _ => true) true fuel 4 [v] = some x) : ∃ b : Bool, v = .bool b := by
  obtain ⟨m, h1, _⟩ := DataW.trod_bool Try.underlying4 h
  simp at h1
  exact ⟨m, h1⟩

/-- a slice of things of four cells -/
theorem trod_row4 {α : Type} {T TS : TypeId} {V : Value → Value → Value → Value → α → Prop} (hTS : Try.prog.underlying TS = some (.slice T)) (hT : Try.prog.cellsOf T = 4)
    (hel : ∀ (q : Nat) (cs : List Value) (x : DataW H × List MemPlace), DataW.trod enc Try.prog W 0 (fun _ => true) true q T cs = some x → ∃ v0 v1 v2 v3 e, cs = [v0, v1, v2, v3] ∧ V v0 v1 v2 v3 e)
    {n : Nat} {v : Value} {y : DataW H × List MemPlace} (h : DataW.trod enc Try.prog W 0 (fun _ => true) true n TS [v] = some y) :
    ∃ (A : Option Addr) (l : List α) (c : Nat), v = .slice A l.length c ∧ Row4 V W 0 W.heap.size A l ∧ l.length ≤ c := by
  rcases DataW.trod_slice hTS h with ⟨hn, _⟩ | ⟨a, len, cap, elems, rest, q, hq, hcs, _, _, hlc, hcm, hel', heach, _, _⟩
  · simp at hn
    subst hn
    exact ⟨none, [], 0, rfl, Row4.none_ _ _ _ _ _, Nat.le_refl _⟩
  · simp at hcs
    subst hcs
    have each : ∀ i, i < len → ∃ (e : α), (∃ v0 v1 v2 v3, C4 W (a.add (i * 4)) v0 v1 v2 v3 ∧ V v0 v1 v2 v3 e) ∧ a.block < W.heap.size := by
      intro i hi
      have hb := heach i hi
      obtain ⟨z, ez⟩ := some_at hel' hi
      rw [hT, ez, Option.bind_eq_some_iff] at hb
      obtain ⟨cs', hc', ht'⟩ := hb
      obtain ⟨v0, v1, v2, v3, e, rfl, hv⟩ := hel q cs' z ht'
      obtain ⟨_, _, hat⟩ := World.cells?_some hc'
      have g0 := hat 0 (by omega)
      have g1 := hat 1 (by omega)
      have g2 := hat 2 (by omega)
      have g3 := hat 3 (by omega)
      rw [add_plain _ _ _ (by omega)] at g1 g2 g3
      have g0' : W.cell? (a.add (i * 4)) = some v0 := by simpa [Addr.add] using g0
      exact ⟨e, ⟨v0, v1, v2, v3, ⟨g0', g1, g2, g3⟩, hv⟩, block_lt g0'⟩
    let f : Fin len → α := fun i => Classical.choose (each i.1 i.2)
    have hfl : (List.ofFn f).length = len := by simp
    refine ⟨some a, List.ofFn f, cap, by rw [hfl], ⟨by rw [hfl]; omega, fun hn => ?_⟩, by rw [hfl]; omega⟩
    rw [hfl] at hn
    refine ⟨a, rfl, Nat.zero_le _, ?_, fun i hi' => ?_⟩
    · obtain ⟨_, _, hb⟩ := each 0 hn
      exact hb
    · have hil : i < len := by rw [hfl] at hi'; exact hi'
      have hs := (Classical.choose_spec (each i hil)).1
      have hget : (List.ofFn f)[i] = f ⟨i, hil⟩ := by simp
      rw [hget]
      exact hs

/-- a slice of numbers -/
theorem trod_ints {n : Nat} {v : Value} {y : DataW H × List MemPlace} (h : DataW.trod enc Try.prog W 0 (fun _ => true) true n 23 [v] = some y) :
    ∃ (A : Option Addr) (l : List Int) (c : Nat), v = .slice A l.length c ∧ IL W 0 W.heap.size A l ∧ l.length ≤ c := by
  rcases DataW.trod_slice Try.underlying23 h with ⟨hn, _⟩ | ⟨a, len, cap, elems, rest, q, hq, hcs, _, _, hlc, hcm, hel', heach, _, _⟩
  · simp at hn
    subst hn
    exact ⟨none, [], 0, rfl, IL.none_ _ _ _ _, Nat.le_refl _⟩
  · simp at hcs
    subst hcs
    have each : ∀ i, i < len → ∃ (e : Int), W.cell? (a.add i) = some (.int .i64 e) ∧ a.block < W.heap.size := by
      intro i hi
      have hb := heach i hi
      obtain ⟨z, ez⟩ := some_at hel' hi
      rw [cellsI, ez, Nat.mul_one, Option.bind_eq_some_iff] at hb
      obtain ⟨cs', hc', ht'⟩ := hb
      obtain ⟨_, hl1, hat⟩ := World.cells?_some hc'
      obtain ⟨u, rfl⟩ : ∃ u, cs' = [u] := by
        match cs', hl1 with
        | [u], _ => exact ⟨u, rfl⟩
      obtain ⟨m, rfl⟩ := trod_int1 ht'
      have g := hat 0 (by omega)
      have g' : W.cell? (a.add i) = some (.int .i64 m) := by simpa [Addr.add] using g
      exact ⟨m, g', block_lt g'⟩
    let f : Fin len → Int := fun i => Classical.choose (each i.1 i.2)
    have hfl : (List.ofFn f).length = len := by simp
    refine ⟨some a, List.ofFn f, cap, by rw [hfl], ⟨by rw [hfl]; omega, fun hn => ?_⟩, by rw [hfl]; omega⟩
    rw [hfl] at hn
    refine ⟨a, rfl, Nat.zero_le _, ?_, fun i hi' => ?_⟩
    · obtain ⟨_, _, hb⟩ := each 0 hn
      exact hb
    · have hil : i < len := by rw [hfl] at hi'; exact hi'
      have hs := (Classical.choose_spec (each i hil)).1
      have hget : (List.ofFn f)[i] = f ⟨i, hil⟩ := by simp
      rw [hget]
      exact hs

/-- a value -/
theorem trod_val {fuel : Nat} {cs : List Value} {x : DataW H × List MemPlace} (h : DataW.trod enc Try.prog W 0 (fun _ => true) true fuel 40 cs = some x) :
    ∃ k n g : Int, cs = [.int .i64 k, .int .i64 n, .int .i64 g] := by
  obtain ⟨xs, n, hf, hx, hlen, hxl, hfs⟩ := DataW.trod_struct Try.underlying40 h
  rw [cellsVal] at hlen
  obtain ⟨v0, v1, v2, rfl⟩ := list3 hlen
  have hxl' : xs.length = 3 := hxl
  obtain ⟨y0, e0⟩ := some_at hxl' (i := 0) (by omega)
  obtain ⟨y1, e1⟩ := some_at hxl' (i := 1) (by omega)
  obtain ⟨y2, e2⟩ := some_at hxl' (i := 2) (by omega)
  have t0 : DataW.trod enc Try.prog W 0 (fun _ => true) true n 3 [v0] = some y0 := by
    have : DataW.trod enc Try.prog W 0 (fun _ => true) true n 3 (([v0, v1, v2].drop 0).take (Try.prog.cellsOf 3)) = xs[0]? := hfs 0 _ rfl
    rw [e0, cellsI] at this
    exact this
  have t1 : DataW.trod enc Try.prog W 0 (fun _ => true) true n 3 [v1] = some y1 := by
    have : DataW.trod enc Try.prog W 0 (fun _ => true) true n 3 (([v0, v1, v2].drop 1).take (Try.prog.cellsOf 3)) = xs[1]? := hfs 1 _ rfl
    rw [e1, cellsI] at this
    exact this
  have t2 : DataW.trod enc Try.prog W 0 (fun _ => true) true n 3 [v2] = some y2 := by
    have : DataW.trod enc Try.prog W 0 (fun _ => true) true n 3 (([v0, v1, v2].drop 2).take (Try.prog.cellsOf 3)) = xs[2]? := hfs 2 _ rfl
    rw [e2, cellsI] at this
    exact this
  obtain ⟨k, rfl⟩ := trod_int1 t0
  obtain ⟨m, rfl⟩ := trod_int1 t1
  obtain ⟨g, rfl⟩ := trod_int1 t2
  exact ⟨k, m, g, rfl⟩

/-- a field -/
theorem trod_fd (fuel : Nat) (cs : List Value) (x : DataW H × List MemPlace) (h : DataW.trod enc Try.prog W 0 (fun _ => true) true fuel 151 cs = some x) :
    ∃ v0 v1 v2 v3 e, cs = [v0, v1, v2, v3] ∧ FdV W 0 W.heap.size v0 v1 v2 v3 e := by
  obtain ⟨xs, n, hf, hx, hlen, hxl, hfs⟩ := DataW.trod_struct Try.underlying151 h
  rw [cellsFd] at hlen
  obtain ⟨v0, v1, v2, v3, rfl⟩ := list4 hlen
  have hxl' : xs.length = 2 := hxl
  obtain ⟨y0, e0⟩ := some_at hxl' (i := 0) (by omega)
  obtain ⟨y1, e1⟩ := some_at hxl' (i := 1) (by omega)
  have t0 : DataW.trod enc Try.prog W 0 (fun _ => true) true n 27 [v0] = some y0 := by
    have : DataW.trod enc Try.prog W 0 (fun _ => true) true n 27 (([v0, v1, v2, v3].drop 0).take (Try.prog.cellsOf 27)) = xs[0]? := hfs 0 _ rfl
    rw [e0, cellsBs] at this
    exact this
  have t1 : DataW.trod enc Try.prog W 0 (fun _ => true) true n 40 [v1, v2, v3] = some y1 := by
    have : DataW.trod enc Try.prog W 0 (fun _ => true) true n 40 (([v0, v1, v2, v3].drop 1).take (Try.prog.cellsOf 40)) = xs[1]? := hfs 1 _ rfl
    rw [e1, cellsVal] at this
    exact this
  obtain ⟨A, l, c, rfl, hl, hR⟩ := trod_bytes Try.underlying27 Try.underlying5 cellsU8 t0
  obtain ⟨k, m, g, e⟩ := trod_val t1
  simp only [List.cons.injEq, and_true] at e
  obtain ⟨rfl, rfl, rfl⟩ := e
  exact ⟨_, _, _, _, ⟨l, k, m, g⟩, rfl, A, c, rfl, nmb_zero hR, hl, rfl, rfl, rfl⟩

/-- a slot -/
theorem trod_sl (fuel : Nat) (cs : List Value) (x : DataW H × List MemPlace) (h : DataW.trod enc Try.prog W 0 (fun _ => true) true fuel 86 cs = some x) :
    ∃ v0 v1 v2 v3 e, cs = [v0, v1, v2, v3] ∧ SlV W 0 W.heap.size v0 v1 v2 v3 e := by
  obtain ⟨xs, n, hf, hx, hlen, hxl, hfs⟩ := DataW.trod_struct Try.underlying86 h
  rw [cellsSl] at hlen
  obtain ⟨v0, v1, v2, v3, rfl⟩ := list4 hlen
  have hxl' : xs.length = 4 := hxl
  obtain ⟨y0, e0⟩ := some_at hxl' (i := 0) (by omega)
  obtain ⟨y1, e1⟩ := some_at hxl' (i := 1) (by omega)
  obtain ⟨y2, e2⟩ := some_at hxl' (i := 2) (by omega)
  obtain ⟨y3, e3⟩ := some_at hxl' (i := 3) (by omega)
  have t0 : DataW.trod enc Try.prog W 0 (fun _ => true) true n 4 [v0] = some y0 := by
    have : DataW.trod enc Try.prog W 0 (fun _ => true) true n 4 (([v0, v1, v2, v3].drop 0).take (Try.prog.cellsOf 4)) = xs[0]? := hfs 0 _ rfl
    rw [e0, cellsBo] at this
    exact this
  have t1 : DataW.trod enc Try.prog W 0 (fun _ => true) true n 3 [v1] = some y1 := by
    have : DataW.trod enc Try.prog W 0 (fun _ => true) true n 3 (([v0, v1, v2, v3].drop 1).take (Try.prog.cellsOf 3)) = xs[1]? := hfs 1 _ rfl
    rw [e1, cellsI] at this
    exact this
  have t2 : DataW.trod enc Try.prog W 0 (fun _ => true) true n 3 [v2] = some y2 := by
    have : DataW.trod enc Try.prog W 0 (fun _ => true) true n 3 (([v0, v1, v2, v3].drop 2).take (Try.prog.cellsOf 3)) = xs[2]? := hfs 2 _ rfl
    rw [e2, cellsI] at this
    exact this
  have t3 : DataW.trod enc Try.prog W 0 (fun _ => true) true n 84 [v3] = some y3 := by
    have : DataW.trod enc Try.prog W 0 (fun _ => true) true n 84 (([v0, v1, v2, v3].drop 3).take (Try.prog.cellsOf 84)) = xs[3]? := hfs 3 _ rfl
    rw [e3, cellsFdS] at this
    exact this
  obtain ⟨b, rfl⟩ := trod_bool1 t0
  obtain ⟨g, rfl⟩ := trod_int1 t1
  obtain ⟨c, rfl⟩ := trod_int1 t2
  obtain ⟨A, l, cp, rfl, hR, _⟩ := trod_row4 Try.underlying84 cellsFd trod_fd t3
  exact ⟨_, _, _, _, ⟨b, g, c, l⟩, rfl, rfl, rfl, rfl, A, cp, rfl, hR⟩
end

set_option maxRecDepth 100000 in
/-- An arena that came in. -/
theorem open_arena {H : Type} {enc : TypeId × Value → H} {W : World} {base : Nat} {v : Value} {d : DataW H} {p : List MemPlace}
    (hval : Value.okWide Try.prog W .any base 25 v) (h : DataW.Trod enc Try.prog W 0 (fun _ => true) true 25 v d p) :
    ∃ (A0 A1 A2 : Option Addr) (a : Ar) (c0 c1 c2 : Nat), v = .agg #[.slice A0 a.slots.length c0, .slice A1 a.queue.length c1, .slice A2 a.purple.length c2] ∧ ArL W 0 W.heap.size A0 A1 A2 a := by
  obtain ⟨cs, rfl, hsz⟩ := okWide_struct Try.underlying25 hval
  obtain ⟨fuel, hf⟩ := h
  obtain ⟨xs, n, _, hx, hlen, hxl, hfs⟩ := DataW.trod_struct Try.underlying25 hf
  rw [cellsAr] at hlen
  obtain ⟨l⟩ := cs
  have hlen' : l.length = 3 := hlen
  obtain ⟨v0, v1, v2, rfl⟩ := list3 hlen'
  have hxl' : xs.length = 3 := hxl
  obtain ⟨y0, e0⟩ := some_at hxl' (i := 0) (by omega)
  obtain ⟨y1, e1⟩ := some_at hxl' (i := 1) (by omega)
  obtain ⟨y2, e2⟩ := some_at hxl' (i := 2) (by omega)
  have t0 : DataW.trod enc Try.prog W 0 (fun _ => true) true n 22 [v0] = some y0 := by
    have : DataW.trod enc Try.prog W 0 (fun _ => true) true n 22 (([v0, v1, v2].drop 0).take (Try.prog.cellsOf 22)) = xs[0]? := hfs 0 _ rfl
    rw [e0, cellsSlS] at this
    exact this
  have t1 : DataW.trod enc Try.prog W 0 (fun _ => true) true n 23 [v1] = some y1 := by
    have : DataW.trod enc Try.prog W 0 (fun _ => true) true n 23 (([v0, v1, v2].drop 1).take (Try.prog.cellsOf 23)) = xs[1]? := hfs 1 _ rfl
    rw [e1, cellsIS] at this
    exact this
  have t2 : DataW.trod enc Try.prog W 0 (fun _ => true) true n 23 [v2] = some y2 := by
    have : DataW.trod enc Try.prog W 0 (fun _ => true) true n 23 (([v0, v1, v2].drop 2).take (Try.prog.cellsOf 23)) = xs[2]? := hfs 2 _ rfl
    rw [e2, cellsIS] at this
    exact this
  obtain ⟨A0, S, c0, rfl, hS, _⟩ := trod_row4 Try.underlying22 cellsSl trod_sl t0
  obtain ⟨A1, Q, c1, rfl, hQ, _⟩ := trod_ints t1
  obtain ⟨A2, P, c2, rfl, hP, _⟩ := trod_ints t2
  exact ⟨A0, A1, A2, ⟨S, Q, P⟩, c0, c1, c2, rfl, hS, hQ, hP⟩

set_option maxRecDepth 100000 in
/-- A value that came in. -/
theorem open_val {H : Type} {enc : TypeId × Value → H} {W : World} {base : Nat} {v : Value} {d : DataW H} {p : List MemPlace}
    (hval : Value.okWide Try.prog W .any base 40 v) (h : DataW.Trod enc Try.prog W 0 (fun _ => true) true 40 v d p) :
    ∃ k n g : Int, v = .agg #[.int .i64 k, .int .i64 n, .int .i64 g] := by
  obtain ⟨cs, rfl, hsz⟩ := okWide_struct Try.underlying40 hval
  obtain ⟨fuel, hf⟩ := h
  obtain ⟨k, n, g, e⟩ := trod_val hf
  obtain ⟨l⟩ := cs
  have hl : l = [.int .i64 k, .int .i64 n, .int .i64 g] := e
  subst hl
  exact ⟨k, n, g, rfl⟩
end ArnOpen
end Go.Proofs.Ytfmlgpnjckamjaa
