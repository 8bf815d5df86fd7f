/-
  Expressions that came in: from a reading to what the walks ask for.
-/
import Derived.Test.YtofnkhejpkfokaaOpen
import Derived.Test.YtofnkhejpkfokaaEx
namespace Go.Proofs.Ytofnkhejpkfokaa
open Go.ChangeShapes Go.WideShapes Go.ChangeAt Go.RowKit
set_option linter.unusedVariables false

theorem cellsI : Try.prog.cellsOf 3 = 1 := by kernel_rfl
theorem cellsBs : Try.prog.cellsOf 34 = 1 := by kernel_rfl
theorem cellsExS : Try.prog.cellsOf 123 = 1 := by kernel_rfl
theorem cellsEx : Try.prog.cellsOf 125 = 4 := by kernel_rfl

theorem list4 {α : Type} {l : List α} (h : l.length = 4) : ∃ a b c d, l = [a, b, c, d] := by
  match l, h with
  | [a, b, c, d], _ => exact ⟨a, b, c, d, rfl⟩

theorem some_at {α : Type} {l : List α} {n i : Nat} (h : l.length = n) (hi : i < n) : ∃ x, l[i]? = some x := ⟨l[i]'(by omega), List.getElem?_eq_getElem (by omega)⟩

theorem add_plain (a : Addr) (m j : Nat) (hj : 0 < j) : (a.add m).add j = ⟨(a.add m).block, (a.add m).off + j, none⟩ := by
  rw [show (a.add m).add j = { (a.add m) with off := (a.add m).off + j, spot := none } from by rw [Addr.add, if_neg (by omega)]]

theorem RBL.zero {w : World} {B : Nat} {A : Option Addr} {l : List UInt8} (h : RB w B A l) : RBL w 0 B A l :=
  ⟨h, fun hn => by obtain ⟨ad, e, _⟩ := h.2 hn; exact ⟨ad, e, Nat.zero_le _⟩⟩

theorem trod_int1 {H : Type} {enc : TypeId × Value → H} {W : World} {fuel : Nat} {v : Value} {x : DataW H × List MemPlace} (h : DataW.trod enc Try.prog W 0 (fun _ => true) true fuel 3 [v] = some x) : ∃ n : Int, v = .int .i64 n := by
  obtain ⟨m, h1, _⟩ := DataW.trod_int Try.underlying3 h
  simp at h1
  exact ⟨m, h1⟩

theorem trod_ex {H : Type} {enc : TypeId × Value → H} {W : World} : ∀ (fuel : Nat) (cs : List Value) (x : DataW H × List MemPlace), DataW.trod enc Try.prog W 0 (fun _ => true) true fuel 125 cs = some x →
    ∃ v0 v1 v2 v3 e, cs = [v0, v1, v2, v3] ∧ ExV W 0 W.heap.size v0 v1 v2 v3 e := by
  intro fuel
  induction fuel using Nat.strongRecOn with
  | _ fuel ih =>
    intro cs x h
    obtain ⟨xs, n, hf, hx, hlen, hxl, hfs⟩ := DataW.trod_struct Try.underlying125 h
    rw [cellsEx] at hlen
    obtain ⟨v0, v1, v2, v3, rfl⟩ := list4 hlen
    have hxl' : xs.length = 4 := hxl
    obtain ⟨y0, e0⟩ := some_at hxl' (i := 0) (by omega)
    obtain ⟨y1, e1⟩ := some_at hxl' (i := 1) (by omega)
    obtain ⟨y2, e2⟩ := some_at hxl' (i := 2) (by omega)
    obtain ⟨y3, e3⟩ := some_at hxl' (i := 3) (by omega)
    have t0 : DataW.trod enc Try.prog W 0 (fun _ => true) true n 3 [v0] = some y0 := by
      have : DataW.trod enc Try.prog W 0 (fun _ => true) true n 3 (([v0, v1, v2, v3].drop 0).take (Try.prog.cellsOf 3)) = xs[0]? := hfs 0 _ rfl
      rw [e0, cellsI] at this
      exact this
    have t1 : DataW.trod enc Try.prog W 0 (fun _ => true) true n 3 [v1] = some y1 := by
      have : DataW.trod enc Try.prog W 0 (fun _ => true) true n 3 (([v0, v1, v2, v3].drop 1).take (Try.prog.cellsOf 3)) = xs[1]? := hfs 1 _ rfl
      rw [e1, cellsI] at this
      exact this
    have t2 : DataW.trod enc Try.prog W 0 (fun _ => true) true n 34 [v2] = some y2 := by
      have : DataW.trod enc Try.prog W 0 (fun _ => true) true n 34 (([v0, v1, v2, v3].drop 2).take (Try.prog.cellsOf 34)) = xs[2]? := hfs 2 _ rfl
      rw [e2, cellsBs] at this
      exact this
    have t3 : DataW.trod enc Try.prog W 0 (fun _ => true) true n 123 [v3] = some y3 := by
      have : DataW.trod enc Try.prog W 0 (fun _ => true) true n 123 (([v0, v1, v2, v3].drop 3).take (Try.prog.cellsOf 123)) = xs[3]? := hfs 3 _ rfl
      rw [e3, cellsExS] at this
      exact this
    obtain ⟨k, rfl⟩ := trod_int1 t0
    obtain ⟨m, rfl⟩ := trod_int1 t1
    obtain ⟨A, l, c, rfl, hl, hR⟩ := trod_bytes Try.underlying34 Try.underlying5 cellsU8 t2
    rcases DataW.trod_slice Try.underlying123 t3 with ⟨hn, _⟩ | ⟨a, len, cap, elems, rest, q, hq, hcs, _, _, hlc, hcm, hel, heach, _, _⟩
    · simp at hn
      subst hn
      exact ⟨_, _, _, _, .mk k m l [], rfl, ExV.mk_ (args := []) (A' := none) (c' := 0) (RBL.zero hR) hl ⟨Nat.zero_le _, fun h => by simp at h⟩⟩
    · simp at hcs
      subst hcs
      have each : ∀ i, i < len → ∃ (u0 u1 u2 u3 : Value) (e : Ex), (At4 W (a.add (i * 4)) u0 u1 u2 u3 ∧ ExV W 0 W.heap.size u0 u1 u2 u3 e) ∧ a.block < W.heap.size := by
        intro i hi
        have hb := heach i hi
        obtain ⟨z, ez⟩ := some_at hel hi
        rw [cellsEx, ez, Option.bind_eq_some_iff] at hb
        obtain ⟨cs', hc', ht'⟩ := hb
        obtain ⟨u0, u1, u2, u3, e, rfl, hv⟩ := ih q (by omega) cs' z ht'
        obtain ⟨_, _, hat⟩ := World.cells?_some hc'
        have g0 := hat 0 (by omega)
        have g1 := hat 1 (by omega)
        have g2 := hat 2 (by omega)
        have g3 := hat 3 (by omega)
        rw [add_plain _ _ _ (by omega)] at g1 g2 g3
        have g0' : W.cell? (a.add (i * 4)) = some u0 := by simpa [Addr.add] using g0
        refine ⟨u0, u1, u2, u3, e, ⟨⟨g0', g1, g2, g3⟩, hv⟩, ?_⟩
        rcases Nat.lt_or_ge a.block W.heap.size with hlt | hge
        · exact hlt
        · have hn : W.heap[(a.add (i * 4)).block]? = none := Array.getElem?_eq_none (by rw [block_of_add]; exact hge)
          simp [World.cell?, hn] at g0'
      let f : Fin len → Ex := fun i => Classical.choose (Classical.choose_spec (Classical.choose_spec (Classical.choose_spec (Classical.choose_spec (each i.1 i.2)))))
      have hfl : (List.ofFn f).length = len := by simp
      refine ⟨_, _, _, _, .mk k m l (List.ofFn f), rfl, ?_⟩
      have hx : ExL W 0 W.heap.size (some a) (List.ofFn f) := by
        refine ⟨by rw [hfl]; omega, fun hn => ?_⟩
        rw [hfl] at hn
        refine ⟨a, rfl, Nat.zero_le _, ?_, fun i hi' => ?_⟩
        · obtain ⟨_, _, _, _, _, _, hb⟩ := each 0 hn
          exact hb
        · have hil : i < len := by rw [hfl] at hi'; exact hi'
          have hs := (Classical.choose_spec (Classical.choose_spec (Classical.choose_spec (Classical.choose_spec (Classical.choose_spec (each i hil)))))).1
          refine ⟨_, _, _, _, hs.1, ?_⟩
          have hget : (List.ofFn f)[i] = f ⟨i, hil⟩ := by simp
          rw [hget]
          exact hs.2
      have := ExV.mk_ (k := k) (n := m) (c := c) (c' := cap) (RBL.zero hR) hl hx
      rw [hfl] at this
      exact this
end Go.Proofs.Ytofnkhejpkfokaa
