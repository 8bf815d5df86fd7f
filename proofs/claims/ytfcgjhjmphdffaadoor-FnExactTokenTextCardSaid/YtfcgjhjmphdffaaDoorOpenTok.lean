/-
  Tokens that came in: from the reading of a slice of structs to what the walks ask for.
-/
import Derived.Test.YtfcgjhjmphdffaaDoorOpen
import Derived.Test.YtfcgjhjmphdffaaDoorTok
import Derived.Deep.Fields
namespace Go.Proofs.YtfcgjhjmphdffaaDoor
open Go.ChangeShapes Go.WideShapes Go.ChangeAt Go.RowKit Go.Deep
set_option linter.unusedVariables false

section
variable {H : Type} {enc : TypeId × Value → H} {P : Program} {w : World} {base : Nat} {spare : Nat → Bool} {held : Bool}
theorem open_slice_fields {t e : TypeId} {fs : Array Field} {fuel : Nat} {cs : List Value} {x : DataW H × List MemPlace} (ht : P.underlying t = some (.slice e)) (he : P.underlying e = some (.struct fs))
    (hone : oneCellFields P fs = true) (hC : P.cellsOf e = fs.size) (h : DataW.trod enc P w base spare held fuel t cs = some x) :
    (cs = [.slice none 0 0] ∧ x = (.nil, [])) ∨
    ∃ (a : Addr) (len cap m : Nat) (D : Nat → DataW H) (Pl : Nat → List MemPlace), cs = [.slice (some a) len cap] ∧ base ≤ a.block ∧ len ≤ cap ∧ cap ≤ maxLen ∧ m = (if spare a.block then cap else len) ∧
      x = (.slice ((List.range len).map D) ((List.range (m - len)).map fun j => D (len + j)), MemPlace.row a (m * fs.size) ++ (List.range m).flatMap Pl) ∧
      ∀ i, i < m → ∃ (ys : List (DataW H × List MemPlace)) (n : Nat), D i = .agg (ys.map (·.1)) ∧ Pl i = ys.flatMap (·.2) ∧ ys.length = fs.size ∧
        ∀ (j : Nat) (f : Field), fs[j]? = some f → ∃ (v : Value) (y : DataW H × List MemPlace), w.cell? (a.add (i * fs.size + j)) = some v ∧ ys[j]? = some y ∧ DataW.trod enc P w base spare held n f.type [v] = some y := by
  rcases open_slice ht h with h0 | ⟨a, len, cap, m, n, D, Pl, hcs, hb, hl, hm, hmm, hx, hi⟩
  · exact .inl h0
  · refine .inr ⟨a, len, cap, m, D, Pl, hcs, hb, hl, hm, hmm, by rw [hC] at hx; exact hx, fun i him => ?_⟩
    obtain ⟨cs', hc, ht'⟩ := hi i him
    rw [hC] at hc
    obtain ⟨ys, n', hn', hy, hlen, hyl, hf⟩ := DataW.trod_struct he ht'
    obtain ⟨_, hcl, hat⟩ := World.cells?_some hc
    simp only [Prod.mk.injEq] at hy
    refine ⟨ys, n', hy.1, hy.2, hyl, fun j f hj => ?_⟩
    obtain ⟨ho, hk⟩ := hone_of hone j f hj
    have hjl : j < fs.size := (Array.getElem?_eq_some_iff.1 hj).1
    have hcell := hat j hjl
    have hv : cs'[j]? = some (cs'[j]'(by omega)) := List.getElem?_eq_getElem (by omega)
    have h1 := hf j f hj
    rw [ho, hk] at h1
    have hone' : (cs'.drop j).take 1 = [cs'[j]'(by omega)] := by
      rw [List.drop_eq_getElem_cons (by omega)]
      rfl
    rw [hone'] at h1
    have hys : ys[j]? = some (ys[j]'(by omega)) := List.getElem?_eq_getElem (by omega)
    refine ⟨_, _, ?_, hys, h1.trans hys⟩
    rw [← Go.Deep.add_add, hcell, hv]
end

theorem add_at (a : Addr) (m j : Nat) (hj : 0 < j) : a.add (m + j) = ⟨(a.add m).block, (a.add m).off + j, none⟩ := by
  unfold Addr.add
  by_cases h : m = 0
  · subst h; simp; omega
  · rw [if_neg (by omega), if_neg h]; simp [Nat.add_assoc]

theorem trod_i64 {H : Type} {enc : TypeId × Value → H} {P : Program} {W : World} {base : Nat} {spare : Nat → Bool} {held : Bool} {t : TypeId} {fuel : Nat} {v : Value} {x : DataW H × List MemPlace} (ht : P.underlying t = some (.int .i64))
    (h : DataW.trod enc P W base spare held fuel t [v] = some x) : ∃ n : Int, v = .int .i64 n := by
  obtain ⟨m, h1, _⟩ := DataW.trod_int ht h
  simp at h1
  exact ⟨m, h1⟩

theorem cells50 : Tryd.prog.cellsOf 35 = 4 := by kernel_rfl

theorem open_toks {H : Type} {enc : TypeId × Value → H} {W : World} {base : Nat} {v : Value} {d : DataW H} {p : List MemPlace}
    (hval : Value.okWide Tryd.prog W .any base 22 v) (h : DataW.Trod enc Tryd.prog W 0 (fun _ => true) true 22 v d p) :
    ∃ (A : Option Addr) (ts : List Tok) (c : Nat), v = .slice A ts.length c ∧ ts.length ≤ maxLen ∧ RT W W.heap.size A ts := by
  obtain ⟨a0, len0, cap0, rfl⟩ := okWide_slice Tryd.underlying22 hval
  obtain ⟨fuel, hf⟩ := h
  rcases open_slice_fields Tryd.underlying22 Tryd.underlying35 (by kernel_rfl) cells50 hf with ⟨h0, _⟩ | ⟨a, len1, cap1, m, D, Pl, hcs, _, hl, hm, hmm, _, hi⟩
  · simp [Value.cells] at h0
    obtain ⟨rfl, rfl, rfl⟩ := h0
    exact ⟨none, [], 0, rfl, Nat.zero_le _, fun hn => by simp at hn⟩
  · simp [Value.cells] at hcs
    obtain ⟨e1, e2, e3⟩ := hcs
    subst e1
    subst e2
    subst e3
    simp only [if_true] at hmm
    subst hmm
    have each : ∀ i, i < len0 → ∃ t : Tok, TokAt W W.heap.size (a.add (i * 4)) t ∧ (a.add (i * 4)).block < W.heap.size := by
      intro i hil
      obtain ⟨ys, n, _, _, _, hf'⟩ := hi i (by omega)
      obtain ⟨v0, y0, c0, _, t0⟩ := hf' 0 _ rfl
      obtain ⟨v1, y1, c1, _, t1⟩ := hf' 1 _ rfl
      obtain ⟨v2, y2, c2, _, t2⟩ := hf' 2 _ rfl
      obtain ⟨v3, y3, c3, _, t3⟩ := hf' 3 _ rfl
      obtain ⟨n0, rfl⟩ := trod_i64 Tryd.underlying3 t0
      obtain ⟨n1, rfl⟩ := trod_i64 Tryd.underlying3 t1
      obtain ⟨n2, rfl⟩ := trod_i64 Tryd.underlying3 t2
      obtain ⟨A', l, c', rfl, hl', hR⟩ := trod_bytes Tryd.underlying24 Tryd.underlying5 cellsU8 t3
      change W.cell? (a.add (i * 4 + 0)) = _ at c0
      change W.cell? (a.add (i * 4 + 1)) = _ at c1
      change W.cell? (a.add (i * 4 + 2)) = _ at c2
      change W.cell? (a.add (i * 4 + 3)) = _ at c3
      rw [Nat.add_zero] at c0
      rw [add_at _ _ _ (by omega)] at c1 c2 c3
      refine ⟨⟨n0, n1, n2, l⟩, ⟨A', c', c0, c1, c2, c3, hR, hl'⟩, ?_⟩
      rcases Nat.lt_or_ge (a.add (i * 4)).block W.heap.size with hlt' | hge
      · exact hlt'
      · have : W.heap[(a.add (i * 4)).block]? = none := Array.getElem?_eq_none hge
        simp [World.cell?, this] at c0
    let f : Fin len0 → Tok := fun i => Classical.choose (each i.1 i.2)
    have hlen : (List.ofFn f).length = len0 := by simp
    refine ⟨some a, List.ofFn f, m, by rw [hlen], by rw [hlen]; omega, fun hn => ?_⟩
    rw [hlen] at hn
    refine ⟨a, rfl, ?_, fun i hi' => ?_⟩
    · have := (Classical.choose_spec (each 0 hn)).2
      rwa [block_of_add] at this
    · have hil : i < len0 := by rw [hlen] at hi'; exact hi'
      have := (Classical.choose_spec (each i hil)).1
      simpa [f] using this
end Go.Proofs.YtfcgjhjmphdffaaDoor
