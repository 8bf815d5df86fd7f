/-
  A copy of a row of names: the names themselves stay where they are.
-/
import Derived.Test.YtglalpoalinieaaWithName
namespace Go.Proofs.Ytglalpoalinieaa
open Go.RowKit Go.Shelf
set_option linter.unusedVariables false

theorem BsL.vals {w : World} {L B : Nat} {ad : Addr} {l : List (List UInt8)} (h : BsL w L B (some ad) l) : ∃ xs : List Value, xs.length = l.length ∧ (∀ j u, xs[j]? = some u → w.cell? (ad.add j) = some u) ∧
    (∀ u ∈ xs, u.oneCell' = true) ∧ ∀ j (hj : j < l.length), ∃ A2 c2, xs[j]? = some (.slice A2 l[j].length c2) ∧ RBL w L B A2 l[j] ∧ l[j].length ≤ maxLen := by
  have each : ∀ j, j < l.length → ∃ (v : Value), ∃ (hj : j < l.length) (A2 : Option Addr) (c2 : Nat), v = .slice A2 l[j].length c2 ∧ w.cell? (ad.add j) = some v ∧ RBL w L B A2 l[j] ∧ l[j].length ≤ maxLen := by
    intro j hj
    obtain ⟨ad', e, _, _, hs⟩ := h.2 (by omega)
    injection e with e
    subst e
    obtain ⟨A2, c2, h1, h2, h3⟩ := hs j hj
    exact ⟨_, hj, A2, c2, rfl, h1, h2, h3⟩
  let f : Fin l.length → Value := fun i => Classical.choose (each i.1 i.2)
  have hfl : (List.ofFn f).length = l.length := by simp
  have hget : ∀ j (hj : j < l.length), (List.ofFn f)[j]? = some (f ⟨j, hj⟩) := fun j hj => by
    rw [List.getElem?_eq_getElem (by rw [hfl]; exact hj)]
    simp
  refine ⟨List.ofFn f, hfl, fun j u hj => ?_, fun u hu => ?_, fun j hj => ?_⟩
  · have hjl : j < l.length := by rw [← hfl]; exact (List.getElem?_eq_some_iff.1 hj).1
    rw [hget j hjl] at hj
    injection hj with hj
    obtain ⟨_, A2, c2, h1, h2, _⟩ := Classical.choose_spec (each j hjl)
    rw [← hj]
    exact h2
  · rw [List.mem_ofFn] at hu
    obtain ⟨i, rfl⟩ := hu
    obtain ⟨_, A2, c2, h1, h2, _⟩ := Classical.choose_spec (each i.1 i.2)
    show (Classical.choose (each i.1 i.2)).oneCell' = true
    rw [h1]; rfl
  · obtain ⟨_, A2, c2, h1, h2, h3⟩ := Classical.choose_spec (each j hj)
    exact ⟨A2, c2, by rw [hget j hj]; exact congrArg some h1, h3⟩

set_option maxRecDepth 100000 in
set_option maxHeartbeats 2000000 in
theorem bsClone_c (l : List (List UInt8)) (A : Option Addr) (c L B : Nat) (w : World) (hB : B ≤ w.heap.size) (hl : l.length ≤ 1048576) (h : BsL w L B A l) :
    Calls Try.prog 83 #[.slice A l.length c] w fun r w' => ∃ v', r = .returned v' ∧ NmRow w' B w.heap.size v' l ∧ Below w.heap.size w w' := by
  obtain ⟨i0, hi, hz0, hz1, hz2⟩ := info_parts infoBs
  have qn : ∀ (w : World) (a : Option Addr) (n c n' c' : Nat), (binOp .eql 40 (.slice a n c) (.slice none n' c')).run Try.prog w = .ok (.bool a.isNone) w := fun w a n c n' c' => Lib.run_eql_slice_nil w _ _ a n c n' c' Try.underlying40
  cases A with
  | none =>
    have h0 : l = [] := by
      cases l with
      | nil => rfl
      | cons x r => obtain ⟨ad, e, _⟩ := h.2 (by simp); cases e
    subst h0
    go_enter Try.func83, Try.ntmps83
    go_wp2
    go_ret
    exact ⟨_, rfl, NmRow.nil _ _ _, Below.refl _ _⟩
  | some ad =>
    have hb0 : Below w.heap.size w (w.alloc (.cells #[] 33)) := (Below.refl _ _).alloc (Nat.le_refl _) _
    have hR := h.below (hb0.mono hB)
    obtain ⟨xs, hxl, hcs, h1c, hall⟩ := hR.vals
    have hO : (w.alloc (.cells #[] 33)).ownsRow w.heap.size 33 1 (.slice (some ⟨w.heap.size, 0, none⟩) 0 0) 0 [] :=
      ⟨rfl, .inr ⟨w.heap.size, 0, #[], rfl, Nat.le_refl _, Blk.new w _ _, Nat.le_refl _, Nat.zero_le _, rfl, rfl⟩⟩
    have HO := Lib.hid hO
    have Hcs := Lib.hid hcs
    have Hall := Lib.hid hall
    clear hO hR h hcs hall
    go_enter Try.func83, Try.ntmps83
    go_wp2_with (at_builtin; refine wpList_append_own _ rfl (.tmp 5) (.tmp 6) 40 rfl w.heap.size 33 i0 _ 1 24 Try.underlying40 hi hz0 hz1 hz2 rfl (by omega) _ _ _ rfl HO.out ad l.length c xs rfl (by omega) Hcs.out h1c (by unfold maxLen; omega) (by omega) (by simp) ?_; intro v2 w2 hown2 hg2 _)
    go_ret
    rw [Nat.zero_add, List.nil_append] at hown2
    have hbn : Below w.heap.size w w2 := hb0.grown hg2 (by simp) (fun g hg => by
      have h3 : (Value.slice (some ⟨w.heap.size, 0, none⟩) 0 0).ownBlock = some g := hg
      simp [Value.ownBlock] at h3
      omega)
    have hv2 : ∃ A' c', v2 = .slice A' l.length c' ∧ l.length ≤ c' ∧ c' ≤ maxLen := by
      rcases hown2.2 with ⟨h1, h0⟩ | ⟨g2, cap2, cur2, hv2, _, _, hc, hcm, _⟩
      · exact ⟨none, 0, by rw [h1, h0], by omega, Nat.zero_le _⟩
      · exact ⟨_, _, hv2, hc, hcm⟩
    obtain ⟨A', c', e, hc', hcm'⟩ := hv2
    refine ⟨v2, rfl, ⟨by omega, A', c', xs, e, hown2, hc', hcm', fun j hj => ?_⟩, hbn⟩
    obtain ⟨A2, c2, x1, x2, x3⟩ := Hall.out j hj
    exact ⟨A2, c2, x1, (NmB.of_data (x2.keep (w' := w2) (fun p _ hp => (hbn.cell (by omega)).trans (hb0.cell (by omega)).symm)) (Nat.le_trans hB hbn.size)), x3⟩
end Go.Proofs.Ytglalpoalinieaa
