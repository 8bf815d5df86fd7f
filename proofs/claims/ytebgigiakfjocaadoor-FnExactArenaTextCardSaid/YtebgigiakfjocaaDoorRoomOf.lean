/-
  The program's room, made of an arena.
-/
import Derived.Test.YtebgigiakfjocaaDoorRoomQ
import Derived.Maps.AppendAt
import Derived.Deep.AppendLies
namespace Go.Proofs.YtebgigiakfjocaaDoor
open Go.RowKit
set_option linter.unusedVariables false
set_option linter.unusedSimpArgs false

theorem sizeOk2_c (x : Int) (w : World) : Calls Tryd.prog 75 #[.int .i64 x] w fun e w' => e = .returned (.bool (decide (1 ≤ x) && decide (x ≤ 16))) ∧ w = w' := by
  by_cases h : 1 ≤ x
  · rw [decide_eq_true h, Bool.true_and]
    go_enter Tryd.func75, Tryd.ntmps75
    go_wp2
    go_ret
    exact ⟨rfl, rfl⟩
  · have h' := decide_eq_false h
    rw [h', Bool.false_and]
    go_enter Tryd.func75, Tryd.ntmps75
    go_wp2
    go_ret
    exact ⟨rfl, rfl⟩

set_option maxRecDepth 100000 in
set_option maxHeartbeats 1000000 in
theorem slotOf_c (lv : Bool) (gn ct : Int) (FA : Option Addr) (n fc : Nat) (w : World) :
    Calls Tryd.prog 76 #[.agg #[.bool lv, .int .i64 gn, .int .i64 ct, .slice FA n fc]] w fun e w' => e = .returned (.agg #[.bool lv, .int .i64 gn, .int .i64 ct, .slice FA n fc]) ∧ Below w.heap.size w w' := by
  go_enter Tryd.func76, Tryd.ntmps76
  go_wp2
  exact bodyPost_ret (v := .agg #[.bool lv, .int .i64 gn, .int .i64 ct, .slice FA n fc]) (by simp [results, Tryd.results76, go_sem]) rfl ⟨rfl, by first | exact (((blw2 _ _ _).setCell (by simp) _).setCell (by simp) _).setCell (by simp) _ | exact blw2 _ _ _ | exact ((((blw2 _ _ _).setCell (by simp) _).setCell (by simp) _).setCell (by simp) _).setCell (by simp) _⟩

/-- an append whose run is known, as one step of a region that draws its order -/
theorem step_append_known {P : Program} {ops : Array Oper} {o : Oper} {a : Act} {w : World} {K : Act → World → Prop} {Q : Exit → Act → World → Prop} {E : Prop} (hgd : o.guard = none) (s x : Operand) (t tn : TypeId)
    (ho : o.op = Op.call { callee := Callee.builtin Builtin.append, args := #[s, x], argTypes := #[t, tn] }) (vs vx : Value) (hs : a.eval s = vs) (hx : a.eval x = vx) {v' : Value} {w' : World}
    (hrun : (Builtin.append_ #[t, tn] o.type #[vs, vx]).run P w = .ok v' w') (h : K (a.put o.dst v') w') :
    if Region.wanted o (yielded ops a.tmps) = true then Oper.wp P o a w K Q else E := by
  rw [if_pos (show Region.wanted o (yielded ops a.tmps) = true by simp [Region.wanted, hgd])]
  exact Lib.wp_append_run w s x t tn ho vs vx hs hx v' w' hrun h

theorem infoRS : (Tryd.prog.info? 88).map (fun i => (i.zero, i.size, i.bytes)) = some (some (.agg #[.bool false, .int .i64 0, .int .i64 0, .slice none 0 0]), 4, 48) := by kernel_rfl

/-- a row of slots that grows -/
def SRow (w : World) (lo : Nat) (V : Value → Value → Value → Value → Sl → Prop) (A : Option Addr) (n c : Nat) (S : List Sl) : Prop :=
  n ≤ S.length ∧ ((A = none ∧ n = 0 ∧ c = 0) ∨ ∃ (g : Nat) (cs : Array Value), A = some ⟨g, 0, none⟩ ∧ lo ≤ g ∧ Blk w g 88 cs ∧ cs.size = c * 4 ∧ n ≤ c ∧ c ≤ maxLen ∧ RowP V cs S n)
theorem SRow.apart {X : Nat → Prop} {w w' : World} {lo : Nat} {V : Value → Value → Value → Value → Sl → Prop} {A : Option Addr} {n c : Nat} {S : List Sl} (h : SRow w lo V A n c S) (ha : Apart X w w') (hn : ∀ k, At (.slice A n c) k → ¬ X k) : SRow w' lo V A n c S := by
  refine ⟨h.1, ?_⟩
  rcases h.2 with h | ⟨g, cs, rfl, hg, hb, h⟩
  · exact .inl h
  · exact .inr ⟨g, cs, rfl, hg, hb.apart ha (hn g ⟨_, _, _, rfl, rfl⟩), h⟩
theorem SRow.at_lt {w : World} {lo : Nat} {V : Value → Value → Value → Value → Sl → Prop} {A : Option Addr} {n c : Nat} {S : List Sl} (h : SRow w lo V A n c S) {k : Nat} (hk : At (.slice A n c) k) : lo ≤ k ∧ k < w.heap.size ∧ ∃ cs, Blk w k 88 cs := by
  rcases h.2 with ⟨rfl, _⟩ | ⟨g, cs, rfl, hg, hb, _⟩
  · exact hk.nil.elim
  · rw [hk.some_]
    exact ⟨hg, hb.lt, cs, hb⟩
theorem SRow.read {w : World} {lo : Nat} {V : Value → Value → Value → Value → Sl → Prop} {A : Option Addr} {n c : Nat} {S : List Sl} (h : SRow w lo V A n c S) (hn : n = S.length) (hm : S.length ≤ maxLen) : Row4 V w lo w.heap.size A S := by
  rcases h.2 with ⟨rfl, h0, _⟩ | ⟨g, cs, rfl, hg, hb, hs, hc, hcm, hp⟩
  · have : S = [] := List.eq_nil_of_length_eq_zero (by omega)
    subst this
    exact Row4.none_ _ _ _ _ _
  · rw [hn] at hp
    exact hp.row hm hb hg

theorem RowP.more_ {V : Value → Value → Value → Value → Sl → Prop} {cs : Array Value} {l : List Sl} {k : Nat} (h : RowP V cs l k) (hk : k < l.length) (hcs : (k + 1) * 4 ≤ cs.size) {u0 u1 u2 u3 : Value} (hv : V u0 u1 u2 u3 l[k]) :
    RowP V (pt4 cs (k * 4) u0 u1 u2 u3) l (k + 1) := by
  intro i hi hik
  by_cases e : i = k
  · subst e
    obtain ⟨a0, a1, a2, a3⟩ := pt4_at (cs := cs) (k := i * 4) (a := u0) (b := u1) (c := u2) (d := u3) (by omega)
    exact ⟨u0, u1, u2, u3, a0, a1, a2, a3, hv⟩
  · obtain ⟨x0, x1, x2, x3, c0, c1, c2, c3, hx⟩ := h i hi (by omega)
    refine ⟨x0, x1, x2, x3, ?_, ?_, ?_, ?_, hx⟩
    · rw [pt4_ne (by omega)]; exact c0
    · rw [pt4_ne (by omega)]; exact c1
    · rw [pt4_ne (by omega)]; exact c2
    · rw [pt4_ne (by omega)]; exact c3
theorem RowP.ext_ {V : Value → Value → Value → Value → Sl → Prop} {cs cs' : Array Value} {l : List Sl} {k : Nat} (h : RowP V cs l k) (he : ∀ j, j < k * 4 → cs'[j]? = cs[j]?) : RowP V cs' l k := fun i hi hk => by
  obtain ⟨x0, x1, x2, x3, c0, c1, c2, c3, hx⟩ := h i hi hk
  exact ⟨x0, x1, x2, x3, (he _ (by omega)).trans c0, (he _ (by omega)).trans c1, (he _ (by omega)).trans c2, (he _ (by omega)).trans c3, hx⟩

theorem rowApp (w : World) (lo : Nat) (V : Value → Value → Value → Value → Sl → Prop) (A : Option Addr) (n c : Nat) (S : List Sl) (gx : Nat) (u0 u1 u2 u3 : Value) (hlo : lo ≤ w.heap.size) (hn16 : n ≤ 1048576) (h : SRow w lo V A n c S) (hk : n < S.length) (hv : V u0 u1 u2 u3 S[n])
    (hx : Blk w gx 88 #[u0, u1, u2, u3]) (h1 : ∀ u ∈ [u0, u1, u2, u3], u.oneCell' = true) :
    ∃ A' c' w', (∀ ty, (Builtin.append_ #[79, 79] ty #[.slice A n c, .slice (some ⟨gx, 0, none⟩) 1 1]).run Tryd.prog w = .ok (.slice A' (n + 1) c') w') ∧ SRow w' lo V A' (n + 1) c' S ∧ Apart (At (.slice A n c)) w w' := by
  obtain ⟨i0, hi, hz0, hz1, hz2⟩ := info_parts infoRS
  have hsrc : Src Tryd.prog i0.size 79 (.slice (some ⟨gx, 0, none⟩) 1 1) 1 [u0, u1, u2, u3] w := by
    rw [hz1]
    refine Src.ofSlice w Tryd.underlying79 ⟨gx, 0, none⟩ 1 1 [u0, u1, u2, u3] (by simp) (fun j u hj => ?_) h1
    rw [add_zero_, hx.cell]
    match j, hj with
    | 0, hj => simpa using hj
    | 1, hj => simpa using hj
    | 2, hj => simpa using hj
    | 3, hj => simpa using hj
  have hgrow : ∀ (olds : List Value), (Builtin.firstCells i0.size n (.slice A n c)).run Tryd.prog w.drew = .ok olds.toArray w.drew → olds.length = n * 4 → c < n + 1 → n ≤ c →
      (∀ cs' : Array Value, (∀ j, j < n * 4 → cs'[j]? = olds[j]?) → RowP V cs' S n) → ∃ A' c' w', (∀ ty, (Builtin.append_ #[79, 79] ty #[.slice A n c, .slice (some ⟨gx, 0, none⟩) 1 1]).run Tryd.prog w = .ok (.slice A' (n + 1) c') w') ∧ SRow w' lo V A' (n + 1) c' S ∧ Apart (At (.slice A n c)) w w' := by
    intro olds hold hol hr hnc hrow
    have hrun : ∀ ty, (Builtin.append_ #[79, 79] ty #[.slice A n c, .slice (some ⟨gx, 0, none⟩) 1 1]).run Tryd.prog w = _ := fun ty =>
      run_append_grow_src w 79 79 ty 88 i0 _ Tryd.underlying79 hi hz0 A n c olds hold _ 1 [u0, u1, u2, u3] hsrc hr (by omega) (by rw [hz2]; exact growslice_fits hr (by omega))
    have hge := grownCap_ge w (n + 1) c 88
    have hle := grownCap_le_maxLen w (n + 1) c 88 (by unfold maxLen; omega)
    refine ⟨_, _, _, hrun, ⟨hk, .inr ⟨w.heap.size, _, rfl, hlo, heap_alloc_new w.drew _, ?_, hge, hle, ?_⟩⟩, ((Apart.refl _ w).drew).alloc _⟩
    · simp [size_zeroCells, Value.cells, hol]; omega
    · have hA : ∀ j, j < (n + 1) * 4 → ((olds ++ [u0, u1, u2, u3]).toArray ++ Builtin.zeroCells (Value.agg #[.bool false, .int .i64 0, .int .i64 0, .slice none 0 0]).cells (grownCap w (n + 1) c 88 - (n + 1)))[j]? = (olds ++ [u0, u1, u2, u3])[j]? := fun j hj => by
        rw [Array.getElem?_append_left (by simp [hol]; omega), List.getElem?_toArray]
      intro i hi' hik
      by_cases e : i = n
      · subst e
        refine ⟨u0, u1, u2, u3, ?_, ?_, ?_, ?_, hv⟩
        · rw [hA _ (by omega), List.getElem?_append_right (by omega)]; simp [hol]
        · rw [hA _ (by omega), List.getElem?_append_right (by omega)]; simp [hol]
        · rw [hA _ (by omega), List.getElem?_append_right (by omega)]; simp [hol]
        · rw [hA _ (by omega), List.getElem?_append_right (by omega)]; simp [hol]
      · exact hrow _ (fun j hj => by rw [hA _ (by omega), List.getElem?_append_left (by omega)]) i hi' (by omega)
  rcases h.2 with ⟨rfl, rfl, rfl⟩ | ⟨g, cs, rfl, hg, hb, hs, hc, hcm, hp⟩
  · exact hgrow [] (run_firstCells_none w.drew i0.size 0 0 0) rfl (by omega) (by omega) (fun cs' _ i _ hik => absurd hik (by omega))
  · by_cases hr : n + 1 ≤ c
    · have hrun : ∀ ty, (Builtin.append_ #[79, 79] ty #[.slice (some ⟨g, 0, none⟩) n c, .slice (some ⟨gx, 0, none⟩) 1 1]).run Tryd.prog w = _ := fun ty =>
        run_append_room_src w 79 79 ty 88 i0 Tryd.underlying79 hi g 0 n c _ 1 [u0, u1, u2, u3] hsrc hr
          (fun j hj => by rw [hb.cell, Array.getElem?_eq_getElem (by rw [hz1]; simp at hj; omega)]; rfl) (fun j _ => hb.frozen _)
      refine ⟨_, _, _, hrun, ⟨hk, .inr ⟨g, pt4 cs (n * 4) u0 u1 u2 u3, rfl, hg, ?_, by rw [pt4_size]; exact hs, hr, hcm, hp.more_ hk (by omega) hv⟩⟩, ?_⟩
      · have := hb.pt4 (n * 4) u0 u1 u2 u3
        rw [hz1, Nat.zero_add]
        exact this
      · have hA : At (.slice (some ⟨g, 0, none⟩) n c) g := ⟨_, _, _, rfl, rfl⟩
        exact ((((Apart.refl _ w).setCell hA _).setCell hA _).setCell hA _).setCell hA _
    · refine hgrow (cs.toList.take (n * 4)) ?_ (by simp; omega) (by omega) hc (fun cs' he => hp.ext_ fun j hj => ?_)
      · rw [hz1]
        refine run_firstCells_some w.drew 4 n ⟨g, 0, none⟩ n c (cs.toList.take (n * 4)) (by simp; omega) (fun j v hj => ?_)
        rw [add_zero_]
        show w.cell? _ = _
        rw [hb.cell]
        rw [List.getElem?_take] at hj
        split at hj
        · rw [Array.getElem?_toList] at hj; exact hj
        · cases hj
      · rw [he j hj, List.getElem?_take_of_lt hj, Array.getElem?_toList]
end Go.Proofs.YtebgigiakfjocaaDoor
