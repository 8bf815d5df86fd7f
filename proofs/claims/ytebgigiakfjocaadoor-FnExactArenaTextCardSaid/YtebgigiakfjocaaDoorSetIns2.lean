/-
  A set of numbers: one more is put in ahead of others.
-/
import Derived.Test.YtebgigiakfjocaaDoorSetIns
namespace Go.Proofs.YtebgigiakfjocaaDoor
open Go.RowKit
set_option linter.unusedVariables false
set_option linter.unusedSimpArgs false

/-- a copy whose run is known, as one step of a region that draws its order -/
theorem step_copy_known {P : Program} {ops : Array Oper} {o : Oper} {a : Act} {w : World} {K : Act → World → Prop} {Q : Exit → Act → World → Prop} {E : Prop} (hgd : o.guard = none) (d s : Operand) (dT sT : TypeId)
    (ho : o.op = Op.call { callee := Callee.builtin Builtin.copy, args := #[d, s], argTypes := #[dT, sT] }) (v u : Value) (hd : a.eval d = v) (hs : a.eval s = u) {v' : Value} {w' : World}
    (hrun : (Builtin.copy_ #[dT, sT] o.type #[v, u]).run P w = .ok v' w') (h : K (a.put o.dst v') w') :
    if Region.wanted o (yielded ops a.tmps) = true then Oper.wp P o a w K Q else E := by
  rw [if_pos (show Region.wanted o (yielded ops a.tmps) = true by simp [Region.wanted, hgd])]
  exact Lib.wp_copy_run w d s dT sT ho v u hd hs hrun h

theorem sizeI (w : World) : (Go.sizeOf 3).run Tryd.prog w = .ok 1 w := by
  obtain ⟨i0, hi, hz0, hz1, hz2⟩ := info_parts infoI
  simp [Go.sizeOf, typeInfo, hi, hz1]
theorem Blk.shape {w : World} {g : Nat} {t : TypeId} {cs : Array Value} (h : Blk w g t cs) : w.shape? g = some (t, cs.size) := by
  unfold World.shape?
  rw [show w.heap[g]? = _ from h]

/-- a row over which a list is laid -/
def laid (cur : Array Value) (o : Nat) (cs : List Value) : Array Value := (cur.toList.take o ++ cs ++ cur.toList.drop (o + cs.length)).toArray
theorem laid_size {cur : Array Value} {o : Nat} {cs : List Value} (h : o + cs.length ≤ cur.size) : (laid cur o cs).size = cur.size := by
  simp [laid]; omega
theorem laid_get {cur : Array Value} {o : Nat} {cs : List Value} (h : o + cs.length ≤ cur.size) (j : Nat) : (laid cur o cs)[j]? = if j < o then cur[j]? else if j < o + cs.length then cs[j - o]? else cur[j]? := by
  unfold laid
  have hlen : (cur.toList.take o).length = o := by simp; omega
  rw [List.getElem?_toArray, List.append_assoc]
  by_cases h1 : j < o
  · rw [if_pos h1, List.getElem?_append_left (by omega), List.getElem?_take_of_lt h1, Array.getElem?_toList]
  · rw [if_neg h1, List.getElem?_append_right (by omega), hlen]
    by_cases h2 : j < o + cs.length
    · rw [if_pos h2, List.getElem?_append_left (by omega)]
    · rw [if_neg h2, List.getElem?_append_right (by omega), List.getElem?_drop, Array.getElem?_toList]
      congr 1
      omega
theorem vi_drop (l : List Int) (i : Nat) : vi (l.drop i) = (vi l).drop i := by simp [vi]

section
variable (l : List Int) (lo : Nat) (x : Int) (w : World) (gx : Nat)

theorem ov_false (hx : Blk w gx 3 #[.int .i64 x]) (g : Nat) (cs : Array Value) (hb : Blk w g 3 cs) (hne : g ≠ gx) (hcs : cs.size ≠ 0) (o lb cb : Nat) :
    (callFunc 118 #[.slice (some ⟨gx, 0, none⟩) 1 1, .slice (some ⟨g, o, none⟩) lb cb]).run Tryd.prog w = .ok (.value (.bool false)) w := by
  rw [run_callFunc_extern Tryd.func118 (by kernel_rfl) (by kernel_rfl) (by kernel_rfl) (e := Extern.SlicesOverlaps.overlaps #[23, 23] #[4]) (by kernel_rfl),
    Lib.run_overlaps_apart w 23 4 3 Tryd.underlying23 1 sizeI ⟨gx, 0, none⟩ ⟨g, o, none⟩ 1 1 lb cb (fun e => hne e.symm) 3 3 1 cs.size hx.shape hb.shape hcs (hx.frozen 0) (hx.frozen 1)]
  rfl

set_option maxRecDepth 100000 in
set_option maxHeartbeats 4000000 in
theorem insShift_c (i : Nat) (hi : i < l.length) (g : Nat) (cs : Array Value) (hl : l.length ≤ 1048576) (hg : lo ≤ g) (hb : Blk w g 3 cs) (hr : l.length + 1 ≤ cs.size) (hm : cs.size ≤ maxLen) (hat : ∀ j (h : j < l.length), cs[j]? = some (.int .i64 l[j])) (hx : Blk w gx 3 #[.int .i64 x]) (hne : g ≠ gx) :
    Calls Tryd.prog 99 #[.slice (some ⟨g, 0, none⟩) l.length cs.size, .int .i64 i, .slice (some ⟨gx, 0, none⟩) 1 1] w (InsQ w lo (.slice (some ⟨g, 0, none⟩) l.length cs.size) (insAt l i x)) := by
  obtain ⟨n, hn⟩ : ∃ n, n = l.length := ⟨_, rfl⟩
  obtain ⟨c, hc⟩ : ∃ c, c = cs.size := ⟨_, rfl⟩
  have hdl : (vi (l.drop i)).length = n - i := by rw [vi_len, List.length_drop, hn]
  have hfit1 : i + 1 + (vi (l.drop i)).length ≤ cs.size := by omega
  have hs1 := laid_size hfit1
  have hcp1 : ∀ (W : World), W.heap[g]? = some (.cells cs 3 (0, 0)) → ∀ ty dc sc, (Builtin.copy_ #[80, 80] ty #[.slice (some ⟨g, i + 1, none⟩) (n - i) dc, .slice (some ⟨g, i, none⟩) (n + 1 - i) sc]).run Tryd.prog W = .ok (goInt (vi (l.drop i)).length) (W.setRow g (laid cs (i + 1) (vi (l.drop i)))) := fun W hW ty dc sc =>
    run_copy_row Tryd.prog W _ _ ty 3 g (i + 1) (n - i) dc ⟨g, i, none⟩ (n + 1 - i) sc cs 3 (vi (l.drop i)) intSlT infoI1 hW (by rw [hdl]; simp only [Nat.min_def]; split <;> omega)
      (fun j v hj => by
        have hWb : Blk W g 3 cs := hW
        rw [Addr.add_lit, hWb.cell]
        rw [vi_drop, List.getElem?_drop, vi_get] at hj
        have hjl : i + j < l.length := by
          rcases Nat.lt_or_ge (i + j) l.length with h1 | h1
          · exact h1
          · rw [List.getElem?_eq_none h1] at hj; cases hj
        rw [List.getElem?_eq_getElem hjl] at hj
        rw [hat _ hjl]
        simpa using hj) hfit1 (one_vi _)
  have hfit2 : i + [Value.int .i64 x].length ≤ (laid cs (i + 1) (vi (l.drop i))).size := by rw [hs1]; simp; omega
  have hs2 := laid_size hfit2
  have hcp2 : ∀ (W : World), W.heap[g]? = some (.cells (laid cs (i + 1) (vi (l.drop i))) 3 (0, 0)) → W.heap[gx]? = some (.cells #[.int .i64 x] 3 (0, 0)) → ∀ ty dc, (Builtin.copy_ #[80, 23] ty #[.slice (some ⟨g, i, none⟩) (n + 1 - i) dc, .slice (some ⟨gx, 0, none⟩) 1 1]).run Tryd.prog W = .ok (goInt [Value.int .i64 x].length) (W.setRow g (laid (laid cs (i + 1) (vi (l.drop i))) i [.int .i64 x])) := fun W hW hWx ty dc =>
    run_copy_row Tryd.prog W _ _ ty 3 g i (n + 1 - i) dc ⟨gx, 0, none⟩ 1 1 (laid cs (i + 1) (vi (l.drop i))) 3 [.int .i64 x] intSlT infoI1 hW (by simp only [Nat.min_def, List.length_singleton]; split <;> omega)
      (fun j v hj => by
        have hWb : Blk W gx 3 #[.int .i64 x] := hWx
        match j, hj with
        | 0, hj => rw [add_zero_, hWb.cell]; simpa using hj) hfit2 (fun v hv => by simp at hv; subst hv; rfl)
  have hrow : ∀ j (h : j < (insAt l i x).length), (laid (laid cs (i + 1) (vi (l.drop i))) i [.int .i64 x])[j]? = some (.int .i64 (insAt l i x)[j]) := fun j hj => by
    have hj' := hj
    rw [insAt_len _ (by omega)] at hj'
    have e := insAt_get (Nat.le_of_lt hi) x j
    rw [List.getElem?_eq_getElem hj] at e
    rw [laid_get hfit2, laid_get hfit1]
    by_cases h1 : j < i
    · rw [if_pos h1, List.getElem?_eq_getElem (by omega), Option.some.injEq] at e
      rw [if_pos h1, if_pos (by omega), e]
      exact hat j (by omega)
    · rw [if_neg h1] at e
      rw [if_neg h1]
      by_cases h2 : j = i
      · subst h2
        rw [if_pos rfl, Option.some.injEq] at e
        rw [if_pos (by simp), e]
        simp
      · rw [if_neg h2, List.getElem?_eq_getElem (by omega), Option.some.injEq] at e
        rw [if_neg (by simp; omega), if_neg (by omega), if_pos (by omega), vi_drop, List.getElem?_drop, vi_get, List.getElem?_eq_getElem (by omega), e]
        simp only [Option.map_some, Option.some.injEq, Value.int.injEq, true_and]
        congr 1
        omega
  have hov := fun o lb cb => ov_false x w gx hx g cs hb hne (by omega) o lb cb
  have hcp1' := hcp1 w.drew hb
  obtain ⟨R1, hR1⟩ : ∃ R, R = laid cs (i + 1) (vi (l.drop i)) := ⟨_, rfl⟩
  rw [← hR1] at hcp2 hrow hs2 hs1
  simp only [← hR1] at hcp1'
  obtain ⟨R2, hR2⟩ : ∃ R, R = laid R1 i [.int .i64 x] := ⟨_, rfl⟩
  rw [← hR2] at hrow hs2
  simp only [← hR2] at hcp2
  have hW1 : (w.drew.setRow g R1).heap[g]? = some (.cells R1 3 (0, 0)) := setRow_heap _ g cs R1 _ _ hb
  have hcp2' := hcp2 (w.drew.setRow g R1) hW1 ((setRow_other _ g gx R1 (fun e => hne e.symm)).trans hx)
  have hW2 : ((w.drew.setRow g R1).setRow g R2).heap[g]? = some (.cells R2 3 (0, 0)) := setRow_heap _ g R1 R2 _ _ hW1
  have hend : InsQ w lo (.slice (some ⟨g, 0, none⟩) n c) (insAt l i x) (.returned (.slice (some ⟨g, 0, none⟩) (n + 1) c)) ((w.drew.setRow g R1).setRow g R2) :=
    ⟨_, rfl, SetV.mk_ hg hW2 (by rw [insAt_len _ (by omega), hn]) (by omega) (by rw [insAt_len _ (by omega)]; omega) (by omega) hrow, (((Apart.refl _ w).drew).setRow ⟨_, _, _, rfl, rfl⟩ _).setRow ⟨_, _, _, rfl, rfl⟩ _, Near.here⟩
  rw [← hn, ← hc]
  have Hend := Lib.hid hend
  obtain ⟨m1, hm1⟩ : ∃ m, m = (vi (l.drop i)).length := ⟨_, rfl⟩
  simp only [← hm1] at hcp1'
  have Hc1 := Lib.hid hcp1'
  have Hc2 := Lib.hid hcp2'
  have Hov := Lib.hid hov
  have hin : (i : Int) ≤ n := by omega
  have hin' : i < n := by omega
  have hnc : n + 1 ≤ c := by omega
  have hc63 : (c : Int) ≤ 9223372036854775807 := by unfold maxLen at hm; omega
  have hz1 : ¬ (i : Int) = (n : Int) := by omega
  have hz2 : ¬ i = n := by omega
  have hb2 : ¬ c = i + 1 := by omega
  have hb4 : ¬ c = i := by omega
  have hn20 : n ≤ 1048576 := by omega
  have hb1 : (0 : Int) ≤ (i : Int) + 1 := by omega
  have hb3 : (i : Int) ≤ (n : Int) + 1 := by omega
  have htn : ((i : Int) + 1).toNat = i + 1 := by omega
  have hw1 : IntKind.i64.wrap ((i : Int) + 1) = (i : Int) + 1 := IntWalk.i64_in _ (by omega)
  clear hend hcp1 hcp2 hcp1' hcp2' hrow hov hW1 hW2 hR1 hR2 hs1 hs2 hfit1 hfit2 hdl hm1 hat hb hx hr hm hl hi hn hc hne
  go_enter Tryd.func99, Tryd.ntmps99
  go_wp2_with (simp only [Hov.out])
  go_region_law (refine step_copy_known rfl _ _ 80 80 rfl (.slice (some ⟨g, i + 1, none⟩) (n - i) (c - (i + 1))) (.slice (some ⟨g, i, none⟩) (n + 1 - i) (c - i)) (by simp [Act.eval, Act.put]) (by simp [Act.eval, Act.put]) (Hc1.out 3 (c - (i + 1)) (c - i)) ?_)
  go_wp2_with (with_reducible refine Lib.wpList_copy_run _ rfl (.tmp 80) (.tmp 81) 80 23 rfl (.slice (some ⟨g, i, none⟩) (n + 1 - i) (c - i)) (.slice (some ⟨gx, 0, none⟩) 1 1) rfl rfl (Hc2.out _ _) ?_)
  go_ret
  exact Hend.out

set_option maxRecDepth 100000 in
set_option maxHeartbeats 4000000 in
theorem insGrow_c (i : Nat) (hi : i < l.length) (g : Nat) (cs : Array Value) (hl : l.length ≤ 1048576) (hlo : lo ≤ w.heap.size) (hb : Blk w g 3 cs) (hlc : l.length ≤ cs.size) (hr : cs.size < l.length + 1) (hat : ∀ j (h : j < l.length), cs[j]? = some (.int .i64 l[j])) (hx : Blk w gx 3 #[.int .i64 x]) :
    Calls Tryd.prog 99 #[.slice (some ⟨g, 0, none⟩) l.length cs.size, .int .i64 i, .slice (some ⟨gx, 0, none⟩) 1 1] w (InsQ w lo (.slice (some ⟨g, 0, none⟩) l.length cs.size) (insAt l i x)) := by
  obtain ⟨n, hn⟩ : ∃ n, n = l.length := ⟨_, rfl⟩
  obtain ⟨c, hc⟩ : ∃ c, c = cs.size := ⟨_, rfl⟩
  obtain ⟨i0, hi0, hz0, hz1, hz2⟩ := info_parts infoI
  have hkk : (n : Int) + 1 - (i : Int) = ((n + 1 - i : Nat) : Int) := by omega
  have hik : i + (n + 1 - i) = n + 1 := by omega
  have htl : (vi (l.take i)).length = i := by rw [vi_len, List.length_take]; omega
  have hold : (Builtin.firstCells i0.size i (.slice (some ⟨g, 0, none⟩) i c)).run Tryd.prog w.drew = .ok (vi (l.take i)).toArray w.drew := by
    rw [hz1]
    refine run_firstCells_some w.drew 1 i ⟨g, 0, none⟩ i c (vi (l.take i)) (by rw [htl]; omega) (fun j v hj => ?_)
    rw [add_zero_]
    show w.cell? _ = _
    rw [hb.cell]
    rw [vi_get, List.getElem?_take] at hj
    split at hj
    · rename_i h1
      rw [hat j (by omega)]
      rw [List.getElem?_eq_getElem (by omega)] at hj
      simpa using hj
    · simp at hj
  have hrz : ∀ ty, (Builtin.append_ #[80, 3] ty #[.slice (some ⟨g, 0, none⟩) i c, .int .i64 ((n + 1 - i : Nat) : Int)]).run Tryd.prog w = _ := fun ty =>
    Lib.run_append_grow_zeros w 80 3 ty 3 i0 _ .i64 .i64 intSlT Tryd.underlying3 hi0 hz0 (some ⟨g, 0, none⟩) i c (vi (l.take i)) hold (n + 1 - i) (by omega) (by omega) (by omega) (by omega) (by rw [hz2]; omega) (by rw [hz2, hik]; exact growslice_fits (by omega) (by omega))
  rw [hik, ← hkk] at hrz
  have hge := grownCap_ge w (n + 1) c 3
  have hle := grownCap_le_maxLen w (n + 1) c 3 (by unfold maxLen; omega)
  obtain ⟨G, hG⟩ : ∃ G, G = grownCap w (n + 1) c 3 := ⟨_, rfl⟩
  rw [← hG] at hge hle
  simp only [← hG] at hrz
  obtain ⟨R0, hR0⟩ : ∃ R : Array Value, R = (vi (l.take i)).toArray ++ Builtin.zeroCells (Value.int .i64 0).cells (n + 1 - i) ++ Builtin.zeroCells (Value.int .i64 0).cells (G - (n + 1)) := ⟨_, rfl⟩
  simp only [← hR0] at hrz
  have hs0 : R0.size = G := by
    rw [hR0]
    simp only [Array.size_append, size_zeroCells, Value.cells, List.size_toArray, htl]
    simp
    omega
  have hat0 : ∀ j (h : j < i), R0[j]? = some (.int .i64 (l[j]'(by omega))) := fun j h => by
    rw [hR0, Array.append_assoc, Array.getElem?_append_left (by simp [htl]; omega), List.getElem?_toArray, vi_get, List.getElem?_take_of_lt h, List.getElem?_eq_getElem (by omega)]
    rfl
  obtain ⟨N, hN⟩ : ∃ N, N = w.heap.size := ⟨_, rfl⟩
  have hgN : g < N := by rw [hN]; exact hb.lt
  have hxN : gx < N := by rw [hN]; exact hx.lt
  have hdl : (vi (l.drop i)).length = n - i := by rw [vi_len, List.length_drop, hn]
  have hfit1 : i + [Value.int .i64 x].length ≤ R0.size := by rw [hs0]; simp; omega
  have hs1 := laid_size hfit1
  have hcp1 : ∀ (W : World), W.heap[N]? = some (.cells R0 3 (0, 0)) → W.heap[gx]? = some (.cells #[.int .i64 x] 3 (0, 0)) → ∀ ty dc, (Builtin.copy_ #[80, 23] ty #[.slice (some ⟨N, i, none⟩) (n + 1 - i) dc, .slice (some ⟨gx, 0, none⟩) 1 1]).run Tryd.prog W = .ok (goInt [Value.int .i64 x].length) (W.setRow N (laid R0 i [.int .i64 x])) := fun W hW hWx ty dc =>
    run_copy_row Tryd.prog W _ _ ty 3 N i (n + 1 - i) dc ⟨gx, 0, none⟩ 1 1 R0 3 [.int .i64 x] intSlT infoI1 hW (by simp only [Nat.min_def, List.length_singleton]; split <;> omega)
      (fun j v hj => by
        have hWb : Blk W gx 3 #[.int .i64 x] := hWx
        match j, hj with
        | 0, hj => rw [add_zero_, hWb.cell]; simpa using hj) hfit1 (fun v hv => by simp at hv; subst hv; rfl)
  have hfit2 : i + 1 + (vi (l.drop i)).length ≤ (laid R0 i [.int .i64 x]).size := by rw [hs1]; omega
  have hs2 := laid_size hfit2
  have hcp2 : ∀ (W : World), W.heap[N]? = some (.cells (laid R0 i [.int .i64 x]) 3 (0, 0)) → W.heap[g]? = some (.cells cs 3 (0, 0)) → ∀ ty dc sc, (Builtin.copy_ #[80, 80] ty #[.slice (some ⟨N, i + 1, none⟩) (n + 1 - (i + 1)) dc, .slice (some ⟨g, i, none⟩) (n - i) sc]).run Tryd.prog W = .ok (goInt (vi (l.drop i)).length) (W.setRow N (laid (laid R0 i [.int .i64 x]) (i + 1) (vi (l.drop i)))) := fun W hW hWg ty dc sc =>
    run_copy_row Tryd.prog W _ _ ty 3 N (i + 1) (n + 1 - (i + 1)) dc ⟨g, i, none⟩ (n - i) sc (laid R0 i [.int .i64 x]) 3 (vi (l.drop i)) intSlT infoI1 hW (by rw [hdl]; simp only [Nat.min_def]; split <;> omega)
      (fun j v hj => by
        have hWb : Blk W g 3 cs := hWg
        rw [Addr.add_lit, hWb.cell]
        rw [vi_drop, List.getElem?_drop, vi_get] at hj
        have hjl : i + j < l.length := by
          rcases Nat.lt_or_ge (i + j) l.length with h1 | h1
          · exact h1
          · rw [List.getElem?_eq_none h1] at hj; cases hj
        rw [List.getElem?_eq_getElem hjl] at hj
        rw [hat _ hjl]
        simpa using hj) hfit2 (one_vi _)
  have hrow : ∀ j (h : j < (insAt l i x).length), (laid (laid R0 i [.int .i64 x]) (i + 1) (vi (l.drop i)))[j]? = some (.int .i64 (insAt l i x)[j]) := fun j hj => by
    have hj' := hj
    rw [insAt_len _ (by omega)] at hj'
    have e := insAt_get (Nat.le_of_lt hi) x j
    rw [List.getElem?_eq_getElem hj] at e
    rw [laid_get hfit2, laid_get hfit1]
    by_cases h1 : j < i
    · rw [if_pos h1, List.getElem?_eq_getElem (by omega), Option.some.injEq] at e
      rw [if_pos (by omega), if_pos h1, e]
      exact hat0 j h1
    · rw [if_neg h1] at e
      by_cases h2 : j = i
      · subst h2
        rw [if_pos rfl, Option.some.injEq] at e
        rw [if_pos (by omega), if_neg (by omega), if_pos (by simp), e]
        simp
      · rw [if_neg h2, List.getElem?_eq_getElem (by omega), Option.some.injEq] at e
        rw [if_neg (by omega), if_pos (by omega), vi_drop, List.getElem?_drop, vi_get, List.getElem?_eq_getElem (by omega), e]
        simp only [Option.map_some, Option.some.injEq, Value.int.injEq, true_and]
        congr 1
        omega
  obtain ⟨R1, hR1⟩ : ∃ R, R = laid R0 i [.int .i64 x] := ⟨_, rfl⟩
  rw [← hR1] at hcp2 hrow hs2 hs1
  simp only [← hR1] at hcp1
  obtain ⟨R2, hR2⟩ : ∃ R, R = laid R1 (i + 1) (vi (l.drop i)) := ⟨_, rfl⟩
  rw [← hR2] at hrow hs2
  simp only [← hR2] at hcp2
  obtain ⟨W0, hW0⟩ : ∃ W, W = w.drew.alloc (.cells R0 3) := ⟨_, rfl⟩
  simp only [← hN, ← hW0] at hrz
  have hA0 : W0.heap[N]? = some (.cells R0 3 (0, 0)) := by rw [hW0, hN]; exact heap_alloc_new w.drew _
  have hX0 : W0.heap[gx]? = some (.cells #[.int .i64 x] 3 (0, 0)) := by rw [hW0]; exact (Below.heap_alloc w.drew _ gx hx.lt).trans hx
  have hG0 : W0.heap[g]? = some (.cells cs 3 (0, 0)) := by rw [hW0]; exact (Below.heap_alloc w.drew _ g hb.lt).trans hb
  have hp0 : Apart (At (.slice (some ⟨g, 0, none⟩) n c)) w W0 := by rw [hW0]; exact ((Apart.refl _ w).drew).alloc _
  have hA1 : (W0.setRow N R1).heap[N]? = some (.cells R1 3 (0, 0)) := setRow_heap _ N R0 R1 _ _ hA0
  have hG1 : (W0.setRow N R1).heap[g]? = some (.cells cs 3 (0, 0)) := (setRow_other _ N g R1 (by omega)).trans hG0
  have hcp1' := hcp1 W0 hA0 hX0
  have hcp2' := hcp2 (W0.setRow N R1).drew hA1 hG1
  have hA2 : ((W0.setRow N R1).drew.setRow N R2).heap[N]? = some (.cells R2 3 (0, 0)) := setRow_heap _ N R1 R2 _ _ hA1
  have hap : Apart (At (.slice (some ⟨g, 0, none⟩) n c)) w ((W0.setRow N R1).drew.setRow N R2) := by
    refine ⟨hp0.os, hp0.tape, hp0.output, ?_, fun k hk hs => ?_⟩
    · have := hp0.size
      simpa [World.setRow] using this
    · have h1 : k ≠ N := by omega
      exact (setRow_other _ N k R2 h1).trans ((setRow_other _ N k R1 h1).trans (hp0.block k hk hs))
  have hend : InsQ w lo (.slice (some ⟨g, 0, none⟩) n c) (insAt l i x) (.returned (.slice (some ⟨N, 0, none⟩) (n + 1) G)) ((W0.setRow N R1).drew.setRow N R2) :=
    ⟨_, rfl, SetV.mk_ (by omega) hA2 (by rw [insAt_len _ (by omega), hn]) (by omega) (by rw [insAt_len _ (by omega)]; omega) (by omega) hrow, hap, Near.fresh (by omega)⟩
  rw [← hn, ← hc]
  have Hend := Lib.hid hend
  obtain ⟨m1, hm1⟩ : ∃ m, m = (vi (l.drop i)).length := ⟨_, rfl⟩
  simp only [← hm1] at hcp2'
  have Hrz := Lib.hid hrz
  have Hc1 := Lib.hid hcp1'
  have Hc2 := Lib.hid hcp2'
  have hin : (i : Int) ≤ n := by omega
  have hin' : i < n := by omega
  have hcn : c = n := by omega
  subst hcn
  have hz1' : ¬ (i : Int) = (c : Int) := by omega
  have hz2' : ¬ i = c := by omega
  have hGi : ¬ G = i := by omega
  have hGi1 : ¬ G = i + 1 := by omega
  have hci : ¬ c = i := by omega
  have hG63 : (G : Int) ≤ 9223372036854775807 := by unfold maxLen at hle; omega
  have hn20 : c ≤ 1048576 := by omega
  have hb1 : (0 : Int) ≤ (i : Int) + 1 := by omega
  have hb3 : (i : Int) ≤ (c : Int) + 1 := by omega
  have htn : ((i : Int) + 1).toNat = i + 1 := by omega
  have hw1 : IntKind.i64.wrap ((i : Int) + 1) = (i : Int) + 1 := IntWalk.i64_in _ (by omega)
  clear hend hcp1 hcp2 hcp1' hcp2' hrow hA0 hX0 hG0 hp0 hA1 hG1 hA2 hap hR1 hR2 hs1 hs2 hfit1 hfit2 hdl hm1 hat hb hx hr hl hi hn hc hrz hold hkk hik htl hR0 hs0 hat0 hN hW0 hG hle hge hi0 hz0 hz1 hz2 hgN hxN hlo hlc
  go_enter Tryd.func99, Tryd.ntmps99
  go_wp2_with (first
    | (at_builtin; refine Lib.wpList_append_run _ rfl _ _ _ _ rfl _ _ rfl rfl _ _ (Hrz.out _) ?_)
    | (with_reducible refine Lib.wpList_copy_run _ rfl (.tmp 43) (.tmp 44) 80 23 rfl (.slice (some ⟨N, i, none⟩) (c + 1 - i) (G - i)) (.slice (some ⟨gx, 0, none⟩) 1 1) rfl rfl (Hc1.out _ _) ?_))
  go_region_law (refine step_copy_known rfl _ _ 80 80 rfl (.slice (some ⟨N, i + 1, none⟩) (c + 1 - (i + 1)) (G - (i + 1))) (.slice (some ⟨g, i, none⟩) (c - i) (c - i)) (by simp [Act.eval, Act.put]) (by simp [Act.eval, Act.put]) (Hc2.out 3 (G - (i + 1)) (c - i)) ?_)
  go_wp2
  go_ret
  exact Hend.out
end
end Go.Proofs.YtebgigiakfjocaaDoor
