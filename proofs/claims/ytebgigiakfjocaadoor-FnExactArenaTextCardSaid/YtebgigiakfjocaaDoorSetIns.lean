/-
  A set of numbers: one more is put in at its place.
-/
import Derived.Test.YtebgigiakfjocaaDoorSetFind
import Derived.Test.YtebgigiakfjocaaDoorArnTo
import Derived.Laws.CopyRow
import Derived.Laws.CopyOwn
import Derived.Lib.SlBuf
import Derived.Lib.AppendZeros
import Derived.Lib.AppendZerosOnto
import Derived.Lib.Overlaps
import Derived.Lib.JoinLaws
import Derived.Deep.RegionLaw
namespace Go.Proofs.YtebgigiakfjocaaDoor
open Go.RowKit
set_option linter.unusedVariables false

/-- all blocks but some are as they were -/
structure Apart (S : Nat → Prop) (w w' : World) : Prop where
  os : w'.os = w.os
  tape : w'.tape = w.tape
  output : w'.output = w.output
  size : w.heap.size ≤ w'.heap.size
  block : ∀ k, k < w.heap.size → ¬ S k → w'.heap[k]? = w.heap[k]?
theorem Apart.refl (S : Nat → Prop) (w : World) : Apart S w w := ⟨rfl, rfl, rfl, Nat.le_refl _, fun _ _ _ => rfl⟩
theorem Apart.trans {S : Nat → Prop} {a b c : World} (h : Apart S a b) (k : Apart S b c) : Apart S a c :=
  ⟨k.os.trans h.os, k.tape.trans h.tape, k.output.trans h.output, Nat.le_trans h.size k.size, fun i hi hs => (k.block i (Nat.lt_of_lt_of_le hi h.size) hs).trans (h.block i hi hs)⟩
theorem Apart.mono {S S' : Nat → Prop} {a b : World} (h : Apart S a b) (hs : ∀ k, k < a.heap.size → S k → S' k) : Apart S' a b :=
  ⟨h.os, h.tape, h.output, h.size, fun k hk hn => h.block k hk fun hsk => hn (hs k hk hsk)⟩
theorem Apart.of_below {S : Nat → Prop} {a b : World} (h : Below a.heap.size a b) : Apart S a b := ⟨h.os, h.tape, h.output, h.size, fun k hk _ => h.block k hk⟩
theorem Apart.below {S : Nat → Prop} {a b : World} {B : Nat} (h : Apart S a b) (hB : B ≤ a.heap.size) (hs : ∀ k, k < B → ¬ S k) : Below B a b :=
  ⟨h.os, h.tape, h.output, h.size, fun k hk => h.block k (Nat.lt_of_lt_of_le hk hB) (hs k hk)⟩
theorem Apart.alloc {S : Nat → Prop} {a b : World} (h : Apart S a b) (o : Obj) : Apart S a (b.alloc o) := h.trans (.of_below ((Below.refl _ _).alloc (Nat.le_refl _) o))
theorem Apart.drew {S : Nat → Prop} {a b : World} (h : Apart S a b) : Apart S a b.drew := ⟨h.os, h.tape, h.output, h.size, h.block⟩
theorem Apart.setRow {S : Nat → Prop} {a b : World} {g : Nat} (h : Apart S a b) (hs : S g) (cs : Array Value) : Apart S a (b.setRow g cs) :=
  h.trans ⟨rfl, rfl, rfl, by simp [World.setRow], fun k _ hn => setRow_other b g k cs (fun e => hn (e ▸ hs))⟩
theorem Apart.setCell {S : Nat → Prop} {a b : World} {p : Addr} (h : Apart S a b) (hs : S p.block) (v : Value) : Apart S a (b.setCell p v) :=
  h.trans ⟨rfl, rfl, rfl, by simp, fun k _ hn => Below.heap_setCell b p v k (fun e => hn (e ▸ hs))⟩
theorem Blk.apart {S : Nat → Prop} {w w' : World} {g : Nat} {t : TypeId} {cs : Array Value} (h : Blk w g t cs) (ha : Apart S w w') (hn : ¬ S g) : Blk w' g t cs := (ha.block g h.lt hn).trans h

/-- where a slice lies -/
def At (v : Value) (k : Nat) : Prop := ∃ a n c, v = .slice (some a) n c ∧ a.block = k
theorem At.some_ {a : Addr} {n c k : Nat} (h : At (.slice (some a) n c) k) : k = a.block := by
  obtain ⟨_, _, _, e, rfl⟩ := h
  cases e
  rfl
theorem At.nil {n c k : Nat} (h : At (.slice none n c) k) : False := by
  obtain ⟨_, _, _, e, _⟩ := h
  cases e
theorem SetV.mk_ {w : World} {lo g : Nat} {l : List Int} {cs : Array Value} {n c : Nat} (hg : lo ≤ g) (hb : Blk w g 3 cs) (hn : n = l.length) (hc : c = cs.size) (hle : l.length ≤ cs.size) (hm : cs.size ≤ maxLen) (hat : ∀ j (h : j < l.length), cs[j]? = some (.int .i64 l[j])) : SetV w lo (.slice (some ⟨g, 0, none⟩) n c) l :=
  .inr ⟨g, cs, by rw [hn, hc], hg, hb, hle, hm, hat⟩
theorem SetV.apart {S : Nat → Prop} {w w' : World} {lo : Nat} {v : Value} {l : List Int} (h : SetV w lo v l) (ha : Apart S w w') (hn : ∀ k, At v k → ¬ S k) : SetV w' lo v l := by
  rcases h with h | ⟨g, cs, e, hg, hb, h⟩
  · exact .inl h
  · exact .inr ⟨g, cs, e, hg, hb.apart ha (hn g ⟨_, _, _, e, rfl⟩), h⟩
theorem SetV.at_lt {w : World} {lo : Nat} {v : Value} {l : List Int} (h : SetV w lo v l) {k : Nat} (hk : At v k) : lo ≤ k ∧ k < w.heap.size ∧ ∃ cs, Blk w k 3 cs := by
  rcases h with ⟨rfl, _⟩ | ⟨g, cs, rfl, hg, hb, _⟩
  · exact (At.nil hk).elim
  · rw [hk.some_]
    exact ⟨hg, hb.lt, cs, hb⟩

/-- a list with x ahead of its i-th -/
def insAt (l : List Int) (i : Nat) (x : Int) : List Int := l.take i ++ x :: l.drop i
theorem insAt_len (l : List Int) {i : Nat} (hi : i ≤ l.length) (x : Int) : (insAt l i x).length = l.length + 1 := by simp [insAt]; omega
theorem insAt_get {l : List Int} {i : Nat} (hi : i ≤ l.length) (x : Int) (j : Nat) : (insAt l i x)[j]? = if j < i then l[j]? else if j = i then some x else l[j - 1]? := by
  unfold insAt
  by_cases h1 : j < i
  · rw [if_pos h1, List.getElem?_append_left (by simp; omega), List.getElem?_take_of_lt h1]
  · rw [if_neg h1, List.getElem?_append_right (by simp; omega)]
    have hlen : (l.take i).length = i := by simp; omega
    rw [hlen]
    by_cases h2 : j = i
    · subst h2
      simp
    · rw [if_neg h2, show j - i = (j - i - 1) + 1 by omega, List.getElem?_cons_succ, List.getElem?_drop]
      congr 1
      omega
theorem insAt_end (l : List Int) (x : Int) : insAt l l.length x = l ++ [x] := by simp [insAt]

/-- what putting in leaves -/
def Near (w : World) (v v' : Value) : Prop := ∀ k, At v' k → At v k ∨ w.heap.size ≤ k
theorem Near.here {w : World} {g n c n' c' : Nat} : Near w (.slice (some ⟨g, 0, none⟩) n c) (.slice (some ⟨g, 0, none⟩) n' c') := fun k hk => .inl ⟨_, _, _, rfl, hk.some_.symm⟩
theorem Near.fresh {w : World} {v : Value} {g n c : Nat} (h : w.heap.size ≤ g) : Near w v (.slice (some ⟨g, 0, none⟩) n c) := fun k hk => .inr (by rw [hk.some_]; exact h)
def InsQ (w : World) (lo : Nat) (v : Value) (l' : List Int) (e : Ending) (w' : World) : Prop := ∃ v', e = .returned v' ∧ SetV w' lo v' l' ∧ Apart (At v) w w' ∧ Near w v v'

theorem intSlT : Tryd.prog.underlying 80 = some (.slice 3) := Tryd.underlying80
theorem infoI1 : (Tryd.prog.info? 3).map (·.size) = some 1 := by
  obtain ⟨i0, hi, hz0, hz1, hz2⟩ := info_parts infoI
  rw [hi]; simp [hz1]
theorem one_vi (l : List Int) : ∀ v ∈ vi l, v.oneCell' = true := fun v hv => by
  obtain ⟨x, _, rfl⟩ := List.mem_map.1 hv
  rfl

section
variable (l : List Int) (lo : Nat) (x : Int) (w : World) (gx : Nat)

theorem oneSrc (hx : Blk w gx 3 #[.int .i64 x]) : Src Tryd.prog 1 23 (.slice (some ⟨gx, 0, none⟩) 1 1) 1 [.int .i64 x] w :=
  Src.ofSlice w Tryd.underlying23 ⟨gx, 0, none⟩ 1 1 [.int .i64 x] (by simp) (fun j u hj => by
    match j, hj with
    | 0, hj => rw [add_zero_, hx.cell]; simpa using hj) (fun v hv => by simp at hv; subst hv; rfl)

set_option maxRecDepth 100000 in
set_option maxHeartbeats 2000000 in
theorem insNil_c (hlo : lo ≤ w.heap.size) (hx : Blk w gx 3 #[.int .i64 x]) :
    Calls Tryd.prog 99 #[.slice none 0 0, .int .i64 0, .slice (some ⟨gx, 0, none⟩) 1 1] w (InsQ w lo (.slice none 0 0) [x]) := by
  obtain ⟨i0, hi, hz0, hz1, hz2⟩ := info_parts infoI
  have hsrc := oneSrc x w gx hx
  have hold : (Builtin.firstCells i0.size 0 (.slice none 0 0)).run Tryd.prog w.drew = .ok ([] : List Value).toArray w.drew := run_firstCells_none w.drew i0.size 0 0 0
  have hrun : ∀ ty, (Builtin.append_ #[80, 23] ty #[.slice none 0 0, .slice (some ⟨gx, 0, none⟩) 1 1]).run Tryd.prog w = _ := fun ty =>
    run_append_grow_src w 80 23 ty 3 i0 _ intSlT hi hz0 none 0 0 [] hold _ 1 [.int .i64 x] (by rw [hz1]; exact hsrc) (by omega) (by omega) (by rw [hz2]; exact growslice_fits (by omega) (by omega))
  have hge := grownCap_ge w (0 + 1) 0 3
  have hle := grownCap_le_maxLen w (0 + 1) 0 3 (by unfold maxLen; omega)
  obtain ⟨G, hG⟩ : ∃ G, G = grownCap w (0 + 1) 0 3 := ⟨_, rfl⟩
  rw [← hG] at hge hle
  simp only [← hG] at hrun
  obtain ⟨R, hR⟩ : ∃ R : Array Value, R = (([] : List Value) ++ [Value.int .i64 x]).toArray ++ Builtin.zeroCells (Value.int .i64 0).cells (G - (0 + 1)) := ⟨_, rfl⟩
  simp only [← hR] at hrun
  have hRs : R.size = G := by rw [hR]; simp [size_zeroCells, Value.cells]; omega
  have hR0 : R[0]? = some (.int .i64 x) := by rw [hR, Array.getElem?_append_left (by simp)]; simp
  clear hsrc hold hi hz0 hz1 hz2 hx
  have HG := Lib.hid hG
  have HR := Lib.hid hR
  have Hrun := Lib.hid hrun
  clear hG hR hrun
  go_enter Tryd.func99, Tryd.ntmps99
  go_wp2_with (at_builtin; refine Lib.wpList_append_run _ rfl _ _ _ _ rfl _ _ rfl rfl _ _ (Hrun.out _) ?_)
  go_ret
  refine ⟨_, rfl, SetV.mk_ hlo ((Blk.new w.drew 3 R : Blk _ w.heap.size _ _)) (by simp) hRs.symm (by simp; omega) (by omega) (fun j hj => ?_), ((Apart.refl _ w).drew).alloc _, Near.fresh (Nat.le_refl _)⟩
  have : j = 0 := by simpa using hj
  subst this
  simpa using hR0

set_option maxRecDepth 100000 in
set_option maxHeartbeats 2000000 in
theorem insEndRoom_c (g : Nat) (cs : Array Value) (hl : l.length ≤ 1048576) (hg : lo ≤ g) (hb : Blk w g 3 cs) (hr : l.length + 1 ≤ cs.size) (hm : cs.size ≤ maxLen) (hat : ∀ j (h : j < l.length), cs[j]? = some (.int .i64 l[j])) (hx : Blk w gx 3 #[.int .i64 x]) (hne : g ≠ gx) :
    Calls Tryd.prog 99 #[.slice (some ⟨g, 0, none⟩) l.length cs.size, .int .i64 l.length, .slice (some ⟨gx, 0, none⟩) 1 1] w (InsQ w lo (.slice (some ⟨g, 0, none⟩) l.length cs.size) (insAt l l.length x)) := by
  have hsrc := Lib.hid (oneSrc x w gx hx)
  have hc1 : ∀ j, j < [Value.int .i64 x].length → (w.cell? ⟨g, 0 + l.length + j, none⟩).isSome = true := fun j hj => by
    have : j = 0 := by simpa using hj
    subst this
    rw [hb.cell, Array.getElem?_eq_getElem (by omega)]; rfl
  have hf1 : ∀ j, j < [Value.int .i64 x].length → w.frozen? ⟨g, 0 + l.length + j, none⟩ = false := fun j _ => hb.frozen _
  have Hc := Lib.hid hc1
  have Hf := Lib.hid hf1
  have Hb := Lib.hid hb
  have Hat := Lib.hid hat
  unfold maxLen at hm
  clear hc1 hf1 hb hat hx
  go_enter Tryd.func99, Tryd.ntmps99
  go_wp2_with (at_builtin; refine wpList_append_room1 _ rfl _ _ 80 23 rfl 3 (.int .i64 0) 8 intSlT infoI g 0 l.length cs.size rfl _ rfl 1 [.int .i64 x] hsrc.out hr Hc.out Hf.out ?_)
  go_ret
  have hb := Hb.out
  have hB : Blk (w.setCells g l.length [.int .i64 x]) g 3 (cs.setIfInBounds l.length (.int .i64 x)) := hb.set_ l.length _
  refine ⟨_, rfl, SetV.mk_ hg hB (by rw [insAt_len _ (Nat.le_refl _)]) (Array.size_setIfInBounds ..).symm (by rw [insAt_len _ (Nat.le_refl _)]; simpa using hr) (by unfold maxLen; simpa using hm) (fun j hj => ?_), ?_, Near.here⟩
  · rw [insAt_len _ (Nat.le_refl _)] at hj
    have e := insAt_get (Nat.le_refl l.length) x j
    rw [List.getElem?_eq_getElem (by rw [insAt_len _ (Nat.le_refl _)]; exact hj)] at e
    by_cases h1 : j < l.length
    · rw [if_pos h1, List.getElem?_eq_getElem h1, Option.some.injEq] at e
      rw [e, Array.getElem?_setIfInBounds_ne (by omega)]
      exact Hat.out j h1
    · have : j = l.length := by omega
      subst this
      rw [if_neg (by omega), if_pos rfl, Option.some.injEq] at e
      rw [e, Array.getElem?_setIfInBounds_self_of_lt (by omega)]
  · show Apart _ w (w.setCell ⟨g, l.length, none⟩ _)
    exact (Apart.refl _ w).setCell ⟨_, _, _, rfl, rfl⟩ _

set_option maxRecDepth 100000 in
set_option maxHeartbeats 2000000 in
theorem insEndGrow_c (g : Nat) (cs : Array Value) (hl : l.length ≤ 1048576) (hlo : lo ≤ w.heap.size) (hb : Blk w g 3 cs) (hlc : l.length ≤ cs.size) (hr : cs.size < l.length + 1) (hat : ∀ j (h : j < l.length), cs[j]? = some (.int .i64 l[j])) (hx : Blk w gx 3 #[.int .i64 x]) :
    Calls Tryd.prog 99 #[.slice (some ⟨g, 0, none⟩) l.length cs.size, .int .i64 l.length, .slice (some ⟨gx, 0, none⟩) 1 1] w (InsQ w lo (.slice (some ⟨g, 0, none⟩) l.length cs.size) (insAt l l.length x)) := by
  obtain ⟨i0, hi, hz0, hz1, hz2⟩ := info_parts infoI
  have hsrc := oneSrc x w gx hx
  have hold : (Builtin.firstCells i0.size l.length (.slice (some ⟨g, 0, none⟩) l.length cs.size)).run Tryd.prog w.drew = .ok (vi l).toArray w.drew := by
    rw [hz1]
    refine run_firstCells_some w.drew 1 l.length ⟨g, 0, none⟩ l.length cs.size (vi l) (by rw [vi_len]; omega) (fun j v hj => ?_)
    rw [add_zero_]
    show w.cell? _ = _
    rw [vi_get] at hj
    rw [hb.cell]
    by_cases h1 : j < l.length
    · rw [hat j h1]; rw [List.getElem?_eq_getElem h1] at hj; simpa using hj
    · rw [List.getElem?_eq_none (by omega)] at hj; simp at hj
  have hrun : ∀ ty, (Builtin.append_ #[80, 23] ty #[.slice (some ⟨g, 0, none⟩) l.length cs.size, .slice (some ⟨gx, 0, none⟩) 1 1]).run Tryd.prog w = _ := fun ty =>
    run_append_grow_src w 80 23 ty 3 i0 _ intSlT hi hz0 (some ⟨g, 0, none⟩) l.length cs.size (vi l) hold _ 1 [.int .i64 x] (by rw [hz1]; exact hsrc) hr (by omega) (by rw [hz2]; exact growslice_fits hr (by omega))
  have hge := grownCap_ge w (l.length + 1) cs.size 3
  have hle := grownCap_le_maxLen w (l.length + 1) cs.size 3 (by unfold maxLen; omega)
  obtain ⟨G, hG⟩ : ∃ G, G = grownCap w (l.length + 1) cs.size 3 := ⟨_, rfl⟩
  rw [← hG] at hge hle
  simp only [← hG] at hrun
  obtain ⟨R, hR⟩ : ∃ R : Array Value, R = (vi l ++ [Value.int .i64 x]).toArray ++ Builtin.zeroCells (Value.int .i64 0).cells (G - (l.length + 1)) := ⟨_, rfl⟩
  simp only [← hR] at hrun
  have hRs : R.size = G := by rw [hR]; simp [size_zeroCells, Value.cells, vi]; omega
  have hRj : ∀ j (h : j < (insAt l l.length x).length), R[j]? = some (.int .i64 (insAt l l.length x)[j]) := fun j hj => by
    have hj' := hj
    rw [insAt_len _ (Nat.le_refl _)] at hj'
    have e : (insAt l l.length x)[j]? = (l ++ [x])[j]? := by rw [insAt_end]
    rw [List.getElem?_eq_getElem hj] at e
    rw [hR, Array.getElem?_append_left (by simp [vi]; omega), List.getElem?_toArray]
    rw [show vi l ++ [Value.int .i64 x] = (l ++ [x]).map fun b => Value.int .i64 b by simp [vi], List.getElem?_map, ← e]
    rfl
  clear hsrc hold hi hz0 hz1 hz2 hx hb hat
  have HRj := Lib.hid hRj
  have HG := Lib.hid hG
  have HR := Lib.hid hR
  have Hrun := Lib.hid hrun
  clear hG hR hrun hRj
  go_enter Tryd.func99, Tryd.ntmps99
  go_wp2_with (at_builtin; refine Lib.wpList_append_run _ rfl _ _ _ _ rfl _ _ rfl rfl _ _ (Hrun.out _) ?_)
  go_ret
  exact ⟨_, rfl, SetV.mk_ hlo ((Blk.new w.drew 3 R : Blk _ w.heap.size _ _)) (by rw [insAt_len _ (Nat.le_refl _)]) hRs.symm (by rw [insAt_len _ (Nat.le_refl _)]; omega) (by omega) HRj.out, ((Apart.refl _ w).drew).alloc _, Near.fresh (Nat.le_refl _)⟩
end
end Go.Proofs.YtebgigiakfjocaaDoor
