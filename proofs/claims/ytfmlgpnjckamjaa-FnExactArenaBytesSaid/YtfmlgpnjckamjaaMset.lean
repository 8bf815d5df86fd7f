/-
  Sets as rows.
-/
import Derived.Test.YtfmlgpnjckamjaaArn
import Derived.Lib.SlicesSearch
import Derived.Test.YtfmlgpnjckamjaaMarn
import Derived.Laws.CopyRow
import Derived.Laws.CopyOwn
import Derived.Lib.SlBuf
import Derived.Lib.AppendZeros
import Derived.Lib.AppendZerosOnto
import Derived.Lib.Overlaps
import Derived.Lib.JoinLaws
import Derived.Deep.RegionLaw
namespace Go.Proofs.Ytfmlgpnjckamjaa
open Go.RowKit
set_option linter.unusedVariables false

/-- a set: nothing, or a row of its own with room behind -/
def SetV (w : World) (lo : Nat) (v : Value) (l : List Int) : Prop :=
  (v = .slice none 0 0 ∧ l = []) ∨ ∃ (g : Nat) (cs : Array Value), v = .slice (some ⟨g, 0, none⟩) l.length cs.size ∧ lo ≤ g ∧ Blk w g 3 cs ∧ l.length ≤ cs.size ∧ cs.size ≤ maxLen ∧ ∀ j (h : j < l.length), cs[j]? = some (.int .i64 l[j])
theorem SetV.nil (w : World) (lo : Nat) : SetV w lo (.slice none 0 0) [] := .inl ⟨rfl, rfl⟩
theorem SetV.keep {w w' : World} {lo : Nat} {v : Value} {l : List Int} (h : SetV w lo v l) (hk : ∀ g, lo ≤ g → g < w.heap.size → w'.heap[g]? = w.heap[g]?) : SetV w' lo v l := by
  rcases h with h | ⟨g, cs, e, hg, hb, h⟩
  · exact .inl h
  · exact .inr ⟨g, cs, e, hg, (hk g hg hb.lt).trans hb, h⟩
theorem SetV.below {w w' : World} {lo : Nat} {v : Value} {l : List Int} (h : SetV w lo v l) (hb : Below w.heap.size w w') : SetV w' lo v l := h.keep fun g _ hg => hb.block g hg
theorem SetV.form {w : World} {lo : Nat} {v : Value} {l : List Int} (h : SetV w lo v l) : ∃ A c, v = .slice A l.length c := by
  rcases h with ⟨rfl, rfl⟩ | ⟨g, cs, rfl, _⟩ <;> exact ⟨_, _, rfl⟩

/-- is x in it? -/
def hasI (l : List Int) (x : Int) : Bool := l.contains x
/-- how many are below x -/
def lowI (l : List Int) (x : Int) : Nat := l.countP (· < x)
theorem lowI_le (l : List Int) (x : Int) : lowI l x ≤ l.length := List.countP_le_length

theorem sorted_le {l : List Int} (hs : l.Pairwise (· < ·)) : (l.take l.length).Pairwise (· ≤ ·) := by rw [List.take_length]; exact hs.imp (fun h => Int.le_of_lt h)

theorem isNaN_c (x : Int) (w : World) : Calls Try.prog 147 #[.int .i64 x] w fun e w' => e = .returned (.bool false) ∧ w = w' := by
  go_enter Try.func147, Try.ntmps147
  go_wp2
  go_ret
  exact ⟨by simp, rfl⟩
theorem cmpNaN_c (x : Int) (w : World) : Calls Try.prog 157 #[.int .i64 x] w fun e w' => e = .returned (.bool false) ∧ w = w' := by
  go_enter Try.func157, Try.ntmps157
  go_wp2
  go_ret
  exact ⟨by simp, rfl⟩
theorem cmpLess_c (x y : Int) (w : World) : Calls Try.prog 146 #[.int .i64 x, .int .i64 y] w fun e w' => e = .returned (.bool (decide (x < y))) ∧ w = w' := by
  go_enter Try.func146, Try.ntmps146
  go_wp2_with (go_at_call 157; refine (cmpNaN_c _ _).mono ?_; rintro e w' ⟨rfl, rfl⟩)
  go_ret
  exact ⟨by simp, rfl⟩

set_option maxRecDepth 100000 in
set_option maxHeartbeats 2000000 in
theorem find_c (l : List Int) (v : Value) (lo : Nat) (x : Int) (w : World) (hl : l.length ≤ 1050000) (hs : l.Pairwise (· < ·)) (h : SetV w lo v l) :
    Calls Try.prog 125 #[v, .int .i64 x] w fun e w' => e = .returned (.tuple #[.int .i64 (lowI l x : Nat), .bool (hasI l x)]) ∧ w = w' := by
  have S := Lib.hid (Lib.sorted_at l l.length (Nat.le_refl _) (sorted_le hs))
  rcases h with ⟨rfl, rfl⟩ | ⟨g, cs, rfl, hg, hb, hlc, hcm, hat⟩
  · clear S hs
    go_enter Try.func125, Try.ntmps125
    go_wp2
    go_loopw [7, 8] (fun s7 s8 wr => s7 = .int .i64 0 ∧ s8 = .int .i64 0 ∧ wr = w) (fun _ _ _ => 0)
    case atStart => exact ⟨rfl, rfl, by trivial⟩
    case round =>
      obtain ⟨rfl, rfl, rfl⟩ := hrel
      go_wp2
      go_ret2
      exact ⟨rfl, rfl⟩
  have hcell : ∀ j, j < l.length → w.cell? ⟨g, j, none⟩ = some (.int .i64 (l.getD j 0)) := fun j hj => by
    rw [hb.cell, hat j hj, List.getD_eq_getElem?_getD, List.getElem?_eq_getElem hj]; rfl
  have Hc := Lib.hid hcell
  clear hs hcell hat hb hg hcm
  go_enter Try.func125, Try.ntmps125
  go_wp2
  go_loopw [7, 8] (fun s7 s8 wr => ∃ lo hi : Nat, s7 = .int .i64 lo ∧ s8 = .int .i64 hi ∧ lo ≤ hi ∧ hi ≤ l.length ∧ wr = w ∧ (∀ t, t < lo → l.getD t 0 < x) ∧ (∀ t, hi ≤ t → t < l.length → x ≤ l.getD t 0)) (fun s7 s8 _ => (intOf s8).toNat - (intOf s7).toNat)
  case atStart => exact ⟨0, l.length, rfl, rfl, Nat.zero_le _, Nat.le_refl _, by trivial, fun t ht => absurd ht (Nat.not_lt_zero _), fun t h1 h2 => by omega⟩
  case round =>
    obtain ⟨lo, hi, rfl, rfl, hlh, hin, rfl, h1, h2⟩ := hrel
    have H1 := Lib.hid h1
    have H2 := Lib.hid h2
    clear h1 h2
    by_cases hlt : lo < hi
    · obtain ⟨m, hm⟩ : ∃ m, m = (lo + hi) / 2 := ⟨_, rfl⟩
      have cm := Hc.out ((lo + hi) / 2) (by omega)
      obtain ⟨y, hy⟩ : ∃ y, y = l.getD ((lo + hi) / 2) 0 := ⟨_, rfl⟩
      rw [← hy] at cm
      have Y := Lib.hid hy
      clear hy hm
      by_cases hyx : y < x
      · go_wp2_with (go_at_call 146; refine (cmpLess_c _ _ _).mono ?_; rintro e w' ⟨rfl, rfl⟩)
        go_roundw
        case rel =>
          refine ⟨(lo + hi) / 2 + 1, hi, by rw [show ((lo : Int) + (hi : Int)) / 2 + 1 = (((lo + hi) / 2 + 1 : Nat) : Int) by omega], rfl, by omega, hin, by trivial, fun t ht => ?_, H2.out⟩
          have := S.out t ((lo + hi) / 2) (by omega) (by omega)
          have := Y.out
          omega
        case measure => simp [intOf]; omega
      · go_wp2_with (go_at_call 146; refine (cmpLess_c _ _ _).mono ?_; rintro e w' ⟨rfl, rfl⟩)
        go_roundw
        case rel =>
          refine ⟨lo, (lo + hi) / 2, rfl, by rw [show ((lo : Int) + (hi : Int)) / 2 = (((lo + hi) / 2 : Nat) : Int) by omega], by omega, by omega, by trivial, H1.out, fun t ht htn => ?_⟩
          have := S.out ((lo + hi) / 2) t ht htn
          have := Y.out
          omega
        case measure => simp [intOf]; omega
    · obtain rfl : hi = lo := by omega
      obtain ⟨e1, e2⟩ := Lib.search_end l l.length hi x (Nat.le_refl _) hin H1.out H2.out S.out
      rw [List.take_length] at e1 e2
      replace e1 : lowI l x = hi := e1
      replace e2 : hasI l x = _ := e2
      have E := Lib.hid (And.intro e1 e2)
      clear e1 e2
      by_cases hn : hi < l.length
      · have cl := Hc.out hi hn
        obtain ⟨y, hy⟩ : ∃ y, y = l.getD hi 0 := ⟨_, rfl⟩
        rw [← hy] at cl
        have Y := Lib.hid hy
        clear hy
        by_cases hyx : y = x
        · subst hyx
          go_wp2_with (go_at_call 147; refine (isNaN_c _ _).mono ?_; rintro e w' ⟨rfl, rfl⟩)
          go_ret2
          refine ⟨?_, rfl⟩
          rw [E.out.1, E.out.2, decide_eq_true (show hi < l.length ∧ l.getD hi 0 = y from ⟨hn, Y.out.symm⟩)]
          first | rfl | simp [*]
        · have hyx' : (y == x) = false := by simpa using hyx
          go_wp2_with (go_at_call 147; refine (isNaN_c _ _).mono ?_; rintro e w' ⟨rfl, rfl⟩)
          go_ret2
          refine ⟨?_, rfl⟩
          rw [E.out.1, E.out.2, decide_eq_false (show ¬ (hi < l.length ∧ l.getD hi 0 = x) from fun h => hyx (Y.out.trans h.2))]
          first | rfl | simp [*]
      · go_wp2_with (go_at_call 147; refine (isNaN_c _ _).mono ?_; rintro e w' ⟨rfl, rfl⟩)
        go_ret2
        refine ⟨?_, rfl⟩
        rw [E.out.1, E.out.2, decide_eq_false (show ¬ (hi < l.length ∧ l.getD hi 0 = x) from fun h => hn h.1)]
        first | rfl | simp [*]

set_option maxRecDepth 100000 in
theorem setHas_c (l : List Int) (v : Value) (lo : Nat) (x : Int) (w : World) (hl : l.length ≤ 1050000) (hs : l.Pairwise (· < ·)) (h : SetV w lo v l) :
    Calls Try.prog 129 #[v, .int .i64 x] w fun e w' => e = .returned (.bool (hasI l x)) ∧ w = w' := by
  have Hf := Lib.hid (find_c l v lo x w hl hs h)
  clear hs h
  go_enter Try.func129, Try.ntmps129
  go_wp2_with fail
  refine Hf.out.mono ?_
  rintro e w' ⟨rfl, rfl⟩
  go_wp2
  go_ret
  exact ⟨rfl, rfl⟩
end Go.Proofs.Ytfmlgpnjckamjaa

namespace Go.Proofs.Ytfmlgpnjckamjaa
open Go.RowKit
set_option linter.unusedVariables false

/-- all blocks but some are as they were -/
structure Apart (S : Nat → Prop) (w w' : World) : Prop where
  os : w'.os = w.os
  tape : w'.tape = w.tape
  output : w'.output = w.output
  size : w.heap.size ≤ w'.heap.size
  block : ∀ k, k < w.heap.size → ¬ S k → w'.heap[k]? = w.heap[k]?
theorem Apart.refl (S : Nat → Prop) (w : World) : Apart S w w := ⟨rfl, rfl, rfl, Nat.le_refl _, fun _ _ _ => rfl⟩
theorem Apart.trans {S : Nat → Prop} {a b c : World} (h : Apart S a b) (k : Apart S b c) : Apart S a c :=
  ⟨k.os.trans h.os, k.tape.trans h.tape, k.output.trans h.output, Nat.le_trans h.size k.size, fun i hi hs => (k.block i (Nat.lt_of_lt_of_le hi h.size) hs).trans (h.block i hi hs)⟩
theorem Apart.mono {S S' : Nat → Prop} {a b : World} (h : Apart S a b) (hs : ∀ k, k < a.heap.size → S k → S' k) : Apart S' a b :=
  ⟨h.os, h.tape, h.output, h.size, fun k hk hn => h.block k hk fun hsk => hn (hs k hk hsk)⟩
theorem Apart.of_below {S : Nat → Prop} {a b : World} (h : Below a.heap.size a b) : Apart S a b := ⟨h.os, h.tape, h.output, h.size, fun k hk _ => h.block k hk⟩
theorem Apart.below {S : Nat → Prop} {a b : World} {B : Nat} (h : Apart S a b) (hB : B ≤ a.heap.size) (hs : ∀ k, k < B → ¬ S k) : Below B a b :=
  ⟨h.os, h.tape, h.output, h.size, fun k hk => h.block k (Nat.lt_of_lt_of_le hk hB) (hs k hk)⟩
theorem Apart.alloc {S : Nat → Prop} {a b : World} (h : Apart S a b) (o : Obj) : Apart S a (b.alloc o) := h.trans (.of_below ((Below.refl _ _).alloc (Nat.le_refl _) o))
theorem Apart.drew {S : Nat → Prop} {a b : World} (h : Apart S a b) : Apart S a b.drew := ⟨h.os, h.tape, h.output, h.size, h.block⟩
theorem Apart.setRow {S : Nat → Prop} {a b : World} {g : Nat} (h : Apart S a b) (hs : S g) (cs : Array Value) : Apart S a (b.setRow g cs) :=
  h.trans ⟨rfl, rfl, rfl, by simp [World.setRow], fun k _ hn => setRow_other b g k cs (fun e => hn (e ▸ hs))⟩
theorem Apart.setCell {S : Nat → Prop} {a b : World} {p : Addr} (h : Apart S a b) (hs : S p.block) (v : Value) : Apart S a (b.setCell p v) :=
  h.trans ⟨rfl, rfl, rfl, by simp, fun k _ hn => Below.heap_setCell b p v k (fun e => hn (e ▸ hs))⟩
theorem Blk.apart {S : Nat → Prop} {w w' : World} {g : Nat} {t : TypeId} {cs : Array Value} (h : Blk w g t cs) (ha : Apart S w w') (hn : ¬ S g) : Blk w' g t cs := (ha.block g h.lt hn).trans h

/-- where a slice lies -/
def At (v : Value) (k : Nat) : Prop := ∃ a n c, v = .slice (some a) n c ∧ a.block = k
theorem At.some_ {a : Addr} {n c k : Nat} (h : At (.slice (some a) n c) k) : k = a.block := by
  obtain ⟨_, _, _, e, rfl⟩ := h
  cases e
  rfl
theorem At.nil {n c k : Nat} (h : At (.slice none n c) k) : False := by
  obtain ⟨_, _, _, e, _⟩ := h
  cases e
theorem SetV.mk_ {w : World} {lo g : Nat} {l : List Int} {cs : Array Value} {n c : Nat} (hg : lo ≤ g) (hb : Blk w g 3 cs) (hn : n = l.length) (hc : c = cs.size) (hle : l.length ≤ cs.size) (hm : cs.size ≤ maxLen) (hat : ∀ j (h : j < l.length), cs[j]? = some (.int .i64 l[j])) : SetV w lo (.slice (some ⟨g, 0, none⟩) n c) l :=
  .inr ⟨g, cs, by rw [hn, hc], hg, hb, hle, hm, hat⟩
theorem SetV.apart {S : Nat → Prop} {w w' : World} {lo : Nat} {v : Value} {l : List Int} (h : SetV w lo v l) (ha : Apart S w w') (hn : ∀ k, At v k → ¬ S k) : SetV w' lo v l := by
  rcases h with h | ⟨g, cs, e, hg, hb, h⟩
  · exact .inl h
  · exact .inr ⟨g, cs, e, hg, hb.apart ha (hn g ⟨_, _, _, e, rfl⟩), h⟩
theorem SetV.at_lt {w : World} {lo : Nat} {v : Value} {l : List Int} (h : SetV w lo v l) {k : Nat} (hk : At v k) : lo ≤ k ∧ k < w.heap.size ∧ ∃ cs, Blk w k 3 cs := by
  rcases h with ⟨rfl, _⟩ | ⟨g, cs, rfl, hg, hb, _⟩
  · exact (At.nil hk).elim
  · rw [hk.some_]
    exact ⟨hg, hb.lt, cs, hb⟩

/-- a list with x ahead of its i-th -/
def insAt (l : List Int) (i : Nat) (x : Int) : List Int := l.take i ++ x :: l.drop i
theorem insAt_len (l : List Int) {i : Nat} (hi : i ≤ l.length) (x : Int) : (insAt l i x).length = l.length + 1 := by simp [insAt]; omega
theorem insAt_get {l : List Int} {i : Nat} (hi : i ≤ l.length) (x : Int) (j : Nat) : (insAt l i x)[j]? = if j < i then l[j]? else if j = i then some x else l[j - 1]? := by
  unfold insAt
  by_cases h1 : j < i
  · rw [if_pos h1, List.getElem?_append_left (by simp; omega), List.getElem?_take_of_lt h1]
  · rw [if_neg h1, List.getElem?_append_right (by simp; omega)]
    have hlen : (l.take i).length = i := by simp; omega
    rw [hlen]
    by_cases h2 : j = i
    · subst h2
      simp
    · rw [if_neg h2, show j - i = (j - i - 1) + 1 by omega, List.getElem?_cons_succ, List.getElem?_drop]
      congr 1
      omega
theorem insAt_end (l : List Int) (x : Int) : insAt l l.length x = l ++ [x] := by simp [insAt]

/-- what putting in leaves -/
def Near (w : World) (v v' : Value) : Prop := ∀ k, At v' k → At v k ∨ w.heap.size ≤ k
theorem Near.here {w : World} {g n c n' c' : Nat} : Near w (.slice (some ⟨g, 0, none⟩) n c) (.slice (some ⟨g, 0, none⟩) n' c') := fun k hk => .inl ⟨_, _, _, rfl, hk.some_.symm⟩
theorem Near.fresh {w : World} {v : Value} {g n c : Nat} (h : w.heap.size ≤ g) : Near w v (.slice (some ⟨g, 0, none⟩) n c) := fun k hk => .inr (by rw [hk.some_]; exact h)
def InsQ (w : World) (lo : Nat) (v : Value) (l' : List Int) (e : Ending) (w' : World) : Prop := ∃ v', e = .returned v' ∧ SetV w' lo v' l' ∧ Apart (At v) w w' ∧ Near w v v'

theorem intSlT : Try.prog.underlying 98 = some (.slice 3) := Try.underlying98
theorem infoI1 : (Try.prog.info? 3).map (·.size) = some 1 := by
  obtain ⟨i0, hi, hz0, hz1, hz2⟩ := info_parts infoI
  rw [hi]; simp [hz1]
theorem one_vi (l : List Int) : ∀ v ∈ vi l, v.oneCell' = true := fun v hv => by
  obtain ⟨x, _, rfl⟩ := List.mem_map.1 hv
  rfl

section
variable (l : List Int) (lo : Nat) (x : Int) (w : World) (gx : Nat)

theorem oneSrc (hx : Blk w gx 3 #[.int .i64 x]) : Src Try.prog 1 23 (.slice (some ⟨gx, 0, none⟩) 1 1) 1 [.int .i64 x] w :=
  Src.ofSlice w Try.underlying23 ⟨gx, 0, none⟩ 1 1 [.int .i64 x] (by simp) (fun j u hj => by
    match j, hj with
    | 0, hj => rw [add_zero_, hx.cell]; simpa using hj) (fun v hv => by simp at hv; subst hv; rfl)

set_option maxRecDepth 100000 in
set_option maxHeartbeats 2000000 in
theorem insNil_c (hlo : lo ≤ w.heap.size) (hx : Blk w gx 3 #[.int .i64 x]) :
    Calls Try.prog 126 #[.slice none 0 0, .int .i64 0, .slice (some ⟨gx, 0, none⟩) 1 1] w (InsQ w lo (.slice none 0 0) [x]) := by
  obtain ⟨i0, hi, hz0, hz1, hz2⟩ := info_parts infoI
  have hsrc := oneSrc x w gx hx
  have hold : (Builtin.firstCells i0.size 0 (.slice none 0 0)).run Try.prog w.drew = .ok ([] : List Value).toArray w.drew := run_firstCells_none w.drew i0.size 0 0 0
  have hrun : ∀ ty, (Builtin.append_ #[98, 23] ty #[.slice none 0 0, .slice (some ⟨gx, 0, none⟩) 1 1]).run Try.prog w = _ := fun ty =>
    run_append_grow_src w 98 23 ty 3 i0 _ intSlT hi hz0 none 0 0 [] hold _ 1 [.int .i64 x] (by rw [hz1]; exact hsrc) (by omega) (by omega) (by rw [hz2]; exact growslice_fits (by omega) (by omega))
  have hge := grownCap_ge w (0 + 1) 0 3
  have hle := grownCap_le_maxLen w (0 + 1) 0 3 (by unfold maxLen; omega)
  obtain ⟨G, hG⟩ : ∃ G, G = grownCap w (0 + 1) 0 3 := ⟨_, rfl⟩
  rw [← hG] at hge hle
  simp only [← hG] at hrun
  obtain ⟨R, hR⟩ : ∃ R : Array Value, R = (([] : List Value) ++ [Value.int .i64 x]).toArray ++ Builtin.zeroCells (Value.int .i64 0).cells (G - (0 + 1)) := ⟨_, rfl⟩
  simp only [← hR] at hrun
  have hRs : R.size = G := by rw [hR]; simp [size_zeroCells, Value.cells]; omega
  have hR0 : R[0]? = some (.int .i64 x) := by rw [hR, Array.getElem?_append_left (by simp)]; simp
  clear hsrc hold hi hz0 hz1 hz2 hx
  have HG := Lib.hid hG
  have HR := Lib.hid hR
  have Hrun := Lib.hid hrun
  clear hG hR hrun
  go_enter Try.func126, Try.ntmps126
  go_wp2_with (at_builtin; refine Lib.wpList_append_run _ rfl _ _ _ _ rfl _ _ rfl rfl _ _ (Hrun.out _) ?_)
  go_ret
  refine ⟨_, rfl, SetV.mk_ hlo ((Blk.new w.drew 3 R : Blk _ w.heap.size _ _)) (by simp) hRs.symm (by simp; omega) (by omega) (fun j hj => ?_), ((Apart.refl _ w).drew).alloc _, Near.fresh (Nat.le_refl _)⟩
  have : j = 0 := by simpa using hj
  subst this
  simpa using hR0

set_option maxRecDepth 100000 in
set_option maxHeartbeats 2000000 in
theorem insEndRoom_c (g : Nat) (cs : Array Value) (hl : l.length ≤ 1050000) (hg : lo ≤ g) (hb : Blk w g 3 cs) (hr : l.length + 1 ≤ cs.size) (hm : cs.size ≤ maxLen) (hat : ∀ j (h : j < l.length), cs[j]? = some (.int .i64 l[j])) (hx : Blk w gx 3 #[.int .i64 x]) (hne : g ≠ gx) :
    Calls Try.prog 126 #[.slice (some ⟨g, 0, none⟩) l.length cs.size, .int .i64 l.length, .slice (some ⟨gx, 0, none⟩) 1 1] w (InsQ w lo (.slice (some ⟨g, 0, none⟩) l.length cs.size) (insAt l l.length x)) := by
  have hsrc := Lib.hid (oneSrc x w gx hx)
  have hc1 : ∀ j, j < [Value.int .i64 x].length → (w.cell? ⟨g, 0 + l.length + j, none⟩).isSome = true := fun j hj => by
    have : j = 0 := by simpa using hj
    subst this
    rw [hb.cell, Array.getElem?_eq_getElem (by omega)]; rfl
  have hf1 : ∀ j, j < [Value.int .i64 x].length → w.frozen? ⟨g, 0 + l.length + j, none⟩ = false := fun j _ => hb.frozen _
  have Hc := Lib.hid hc1
  have Hf := Lib.hid hf1
  have Hb := Lib.hid hb
  have Hat := Lib.hid hat
  unfold maxLen at hm
  clear hc1 hf1 hb hat hx
  go_enter Try.func126, Try.ntmps126
  go_wp2_with (at_builtin; refine wpList_append_room1 _ rfl _ _ 98 23 rfl 3 (.int .i64 0) 8 intSlT infoI g 0 l.length cs.size rfl _ rfl 1 [.int .i64 x] hsrc.out hr Hc.out Hf.out ?_)
  go_ret
  have hb := Hb.out
  have hB : Blk (w.setCells g l.length [.int .i64 x]) g 3 (cs.setIfInBounds l.length (.int .i64 x)) := hb.set_ l.length _
  refine ⟨_, rfl, SetV.mk_ hg hB (by rw [insAt_len _ (Nat.le_refl _)]) (Array.size_setIfInBounds ..).symm (by rw [insAt_len _ (Nat.le_refl _)]; simpa using hr) (by unfold maxLen; simpa using hm) (fun j hj => ?_), ?_, Near.here⟩
  · rw [insAt_len _ (Nat.le_refl _)] at hj
    have e := insAt_get (Nat.le_refl l.length) x j
    rw [List.getElem?_eq_getElem (by rw [insAt_len _ (Nat.le_refl _)]; exact hj)] at e
    by_cases h1 : j < l.length
    · rw [if_pos h1, List.getElem?_eq_getElem h1, Option.some.injEq] at e
      rw [e, Array.getElem?_setIfInBounds_ne (by omega)]
      exact Hat.out j h1
    · have : j = l.length := by omega
      subst this
      rw [if_neg (by omega), if_pos rfl, Option.some.injEq] at e
      rw [e, Array.getElem?_setIfInBounds_self_of_lt (by omega)]
  · show Apart _ w (w.setCell ⟨g, l.length, none⟩ _)
    exact (Apart.refl _ w).setCell ⟨_, _, _, rfl, rfl⟩ _

set_option maxRecDepth 100000 in
set_option maxHeartbeats 2000000 in
theorem insEndGrow_c (g : Nat) (cs : Array Value) (hl : l.length ≤ 1050000) (hlo : lo ≤ w.heap.size) (hb : Blk w g 3 cs) (hlc : l.length ≤ cs.size) (hr : cs.size < l.length + 1) (hat : ∀ j (h : j < l.length), cs[j]? = some (.int .i64 l[j])) (hx : Blk w gx 3 #[.int .i64 x]) :
    Calls Try.prog 126 #[.slice (some ⟨g, 0, none⟩) l.length cs.size, .int .i64 l.length, .slice (some ⟨gx, 0, none⟩) 1 1] w (InsQ w lo (.slice (some ⟨g, 0, none⟩) l.length cs.size) (insAt l l.length x)) := by
  obtain ⟨i0, hi, hz0, hz1, hz2⟩ := info_parts infoI
  have hsrc := oneSrc x w gx hx
  have hold : (Builtin.firstCells i0.size l.length (.slice (some ⟨g, 0, none⟩) l.length cs.size)).run Try.prog w.drew = .ok (vi l).toArray w.drew := by
    rw [hz1]
    refine run_firstCells_some w.drew 1 l.length ⟨g, 0, none⟩ l.length cs.size (vi l) (by rw [vi_len]; omega) (fun j v hj => ?_)
    rw [add_zero_]
    show w.cell? _ = _
    rw [vi_get] at hj
    rw [hb.cell]
    by_cases h1 : j < l.length
    · rw [hat j h1]; rw [List.getElem?_eq_getElem h1] at hj; simpa using hj
    · rw [List.getElem?_eq_none (by omega)] at hj; simp at hj
  have hrun : ∀ ty, (Builtin.append_ #[98, 23] ty #[.slice (some ⟨g, 0, none⟩) l.length cs.size, .slice (some ⟨gx, 0, none⟩) 1 1]).run Try.prog w = _ := fun ty =>
    run_append_grow_src w 98 23 ty 3 i0 _ intSlT hi hz0 (some ⟨g, 0, none⟩) l.length cs.size (vi l) hold _ 1 [.int .i64 x] (by rw [hz1]; exact hsrc) hr (by omega) (by rw [hz2]; exact growslice_fits hr (by omega))
  have hge := grownCap_ge w (l.length + 1) cs.size 3
  have hle := grownCap_le_maxLen w (l.length + 1) cs.size 3 (by unfold maxLen; omega)
  obtain ⟨G, hG⟩ : ∃ G, G = grownCap w (l.length + 1) cs.size 3 := ⟨_, rfl⟩
  rw [← hG] at hge hle
  simp only [← hG] at hrun
  obtain ⟨R, hR⟩ : ∃ R : Array Value, R = (vi l ++ [Value.int .i64 x]).toArray ++ Builtin.zeroCells (Value.int .i64 0).cells (G - (l.length + 1)) := ⟨_, rfl⟩
  simp only [← hR] at hrun
  have hRs : R.size = G := by rw [hR]; simp [size_zeroCells, Value.cells, vi]; omega
  have hRj : ∀ j (h : j < (insAt l l.length x).length), R[j]? = some (.int .i64 (insAt l l.length x)[j]) := fun j hj => by
    have hj' := hj
    rw [insAt_len _ (Nat.le_refl _)] at hj'
    have e : (insAt l l.length x)[j]? = (l ++ [x])[j]? := by rw [insAt_end]
    rw [List.getElem?_eq_getElem hj] at e
    rw [hR, Array.getElem?_append_left (by simp [vi]; omega), List.getElem?_toArray]
    rw [show vi l ++ [Value.int .i64 x] = (l ++ [x]).map fun b => Value.int .i64 b by simp [vi], List.getElem?_map, ← e]
    rfl
  clear hsrc hold hi hz0 hz1 hz2 hx hb hat
  have HRj := Lib.hid hRj
  have HG := Lib.hid hG
  have HR := Lib.hid hR
  have Hrun := Lib.hid hrun
  clear hG hR hrun hRj
  go_enter Try.func126, Try.ntmps126
  go_wp2_with (at_builtin; refine Lib.wpList_append_run _ rfl _ _ _ _ rfl _ _ rfl rfl _ _ (Hrun.out _) ?_)
  go_ret
  exact ⟨_, rfl, SetV.mk_ hlo ((Blk.new w.drew 3 R : Blk _ w.heap.size _ _)) (by rw [insAt_len _ (Nat.le_refl _)]) hRs.symm (by rw [insAt_len _ (Nat.le_refl _)]; omega) (by omega) HRj.out, ((Apart.refl _ w).drew).alloc _, Near.fresh (Nat.le_refl _)⟩
end
end Go.Proofs.Ytfmlgpnjckamjaa

namespace Go.Proofs.Ytfmlgpnjckamjaa
open Go.RowKit
set_option linter.unusedVariables false
set_option linter.unusedSimpArgs false

/-- a copy whose run is known, as one step of a region that draws its order -/
theorem step_copy_known {P : Program} {ops : Array Oper} {o : Oper} {a : Act} {w : World} {K : Act → World → Prop} {Q : Exit → Act → World → Prop} {E : Prop} (hgd : o.guard = none) (d s : Operand) (dT sT : TypeId)
    (ho : o.op = Op.call { callee := Callee.builtin Builtin.copy, args := #[d, s], argTypes := #[dT, sT] }) (v u : Value) (hd : a.eval d = v) (hs : a.eval s = u) {v' : Value} {w' : World}
    (hrun : (Builtin.copy_ #[dT, sT] o.type #[v, u]).run P w = .ok v' w') (h : K (a.put o.dst v') w') :
    if Region.wanted o (yielded ops a.tmps) = true then Oper.wp P o a w K Q else E := by
  rw [if_pos (show Region.wanted o (yielded ops a.tmps) = true by simp [Region.wanted, hgd])]
  exact Lib.wp_copy_run w d s dT sT ho v u hd hs hrun h

theorem sizeI (w : World) : (Go.sizeOf 3).run Try.prog w = .ok 1 w := by
  obtain ⟨i0, hi, hz0, hz1, hz2⟩ := info_parts infoI
  simp [Go.sizeOf, typeInfo, hi, hz1]
theorem Blk.shape {w : World} {g : Nat} {t : TypeId} {cs : Array Value} (h : Blk w g t cs) : w.shape? g = some (t, cs.size) := by
  unfold World.shape?
  rw [show w.heap[g]? = _ from h]

/-- a row over which a list is laid -/
def laid (cur : Array Value) (o : Nat) (cs : List Value) : Array Value := (cur.toList.take o ++ cs ++ cur.toList.drop (o + cs.length)).toArray
theorem laid_size {cur : Array Value} {o : Nat} {cs : List Value} (h : o + cs.length ≤ cur.size) : (laid cur o cs).size = cur.size := by
  simp [laid]; omega
theorem laid_get {cur : Array Value} {o : Nat} {cs : List Value} (h : o + cs.length ≤ cur.size) (j : Nat) : (laid cur o cs)[j]? = if j < o then cur[j]? else if j < o + cs.length then cs[j - o]? else cur[j]? := by
  unfold laid
  have hlen : (cur.toList.take o).length = o := by simp; omega
  rw [List.getElem?_toArray, List.append_assoc]
  by_cases h1 : j < o
  · rw [if_pos h1, List.getElem?_append_left (by omega), List.getElem?_take_of_lt h1, Array.getElem?_toList]
  · rw [if_neg h1, List.getElem?_append_right (by omega), hlen]
    by_cases h2 : j < o + cs.length
    · rw [if_pos h2, List.getElem?_append_left (by omega)]
    · rw [if_neg h2, List.getElem?_append_right (by omega), List.getElem?_drop, Array.getElem?_toList]
      congr 1
      omega
theorem vi_drop (l : List Int) (i : Nat) : vi (l.drop i) = (vi l).drop i := by simp [vi]

section
variable (l : List Int) (lo : Nat) (x : Int) (w : World) (gx : Nat)

theorem ov_false (hx : Blk w gx 3 #[.int .i64 x]) (g : Nat) (cs : Array Value) (hb : Blk w g 3 cs) (hne : g ≠ gx) (hcs : cs.size ≠ 0) (o lb cb : Nat) :
    (callFunc 148 #[.slice (some ⟨gx, 0, none⟩) 1 1, .slice (some ⟨g, o, none⟩) lb cb]).run Try.prog w = .ok (.value (.bool false)) w := by
  rw [run_callFunc_extern Try.func148 (by kernel_rfl) (by kernel_rfl) (by kernel_rfl) (e := Extern.SlicesOverlaps.overlaps #[23, 23] #[4]) (by kernel_rfl),
    Lib.run_overlaps_apart w 23 4 3 Try.underlying23 1 sizeI ⟨gx, 0, none⟩ ⟨g, o, none⟩ 1 1 lb cb (fun e => hne e.symm) 3 3 1 cs.size hx.shape hb.shape hcs (hx.frozen 0) (hx.frozen 1)]
  rfl

set_option maxRecDepth 100000 in
set_option maxHeartbeats 4000000 in
theorem insShift_c (i : Nat) (hi : i < l.length) (g : Nat) (cs : Array Value) (hl : l.length ≤ 1050000) (hg : lo ≤ g) (hb : Blk w g 3 cs) (hr : l.length + 1 ≤ cs.size) (hm : cs.size ≤ maxLen) (hat : ∀ j (h : j < l.length), cs[j]? = some (.int .i64 l[j])) (hx : Blk w gx 3 #[.int .i64 x]) (hne : g ≠ gx) :
    Calls Try.prog 126 #[.slice (some ⟨g, 0, none⟩) l.length cs.size, .int .i64 i, .slice (some ⟨gx, 0, none⟩) 1 1] w (InsQ w lo (.slice (some ⟨g, 0, none⟩) l.length cs.size) (insAt l i x)) := by
  obtain ⟨n, hn⟩ : ∃ n, n = l.length := ⟨_, rfl⟩
  obtain ⟨c, hc⟩ : ∃ c, c = cs.size := ⟨_, rfl⟩
  have hdl : (vi (l.drop i)).length = n - i := by rw [vi_len, List.length_drop, hn]
  have hfit1 : i + 1 + (vi (l.drop i)).length ≤ cs.size := by omega
  have hs1 := laid_size hfit1
  have hcp1 : ∀ (W : World), W.heap[g]? = some (.cells cs 3 (0, 0)) → ∀ ty dc sc, (Builtin.copy_ #[98, 98] ty #[.slice (some ⟨g, i + 1, none⟩) (n - i) dc, .slice (some ⟨g, i, none⟩) (n + 1 - i) sc]).run Try.prog W = .ok (goInt (vi (l.drop i)).length) (W.setRow g (laid cs (i + 1) (vi (l.drop i)))) := fun W hW ty dc sc =>
    run_copy_row Try.prog W _ _ ty 3 g (i + 1) (n - i) dc ⟨g, i, none⟩ (n + 1 - i) sc cs 3 (vi (l.drop i)) intSlT infoI1 hW (by rw [hdl]; simp only [Nat.min_def]; split <;> omega)
      (fun j v hj => by
        have hWb : Blk W g 3 cs := hW
        rw [Addr.add_lit, hWb.cell]
        rw [vi_drop, List.getElem?_drop, vi_get] at hj
        have hjl : i + j < l.length := by
          rcases Nat.lt_or_ge (i + j) l.length with h1 | h1
          · exact h1
          · rw [List.getElem?_eq_none h1] at hj; cases hj
        rw [List.getElem?_eq_getElem hjl] at hj
        rw [hat _ hjl]
        simpa using hj) hfit1 (one_vi _)
  have hfit2 : i + [Value.int .i64 x].length ≤ (laid cs (i + 1) (vi (l.drop i))).size := by rw [hs1]; simp; omega
  have hs2 := laid_size hfit2
  have hcp2 : ∀ (W : World), W.heap[g]? = some (.cells (laid cs (i + 1) (vi (l.drop i))) 3 (0, 0)) → W.heap[gx]? = some (.cells #[.int .i64 x] 3 (0, 0)) → ∀ ty dc, (Builtin.copy_ #[98, 23] ty #[.slice (some ⟨g, i, none⟩) (n + 1 - i) dc, .slice (some ⟨gx, 0, none⟩) 1 1]).run Try.prog W = .ok (goInt [Value.int .i64 x].length) (W.setRow g (laid (laid cs (i + 1) (vi (l.drop i))) i [.int .i64 x])) := fun W hW hWx ty dc =>
    run_copy_row Try.prog W _ _ ty 3 g i (n + 1 - i) dc ⟨gx, 0, none⟩ 1 1 (laid cs (i + 1) (vi (l.drop i))) 3 [.int .i64 x] intSlT infoI1 hW (by simp only [Nat.min_def, List.length_singleton]; split <;> omega)
      (fun j v hj => by
        have hWb : Blk W gx 3 #[.int .i64 x] := hWx
        match j, hj with
        | 0, hj => rw [add_zero_, hWb.cell]; simpa using hj) hfit2 (fun v hv => by simp at hv; subst hv; rfl)
  have hrow : ∀ j (h : j < (insAt l i x).length), (laid (laid cs (i + 1) (vi (l.drop i))) i [.int .i64 x])[j]? = some (.int .i64 (insAt l i x)[j]) := fun j hj => by
    have hj' := hj
    rw [insAt_len _ (by omega)] at hj'
    have e := insAt_get (Nat.le_of_lt hi) x j
    rw [List.getElem?_eq_getElem hj] at e
    rw [laid_get hfit2, laid_get hfit1]
    by_cases h1 : j < i
    · rw [if_pos h1, List.getElem?_eq_getElem (by omega), Option.some.injEq] at e
      rw [if_pos h1, if_pos (by omega), e]
      exact hat j (by omega)
    · rw [if_neg h1] at e
      rw [if_neg h1]
      by_cases h2 : j = i
      · subst h2
        rw [if_pos rfl, Option.some.injEq] at e
        rw [if_pos (by simp), e]
        simp
      · rw [if_neg h2, List.getElem?_eq_getElem (by omega), Option.some.injEq] at e
        rw [if_neg (by simp; omega), if_neg (by omega), if_pos (by omega), vi_drop, List.getElem?_drop, vi_get, List.getElem?_eq_getElem (by omega), e]
        simp only [Option.map_some, Option.some.injEq, Value.int.injEq, true_and]
        congr 1
        omega
  have hov := fun o lb cb => ov_false x w gx hx g cs hb hne (by omega) o lb cb
  have hcp1' := hcp1 w.drew hb
  obtain ⟨R1, hR1⟩ : ∃ R, R = laid cs (i + 1) (vi (l.drop i)) := ⟨_, rfl⟩
  rw [← hR1] at hcp2 hrow hs2 hs1
  simp only [← hR1] at hcp1'
  obtain ⟨R2, hR2⟩ : ∃ R, R = laid R1 i [.int .i64 x] := ⟨_, rfl⟩
  rw [← hR2] at hrow hs2
  simp only [← hR2] at hcp2
  have hW1 : (w.drew.setRow g R1).heap[g]? = some (.cells R1 3 (0, 0)) := setRow_heap _ g cs R1 _ _ hb
  have hcp2' := hcp2 (w.drew.setRow g R1) hW1 ((setRow_other _ g gx R1 (fun e => hne e.symm)).trans hx)
  have hW2 : ((w.drew.setRow g R1).setRow g R2).heap[g]? = some (.cells R2 3 (0, 0)) := setRow_heap _ g R1 R2 _ _ hW1
  have hend : InsQ w lo (.slice (some ⟨g, 0, none⟩) n c) (insAt l i x) (.returned (.slice (some ⟨g, 0, none⟩) (n + 1) c)) ((w.drew.setRow g R1).setRow g R2) :=
    ⟨_, rfl, SetV.mk_ hg hW2 (by rw [insAt_len _ (by omega), hn]) (by omega) (by rw [insAt_len _ (by omega)]; omega) (by omega) hrow, (((Apart.refl _ w).drew).setRow ⟨_, _, _, rfl, rfl⟩ _).setRow ⟨_, _, _, rfl, rfl⟩ _, Near.here⟩
  rw [← hn, ← hc]
  have Hend := Lib.hid hend
  obtain ⟨m1, hm1⟩ : ∃ m, m = (vi (l.drop i)).length := ⟨_, rfl⟩
  simp only [← hm1] at hcp1'
  have Hc1 := Lib.hid hcp1'
  have Hc2 := Lib.hid hcp2'
  have Hov := Lib.hid hov
  have hin : (i : Int) ≤ n := by omega
  have hin' : i < n := by omega
  have hnc : n + 1 ≤ c := by omega
  have hc63 : (c : Int) ≤ 9223372036854775807 := by unfold maxLen at hm; omega
  have hz1 : ¬ (i : Int) = (n : Int) := by omega
  have hz2 : ¬ i = n := by omega
  have hb2 : ¬ c = i + 1 := by omega
  have hb4 : ¬ c = i := by omega
  have hn20 : n ≤ 1050000 := by omega
  have hb1 : (0 : Int) ≤ (i : Int) + 1 := by omega
  have hb3 : (i : Int) ≤ (n : Int) + 1 := by omega
  have htn : ((i : Int) + 1).toNat = i + 1 := by omega
  have hw1 : IntKind.i64.wrap ((i : Int) + 1) = (i : Int) + 1 := IntWalk.i64_in _ (by omega)
  clear hend hcp1 hcp2 hcp1' hcp2' hrow hov hW1 hW2 hR1 hR2 hs1 hs2 hfit1 hfit2 hdl hm1 hat hb hx hr hm hl hi hn hc hne
  go_enter Try.func126, Try.ntmps126
  go_wp2_with (simp only [Hov.out])
  go_region_law (refine step_copy_known rfl _ _ 98 98 rfl (.slice (some ⟨g, i + 1, none⟩) (n - i) (c - (i + 1))) (.slice (some ⟨g, i, none⟩) (n + 1 - i) (c - i)) (by simp [Act.eval, Act.put]) (by simp [Act.eval, Act.put]) (Hc1.out 3 (c - (i + 1)) (c - i)) ?_)
  go_wp2_with (with_reducible refine Lib.wpList_copy_run _ rfl (.tmp 80) (.tmp 81) 98 23 rfl (.slice (some ⟨g, i, none⟩) (n + 1 - i) (c - i)) (.slice (some ⟨gx, 0, none⟩) 1 1) rfl rfl (Hc2.out _ _) ?_)
  go_ret
  exact Hend.out

set_option maxRecDepth 100000 in
set_option maxHeartbeats 4000000 in
theorem insGrow_c (i : Nat) (hi : i < l.length) (g : Nat) (cs : Array Value) (hl : l.length ≤ 1050000) (hlo : lo ≤ w.heap.size) (hb : Blk w g 3 cs) (hlc : l.length ≤ cs.size) (hr : cs.size < l.length + 1) (hat : ∀ j (h : j < l.length), cs[j]? = some (.int .i64 l[j])) (hx : Blk w gx 3 #[.int .i64 x]) :
    Calls Try.prog 126 #[.slice (some ⟨g, 0, none⟩) l.length cs.size, .int .i64 i, .slice (some ⟨gx, 0, none⟩) 1 1] w (InsQ w lo (.slice (some ⟨g, 0, none⟩) l.length cs.size) (insAt l i x)) := by
  obtain ⟨n, hn⟩ : ∃ n, n = l.length := ⟨_, rfl⟩
  obtain ⟨c, hc⟩ : ∃ c, c = cs.size := ⟨_, rfl⟩
  obtain ⟨i0, hi0, hz0, hz1, hz2⟩ := info_parts infoI
  have hkk : (n : Int) + 1 - (i : Int) = ((n + 1 - i : Nat) : Int) := by omega
  have hik : i + (n + 1 - i) = n + 1 := by omega
  have htl : (vi (l.take i)).length = i := by rw [vi_len, List.length_take]; omega
  have hold : (Builtin.firstCells i0.size i (.slice (some ⟨g, 0, none⟩) i c)).run Try.prog w.drew = .ok (vi (l.take i)).toArray w.drew := by
    rw [hz1]
    refine run_firstCells_some w.drew 1 i ⟨g, 0, none⟩ i c (vi (l.take i)) (by rw [htl]; omega) (fun j v hj => ?_)
    rw [add_zero_]
    show w.cell? _ = _
    rw [hb.cell]
    rw [vi_get, List.getElem?_take] at hj
    split at hj
    · rename_i h1
      rw [hat j (by omega)]
      rw [List.getElem?_eq_getElem (by omega)] at hj
      simpa using hj
    · simp at hj
  have hrz : ∀ ty, (Builtin.append_ #[98, 3] ty #[.slice (some ⟨g, 0, none⟩) i c, .int .i64 ((n + 1 - i : Nat) : Int)]).run Try.prog w = _ := fun ty =>
    Lib.run_append_grow_zeros w 98 3 ty 3 i0 _ .i64 .i64 intSlT Try.underlying3 hi0 hz0 (some ⟨g, 0, none⟩) i c (vi (l.take i)) hold (n + 1 - i) (by omega) (by omega) (by omega) (by omega) (by rw [hz2]; omega) (by rw [hz2, hik]; exact growslice_fits (by omega) (by omega))
  rw [hik, ← hkk] at hrz
  have hge := grownCap_ge w (n + 1) c 3
  have hle := grownCap_le_maxLen w (n + 1) c 3 (by unfold maxLen; omega)
  obtain ⟨G, hG⟩ : ∃ G, G = grownCap w (n + 1) c 3 := ⟨_, rfl⟩
  rw [← hG] at hge hle
  simp only [← hG] at hrz
  obtain ⟨R0, hR0⟩ : ∃ R : Array Value, R = (vi (l.take i)).toArray ++ Builtin.zeroCells (Value.int .i64 0).cells (n + 1 - i) ++ Builtin.zeroCells (Value.int .i64 0).cells (G - (n + 1)) := ⟨_, rfl⟩
  simp only [← hR0] at hrz
  have hs0 : R0.size = G := by
    rw [hR0]
    simp only [Array.size_append, size_zeroCells, Value.cells, List.size_toArray, htl]
    simp
    omega
  have hat0 : ∀ j (h : j < i), R0[j]? = some (.int .i64 (l[j]'(by omega))) := fun j h => by
    rw [hR0, Array.append_assoc, Array.getElem?_append_left (by simp [htl]; omega), List.getElem?_toArray, vi_get, List.getElem?_take_of_lt h, List.getElem?_eq_getElem (by omega)]
    rfl
  obtain ⟨N, hN⟩ : ∃ N, N = w.heap.size := ⟨_, rfl⟩
  have hgN : g < N := by rw [hN]; exact hb.lt
  have hxN : gx < N := by rw [hN]; exact hx.lt
  have hdl : (vi (l.drop i)).length = n - i := by rw [vi_len, List.length_drop, hn]
  have hfit1 : i + [Value.int .i64 x].length ≤ R0.size := by rw [hs0]; simp; omega
  have hs1 := laid_size hfit1
  have hcp1 : ∀ (W : World), W.heap[N]? = some (.cells R0 3 (0, 0)) → W.heap[gx]? = some (.cells #[.int .i64 x] 3 (0, 0)) → ∀ ty dc, (Builtin.copy_ #[98, 23] ty #[.slice (some ⟨N, i, none⟩) (n + 1 - i) dc, .slice (some ⟨gx, 0, none⟩) 1 1]).run Try.prog W = .ok (goInt [Value.int .i64 x].length) (W.setRow N (laid R0 i [.int .i64 x])) := fun W hW hWx ty dc =>
    run_copy_row Try.prog W _ _ ty 3 N i (n + 1 - i) dc ⟨gx, 0, none⟩ 1 1 R0 3 [.int .i64 x] intSlT infoI1 hW (by simp only [Nat.min_def, List.length_singleton]; split <;> omega)
      (fun j v hj => by
        have hWb : Blk W gx 3 #[.int .i64 x] := hWx
        match j, hj with
        | 0, hj => rw [add_zero_, hWb.cell]; simpa using hj) hfit1 (fun v hv => by simp at hv; subst hv; rfl)
  have hfit2 : i + 1 + (vi (l.drop i)).length ≤ (laid R0 i [.int .i64 x]).size := by rw [hs1]; omega
  have hs2 := laid_size hfit2
  have hcp2 : ∀ (W : World), W.heap[N]? = some (.cells (laid R0 i [.int .i64 x]) 3 (0, 0)) → W.heap[g]? = some (.cells cs 3 (0, 0)) → ∀ ty dc sc, (Builtin.copy_ #[98, 98] ty #[.slice (some ⟨N, i + 1, none⟩) (n + 1 - (i + 1)) dc, .slice (some ⟨g, i, none⟩) (n - i) sc]).run Try.prog W = .ok (goInt (vi (l.drop i)).length) (W.setRow N (laid (laid R0 i [.int .i64 x]) (i + 1) (vi (l.drop i)))) := fun W hW hWg ty dc sc =>
    run_copy_row Try.prog W _ _ ty 3 N (i + 1) (n + 1 - (i + 1)) dc ⟨g, i, none⟩ (n - i) sc (laid R0 i [.int .i64 x]) 3 (vi (l.drop i)) intSlT infoI1 hW (by rw [hdl]; simp only [Nat.min_def]; split <;> omega)
      (fun j v hj => by
        have hWb : Blk W g 3 cs := hWg
        rw [Addr.add_lit, hWb.cell]
        rw [vi_drop, List.getElem?_drop, vi_get] at hj
        have hjl : i + j < l.length := by
          rcases Nat.lt_or_ge (i + j) l.length with h1 | h1
          · exact h1
          · rw [List.getElem?_eq_none h1] at hj; cases hj
        rw [List.getElem?_eq_getElem hjl] at hj
        rw [hat _ hjl]
        simpa using hj) hfit2 (one_vi _)
  have hrow : ∀ j (h : j < (insAt l i x).length), (laid (laid R0 i [.int .i64 x]) (i + 1) (vi (l.drop i)))[j]? = some (.int .i64 (insAt l i x)[j]) := fun j hj => by
    have hj' := hj
    rw [insAt_len _ (by omega)] at hj'
    have e := insAt_get (Nat.le_of_lt hi) x j
    rw [List.getElem?_eq_getElem hj] at e
    rw [laid_get hfit2, laid_get hfit1]
    by_cases h1 : j < i
    · rw [if_pos h1, List.getElem?_eq_getElem (by omega), Option.some.injEq] at e
      rw [if_pos (by omega), if_pos h1, e]
      exact hat0 j h1
    · rw [if_neg h1] at e
      by_cases h2 : j = i
      · subst h2
        rw [if_pos rfl, Option.some.injEq] at e
        rw [if_pos (by omega), if_neg (by omega), if_pos (by simp), e]
        simp
      · rw [if_neg h2, List.getElem?_eq_getElem (by omega), Option.some.injEq] at e
        rw [if_neg (by omega), if_pos (by omega), vi_drop, List.getElem?_drop, vi_get, List.getElem?_eq_getElem (by omega), e]
        simp only [Option.map_some, Option.some.injEq, Value.int.injEq, true_and]
        congr 1
        omega
  obtain ⟨R1, hR1⟩ : ∃ R, R = laid R0 i [.int .i64 x] := ⟨_, rfl⟩
  rw [← hR1] at hcp2 hrow hs2 hs1
  simp only [← hR1] at hcp1
  obtain ⟨R2, hR2⟩ : ∃ R, R = laid R1 (i + 1) (vi (l.drop i)) := ⟨_, rfl⟩
  rw [← hR2] at hrow hs2
  simp only [← hR2] at hcp2
  obtain ⟨W0, hW0⟩ : ∃ W, W = w.drew.alloc (.cells R0 3) := ⟨_, rfl⟩
  simp only [← hN, ← hW0] at hrz
  have hA0 : W0.heap[N]? = some (.cells R0 3 (0, 0)) := by rw [hW0, hN]; exact heap_alloc_new w.drew _
  have hX0 : W0.heap[gx]? = some (.cells #[.int .i64 x] 3 (0, 0)) := by rw [hW0]; exact (Below.heap_alloc w.drew _ gx hx.lt).trans hx
  have hG0 : W0.heap[g]? = some (.cells cs 3 (0, 0)) := by rw [hW0]; exact (Below.heap_alloc w.drew _ g hb.lt).trans hb
  have hp0 : Apart (At (.slice (some ⟨g, 0, none⟩) n c)) w W0 := by rw [hW0]; exact ((Apart.refl _ w).drew).alloc _
  have hA1 : (W0.setRow N R1).heap[N]? = some (.cells R1 3 (0, 0)) := setRow_heap _ N R0 R1 _ _ hA0
  have hG1 : (W0.setRow N R1).heap[g]? = some (.cells cs 3 (0, 0)) := (setRow_other _ N g R1 (by omega)).trans hG0
  have hcp1' := hcp1 W0 hA0 hX0
  have hcp2' := hcp2 (W0.setRow N R1).drew hA1 hG1
  have hA2 : ((W0.setRow N R1).drew.setRow N R2).heap[N]? = some (.cells R2 3 (0, 0)) := setRow_heap _ N R1 R2 _ _ hA1
  have hap : Apart (At (.slice (some ⟨g, 0, none⟩) n c)) w ((W0.setRow N R1).drew.setRow N R2) := by
    refine ⟨hp0.os, hp0.tape, hp0.output, ?_, fun k hk hs => ?_⟩
    · have := hp0.size
      simpa [World.setRow] using this
    · have h1 : k ≠ N := by omega
      exact (setRow_other _ N k R2 h1).trans ((setRow_other _ N k R1 h1).trans (hp0.block k hk hs))
  have hend : InsQ w lo (.slice (some ⟨g, 0, none⟩) n c) (insAt l i x) (.returned (.slice (some ⟨N, 0, none⟩) (n + 1) G)) ((W0.setRow N R1).drew.setRow N R2) :=
    ⟨_, rfl, SetV.mk_ (by omega) hA2 (by rw [insAt_len _ (by omega), hn]) (by omega) (by rw [insAt_len _ (by omega)]; omega) (by omega) hrow, hap, Near.fresh (by omega)⟩
  rw [← hn, ← hc]
  have Hend := Lib.hid hend
  obtain ⟨m1, hm1⟩ : ∃ m, m = (vi (l.drop i)).length := ⟨_, rfl⟩
  simp only [← hm1] at hcp2'
  have Hrz := Lib.hid hrz
  have Hc1 := Lib.hid hcp1'
  have Hc2 := Lib.hid hcp2'
  have hin : (i : Int) ≤ n := by omega
  have hin' : i < n := by omega
  have hcn : c = n := by omega
  subst hcn
  have hz1' : ¬ (i : Int) = (c : Int) := by omega
  have hz2' : ¬ i = c := by omega
  have hGi : ¬ G = i := by omega
  have hGi1 : ¬ G = i + 1 := by omega
  have hci : ¬ c = i := by omega
  have hG63 : (G : Int) ≤ 9223372036854775807 := by unfold maxLen at hle; omega
  have hn20 : c ≤ 1050000 := by omega
  have hb1 : (0 : Int) ≤ (i : Int) + 1 := by omega
  have hb3 : (i : Int) ≤ (c : Int) + 1 := by omega
  have htn : ((i : Int) + 1).toNat = i + 1 := by omega
  have hw1 : IntKind.i64.wrap ((i : Int) + 1) = (i : Int) + 1 := IntWalk.i64_in _ (by omega)
  clear hend hcp1 hcp2 hcp1' hcp2' hrow hA0 hX0 hG0 hp0 hA1 hG1 hA2 hap hR1 hR2 hs1 hs2 hfit1 hfit2 hdl hm1 hat hb hx hr hl hi hn hc hrz hold hkk hik htl hR0 hs0 hat0 hN hW0 hG hle hge hi0 hz0 hz1 hz2 hgN hxN hlo hlc
  go_enter Try.func126, Try.ntmps126
  go_wp2_with (first
    | (at_builtin; refine Lib.wpList_append_run _ rfl _ _ _ _ rfl _ _ rfl rfl _ _ (Hrz.out _) ?_)
    | (with_reducible refine Lib.wpList_copy_run _ rfl (.tmp 43) (.tmp 44) 98 23 rfl (.slice (some ⟨N, i, none⟩) (c + 1 - i) (G - i)) (.slice (some ⟨gx, 0, none⟩) 1 1) rfl rfl (Hc1.out _ _) ?_))
  go_region_law (refine step_copy_known rfl _ _ 98 98 rfl (.slice (some ⟨N, i + 1, none⟩) (c + 1 - (i + 1)) (G - (i + 1))) (.slice (some ⟨g, i, none⟩) (c - i) (c - i)) (by simp [Act.eval, Act.put]) (by simp [Act.eval, Act.put]) (Hc2.out 3 (G - (i + 1)) (c - i)) ?_)
  go_wp2
  go_ret
  exact Hend.out
end
end Go.Proofs.Ytfmlgpnjckamjaa

namespace Go.Proofs.Ytfmlgpnjckamjaa
open Go.RowKit
set_option linter.unusedVariables false

/-- a list with x at its place -/
def insI : List Int → Int → List Int
  | [], x => [x]
  | a :: r, x => if x < a then x :: a :: r else if x = a then a :: r else a :: insI r x
theorem mem_insI : ∀ (l : List Int) (x y : Int), y ∈ insI l x ↔ y = x ∨ y ∈ l
  | [], x, y => by simp [insI]
  | a :: r, x, y => by
    unfold insI
    split
    · simp
    · split
      · rename_i h; subst h; simp
      · have := mem_insI r x y
        simp only [List.mem_cons, this]
        constructor <;> (intro h; rcases h with h | h | h <;> simp [h])
theorem sorted_insI : ∀ (l : List Int) (x : Int), l.Pairwise (· < ·) → (insI l x).Pairwise (· < ·)
  | [], x, _ => by simp [insI]
  | a :: r, x, h => by
    rw [List.pairwise_cons] at h
    unfold insI
    split
    · rename_i h1
      rw [List.pairwise_cons, List.pairwise_cons]
      exact ⟨fun y hy => by
        rcases List.mem_cons.1 hy with rfl | hy
        · exact h1
        · exact Int.lt_trans h1 (h.1 y hy), h⟩
    · split
      · rw [List.pairwise_cons]; exact h
      · rename_i h1 h2
        rw [List.pairwise_cons]
        refine ⟨fun y hy => ?_, sorted_insI r x h.2⟩
        rcases (mem_insI r x y).1 hy with rfl | hy
        · omega
        · exact h.1 y hy
theorem insI_len : ∀ (l : List Int) (x : Int), (insI l x).length ≤ l.length + 1
  | [], x => by simp [insI]
  | a :: r, x => by
    have := insI_len r x
    unfold insI
    split
    · simp
    · split <;> simp <;> omega
theorem hasI_mem (l : List Int) (x : Int) : hasI l x = true ↔ x ∈ l := by unfold hasI; rw [List.contains_iff_mem]
theorem hasI_not (l : List Int) (x : Int) : hasI l x = false ↔ x ∉ l := by rw [← hasI_mem]; simp
theorem insI_has : ∀ (l : List Int) (x : Int), l.Pairwise (· < ·) → x ∈ l → insI l x = l
  | [], x, _, h => by simp at h
  | a :: r, x, hs, h => by
    rw [List.pairwise_cons] at hs
    unfold insI
    rcases List.mem_cons.1 h with rfl | h
    · simp
    · have := hs.1 x h
      rw [if_neg (by omega), if_neg (by omega), insI_has r x hs.2 h]
theorem lowI_zero : ∀ (l : List Int) (x : Int), (∀ y ∈ l, x ≤ y) → lowI l x = 0
  | [], x, _ => rfl
  | a :: r, x, h => by
    unfold lowI
    rw [List.countP_cons_of_neg (by simpa using h a (by simp))]
    exact lowI_zero r x fun y hy => h y (by simp [hy])
theorem insI_at : ∀ (l : List Int) (x : Int), l.Pairwise (· < ·) → x ∉ l → insI l x = insAt l (lowI l x) x
  | [], x, _, _ => rfl
  | a :: r, x, hs, h => by
    rw [List.pairwise_cons] at hs
    rw [List.mem_cons] at h
    unfold insI
    by_cases h1 : x < a
    · rw [if_pos h1, lowI_zero (a :: r) x (fun y hy => by
        rcases List.mem_cons.1 hy with rfl | hy
        · omega
        · have := hs.1 y hy; omega)]
      rfl
    · rw [if_neg h1, if_neg (fun e => h (.inl e)), insI_at r x hs.2 (fun e => h (.inr e))]
      have : lowI (a :: r) x = lowI r x + 1 := by
        unfold lowI
        rw [List.countP_cons_of_pos (by
          have : ¬ x = a := fun e => h (.inl e)
          simp; omega)]
      rw [this]
      rfl
theorem insI_end (l : List Int) (x : Int) (h : ∀ y ∈ l, y < x) : insI l x = l ++ [x] := by
  induction l with
  | nil => rfl
  | cons a r ih =>
    have := h a (by simp)
    unfold insI
    rw [if_neg (by omega), if_neg (by omega), ih fun y hy => h y (by simp [hy])]
    rfl

theorem setIns_c (l : List Int) (lo : Nat) (x : Int) (w : World) (gx : Nat) (v : Value) (i : Nat) (hl : l.length ≤ 1050000) (hv : SetV w lo v l) (hlo : lo ≤ w.heap.size) (hx : Blk w gx 3 #[.int .i64 x]) (hne : ¬ At v gx) (hi : i ≤ l.length) :
    Calls Try.prog 126 #[v, .int .i64 i, .slice (some ⟨gx, 0, none⟩) 1 1] w (InsQ w lo v (insAt l i x)) := by
  rcases hv with ⟨rfl, rfl⟩ | ⟨g, cs, rfl, hg, hb, hlc, hcm, hat⟩
  · obtain rfl : i = 0 := by simpa using hi
    exact insNil_c lo x w gx hlo hx
  · have hgx : g ≠ gx := fun e => hne ⟨_, _, _, rfl, e⟩
    by_cases h : i = l.length
    · subst h
      by_cases hr : l.length + 1 ≤ cs.size
      · exact insEndRoom_c l lo x w gx g cs hl hg hb hr hcm hat hx hgx
      · exact insEndGrow_c l lo x w gx g cs hl hlo hb hlc (by omega) hat hx
    · by_cases hr : l.length + 1 ≤ cs.size
      · exact insShift_c l lo x w gx i (by omega) g cs hl hg hb hr hcm hat hx hgx
      · exact insGrow_c l lo x w gx i (by omega) g cs hl hlo hb hlc (by omega) hat hx

/-- what adding leaves: the set lies in a cell of block rB -/
def AddQ2 (w : World) (lo rB o : Nat) (T : TypeId) (cs : Array Value) (v : Value) (l : List Int) (x : Int) (e : Ending) (w' : World) : Prop :=
  e = .returned (.bool (!hasI l x)) ∧ ∃ v', SetV w' lo v' (insI l x) ∧ Blk w' rB T (cs.setIfInBounds o v') ∧ Apart (fun k => k = rB ∨ At v k) w w' ∧ Near w v v'

set_option maxRecDepth 100000 in
set_option maxHeartbeats 2000000 in
theorem setAdd2_c (l : List Int) (v : Value) (lo : Nat) (x : Int) (w : World) (rB o : Nat) (T : TypeId) (cs : Array Value) (hl : l.length ≤ 1049999) (hs : l.Pairwise (· < ·)) (hv : SetV w lo v l) (hlo : lo ≤ w.heap.size) (hB : Blk w rB T cs) (ho : cs[o]? = some v) (hT : T ≠ 3) :
    Calls Try.prog 97 #[.pointer (some ⟨rB, o, none⟩), .int .i64 x] w (AddQ2 w lo rB o T cs v l x) := by
  have hc := hB.cel o ho
  have hf := hB.frozen o
  have hlt := hB.lt
  have Hf := Lib.hid (find_c l v lo x w (by omega) hs hv)
  cases hh : hasI l x
  · have hnew := Blk.new w 3 #[.int .i64 x]
    have hat : ∀ k, At v k → k < w.heap.size ∧ k ≠ rB := fun k hk => by
      obtain ⟨_, h1, cs', h2⟩ := hv.at_lt hk
      exact ⟨h1, (hB.ne_ h2 hT).symm⟩
    have hins := setIns_c l lo x (w.alloc (.cells #[.int .i64 x] 3)) w.heap.size v (lowI l x) (by omega) (hv.below ((Below.refl _ _).alloc (Nat.le_refl _) _)) (by simp; omega) hnew (fun h => absurd (hat _ h).1 (Nat.lt_irrefl _)) (lowI_le l x)
    rw [← insI_at l x hs ((hasI_not l x).1 hh)] at hins
    have hB1 := hB.alloc (.cells #[.int .i64 x] 3)
    have Hat := Lib.hid hat
    have Hins := Lib.hid hins
    have HB1 := Lib.hid hB1
    have HB := Lib.hid hB
    rw [hh] at Hf
    have Hh := Lib.hid hh
    have Ho := Lib.hid ho
    have HT := Lib.hid hT
    obtain ⟨n, hn⟩ : ∃ n, n = lowI l x := ⟨_, rfl⟩
    rw [← hn] at Hf Hins
    clear hn hins hB1 hat hnew hh hv hs hB ho hT
    go_enter Try.func97, Try.ntmps97
    go_wp2_with fail
    refine Hf.out.mono ?_
    rintro e w' ⟨rfl, rfl⟩
    go_wp2_with fail
    refine Hins.out.mono ?_
    rintro e w1 ⟨v', rfl, hv', hap, hnr⟩
    have hnr2 : Near w v v' := fun k hk => (hnr k hk).imp id fun h => by rw [World.size_alloc] at h; omega
    obtain ⟨A', c', rfl⟩ := hv'.form
    obtain ⟨v', hvv⟩ : ∃ v', v' = Value.slice A' (insI l x).length c' := ⟨_, rfl⟩
    rw [← hvv] at hv' hnr2
    clear hnr
    have hrB1 : ¬ At v rB := fun h => (Hat.out rB h).2 rfl
    have hB2 := HB1.out.apart hap hrB1
    have hc2 : (w1.cell? ⟨rB, o, none⟩) = some v := hB2.cel o Ho.out
    have hf2 := hB2.frozen o
    have hap2 : Apart (fun k => k = rB ∨ At v k) w w1 := (((Apart.refl _ w).alloc _).mono (fun k _ h => h)).trans (hap.mono fun k _ h => .inr h)
    have hne' : ∀ k, At v' k → k ≠ rB := fun k hk e => by
      subst e
      obtain ⟨_, _, cs', h2⟩ := hv'.at_lt hk
      exact (hB2.ne_ h2 HT.out) rfl
    have hend : AddQ2 w lo rB o T cs v l x (.returned (.bool true)) (w1.setCell ⟨rB, o, none⟩ v') := by
      refine ⟨by rw [Hh.out]; rfl, v', ?_, hB2.set_ o v', hap2.setCell (.inl rfl) _, hnr2⟩
      exact hv'.apart ((Apart.refl (fun k => k = rB) w1).setCell rfl v') (fun k hk e => hne' k hk e)
    have Hend := Lib.hid hend
    rw [hvv] at Hend
    clear hvv hnr2 hc hf hap hap2 hne' hrB1 hB2 hv' hend Hins Hf
    go_wp2
    go_ret
    exact Hend.out
  · rw [hh] at Hf
    have hmem := (hasI_mem l x).1 hh
    have hend : AddQ2 w lo rB o T cs v l x (.returned (.bool false)) w := by
      refine ⟨by rw [hh]; rfl, v, by rw [insI_has l x hs hmem]; exact hv, ?_, Apart.refl _ _, fun k hk => .inl hk⟩
      rw [show cs.setIfInBounds o v = cs from ?_]
      · exact hB
      · apply Array.ext_getElem?
        intro j
        by_cases hj : o = j
        · subst hj
          rw [Array.getElem?_setIfInBounds_self_of_lt (by
            rcases Nat.lt_or_ge o cs.size with h | h
            · exact h
            · rw [Array.getElem?_eq_none h] at ho; cases ho), ho]
        · rw [Array.getElem?_setIfInBounds_ne hj]
    have Hend := Lib.hid hend
    obtain ⟨n, hn⟩ : ∃ n, n = lowI l x := ⟨_, rfl⟩
    rw [← hn] at Hf
    clear hn hend hh hmem hs hv hB ho hT
    go_enter Try.func97, Try.ntmps97
    go_wp2_with fail
    refine Hf.out.mono ?_
    rintro e w' ⟨rfl, rfl⟩
    go_wp2
    go_ret
    exact Hend.out

/-- what adding leaves: the set lies in a cell of block rB -/
def AddQ (w : World) (lo rB o : Nat) (T : TypeId) (cs : Array Value) (v : Value) (l : List Int) (x : Int) (e : Ending) (w' : World) : Prop :=
  e = .returned (.bool (!hasI l x)) ∧ ∃ v', SetV w' lo v' (insI l x) ∧ Blk w' rB T (cs.setIfInBounds o v') ∧ Apart (fun k => k = rB ∨ At v k) w w'
theorem setAdd_c (l : List Int) (v : Value) (lo : Nat) (x : Int) (w : World) (rB o : Nat) (T : TypeId) (cs : Array Value) (hl : l.length ≤ 1049999) (hs : l.Pairwise (· < ·)) (hv : SetV w lo v l) (hlo : lo ≤ w.heap.size) (hB : Blk w rB T cs) (ho : cs[o]? = some v) (hT : T ≠ 3) :
    Calls Try.prog 97 #[.pointer (some ⟨rB, o, none⟩), .int .i64 x] w (AddQ w lo rB o T cs v l x) :=
  (setAdd2_c l v lo x w rB o T cs hl hs hv hlo hB ho hT).mono fun e w' ⟨h1, v', h2, h3, h4, _⟩ => ⟨h1, v', h2, h3, h4⟩
end Go.Proofs.Ytfmlgpnjckamjaa
