/-
  A set of numbers (a row of the call's own, ascending): what is looked up in it.
-/
import Derived.Test.YtebgigiakfjocaaDoorArn
import Derived.Lib.SlicesSearch
namespace Go.Proofs.YtebgigiakfjocaaDoor
open Go.RowKit
set_option linter.unusedVariables false

/-- a set: nothing, or a row of its own with room behind -/
def SetV (w : World) (lo : Nat) (v : Value) (l : List Int) : Prop :=
  (v = .slice none 0 0 ∧ l = []) ∨ ∃ (g : Nat) (cs : Array Value), v = .slice (some ⟨g, 0, none⟩) l.length cs.size ∧ lo ≤ g ∧ Blk w g 3 cs ∧ l.length ≤ cs.size ∧ cs.size ≤ maxLen ∧ ∀ j (h : j < l.length), cs[j]? = some (.int .i64 l[j])
theorem SetV.nil (w : World) (lo : Nat) : SetV w lo (.slice none 0 0) [] := .inl ⟨rfl, rfl⟩
theorem SetV.keep {w w' : World} {lo : Nat} {v : Value} {l : List Int} (h : SetV w lo v l) (hk : ∀ g, lo ≤ g → g < w.heap.size → w'.heap[g]? = w.heap[g]?) : SetV w' lo v l := by
  rcases h with h | ⟨g, cs, e, hg, hb, h⟩
  · exact .inl h
  · exact .inr ⟨g, cs, e, hg, (hk g hg hb.lt).trans hb, h⟩
theorem SetV.below {w w' : World} {lo : Nat} {v : Value} {l : List Int} (h : SetV w lo v l) (hb : Below w.heap.size w w') : SetV w' lo v l := h.keep fun g _ hg => hb.block g hg
theorem SetV.form {w : World} {lo : Nat} {v : Value} {l : List Int} (h : SetV w lo v l) : ∃ A c, v = .slice A l.length c := by
  rcases h with ⟨rfl, rfl⟩ | ⟨g, cs, rfl, _⟩ <;> exact ⟨_, _, rfl⟩

/-- is x in it? -/
def hasI (l : List Int) (x : Int) : Bool := l.contains x
/-- how many are below x -/
def lowI (l : List Int) (x : Int) : Nat := l.countP (· < x)
theorem lowI_le (l : List Int) (x : Int) : lowI l x ≤ l.length := List.countP_le_length

theorem sorted_le {l : List Int} (hs : l.Pairwise (· < ·)) : (l.take l.length).Pairwise (· ≤ ·) := by rw [List.take_length]; exact hs.imp (fun h => Int.le_of_lt h)

theorem isNaN_c (x : Int) (w : World) : Calls Tryd.prog 117 #[.int .i64 x] w fun e w' => e = .returned (.bool false) ∧ w = w' := by
  go_enter Tryd.func117, Tryd.ntmps117
  go_wp2
  go_ret
  exact ⟨by simp, rfl⟩
theorem cmpNaN_c (x : Int) (w : World) : Calls Tryd.prog 135 #[.int .i64 x] w fun e w' => e = .returned (.bool false) ∧ w = w' := by
  go_enter Tryd.func135, Tryd.ntmps135
  go_wp2
  go_ret
  exact ⟨by simp, rfl⟩
theorem cmpLess_c (x y : Int) (w : World) : Calls Tryd.prog 116 #[.int .i64 x, .int .i64 y] w fun e w' => e = .returned (.bool (decide (x < y))) ∧ w = w' := by
  go_enter Tryd.func116, Tryd.ntmps116
  go_wp2_with (go_at_call 135; refine (cmpNaN_c _ _).mono ?_; rintro e w' ⟨rfl, rfl⟩)
  go_ret
  exact ⟨by simp, rfl⟩

set_option maxRecDepth 100000 in
set_option maxHeartbeats 2000000 in
theorem find_c (l : List Int) (v : Value) (lo : Nat) (x : Int) (w : World) (hl : l.length ≤ 1048576) (hs : l.Pairwise (· < ·)) (h : SetV w lo v l) :
    Calls Tryd.prog 98 #[v, .int .i64 x] w fun e w' => e = .returned (.tuple #[.int .i64 (lowI l x : Nat), .bool (hasI l x)]) ∧ w = w' := by
  have S := Lib.hid (Lib.sorted_at l l.length (Nat.le_refl _) (sorted_le hs))
  rcases h with ⟨rfl, rfl⟩ | ⟨g, cs, rfl, hg, hb, hlc, hcm, hat⟩
  · clear S hs
    go_enter Tryd.func98, Tryd.ntmps98
    go_wp2
    go_loopw [7, 8] (fun s7 s8 wr => s7 = .int .i64 0 ∧ s8 = .int .i64 0 ∧ wr = w) (fun _ _ _ => 0)
    case atStart => exact ⟨rfl, rfl, by trivial⟩
    case round =>
      obtain ⟨rfl, rfl, rfl⟩ := hrel
      go_wp2
      go_ret2
      exact ⟨rfl, rfl⟩
  have hcell : ∀ j, j < l.length → w.cell? ⟨g, j, none⟩ = some (.int .i64 (l.getD j 0)) := fun j hj => by
    rw [hb.cell, hat j hj, List.getD_eq_getElem?_getD, List.getElem?_eq_getElem hj]; rfl
  have Hc := Lib.hid hcell
  clear hs hcell hat hb hg hcm
  go_enter Tryd.func98, Tryd.ntmps98
  go_wp2
  go_loopw [7, 8] (fun s7 s8 wr => ∃ lo hi : Nat, s7 = .int .i64 lo ∧ s8 = .int .i64 hi ∧ lo ≤ hi ∧ hi ≤ l.length ∧ wr = w ∧ (∀ t, t < lo → l.getD t 0 < x) ∧ (∀ t, hi ≤ t → t < l.length → x ≤ l.getD t 0)) (fun s7 s8 _ => (intOf s8).toNat - (intOf s7).toNat)
  case atStart => exact ⟨0, l.length, rfl, rfl, Nat.zero_le _, Nat.le_refl _, by trivial, fun t ht => absurd ht (Nat.not_lt_zero _), fun t h1 h2 => by omega⟩
  case round =>
    obtain ⟨lo, hi, rfl, rfl, hlh, hin, rfl, h1, h2⟩ := hrel
    have H1 := Lib.hid h1
    have H2 := Lib.hid h2
    clear h1 h2
    by_cases hlt : lo < hi
    · obtain ⟨m, hm⟩ : ∃ m, m = (lo + hi) / 2 := ⟨_, rfl⟩
      have cm := Hc.out ((lo + hi) / 2) (by omega)
      obtain ⟨y, hy⟩ : ∃ y, y = l.getD ((lo + hi) / 2) 0 := ⟨_, rfl⟩
      rw [← hy] at cm
      have Y := Lib.hid hy
      clear hy hm
      by_cases hyx : y < x
      · go_wp2_with (go_at_call 116; refine (cmpLess_c _ _ _).mono ?_; rintro e w' ⟨rfl, rfl⟩)
        go_roundw
        case rel =>
          refine ⟨(lo + hi) / 2 + 1, hi, by rw [show ((lo : Int) + (hi : Int)) / 2 + 1 = (((lo + hi) / 2 + 1 : Nat) : Int) by omega], rfl, by omega, hin, by trivial, fun t ht => ?_, H2.out⟩
          have := S.out t ((lo + hi) / 2) (by omega) (by omega)
          have := Y.out
          omega
        case measure => simp [intOf]; omega
      · go_wp2_with (go_at_call 116; refine (cmpLess_c _ _ _).mono ?_; rintro e w' ⟨rfl, rfl⟩)
        go_roundw
        case rel =>
          refine ⟨lo, (lo + hi) / 2, rfl, by rw [show ((lo : Int) + (hi : Int)) / 2 = (((lo + hi) / 2 : Nat) : Int) by omega], by omega, by omega, by trivial, H1.out, fun t ht htn => ?_⟩
          have := S.out ((lo + hi) / 2) t ht htn
          have := Y.out
          omega
        case measure => simp [intOf]; omega
    · obtain rfl : hi = lo := by omega
      obtain ⟨e1, e2⟩ := Lib.search_end l l.length hi x (Nat.le_refl _) hin H1.out H2.out S.out
      rw [List.take_length] at e1 e2
      replace e1 : lowI l x = hi := e1
      replace e2 : hasI l x = _ := e2
      have E := Lib.hid (And.intro e1 e2)
      clear e1 e2
      by_cases hn : hi < l.length
      · have cl := Hc.out hi hn
        obtain ⟨y, hy⟩ : ∃ y, y = l.getD hi 0 := ⟨_, rfl⟩
        rw [← hy] at cl
        have Y := Lib.hid hy
        clear hy
        by_cases hyx : y = x
        · subst hyx
          go_wp2_with (go_at_call 117; refine (isNaN_c _ _).mono ?_; rintro e w' ⟨rfl, rfl⟩)
          go_ret2
          refine ⟨?_, rfl⟩
          rw [E.out.1, E.out.2, decide_eq_true (show hi < l.length ∧ l.getD hi 0 = y from ⟨hn, Y.out.symm⟩)]
          first | rfl | simp [*]
        · have hyx' : (y == x) = false := by simpa using hyx
          go_wp2_with (go_at_call 117; refine (isNaN_c _ _).mono ?_; rintro e w' ⟨rfl, rfl⟩)
          go_ret2
          refine ⟨?_, rfl⟩
          rw [E.out.1, E.out.2, decide_eq_false (show ¬ (hi < l.length ∧ l.getD hi 0 = x) from fun h => hyx (Y.out.trans h.2))]
          first | rfl | simp [*]
      · go_wp2_with (go_at_call 117; refine (isNaN_c _ _).mono ?_; rintro e w' ⟨rfl, rfl⟩)
        go_ret2
        refine ⟨?_, rfl⟩
        rw [E.out.1, E.out.2, decide_eq_false (show ¬ (hi < l.length ∧ l.getD hi 0 = x) from fun h => hn h.1)]
        first | rfl | simp [*]

set_option maxRecDepth 100000 in
theorem setHas_c (l : List Int) (v : Value) (lo : Nat) (x : Int) (w : World) (hl : l.length ≤ 1048576) (hs : l.Pairwise (· < ·)) (h : SetV w lo v l) :
    Calls Tryd.prog 102 #[v, .int .i64 x] w fun e w' => e = .returned (.bool (hasI l x)) ∧ w = w' := by
  have Hf := Lib.hid (find_c l v lo x w hl hs h)
  clear hs h
  go_enter Tryd.func102, Tryd.ntmps102
  go_wp2_with fail
  refine Hf.out.mono ?_
  rintro e w' ⟨rfl, rfl⟩
  go_wp2
  go_ret
  exact ⟨rfl, rfl⟩
end Go.Proofs.YtebgigiakfjocaaDoor
