/-
  Values that are right: the model's words.
-/
import Derived.Test.YtebgigiakfjocaaDoorArnEq
import Derived.Deep.DeepCutAuto
import Derived.Deep.RegionHeld3
import Derived.Deep.RegionWith
namespace Go.Proofs.YtebgigiakfjocaaDoor
open Go.RowKit
set_option linter.unusedVariables false

theorem blw1 (w : World) (a : Obj) : Below w.heap.size w (w.alloc a) := (Below.refl _ _).alloc (Nat.le_refl _) _
theorem blw2 (w : World) (a b : Obj) : Below w.heap.size w ((w.alloc a).alloc b) := (blw1 w a).alloc (by simp) _

/-- the slot of a number -/
def slotAt (S : List Sl) (n : Int) : Option Sl := if 0 ≤ n ∧ n < S.length then S[n.toNat]? else none
theorem slotAt_cases (S : List Sl) (n : Int) : (slotAt S n = none ∧ ¬ (0 ≤ n ∧ n < S.length)) ∨ ∃ (m : Nat) (h : m < S.length), n = m ∧ slotAt S n = some S[m] := by
  by_cases h : 0 ≤ n ∧ n < S.length
  · refine .inr ⟨n.toNat, by omega, by omega, ?_⟩
    unfold slotAt
    rw [if_pos h, List.getElem?_eq_getElem (by omega)]
  · exact .inl ⟨by unfold slotAt; rw [if_neg h], h⟩
/-- is a value right? -/
def valOk (S : List Sl) (k n g : Int) : Bool :=
  if k = 0 then n == 0 && g == 0
  else if k = 1 then g == 0
  else if k = 2 then (match slotAt S n with | some s => s.live && s.gen == g | none => false)
  else if k = 3 then (match slotAt S n with | some s => decide (0 ≤ g) && decide (g ≤ s.gen) | none => false)
  else false

set_option maxRecDepth 100000 in
set_option maxHeartbeats 2000000 in
theorem l4val_c (S : List Sl) (A0 : Option Addr) (c0 L B : Nat) (v1 v2 : Value) (k n g : Int) (hv1 : v1.cells = #[v1]) (hv2 : v2.cells = #[v2]) (w : World) (hB : B ≤ w.heap.size) (h : SlL w L B A0 S) :
    Calls Tryd.prog 72 #[.agg #[.slice A0 S.length c0, v1, v2], .agg #[.int .i64 k, .int .i64 n, .int .i64 g]] w fun e w' => e = .returned (.bool (valOk S k n g)) ∧ Below w.heap.size w w' := by
  have hm := h.1
  unfold maxLen at hm
  by_cases h0 : k = 0
  · subst h0
    by_cases hn : n = 0
    · subst hn
      have e : valOk S 0 0 g = (g == 0) := by simp [valOk]
      rw [e]
      go_enter Tryd.func72, Tryd.ntmps72
      go_wp2
      go_ret
      exact ⟨rfl, blw2 _ _ _⟩
    · have e : valOk S 0 n g = false := by simp [valOk, hn]
      rw [e]
      go_enter Tryd.func72, Tryd.ntmps72
      go_wp2
      go_ret
      exact ⟨rfl, blw2 _ _ _⟩
  by_cases h1 : k = 1
  · subst h1
    have e : valOk S 1 n g = (g == 0) := by simp [valOk]
    rw [e]
    go_enter Tryd.func72, Tryd.ntmps72
    go_wp2
    go_ret
    exact ⟨rfl, blw2 _ _ _⟩
  by_cases h2 : k = 2
  · subst h2
    rcases slotAt_cases S n with ⟨hs, hno⟩ | ⟨m, hlt, rfl, hs⟩
    · have e : valOk S 2 n g = false := by simp [valOk, hs]
      rw [e]
      by_cases hn0 : 0 ≤ n
      · have hn1 : decide (n < (S.length : Int)) = false := decide_eq_false (fun h => hno ⟨hn0, h⟩)
        clear hno hs
        go_enter Tryd.func72, Tryd.ntmps72
        go_wp2
        go_quiet (fail)
        go_wp2
        go_ret
        exact ⟨rfl, blw_drewN (blw2 _ _ _) _⟩
      · have hn1 : decide (0 ≤ n) = false := decide_eq_false hn0
        clear hno hs
        go_enter Tryd.func72, Tryd.ntmps72
        go_wp2
        go_quiet (fail)
        go_wp2
        go_ret
        exact ⟨rfl, blw_drewN (blw2 _ _ _) _⟩
    · have e : valOk S 2 m g = (S[m].live && S[m].gen == g) := by simp [valOk, hs]
      rw [e]
      have hb0 := blw2 w (.cells #[.slice A0 S.length c0, v1, v2] 31) (.cells #[.int .i64 2, .int .i64 m, .int .i64 g] 74)
      obtain ⟨ad, rfl, _, hb, hat⟩ := (h.below (hb0.mono hB)).2 (by omega)
      obtain ⟨x0, x1, x2, x3, ⟨d0, d1, d2, d3⟩, rfl, rfl, rfl, _⟩ := hat m hlt
      clear hat hs
      cases hlv : S[m].live
      · rw [hlv] at d0
        go_enter Tryd.func72, Tryd.ntmps72
        go_wp2
        go_quiet (fail)
        go_wp2
        go_ret
        exact ⟨rfl, blw_drewN (blw2 _ _ _) _⟩
      · rw [hlv] at d0
        go_enter Tryd.func72, Tryd.ntmps72
        go_wp2
        go_quiet (fail)
        go_wp2
        go_ret
        exact ⟨rfl, blw_drewN (blw2 _ _ _) _⟩
  by_cases h3 : k = 3
  · subst h3
    rcases slotAt_cases S n with ⟨hs, hno⟩ | ⟨m, hlt, rfl, hs⟩
    · have e : valOk S 3 n g = false := by simp [valOk, hs]
      rw [e]
      by_cases hn0 : 0 ≤ n
      · have hn1 : decide (n < (S.length : Int)) = false := decide_eq_false (fun h => hno ⟨hn0, h⟩)
        clear hno hs
        go_enter Tryd.func72, Tryd.ntmps72
        go_wp2
        go_quiet (fail)
        go_wp2
        go_ret
        exact ⟨rfl, blw_drewN (blw2 _ _ _) _⟩
      · have hn1 : decide (0 ≤ n) = false := decide_eq_false hn0
        clear hno hs
        go_enter Tryd.func72, Tryd.ntmps72
        go_wp2
        go_quiet (fail)
        go_wp2
        go_ret
        exact ⟨rfl, blw_drewN (blw2 _ _ _) _⟩
    · have e : valOk S 3 m g = (decide (0 ≤ g) && decide (g ≤ S[m].gen)) := by simp [valOk, hs]
      rw [e]
      have hb0 := blw2 w (.cells #[.slice A0 S.length c0, v1, v2] 31) (.cells #[.int .i64 3, .int .i64 m, .int .i64 g] 74)
      obtain ⟨ad, rfl, _, hb, hat⟩ := (h.below (hb0.mono hB)).2 (by omega)
      obtain ⟨x0, x1, x2, x3, ⟨d0, d1, d2, d3⟩, rfl, rfl, rfl, _⟩ := hat m hlt
      clear hat hs
      by_cases hg : 0 ≤ g
      · rw [decide_eq_true hg, Bool.true_and]
        go_enter Tryd.func72, Tryd.ntmps72
        go_wp2
        go_quiet (fail)
        go_wp2
        go_ret
        exact ⟨rfl, blw_drewN (blw2 _ _ _) _⟩
      · have hg1 : decide (0 ≤ g) = false := decide_eq_false hg
        rw [hg1, Bool.false_and]
        go_enter Tryd.func72, Tryd.ntmps72
        go_wp2
        go_quiet (fail)
        go_wp2
        go_ret
        exact ⟨rfl, blw_drewN (blw2 _ _ _) _⟩
  have e : valOk S k n g = false := by simp [valOk, h0, h1, h2, h3]
  rw [e]
  go_enter Tryd.func72, Tryd.ntmps72
  go_wp2
  go_ret
  exact ⟨rfl, blw2 _ _ _⟩

/-- are all of these numbers of slots? -/
def inAll (l : List Int) (n : Int) : Bool := l.all fun x => decide (0 ≤ x ∧ x < n)

theorem all_takeI {p : Int → Bool} {l : List Int} {k : Nat} (h : (l.take k).all p = true) (hk : k < l.length) (hp : p l[k] = true) : (l.take (k + 1)).all p = true := by
  rw [List.take_succ_eq_append_getElem hk, List.all_append, h]; simp [hp]
theorem all_notI {p : Int → Bool} {l : List Int} {k : Nat} (hk : k < l.length) (hp : p l[k] = false) : l.all p = false := by
  rw [List.all_eq_false]
  exact ⟨l[k], List.getElem_mem hk, by simp [hp]⟩

set_option maxHeartbeats 1000000 in
theorem l4list_c (l : List Int) (A : Option Addr) (c L B : Nat) (n : Nat) (w : World) (h : IL w L B A l) :
    Calls Tryd.prog 70 #[.slice A l.length c, .int .i64 n] w fun e w' => e = .returned (.bool (inAll l n)) ∧ w = w' := by
  have hm := h.1
  unfold maxLen at hm
  go_enter Tryd.func70, Tryd.ntmps70
  go_wp2
  go_loopw [5] (fun i wr => ∃ (k : Nat), k ≤ l.length ∧ i = .int .i64 k ∧ (l.take k).all (fun x => decide (0 ≤ x ∧ x < (n : Int))) = true ∧ wr = w) (fun i _ => l.length - (intOf i).toNat)
  case atStart => exact ⟨0, Nat.zero_le _, rfl, by simp, by trivial⟩
  case round =>
    obtain ⟨k, hk, rfl, hall, rfl⟩ := hrel
    have Hall := Lib.hid hall
    clear hall
    by_cases hlt : k < l.length
    · obtain ⟨ad, rfl, _, hb, hat⟩ := h.2 (by omega)
      have hck := hat k hlt
      obtain ⟨x, hx⟩ : ∃ x, x = l[k] := ⟨_, rfl⟩
      have Hx := Lib.hid hx
      rw [← hx] at hck
      clear hat hx
      by_cases h0 : x < 0
      · go_wp2
        go_ret
        refine ⟨?_, rfl⟩
        have hx := Hx.out
        rw [show inAll l n = false from all_notI hlt (decide_eq_false (by omega))]; rfl
      · have h0' : 0 ≤ x := by omega
        clear h0
        by_cases h1 : x < (n : Int)
        · go_wp2
          go_roundw
          case rel =>
            have hx := Hx.out
            exact ⟨k + 1, by omega, by go_num, all_takeI Hall.out hlt (decide_eq_true (by omega)), by trivial⟩
          case measure => simp [intOf]; omega
        · have h1' : (n : Int) ≤ x := by omega
          clear h1
          go_wp2
          go_ret
          refine ⟨?_, rfl⟩
          have hx := Hx.out
          rw [show inAll l n = false from all_notI hlt (decide_eq_false (by omega))]; rfl
    · go_wp2
      go_ret
      refine ⟨?_, rfl⟩
      have : k = l.length := by omega
      subst this
      have h2 := Hall.out
      rw [List.take_length] at h2
      rw [show inAll l n = true from h2]; rfl

theorem hasI_take {l : List Int} {k : Nat} {x : Int} (h : (l.take k).contains x = false) (hk : k < l.length) (hx : l[k] ≠ x) : (l.take (k + 1)).contains x = false := by
  rw [List.contains_eq_any_beq, List.any_eq_false] at h ⊢
  intro y hy
  rw [List.take_succ_eq_append_getElem hk] at hy
  rcases List.mem_append.1 hy with hy | hy
  · exact h y hy
  · simp at hy; subst hy; simpa using fun e => hx e.symm

set_option maxHeartbeats 1000000 in
theorem l4has_c (l : List Int) (A : Option Addr) (c L B : Nat) (n : Nat) (x : Int) (w : World) (hn : n ≤ l.length) (h : IL w L B A l) :
    Calls Tryd.prog 73 #[.slice A n c, .int .i64 x] w fun e w' => e = .returned (.bool ((l.take n).contains x)) ∧ w = w' := by
  have hm := h.1
  unfold maxLen at hm
  go_enter Tryd.func73, Tryd.ntmps73
  go_wp2
  go_loopw [5] (fun i wr => ∃ (k : Nat), k ≤ n ∧ i = .int .i64 k ∧ (l.take k).contains x = false ∧ wr = w) (fun i _ => n - (intOf i).toNat)
  case atStart => exact ⟨0, Nat.zero_le _, rfl, by simp, by trivial⟩
  case round =>
    obtain ⟨k, hk, rfl, hall, rfl⟩ := hrel
    have Hall := Lib.hid hall
    clear hall
    by_cases hlt : k < n
    · obtain ⟨ad, rfl, _, hb, hat⟩ := h.2 (by omega)
      have hck := hat k (by omega)
      obtain ⟨y, hy⟩ : ∃ y, y = l[k]'(by omega) := ⟨_, rfl⟩
      have Hy := Lib.hid hy
      rw [← hy] at hck
      clear hat hy
      by_cases h0 : y = x
      · subst h0
        go_wp2
        go_ret
        refine ⟨?_, rfl⟩
        have hy := Hy.out
        have : (l.take n).contains y = true := by
          rw [List.contains_iff_mem, hy, List.mem_take_iff_getElem]
          exact ⟨k, by omega, rfl⟩
        rw [this]; rfl
      · have h0' : (y == x) = false := by simpa using h0
        go_wp2
        go_roundw
        case rel =>
          have hy := Hy.out
          exact ⟨k + 1, by omega, by go_num, hasI_take Hall.out (by omega) (by rw [← hy]; exact h0), by trivial⟩
        case measure => simp [intOf]; omega
    · go_wp2
      go_ret
      refine ⟨?_, rfl⟩
      have : k = n := by omega
      subst this
      rw [Hall.out]; rfl
end Go.Proofs.YtebgigiakfjocaaDoor
