/-
  The laws' own size of expressions.
-/
import Derived.Test.YtofnkhejpkfokaaEx
import Derived.Test.YtofnkhejpkfokaaSub
namespace Go.Proofs.Ytofnkhejpkfokaa
open Go.RowKit
set_option linter.unusedVariables false

/-- what a size tells: below nothing, or what is left -/
def SzP (n : Nat) (left : Int) (w : World) (e : Ending) (w' : World) : Prop :=
  ∃ r : Int, e = .returned (.int .i64 r) ∧ -1 ≤ r ∧ r ≤ left ∧ (0 ≤ r → (n : Int) + r ≤ left) ∧ Below w.heap.size w w'

def SzEx (e : Ex) : Prop := ∀ (v0 v1 v2 v3 : Value) (left : Int) (w : World) (L B : Nat), ExV w L B v0 v1 v2 v3 e → B ≤ w.heap.size → 0 ≤ left → left ≤ 1048576 →
  Calls Try.prog 118 #[.agg #[v0, v1, v2, v3], .int .i64 left] w (SzP (exSz e) left w)

set_option maxHeartbeats 1000000 in
theorem szExS_of (l : List Ex) (ih : ∀ e ∈ l, SzEx e) (A : Option Addr) (c L B : Nat) (left : Int) (w : World) (hB : B ≤ w.heap.size) (h0 : 0 ≤ left) (h1 : left ≤ 1048576) (h : ExL w L B A l) :
    Calls Try.prog 128 #[.slice A l.length c, .int .i64 left] w (SzP (exsSz l) left w) := by
  have hn := h.1
  unfold maxLen at hn
  have Ih := Lib.hid ih
  clear ih
  by_cases hlt : left - l.length < 0
  · go_enter Try.func128, Try.ntmps128
    go_wp2
    go_ret
    exact ⟨-1, rfl, by omega, by omega, by omega, Below.refl _ _⟩
  have hge : 0 ≤ left - l.length := by omega
  clear hlt
  have htot := exsSz_all l
  have Htot := Lib.hid htot
  clear htot
  go_enter Try.func128, Try.ntmps128
  go_wp2
  go_loopw [1, 5] (fun s i wr => ∃ (k : Nat) (r : Int), k ≤ l.length ∧ i = .int .i64 k ∧ s = .int .i64 r ∧ 0 ≤ r ∧ (l.length : Int) + exsIn l k + r ≤ left ∧ Below w.heap.size w wr) (fun _ i _ => l.length - (intOf i).toNat)
  case atStart => exact ⟨0, left - l.length, Nat.zero_le _, rfl, rfl, by omega, by simp [exsIn]; omega, Below.refl _ _⟩
  case round =>
    obtain ⟨k, r, hk, rfl, rfl, hr0, hr1, hbl⟩ := hrel
    by_cases hlt : k < l.length
    · obtain ⟨ad, rfl, _, hb, hat⟩ := (h.below (hbl.mono hB)).2 (by omega)
      obtain ⟨v0, v1, v2, v3, ⟨c0, c1, c2, c3⟩, hv⟩ := hat k hlt
      have hst := exsIn_step hlt
      have hr2 : r ≤ 1048576 := by omega
      have hc := Ih.out l[k] (List.getElem_mem hlt) v0 v1 v2 v3 r wr L B hv (Nat.le_trans hB hbl.size) hr0 hr2
      have Hc := Lib.hid hc
      clear hc
      go_wp2_with fail
      refine Hc.out.mono ?_
      rintro e w1 ⟨r1, rfl, q1, q2, q3, hb1⟩
      have hbn := hbl.trans (hb1.mono hbl.size)
      by_cases hr : r1 < 0
      · clear hst q3
        go_wp2
        go_ret
        exact ⟨-1, rfl, by omega, by omega, by omega, hbn⟩
      · have hr' : 0 ≤ r1 := by omega
        have q4 := q3 hr'
        have hst' : (exsIn l (k + 1) : Int) ≤ exsIn l k + exSz l[k] := by omega
        clear hst q3 hr
        go_wp2
        go_roundw
        case rel => exact ⟨k + 1, r1, by omega, by go_num, rfl, by omega, by omega, hbn⟩
        case measure => simp [intOf]; omega
    · go_wp2
      go_ret
      have : k = l.length := by omega
      subst this
      exact ⟨r, rfl, by omega, by omega, fun _ => by have := Htot.out; omega, hbl⟩

set_option maxHeartbeats 1000000 in
theorem szEx_c (e : Ex) : SzEx e := by
  refine Ex.ind (P := SzEx) ?_ e
  intro k n name args ih v0 v1 v2 v3 left w L B hv hB h0 h1
  obtain ⟨A, c, A', c', rfl, rfl, rfl, rfl, hR, hm, hx⟩ := hv.open_
  unfold maxLen at hm
  rw [exSz_mk]
  have hs := szByteS_c A name.length c left (w.alloc (.cells #[.int .i64 k, .int .i64 n, .slice A name.length c, .slice A' args.length c'] 125)) hm h0 h1
  have hx' := hx.below ((Below.refl B w).alloc hB (.cells #[.int .i64 k, .int .i64 n, .slice A name.length c, .slice A' args.length c'] 125))
  have hbl : Below w.heap.size w (w.alloc (.cells #[.int .i64 k, .int .i64 n, .slice A name.length c, .slice A' args.length c'] 125)) := (Below.refl _ _).alloc (Nat.le_refl _) _
  rcases sub_cases left name.length with ⟨hlt, he⟩ | ⟨hge, he⟩
  · rw [he] at hs
    have Hs := Lib.hid hs
    clear he hs ih
    go_enter Try.func118, Try.ntmps118
    go_wp2_with fail
    refine Hs.out.mono ?_
    rintro e w' ⟨rfl, rfl⟩
    go_wp2
    go_ret
    exact ⟨-1, rfl, by omega, by omega, by omega, hbl⟩
  · rw [he] at hs
    have Hs := Lib.hid hs
    have hc := szExS_of args ih A' c' L B (left - name.length) _ (by simp; omega) hge (by omega) hx'
    have Hc := Lib.hid hc
    clear he hs ih hc
    go_enter Try.func118, Try.ntmps118
    go_wp2_with fail
    refine Hs.out.mono ?_
    rintro e w' ⟨rfl, rfl⟩
    go_wp2_with fail
    refine Hc.out.mono ?_
    rintro e w1 ⟨r1, rfl, q1, q2, q3, hb1⟩
    have hbn := hbl.trans (hb1.mono hbl.size)
    by_cases hr : r1 < 0
    · clear q3
      go_wp2
      go_ret
      exact ⟨-1, rfl, by omega, by omega, by omega, hbn⟩
    · have hr' : 0 ≤ r1 := by omega
      have q4 := q3 hr'
      clear q3 hr
      go_wp2
      go_ret
      exact ⟨r1, rfl, by omega, by omega, fun _ => by omega, hbn⟩
theorem szExS_c (l : List Ex) (A : Option Addr) (c L B : Nat) (left : Int) (w : World) (hB : B ≤ w.heap.size) (h0 : 0 ≤ left) (h1 : left ≤ 1048576) (h : ExL w L B A l) :
    Calls Try.prog 128 #[.slice A l.length c, .int .i64 left] w (SzP (exsSz l) left w) :=
  szExS_of l (fun e _ => szEx_c e) A c L B left w hB h0 h1 h
end Go.Proofs.Ytofnkhejpkfokaa
