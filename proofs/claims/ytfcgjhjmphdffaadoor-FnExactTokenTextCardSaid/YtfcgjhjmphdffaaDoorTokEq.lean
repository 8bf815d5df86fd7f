/-
  The laws' own helpers over tokens: their size, their likeness.
-/
import Derived.Test.YtfcgjhjmphdffaaDoorTok
import Derived.Deep.QuietTactic
import Derived.BigQuiet
import Derived.Deep.RegionWith
import Derived.Outline
import Derived.StillTailTactics
namespace Go.Proofs.YtfcgjhjmphdffaaDoor
open Go.RowKit

/-- what is left of a budget -/
def sub (left : Int) (n : Nat) : Int := if left - n < 0 then -1 else left - n
theorem sub_cases (left : Int) (n : Nat) : (left - n < 0 ∧ sub left n = -1) ∨ (0 ≤ left - n ∧ sub left n = left - n) := by
  unfold sub; by_cases h : left - n < 0
  · exact Or.inl ⟨h, if_pos h⟩
  · exact Or.inr ⟨by omega, if_neg h⟩

set_option maxHeartbeats 400000 in
theorem szByteS_c (A : Option Addr) (n c : Nat) (left : Int) (w : World) (hn : n ≤ 9223372036854775807) (h0 : 0 ≤ left) (h1 : left ≤ 1048576) :
    Calls Tryd.prog 21 #[.slice A n c, .int .i64 left] w fun e w' => e = .returned (.int .i64 (sub left n)) ∧ w = w' := by
  rcases sub_cases left n with ⟨hlt, he⟩ | ⟨hge, he⟩
  all_goals
    rw [he]
    clear he
    go_enter Tryd.func21, Tryd.ntmps21
    go_wp2
    go_ret
    exact ⟨rfl, rfl⟩

set_option maxHeartbeats 400000 in
theorem szToken_c (k p m : Int) (A : Option Addr) (n c : Nat) (left : Int) (w : World) (hn : n ≤ 9223372036854775807) (h0 : 0 ≤ left) (h1 : left ≤ 1048576) :
    Calls Tryd.prog 13 #[.agg #[.int .i64 k, .int .i64 p, .int .i64 m, .slice A n c], .int .i64 left] w fun e w' => e = .returned (.int .i64 (sub left n)) ∧ Below w.heap.size w w' := by
  have hs := szByteS_c A n c left (w.alloc (.cells #[.int .i64 k, .int .i64 p, .int .i64 m, .slice A n c] 35)) hn h0 h1
  rcases sub_cases left n with ⟨hlt, he⟩ | ⟨hge, he⟩
  all_goals
    rw [he] at hs ⊢
    have Hs := Lib.hid hs
    clear he hs
    go_enter Tryd.func13, Tryd.ntmps13
    go_wp2_with fail
    refine Hs.out.mono ?_
    rintro e w' ⟨rfl, rfl⟩
    go_wp2
    go_ret
    exact ⟨rfl, (Below.refl _ _).alloc (Nat.le_refl _) _⟩

def txts (ts : List Tok) : Nat := (ts.map fun t => t.text.length).sum
theorem txts_step {ts : List Tok} {k : Nat} (hk : k < ts.length) : txts (ts.take (k + 1)) = txts (ts.take k) + ts[k].text.length := by
  unfold txts
  rw [List.take_succ_eq_append_getElem hk, List.map_append, List.sum_append]
  simp
theorem txts_get {ts : List Tok} {k : Nat} (hk : k < ts.length) : ts[k].text.length ≤ txts ts := by
  unfold txts
  induction ts generalizing k with
  | nil => simp at hk
  | cons x r ih =>
    cases k with
    | zero => simp
    | succ k =>
      have := ih (k := k) (by simpa using hk)
      simp only [List.map_cons, List.sum_cons, List.getElem_cons_succ]
      omega

/-- what the size tells: below nothing, or both the tokens and their texts fit -/
def SzPost (ts : List Tok) (left : Int) (w : World) (e : Ending) (w' : World) : Prop :=
  ∃ r : Int, e = .returned (.int .i64 r) ∧ -1 ≤ r ∧ r ≤ left ∧ (0 ≤ r → (ts.length : Int) + txts ts ≤ left) ∧ Below w.heap.size w w'

set_option maxHeartbeats 1000000 in
theorem szTokenS_c (ts : List Tok) (A : Option Addr) (c B : Nat) (left : Int) (w : World) (hB : B ≤ w.heap.size) (hn : ts.length ≤ 9223372036854775807) (h0 : 0 ≤ left) (h1 : left ≤ 1048576) (h : RT w B A ts) :
    Calls Tryd.prog 4 #[.slice A ts.length c, .int .i64 left] w fun e w' => SzPost ts left w e w' := by
  by_cases hlt : left - ts.length < 0
  · go_enter Tryd.func4, Tryd.ntmps4
    go_wp2
    go_ret
    exact ⟨-1, rfl, by omega, by omega, by omega, Below.refl _ _⟩
  have hge : 0 ≤ left - ts.length := by omega
  clear hlt
  go_enter Tryd.func4, Tryd.ntmps4
  go_wp2
  go_loopw [1, 5] (fun s i wr => ∃ (k : Nat) (r : Int), k ≤ ts.length ∧ i = .int .i64 k ∧ s = .int .i64 r ∧ 0 ≤ r ∧ (ts.length : Int) + txts (ts.take k) + r ≤ left ∧ Below w.heap.size w wr) (fun _ i _ => ts.length - (intOf i).toNat)
  case atStart => exact ⟨0, left - ts.length, Nat.zero_le _, rfl, rfl, by omega, by simp [txts]; omega, Below.refl _ _⟩
  case round =>
    obtain ⟨k, r, hk, rfl, rfl, hr0, hr1, hbl⟩ := hrel
    by_cases hlt : k < ts.length
    · obtain ⟨ad, rfl, hb, A', c', h0', h1', h2', h3', hR, hm⟩ := (h.keep (w' := wr) (fun p hp => hbl.cell (by omega))).at_ hlt
      have hst := txts_step hlt
      have hr2 : r ≤ 1048576 := by omega
      unfold maxLen at hm
      have hs := fun u : World => szToken_c ts[k].kind ts[k].pos ts[k].n A' ts[k].text.length c' r u hm hr0 hr2
      rcases sub_cases r ts[k].text.length with ⟨hlt', he⟩ | ⟨hge', he⟩
      · rw [he] at hs
        have Hs := Lib.hid hs
        clear he hs hst
        go_wp2_with ((with_reducible refine (Hs.out _).mono ?_); rintro e w1 ⟨rfl, hb1⟩)
        go_ret
        exact ⟨-1, rfl, by omega, by omega, by omega, hbl.trans (hb1.mono hbl.size)⟩
      · rw [he] at hs
        have Hs := Lib.hid hs
        have hst' : (txts (ts.take (k + 1)) : Int) ≤ txts (ts.take k) + ts[k].text.length := by omega
        clear he hs hst
        go_wp2_with ((with_reducible refine (Hs.out _).mono ?_); rintro e w1 ⟨rfl, hb1⟩)
        go_roundw
        case rel => exact ⟨k + 1, r - ts[k].text.length, by omega, by go_num, rfl, by omega, by omega, hbl.trans (hb1.mono hbl.size)⟩
        case measure => simp [intOf]; omega
    · go_wp2
      go_ret
      have : k = ts.length := by omega
      subst this
      exact ⟨r, rfl, by omega, by omega, fun _ => by rw [List.take_length] at hr1; omega, hbl⟩

set_option maxHeartbeats 1000000 in
theorem eqToken_c (k p m : Int) (l : List UInt8) (A A' : Option Addr) (c c' B B' : Nat) (w : World) (hB : B ≤ w.heap.size) (hB' : B' ≤ w.heap.size) (hl : l.length ≤ 4294967296) (h : RB w B A l) (h' : RB w B' A' l) :
    Calls Tryd.prog 20 #[.agg #[.int .i64 k, .int .i64 p, .int .i64 m, .slice A l.length c], .agg #[.int .i64 k, .int .i64 p, .int .i64 m, .slice A' l.length c']] w fun e w' => e = .returned (.bool true) ∧ Below w.heap.size w w' := by
  go_enter Tryd.func20, Tryd.ntmps20
  go_wp2_with ((with_reducible refine (eqByteS_c l _ _ _ _ B B' _ hl ((h.alloc hB _).alloc (by simp; omega) _) ((h'.alloc hB' _).alloc (by simp; omega) _)).mono ?_); rintro e w1 ⟨rfl, n, rfl⟩)
  go_ret
  exact ⟨rfl, (((Below.refl _ _).alloc (Nat.le_refl _) _).alloc (by simp) _).trans ⟨rfl, rfl, rfl, Nat.le_refl _, fun _ _ => rfl⟩⟩

set_option maxHeartbeats 1000000 in
theorem eqTokenS_c (ts : List Tok) (A A' : Option Addr) (c c' B B' : Nat) (w : World) (hB : B ≤ w.heap.size) (hB' : B' ≤ w.heap.size) (hl : ts.length + txts ts ≤ 4294967296) (h : RT w B A ts) (h' : RT w B' A' ts) :
    Calls Tryd.prog 9 #[.slice A ts.length c, .slice A' ts.length c'] w fun e w' => e = .returned (.bool true) ∧ Below w.heap.size w w' := by
  go_enter Tryd.func9, Tryd.ntmps9
  go_wp2
  go_loopw [5] (fun i wr => ∃ (k : Nat), k ≤ ts.length ∧ i = .int .i64 k ∧ Below w.heap.size w wr) (fun i _ => ts.length - (intOf i).toNat)
  case atStart => exact ⟨0, Nat.zero_le _, rfl, Below.refl _ _⟩
  case round =>
    obtain ⟨k, hk, rfl, hbl⟩ := hrel
    by_cases hlt : k < ts.length
    · obtain ⟨ad, rfl, hb, A1, c1, h0, h1, h2, h3, hR, hm⟩ := (h.keep (w' := wr) (fun p hp => hbl.cell (by omega))).at_ hlt
      obtain ⟨ad', rfl, hb', A2, c2, k0, k1, k2, k3, kR, km⟩ := (h'.keep (w' := wr) (fun p hp => hbl.cell (by omega))).at_ hlt
      have htl : ts[k].text.length ≤ 4294967296 := by have := txts_get hlt; omega
      go_wp2
      go_still_tail 8, (by kernel_rfl)
      change wpList _ _ _ _ _ wr.drew
      go_wp2_with fail
      refine (eqToken_c ts[k].kind ts[k].pos ts[k].n ts[k].text A1 A2 c1 c2 B B' wr.drew (Nat.le_trans hB hbl.size) (Nat.le_trans hB' hbl.size) htl (hR.drewN 1) (kR.drewN 1)).mono ?_
      rintro e w1 ⟨rfl, hb1⟩
      go_wp2
      go_roundw
      case rel => exact ⟨k + 1, by omega, by go_num, hbl.drew.trans (hb1.mono hbl.size)⟩
      case measure => simp [intOf]; omega
    · go_wp2
      go_ret
      exact ⟨rfl, hbl⟩
end Go.Proofs.YtfcgjhjmphdffaaDoor
