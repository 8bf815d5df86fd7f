/-
  Lines, LineAt: the program's and the model's answer the same, at every list of bytes.
-/
import Derived.Test.YtfcgjhjmphdffaaBytes
import Derived.Test.YtfcgjhjmphdffaaShelf
import Derived.IntWalk
namespace Go.Proofs.Ytfcgjhjmphdffaa
open Go.RowKit

/-- how many bytes 10 there are -/
def nl (l : List UInt8) : Nat := l.count 10
theorem nl_le (l : List UInt8) : nl l ≤ l.length := List.count_le_length
theorem nl_take_le (l : List UInt8) (k : Nat) : nl (l.take k) ≤ l.length := Nat.le_trans (nl_le _) (by simp; omega)
theorem nl_step {l : List UInt8} {k : Nat} (hk : k < l.length) : nl (l.take (k + 1)) = nl (l.take k) + if (l[k].toNat : Int) = 10 then 1 else 0 := by
  unfold nl
  rw [List.take_succ_eq_append_getElem hk, List.count_append, List.count_singleton]
  congr 1
  have : (l[k] == 10) = decide ((l[k].toNat : Int) = 10) := by
    rw [Bool.eq_iff_iff, beq_iff_eq, decide_eq_true_iff]
    constructor
    · intro h; rw [h]; rfl
    · intro h
      apply UInt8.toNat_inj.1
      show l[k].toNat = 10
      omega
  rw [this]
  by_cases h : (l[k].toNat : Int) = 10 <;> simp [h]

def linesOf (l : List UInt8) : Int := if 2000 < l.length then -1 else (nl l : Int) + 1
def lineAtOf (l : List UInt8) (at_ : Int) : Int := if 2000 < l.length ∨ at_ < 0 ∨ (l.length : Int) < at_ then -1 else (nl (l.take at_.toNat) : Int)

theorem ret_int {k : IntKind} {a b : Int} (h : a = b) : Ending.returned (.int k a) = .returned (.int k b) := by rw [h]

set_option maxHeartbeats 400000 in
theorem specLines_c (l : List UInt8) (A : Option Addr) (c B : Nat) (w : World) (hl : l.length ≤ 4294967296) (h : RB w B A l) :
    Calls Try.prog 25 #[.slice A l.length c] w fun e w' => e = .returned (.int .i64 (linesOf l)) ∧ w = w' := by
  by_cases hb : 2000 < (l.length : Int)
  · unfold linesOf; rw [if_pos (by omega)]
    go_enter Try.func25, Try.ntmps25
    go_wp2
    go_ret
    exact ⟨rfl, rfl⟩
  unfold linesOf; rw [if_neg (by omega)]
  have hb' : (l.length : Int) ≤ 2000 := by omega
  clear hb
  go_enter Try.func25, Try.ntmps25
  go_wp2
  go_loopw [3, 4] (fun n i wr => ∃ (k : Nat), k ≤ l.length ∧ i = .int .i64 k ∧ n = .int .i64 ((nl (l.take k) : Int) + 1) ∧ wr = w) (fun _ i _ => l.length - (intOf i).toNat)
  case atStart => exact ⟨0, Nat.zero_le _, rfl, rfl, rfl⟩
  case round =>
    obtain ⟨k, hk, rfl, rfl, rfl⟩ := hrel
    have hle := nl_take_le l k
    by_cases hlt : k < l.length
    · obtain ⟨ad, rfl, hb, hcell⟩ := h.at_ hlt
      have Hst := Lib.hid (nl_step hlt)
      have hb2 := bd l k hlt
      by_cases h10 : (l[k].toNat : Int) = 10
      · have ht : ((l[k].toNat : Int) == 10) = true := by rw [beq_iff_eq]; exact h10
        have Ht := Lib.hid h10
        clear h10
        go_wp2
        go_roundw
        case rel => exact ⟨k + 1, by omega, by go_num, by rw [Hst.out, if_pos Ht.out]; go_num, by trivial⟩
        case measure => simp [intOf]; omega
      · have ht : ((l[k].toNat : Int) == 10) = false := by rw [beq_eq_false_iff_ne]; exact h10
        have Ht := Lib.hid h10
        clear h10
        go_wp2
        go_roundw
        case rel => exact ⟨k + 1, by omega, by go_num, by rw [Hst.out, if_neg Ht.out]; go_num, by trivial⟩
        case measure => simp [intOf]; omega
    · go_wp2
      go_ret
      have : k = l.length := by omega
      subst this
      exact ⟨ret_int (by simp), rfl⟩

set_option maxHeartbeats 400000 in
theorem specLineAt_c (l : List UInt8) (A : Option Addr) (c B : Nat) (at_ : Int) (w : World) (hl : l.length ≤ 4294967296) (h : RB w B A l) :
    Calls Try.prog 27 #[.slice A l.length c, .int .i64 at_] w fun e w' => e = .returned (.int .i64 (lineAtOf l at_)) ∧ w = w' := by
  by_cases hb : 2000 < (l.length : Int)
  · unfold lineAtOf; rw [if_pos (by omega)]
    go_enter Try.func27, Try.ntmps27
    go_wp2
    go_ret
    exact ⟨rfl, rfl⟩
  have hb' : (l.length : Int) ≤ 2000 := by omega
  by_cases h0 : at_ < 0
  · unfold lineAtOf; rw [if_pos (by omega)]
    clear hb
    go_enter Try.func27, Try.ntmps27
    go_wp2
    go_ret
    exact ⟨rfl, rfl⟩
  have h0' : 0 ≤ at_ := by omega
  by_cases h1 : (l.length : Int) < at_
  · unfold lineAtOf; rw [if_pos (by omega)]
    clear hb h0
    go_enter Try.func27, Try.ntmps27
    go_wp2
    go_ret
    exact ⟨rfl, rfl⟩
  have h1' : at_ ≤ (l.length : Int) := by omega
  unfold lineAtOf; rw [if_neg (by omega)]
  clear hb h0 h1
  obtain ⟨m, rfl⟩ := Int.eq_ofNat_of_zero_le h0'
  rw [Int.toNat_natCast]
  have hm : m ≤ l.length := by omega
  clear h1'
  go_enter Try.func27, Try.ntmps27
  go_wp2
  go_loopw [5, 6] (fun n i wr => ∃ (k : Nat), k ≤ m ∧ i = .int .i64 k ∧ n = .int .i64 (nl (l.take k)) ∧ wr = w) (fun _ i _ => m - (intOf i).toNat)
  case atStart => exact ⟨0, Nat.zero_le _, rfl, rfl, rfl⟩
  case round =>
    obtain ⟨k, hk, rfl, rfl, rfl⟩ := hrel
    have hle := nl_take_le l k
    by_cases hltm : k < m
    · have hlt : k < l.length := by omega
      obtain ⟨ad, rfl, hb, hcell⟩ := h.at_ hlt
      have Hst := Lib.hid (nl_step hlt)
      have hb2 := bd l k hlt
      by_cases h10 : (l[k].toNat : Int) = 10
      · have ht : ((l[k].toNat : Int) == 10) = true := by rw [beq_iff_eq]; exact h10
        have Ht := Lib.hid h10
        clear h10
        go_wp2
        go_roundw
        case rel => exact ⟨k + 1, by omega, by go_num, by rw [Hst.out, if_pos Ht.out]; go_num, by trivial⟩
        case measure => simp [intOf]; omega
      · have ht : ((l[k].toNat : Int) == 10) = false := by rw [beq_eq_false_iff_ne]; exact h10
        have Ht := Lib.hid h10
        clear h10
        go_wp2
        go_roundw
        case rel => exact ⟨k + 1, by omega, by go_num, by rw [Hst.out, if_neg Ht.out]; go_num, by trivial⟩
        case measure => simp [intOf]; omega
    · go_wp2
      go_ret
      have : k = m := by omega
      subst this
      exact ⟨rfl, rfl⟩

def ints (l : List UInt8) : List Int := l.map fun b => (b.toNat : Int)
theorem ints_len (l : List UInt8) : (ints l).length = l.length := by simp [ints]
theorem ints_bytes (l : List UInt8) : Lib.bytesOf (ints l) = l := by
  unfold Lib.bytesOf ints
  rw [List.map_map]
  conv => rhs; rw [← List.map_id l]
  apply List.map_congr_left
  intro b _
  simp
theorem ints_get {l : List UInt8} {k : Nat} (hk : k < l.length) : (ints l).getD k 0 = (l[k].toNat : Int) := by simp [ints, List.getD_eq_getElem?_getD, hk]

theorem RB.take_ {w : World} {B : Nat} {A : Option Addr} {l : List UInt8} (h : RB w B A l) (m : Nat) : RB w B A (l.take m) := by
  refine ⟨by simp [vb], fun hn => ?_⟩
  obtain ⟨ad, e, hb, hc⟩ := h.2 (by simp at hn; omega)
  refine ⟨ad, e, hb, fun j u hu => hc j u ?_⟩
  rw [vb_get] at hu ⊢
  rw [List.getElem?_take] at hu
  split at hu
  · exact hu
  · simp at hu

theorem RB.cells {w : World} {B : Nat} {a : Addr} {l : List UInt8} (h : RB w B (some a) l) : ∀ i, i < l.length → w.cell? (a.add i) = some (.int .u8 ((ints l).getD i 0)) := by
  intro i hi
  obtain ⟨ad, e, _, hc⟩ := h.at_ hi
  cases e
  rw [hc, ints_get hi]

set_option maxHeartbeats 400000 in
theorem lineEnds_c (l : List UInt8) (a : Addr) (n c B : Nat) (hn : l.length = n) (w : World) (hB : B ≤ w.heap.size) (h : RB w B (some a) l) :
    Calls Try.prog 39 #[.slice (some a) n c] w fun e w' => e = .returned (.int .i64 (nl l)) ∧ Below w.heap.size w w' := by
  have Hn := Lib.hid hn
  clear hn
  go_enter Try.func39, Try.ntmps39
  go_wp2_with fail
  refine (Try.bytes_Count_one_at _ _ _ _ _ _ (ints l) 10 _ ((ints_len l).trans Hn.out) (fun i hi => RB.cells (h.alloc hB _) i (by rw [Hn.out]; exact hi)) (by simp)).mono ?_
  rintro e w' ⟨rfl, rfl⟩
  go_wp2
  go_ret
  exact ⟨ret_int (by rw [ints_bytes]; rfl), (Below.refl _ _).alloc (Nat.le_refl _) _⟩

theorem implLines_c (l : List UInt8) (a : Addr) (c B : Nat) (w : World) (hB : B ≤ w.heap.size) (_hl : l.length ≤ 4294967296) (h : RB w B (some a) l) :
    Calls Try.prog 26 #[.slice (some a) l.length c] w fun e w' => e = .returned (.int .i64 (linesOf l)) ∧ Below w.heap.size w w' := by
  by_cases hb : 2000 < (l.length : Int)
  · unfold linesOf; rw [if_pos (by omega)]
    go_enter Try.func26, Try.ntmps26
    go_wp2
    go_ret
    exact ⟨rfl, Below.refl _ _⟩
  unfold linesOf; rw [if_neg (by omega)]
  have hb' : (l.length : Int) ≤ 2000 := by omega
  have hn := nl_le l
  clear hb
  go_enter Try.func26, Try.ntmps26
  go_wp2_with fail
  refine (lineEnds_c l _ _ _ _ rfl _ hB h).mono ?_
  rintro e w1 ⟨rfl, hb1⟩
  go_wp2
  go_ret
  exact ⟨rfl, hb1⟩

theorem implLineAt_c (l : List UInt8) (a : Addr) (c B : Nat) (at_ : Int) (w : World) (hB : B ≤ w.heap.size) (_hl : l.length ≤ 4294967296) (hc : l.length ≤ c) (h : RB w B (some a) l) :
    Calls Try.prog 28 #[.slice (some a) l.length c, .int .i64 at_] w fun e w' => e = .returned (.int .i64 (lineAtOf l at_)) ∧ Below w.heap.size w w' := by
  by_cases hb : 2000 < (l.length : Int)
  · unfold lineAtOf; rw [if_pos (by omega)]
    go_enter Try.func28, Try.ntmps28
    go_wp2
    go_ret
    exact ⟨rfl, Below.refl _ _⟩
  have hb' : (l.length : Int) ≤ 2000 := by omega
  by_cases h0 : at_ < 0
  · unfold lineAtOf; rw [if_pos (by omega)]
    clear hb
    go_enter Try.func28, Try.ntmps28
    go_wp2
    go_ret
    exact ⟨rfl, Below.refl _ _⟩
  have h0' : 0 ≤ at_ := by omega
  by_cases h1 : (l.length : Int) < at_
  · unfold lineAtOf; rw [if_pos (by omega)]
    clear hb h0
    go_enter Try.func28, Try.ntmps28
    go_wp2
    go_ret
    exact ⟨rfl, Below.refl _ _⟩
  have h1' : at_ ≤ (l.length : Int) := by omega
  unfold lineAtOf; rw [if_neg (by omega)]
  clear hb h0 h1
  obtain ⟨m, rfl⟩ := Int.eq_ofNat_of_zero_le h0'
  rw [Int.toNat_natCast]
  have hm : m ≤ l.length := by omega
  have hmc : m ≤ c := by omega
  clear h1'
  go_enter Try.func28, Try.ntmps28
  go_wp2_with fail
  refine (lineEnds_c (l.take m) _ _ _ _ (by rw [List.length_take]; omega) _ hB (h.take_ m)).mono ?_
  rintro e w1 ⟨rfl, hb1⟩
  go_wp2
  go_ret
  exact ⟨rfl, hb1⟩
end Go.Proofs.Ytfcgjhjmphdffaa
