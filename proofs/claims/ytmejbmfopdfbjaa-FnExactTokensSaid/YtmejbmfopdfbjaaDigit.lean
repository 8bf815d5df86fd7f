/-
  Digits: the program's and the model's answer the same.
-/
import Derived.Test.YtmejbmfopdfbjaaWord
import Derived.IntWalk
namespace Go.Proofs.Ytmejbmfopdfbjaa
open Go.RowKit

def digit (c : UInt8) : Bool := decide (48 ≤ c.toNat ∧ c.toNat ≤ 57)
theorem digit_yes {c : UInt8} (h : digit c = true) : 48 ≤ (c.toNat : Int) ∧ (c.toNat : Int) ≤ 57 := by unfold digit at h; have := of_decide_eq_true h; omega

theorem l1digit_c (c : UInt8) (b : Bool) (hb : digit c = b) (w : World) :
    Calls Try.prog 67 #[.int .u8 c.toNat] w fun e w' => e = .returned (.bool b) ∧ w = w' := by
  have hlt := c.toNat_lt
  have Hb := Lib.hid hb
  clear hb
  by_cases h1 : 48 ≤ (c.toNat : Int) <;> by_cases h2 : (c.toNat : Int) ≤ 57
  all_goals
    go_enter Try.func67, Try.ntmps67
    go_wp2
    go_ret
    refine ⟨?_, rfl⟩
    rw [← Hb.out]; unfold digit; simp; omega

theorem isDigit_c (c : UInt8) (b : Bool) (hb : digit c = b) (w : World) :
    Calls Try.prog 98 #[.int .u8 c.toNat] w fun e w' => e = .returned (.bool b) ∧ w = w' := by
  have hlt := c.toNat_lt
  have Hb := Lib.hid hb
  clear hb
  by_cases h1 : 48 ≤ (c.toNat : Int) <;> by_cases h2 : (c.toNat : Int) ≤ 57
  all_goals
    go_enter Try.func98, Try.ntmps98
    go_wp2
    go_ret
    refine ⟨?_, rfl⟩
    rw [← Hb.out]; unfold digit; simp; omega

set_option maxHeartbeats 400000 in
theorem runLengthDigit_c (l : List UInt8) (A : Option Addr) (c B : Nat) (w : World) (hl : l.length ≤ 4294967296) (h : RB w B A l) :
    Calls Try.prog 96 #[.slice A l.length c, .func (.func 98) #[] #[]] w fun e w' => e = .returned (.int .i64 (run digit l)) ∧ w = w' := by
  go_enter Try.func96, Try.ntmps96
  go_wp2
  go_loopw [5] (fun i wr => ∃ (k : Nat), k ≤ l.length ∧ i = .int .i64 k ∧ wr = w ∧ Hid ((l.take k).all digit = true)) (fun i _ => l.length - (intOf i).toNat)
  case atStart => exact ⟨0, Nat.zero_le _, rfl, rfl, Lib.hid (by simp)⟩
  case round =>
    obtain ⟨k, hk, rfl, rfl, ha⟩ := hrel
    by_cases hlt : k < l.length
    · obtain ⟨ad, rfl, hb, hcell⟩ := h.at_ hlt
      cases hs : digit l[k]
      · have Hs := Lib.hid hs
        clear hs
        go_wp2_with (go_at_call 98; refine (isDigit_c _ false Hs.out _).mono ?_; rintro e w' ⟨rfl, rfl⟩)
        go_ret
        exact ⟨by rw [run_stop ha.out hlt Hs.out]; rfl, rfl⟩
      · have Hs := Lib.hid hs
        clear hs
        go_wp2_with (go_at_call 98; refine (isDigit_c _ true Hs.out _).mono ?_; rintro e w' ⟨rfl, rfl⟩)
        go_roundw
        case rel => exact ⟨k + 1, by omega, by go_num, by trivial, Lib.hid (all_take ha.out hlt Hs.out)⟩
        case measure => simp [intOf]; omega
    · have hlt' : l.length ≤ k := by omega
      go_wp2
      go_ret
      have : k = l.length := by omega
      subst this
      exact ⟨by rw [run_all ha.out]; rfl, rfl⟩

end Go.Proofs.Ytmejbmfopdfbjaa
