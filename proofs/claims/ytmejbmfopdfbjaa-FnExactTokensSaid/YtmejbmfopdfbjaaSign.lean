/-
  Signs: the program's and the model's answer the same.
-/
import Derived.Test.YtmejbmfopdfbjaaDig
namespace Go.Proofs.Ytmejbmfopdfbjaa
open Go.RowKit

def sgs : List UInt8 := [40, 41, 123, 125, 46, 44, 61, 43, 45, 42, 60, 59]
def sgn (c : UInt8) : Bool := sgs.contains c
theorem sgn_yes {c : UInt8} {k : Nat} (hk : k < sgs.length) (h : ((sgs[k].toNat : Int) == (c.toNat : Int)) = true) : sgn c = true := by
  unfold sgn
  rw [List.contains_iff_mem]
  have : sgs[k] = c := UInt8.toNat_inj.1 (by have := eq_of_beq h; omega)
  rw [← this]; exact List.getElem_mem hk
theorem sgn_next {c : UInt8} {k : Nat} (hk : k < sgs.length) (ha : (sgs.take k).all (fun x => !(x == c)) = true) (h : ((sgs[k].toNat : Int) == (c.toNat : Int)) = false) : (sgs.take (k + 1)).all (fun x => !(x == c)) = true := by
  rw [List.take_succ_eq_append_getElem hk, List.all_append, ha]
  simp
  intro e
  rw [e] at h
  simp at h
theorem sgn_no {c : UInt8} (h : (sgs.take sgs.length).all (fun x => !(x == c)) = true) : sgn c = false := by
  rw [List.take_length, List.all_eq_true] at h
  unfold sgn
  rw [List.contains_eq_any_beq, List.any_eq_false]
  intro x hx
  have := h x hx
  simp at this
  simp
  intro e
  exact this e.symm

set_option maxRecDepth 100000 in
set_option maxHeartbeats 1000000 in
theorem l1sign_c (c : UInt8) (w : World) :
    Calls Try.prog 69 #[.int .u8 c.toNat] w fun e w' => e = .returned (.bool (sgn c)) ∧ w = w' := by
  go_enter Try.func69, Try.ntmps69
  go_wp2
  go_loopw [4] (fun i wr => ∃ (k : Nat), k ≤ 12 ∧ i = .int .i64 k ∧ wr = w ∧ Hid ((sgs.take k).all (fun x => !(x == c)) = true)) (fun i _ => 12 - (intOf i).toNat)
  case atStart => exact ⟨0, Nat.zero_le _, rfl, rfl, Lib.hid (by simp)⟩
  case round =>
    obtain ⟨k, hk, rfl, rfl, ha⟩ := hrel
    by_cases hlt : k < 12
    · have hlt' : k < sgs.length := hlt
      go_wp2
      · have h1 : ((sgs[k].toNat : Int) == (c.toNat : Int)) = true := by assumption
        go_ret
        exact ⟨by rw [sgn_yes hlt' h1]; rfl, rfl⟩
      · have h1 : ((sgs[k].toNat : Int) == (c.toNat : Int)) = false := by assumption
        go_roundw
        case rel => exact ⟨k + 1, by omega, by go_num, by trivial, Lib.hid (sgn_next hlt' ha.out h1)⟩
        case measure => simp [intOf]; omega
    · go_wp2
      go_ret
      have : k = sgs.length := by show k = 12; omega
      subst this
      exact ⟨by rw [sgn_no ha.out]; rfl, rfl⟩

theorem indexByte_mem (l : List UInt8) (c : UInt8) : (0 ≤ Lib.indexByte l c) ↔ l.contains c = true := by
  induction l with
  | nil => simp [Lib.indexByte]
  | cons b l ih =>
    have hge := Lib.indexByte_ge l c
    unfold Lib.indexByte
    by_cases h : (b == c) = true
    · rw [if_pos h]
      have : b = c := eq_of_beq h
      subst this
      simp
    · rw [if_neg h]
      have hbc : (b == c) = false := by simpa using h
      have hcb : (c == b) = false := by rw [BEq.comm]; exact hbc
      rw [List.contains_cons, hcb, Bool.false_or, ← ih]
      by_cases h1 : (Lib.indexByte l c == -1) = true
      · rw [if_pos h1]
        have := eq_of_beq h1
        omega
      · rw [if_neg h1]
        have : Lib.indexByte l c ≠ -1 := fun e => h1 (by rw [e]; rfl)
        omega

def signL (l : List UInt8) : Bool := match l with
  | [c] => sgn c
  | _ => false

set_option maxRecDepth 100000 in
set_option maxHeartbeats 1000000 in
theorem signOk_c (l : List UInt8) (A : Option Addr) (cp B : Nat) (w : World) (hl : l.length ≤ 4294967296) (h : RB w B A l) :
    Calls Try.prog 100 #[.slice A l.length cp] w fun e w' => e = .returned (.bool (signL l)) ∧ w = w' := by
  by_cases h1 : l.length = 1
  · obtain ⟨c, rfl⟩ : ∃ c, l = [c] := by
      match l, h1 with
      | [c], _ => exact ⟨c, rfl⟩
    obtain ⟨ad, rfl, hb, hcell⟩ := h.at_ (k := 0) (by simp)
    have hm := indexByte_mem sgs c
    have Hm := Lib.hid hm
    clear hm hl h1
    have hcell' : w.cell? ad = some (.int .u8 (c.toNat : Int)) := by simpa [Addr.add] using hcell
    clear hcell
    go_enter Try.func100, Try.ntmps100
    go_wp2_with fail
    refine (Try.strings_IndexByte _ _ _).mono ?_
    rintro e w' ⟨rfl, rfl⟩
    go_wp2
    go_ret
    exact ⟨ret_bool (by show decide (0 ≤ Lib.indexByte sgs c) = sgn c; rw [Bool.eq_iff_iff, decide_eq_true_iff, Hm.out]; rfl), rfl⟩
  · have hf : signL l = false := by
      unfold signL
      split
      · simp at h1
      · rfl
    rw [hf]
    have h1' : ((l.length : Int) == 1) = false := by rw [beq_eq_false_iff_ne]; omega
    clear hf h1
    go_enter Try.func100, Try.ntmps100
    go_wp2
    go_ret
    exact ⟨rfl, rfl⟩
end Go.Proofs.Ytmejbmfopdfbjaa
