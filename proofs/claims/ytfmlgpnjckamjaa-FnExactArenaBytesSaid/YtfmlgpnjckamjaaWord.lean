/-
  WordOk: the program's and the model's answer the same, at every list of bytes.
-/
import Derived.Test.YtfmlgpnjckamjaaBytes
namespace Go.Proofs.Ytfmlgpnjckamjaa
open Go.RowKit

def small (c : UInt8) : Bool := decide (97 ≤ c.toNat ∧ c.toNat ≤ 122)
def wordOk (l : List UInt8) : Bool := decide (1 ≤ l.length ∧ l.length ≤ 6) && l.all small

theorem small_yes {c : UInt8} (h : small c = true) : 97 ≤ (c.toNat : Int) ∧ (c.toNat : Int) ≤ 122 := by unfold small at h; have := of_decide_eq_true h; omega
theorem small_no {c : UInt8} (h : small c = false) : ¬ (97 ≤ (c.toNat : Int) ∧ (c.toNat : Int) ≤ 122) := by unfold small at h; have := of_decide_eq_false h; omega

theorem all_take {p : UInt8 → Bool} {l : List UInt8} {k : Nat} (h : (l.take k).all p = true) (hk : k < l.length) (hp : p l[k] = true) : (l.take (k + 1)).all p = true := by
  rw [List.take_succ_eq_append_getElem hk, List.all_append, h]; simp [hp]
theorem all_no {p : UInt8 → Bool} {l : List UInt8} {k : Nat} (hk : k < l.length) (hp : p l[k] = false) : l.all p = false := by
  rw [List.all_eq_false]; exact ⟨l[k], List.getElem_mem hk, by simp [hp]⟩

theorem l1small_c (c : UInt8) (b : Bool) (hb : small c = b) (w : World) :
    Calls Try.prog 82 #[.int .u8 c.toNat] w fun e w' => e = .returned (.bool b) ∧ w = w' := by
  have hlt := c.toNat_lt
  have Hb := Lib.hid hb
  clear hb
  by_cases h1 : 97 ≤ (c.toNat : Int) <;> by_cases h2 : (c.toNat : Int) ≤ 122
  all_goals
    go_enter Try.func82, Try.ntmps82
    go_wp2
    go_ret
    refine ⟨?_, rfl⟩
    rw [← Hb.out]; unfold small; simp; omega

theorem isLetter_c (c : UInt8) (b : Bool) (hb : small c = b) (w : World) :
    Calls Try.prog 111 #[.int .u8 c.toNat] w fun e w' => e = .returned (.bool b) ∧ w = w' := by
  have hlt := c.toNat_lt
  have Hb := Lib.hid hb
  clear hb
  by_cases h1 : 97 ≤ (c.toNat : Int) <;> by_cases h2 : (c.toNat : Int) ≤ 122
  all_goals
    go_enter Try.func111, Try.ntmps111
    go_wp2
    go_ret
    refine ⟨?_, rfl⟩
    rw [← Hb.out]; unfold small; simp; omega

set_option maxHeartbeats 400000 in
theorem specWordOk_c (l : List UInt8) (A : Option Addr) (c B : Nat) (w : World) (hl : l.length ≤ 4294967296) (h : RB w B A l) :
    Calls Try.prog 57 #[.slice A l.length c] w fun e w' => e = .returned (.bool (wordOk l)) ∧ w = w' := by
  by_cases h0 : l.length < 1
  · have hf : wordOk l = false := by unfold wordOk; simp; omega
    rw [hf]; clear hf
    go_enter Try.func57, Try.ntmps57
    go_wp2
    go_ret
    exact ⟨rfl, rfl⟩
  by_cases h6 : 6 < l.length
  · have hf : wordOk l = false := by unfold wordOk; simp; omega
    rw [hf]; clear hf
    have h0' : 1 ≤ l.length := by omega
    clear h0
    go_enter Try.func57, Try.ntmps57
    go_wp2
    go_ret
    exact ⟨rfl, rfl⟩
  have h0' : 1 ≤ l.length := by omega
  have h6' : l.length ≤ 6 := by omega
  have hw : wordOk l = l.all small := by unfold wordOk; simp [h0', h6']
  have Hw := Lib.hid hw
  clear h0 h6 hw
  go_enter Try.func57, Try.ntmps57
  go_wp2
  go_loopw [3] (fun i wr => ∃ (k : Nat), k ≤ l.length ∧ i = .int .i64 k ∧ wr = w ∧ Hid ((l.take k).all small = true)) (fun i _ => l.length - (intOf i).toNat)
  case atStart => exact ⟨0, Nat.zero_le _, rfl, rfl, Lib.hid (by simp)⟩
  case round =>
    obtain ⟨k, hk, rfl, rfl, ha⟩ := hrel
    by_cases hlt : k < l.length
    · obtain ⟨ad, rfl, hb, hcell⟩ := h.at_ hlt
      cases hs : small l[k]
      · have Hs := Lib.hid hs
        clear hs
        go_wp2_with (go_at_call 82; refine (l1small_c _ false Hs.out _).mono ?_; rintro e w' ⟨rfl, rfl⟩)
        go_ret
        exact ⟨by rw [Hw.out, all_no hlt Hs.out]; rfl, rfl⟩
      · have Hs := Lib.hid hs
        clear hs
        go_wp2_with (go_at_call 82; refine (l1small_c _ true Hs.out _).mono ?_; rintro e w' ⟨rfl, rfl⟩)
        go_roundw
        case rel => exact ⟨k + 1, by omega, by go_num, by trivial, Lib.hid (all_take ha.out hlt Hs.out)⟩
        case measure => simp [intOf]; omega
    · go_wp2
      go_ret
      have : k = l.length := by omega
      subst this
      exact ⟨by rw [Hw.out, ← List.take_length (l := l), ha.out]; rfl, rfl⟩


theorem ret_bool {a b : Bool} (h : a = b) : Ending.returned (.bool a) = .returned (.bool b) := by rw [h]

/-- how many stand together at the beginning of which p holds -/
def run (p : UInt8 → Bool) (l : List UInt8) : Nat := (l.takeWhile p).length
theorem run_le (p : UInt8 → Bool) (l : List UInt8) : run p l ≤ l.length := by
  unfold run; exact List.Sublist.length_le (List.takeWhile_sublist p)
theorem run_stop {p : UInt8 → Bool} : ∀ {l : List UInt8} {k : Nat} (_ : (l.take k).all p = true) (hk : k < l.length) (_ : p l[k] = false), run p l = k
  | [], k, _, hk, _ => by simp at hk
  | x :: r, 0, _, _, hs => by simp at hs; simp [run, hs]
  | x :: r, k + 1, ha, hk, hs => by
    simp at ha hk hs
    have h := run_stop (p := p) (l := r) (k := k) (by simpa using ha.2) hk hs
    unfold run at h ⊢
    simp [ha.1, h]
theorem run_all {p : UInt8 → Bool} {l : List UInt8} (h : (l.take l.length).all p = true) : run p l = l.length := by
  rw [List.take_length] at h
  unfold run
  induction l with
  | nil => rfl
  | cons x r ih => simp at h; simp [h.1]; exact ih (by simpa using h.2)
theorem run_eq_all (p : UInt8 → Bool) (l : List UInt8) : (run p l = l.length) ↔ l.all p = true := by
  constructor
  · intro h
    unfold run at h
    have e : l.takeWhile p = l := (List.takeWhile_sublist p).eq_of_length h
    rw [← e]; exact List.all_takeWhile
  · intro h; exact run_all (by rw [List.take_length]; exact h)

set_option maxHeartbeats 400000 in
theorem runLengthLetter_c (l : List UInt8) (A : Option Addr) (c B : Nat) (w : World) (hl : l.length ≤ 4294967296) (h : RB w B A l) :
    Calls Try.prog 110 #[.slice A l.length c, .func (.func 111) #[] #[]] w fun e w' => e = .returned (.int .i64 (run small l)) ∧ w = w' := by
  go_enter Try.func110, Try.ntmps110
  go_wp2
  go_loopw [5] (fun i wr => ∃ (k : Nat), k ≤ l.length ∧ i = .int .i64 k ∧ wr = w ∧ Hid ((l.take k).all small = true)) (fun i _ => l.length - (intOf i).toNat)
  case atStart => exact ⟨0, Nat.zero_le _, rfl, rfl, Lib.hid (by simp)⟩
  case round =>
    obtain ⟨k, hk, rfl, rfl, ha⟩ := hrel
    by_cases hlt : k < l.length
    · obtain ⟨ad, rfl, hb, hcell⟩ := h.at_ hlt
      cases hs : small l[k]
      · have Hs := Lib.hid hs
        clear hs
        go_wp2_with (go_at_call 111; refine (isLetter_c _ false Hs.out _).mono ?_; rintro e w' ⟨rfl, rfl⟩)
        go_ret
        exact ⟨by rw [run_stop ha.out hlt Hs.out]; rfl, rfl⟩
      · have Hs := Lib.hid hs
        clear hs
        go_wp2_with (go_at_call 111; refine (isLetter_c _ true Hs.out _).mono ?_; rintro e w' ⟨rfl, rfl⟩)
        go_roundw
        case rel => exact ⟨k + 1, by omega, by go_num, by trivial, Lib.hid (all_take ha.out hlt Hs.out)⟩
        case measure => simp [intOf]; omega
    · have hlt' : l.length ≤ k := by omega
      go_wp2
      go_ret
      have : k = l.length := by omega
      subst this
      exact ⟨by rw [run_all ha.out]; rfl, rfl⟩

theorem implWordOk_c (l : List UInt8) (A : Option Addr) (c B : Nat) (w : World) (hl : l.length ≤ 4294967296) (h : RB w B A l) :
    Calls Try.prog 83 #[.slice A l.length c] w fun e w' => e = .returned (.bool (wordOk l)) ∧ w = w' := by
  by_cases h0 : (l.length : Int) < 1
  · have hf : wordOk l = false := by unfold wordOk; simp; omega
    rw [hf]; clear hf
    go_enter Try.func83, Try.ntmps83
    go_wp2
    go_ret
    exact ⟨rfl, rfl⟩
  have h0' : (1 : Int) ≤ l.length := by omega
  by_cases h6 : 6 < (l.length : Int)
  · have hf : wordOk l = false := by unfold wordOk; simp; omega
    rw [hf]; clear hf h0
    go_enter Try.func83, Try.ntmps83
    go_wp2
    go_ret
    exact ⟨rfl, rfl⟩
  have h6' : (l.length : Int) ≤ 6 := by omega
  clear h0 h6
  have hr := run_le small l
  have he := run_eq_all small l
  have hw : wordOk l = l.all small := by unfold wordOk; simp; omega
  have He := Lib.hid he
  have Hw := Lib.hid hw
  clear he hw
  go_enter Try.func83, Try.ntmps83
  go_wp2_with (go_at_call 110; refine (runLengthLetter_c l _ _ _ _ hl h).mono ?_; rintro e w' ⟨rfl, rfl⟩)
  go_ret
  refine ⟨?_, rfl⟩
  rw [Hw.out]
  exact ret_bool (by rw [Bool.eq_iff_iff, ← He.out, beq_iff_eq]; omega)
end Go.Proofs.Ytfmlgpnjckamjaa
