/-
  The words of codes: both sides.
-/
import Derived.Test.YtebgigiakfjocaaDoorOwnU
import Derived.StillTailTactics
namespace Go.Proofs.YtebgigiakfjocaaDoor
open Go.RowKit
set_option linter.unusedVariables false
set_option linter.unusedSimpArgs false
namespace CodeWd

def words : List (List UInt8) := [[100, 111, 110, 101], [116, 121, 112, 101], [100, 101, 101, 112], [102, 117, 101, 108], [102, 117, 108, 108], [102, 111, 114, 109]]
def wd (k : Nat) : List UInt8 := words.getD k []
/-- a code's word; nothing: it is none -/
def wordOf (c : Int) : List UInt8 := if 0 ≤ c ∧ c ≤ 5 then wd c.toNat else []
theorem wordOf_len (c : Int) : (wordOf c).length ≤ 4 := by
  unfold wordOf
  split
  · rename_i h
    have : c = 0 ∨ c = 1 ∨ c = 2 ∨ c = 3 ∨ c = 4 ∨ c = 5 := by omega
    rcases this with rfl | rfl | rfl | rfl | rfl | rfl <;> decide
  · simp
/-- the table of words holds what the text lays -/
def Words (w : World) (B : Nat) : Prop := 0 < B ∧ ∀ k, k < 6 → w.cell? ⟨0, k, none⟩ = some (.string ⟨(wd k).toArray⟩)
theorem Words.below {w w' : World} {B : Nat} (h : Words w B) (hb : Below B w w') : Words w' B := ⟨h.1, fun k hk => (hb.cell (p := ⟨0, k, none⟩) h.1).trans (h.2 k hk)⟩
theorem Words.more {w : World} {B B' : Nat} (h : Words w B) (hB : B ≤ B') : Words w B' := ⟨by have := h.1; omega, h.2⟩

theorem six {c : Int} (h : 0 ≤ c ∧ c ≤ 5) : c = 0 ∨ c = 1 ∨ c = 2 ∨ c = 3 ∨ c = 4 ∨ c = 5 := by omega
theorem not_six {c : Int} (h : ¬ (0 ≤ c ∧ c ≤ 5)) : wordOf c = [] := if_neg h

/-- a string that is a word -/
theorem wd_str (k : Nat) (hk : k < 6) : ∃ s : ByteArray, s = ⟨(wd k).toArray⟩ ∧ s.data.toList = wordOf k ∧ s.size ≤ maxLen := by
  refine ⟨_, rfl, ?_, ?_⟩
  · rw [wordOf, if_pos (by omega)]
    simp
  · have := wordOf_len k
    rw [wordOf, if_pos (by omega)] at this
    have h2 : (ByteArray.mk (wd k).toArray).size = (wd k).length := by rw [← ba_len]
    rw [h2]
    simp only [Int.toNat_natCast] at this
    unfold maxLen
    omega
theorem nat6 {c : Int} (h : 0 ≤ c ∧ c ≤ 5) : ∃ k : Nat, k < 6 ∧ c = k := ⟨c.toNat, by omega, by omega⟩

set_option maxRecDepth 100000 in
theorem implCodeWord_c (c : Int) (B : Nat) (w : World) (hF : Words w B) :
    Calls Tryd.prog 19 #[.int .i64 c] w (AnsT w (wordOf c)) := by
  by_cases hc : 0 ≤ c ∧ c ≤ 5
  · obtain ⟨k, hk, rfl⟩ := nat6 hc
    obtain ⟨hg, hcell⟩ := hF
    have q := hcell k hk
    obtain ⟨s, hs, hw, hm⟩ := wd_str k hk
    rw [← hs] at q
    obtain ⟨A, cc, w', hcv, hO, hb⟩ := convT w s hm
    rw [hw] at hcv hO
    have HO := Lib.hid hO
    have Hb := Lib.hid hb
    clear hcell hc hs hw hm hO hb hg
    go_enter Tryd.func19, Tryd.ntmps19
    go_wp2
    go_ret
    exact ⟨A, cc, rfl, HO.out, Hb.out⟩
  · have hn : c < 0 ∨ 6 ≤ c := by omega
    rw [not_six hc]
    clear hc
    rcases hn with h1 | h1
    all_goals
      go_enter Tryd.func19, Tryd.ntmps19
      go_wp2
      go_ret
      exact ⟨none, 0, rfl, OwnT.nil _ _, Below.refl _ _⟩

/-- the model's words, as it lays them -/
def tabArr : Array Value := #[.string ⟨#[100, 111, 110, 101]⟩, .string ⟨#[116, 121, 112, 101]⟩, .string ⟨#[100, 101, 101, 112]⟩, .string ⟨#[102, 117, 101, 108]⟩, .string ⟨#[102, 117, 108, 108]⟩, .string ⟨#[102, 111, 114, 109]⟩]
theorem six_nat {k : Nat} (h : k < 6) : k = 0 ∨ k = 1 ∨ k = 2 ∨ k = 3 ∨ k = 4 ∨ k = 5 := by omega
set_option maxRecDepth 100000 in
theorem specCodeWord_c (c : Int) (w : World) :
    Calls Tryd.prog 18 #[.int .i64 c] w (AnsT w (wordOf c)) := by
  by_cases hc : 0 ≤ c ∧ c ≤ 5
  · obtain ⟨k, hk, rfl⟩ := nat6 hc
    clear hc
    rcases six_nat hk with rfl | rfl | rfl | rfl | rfl | rfl
    · obtain ⟨A, cc, w', hcv, hO, hb⟩ := convT (w.alloc (.cells tabArr 9)) ⟨#[100, 111, 110, 101]⟩ (by decide)
      rw [show (ByteArray.mk #[100, 111, 110, 101]).data.toList = wordOf (0 : Nat) from rfl] at hcv hO
      obtain ⟨l, hl⟩ : ∃ l, l = wordOf (0 : Nat) := ⟨_, rfl⟩
      have e : wordOf ((0 : Nat) : Int) = l := hl.symm
      rw [e] at hcv hO ⊢
      have HO := Lib.hid hO
      have Hb := Lib.hid (((Below.refl w.heap.size w).alloc (Nat.le_refl _) (.cells tabArr 9)).trans (hb.mono (by simp)))
      unfold tabArr at hcv
      clear hO hb hl e
      go_enter Tryd.func18, Tryd.ntmps18
      go_wp2
      go_ret
      exact ⟨A, cc, rfl, HO.out.less (by simp), Hb.out⟩
    · obtain ⟨A, cc, w', hcv, hO, hb⟩ := convT (w.alloc (.cells tabArr 9)) ⟨#[116, 121, 112, 101]⟩ (by decide)
      rw [show (ByteArray.mk #[116, 121, 112, 101]).data.toList = wordOf (1 : Nat) from rfl] at hcv hO
      obtain ⟨l, hl⟩ : ∃ l, l = wordOf (1 : Nat) := ⟨_, rfl⟩
      have e : wordOf ((1 : Nat) : Int) = l := hl.symm
      rw [e] at hcv hO ⊢
      have HO := Lib.hid hO
      have Hb := Lib.hid (((Below.refl w.heap.size w).alloc (Nat.le_refl _) (.cells tabArr 9)).trans (hb.mono (by simp)))
      unfold tabArr at hcv
      clear hO hb hl e
      go_enter Tryd.func18, Tryd.ntmps18
      go_wp2
      go_ret
      exact ⟨A, cc, rfl, HO.out.less (by simp), Hb.out⟩
    · obtain ⟨A, cc, w', hcv, hO, hb⟩ := convT (w.alloc (.cells tabArr 9)) ⟨#[100, 101, 101, 112]⟩ (by decide)
      rw [show (ByteArray.mk #[100, 101, 101, 112]).data.toList = wordOf (2 : Nat) from rfl] at hcv hO
      obtain ⟨l, hl⟩ : ∃ l, l = wordOf (2 : Nat) := ⟨_, rfl⟩
      have e : wordOf ((2 : Nat) : Int) = l := hl.symm
      rw [e] at hcv hO ⊢
      have HO := Lib.hid hO
      have Hb := Lib.hid (((Below.refl w.heap.size w).alloc (Nat.le_refl _) (.cells tabArr 9)).trans (hb.mono (by simp)))
      unfold tabArr at hcv
      clear hO hb hl e
      go_enter Tryd.func18, Tryd.ntmps18
      go_wp2
      go_ret
      exact ⟨A, cc, rfl, HO.out.less (by simp), Hb.out⟩
    · obtain ⟨A, cc, w', hcv, hO, hb⟩ := convT (w.alloc (.cells tabArr 9)) ⟨#[102, 117, 101, 108]⟩ (by decide)
      rw [show (ByteArray.mk #[102, 117, 101, 108]).data.toList = wordOf (3 : Nat) from rfl] at hcv hO
      obtain ⟨l, hl⟩ : ∃ l, l = wordOf (3 : Nat) := ⟨_, rfl⟩
      have e : wordOf ((3 : Nat) : Int) = l := hl.symm
      rw [e] at hcv hO ⊢
      have HO := Lib.hid hO
      have Hb := Lib.hid (((Below.refl w.heap.size w).alloc (Nat.le_refl _) (.cells tabArr 9)).trans (hb.mono (by simp)))
      unfold tabArr at hcv
      clear hO hb hl e
      go_enter Tryd.func18, Tryd.ntmps18
      go_wp2
      go_ret
      exact ⟨A, cc, rfl, HO.out.less (by simp), Hb.out⟩
    · obtain ⟨A, cc, w', hcv, hO, hb⟩ := convT (w.alloc (.cells tabArr 9)) ⟨#[102, 117, 108, 108]⟩ (by decide)
      rw [show (ByteArray.mk #[102, 117, 108, 108]).data.toList = wordOf (4 : Nat) from rfl] at hcv hO
      obtain ⟨l, hl⟩ : ∃ l, l = wordOf (4 : Nat) := ⟨_, rfl⟩
      have e : wordOf ((4 : Nat) : Int) = l := hl.symm
      rw [e] at hcv hO ⊢
      have HO := Lib.hid hO
      have Hb := Lib.hid (((Below.refl w.heap.size w).alloc (Nat.le_refl _) (.cells tabArr 9)).trans (hb.mono (by simp)))
      unfold tabArr at hcv
      clear hO hb hl e
      go_enter Tryd.func18, Tryd.ntmps18
      go_wp2
      go_ret
      exact ⟨A, cc, rfl, HO.out.less (by simp), Hb.out⟩
    · obtain ⟨A, cc, w', hcv, hO, hb⟩ := convT (w.alloc (.cells tabArr 9)) ⟨#[102, 111, 114, 109]⟩ (by decide)
      rw [show (ByteArray.mk #[102, 111, 114, 109]).data.toList = wordOf (5 : Nat) from rfl] at hcv hO
      obtain ⟨l, hl⟩ : ∃ l, l = wordOf (5 : Nat) := ⟨_, rfl⟩
      have e : wordOf ((5 : Nat) : Int) = l := hl.symm
      rw [e] at hcv hO ⊢
      have HO := Lib.hid hO
      have Hb := Lib.hid (((Below.refl w.heap.size w).alloc (Nat.le_refl _) (.cells tabArr 9)).trans (hb.mono (by simp)))
      unfold tabArr at hcv
      clear hO hb hl e
      go_enter Tryd.func18, Tryd.ntmps18
      go_wp2
      go_ret
      exact ⟨A, cc, rfl, HO.out.less (by simp), Hb.out⟩
  · have hn : c < 0 ∨ 5 < c := by omega
    rw [not_six hc]
    clear hc
    rcases hn with h1 | h1
    all_goals
      go_enter Tryd.func18, Tryd.ntmps18
      go_wp2
      go_ret
      exact ⟨none, 0, rfl, OwnT.nil _ _, Below.refl _ _⟩
end CodeWd
end Go.Proofs.YtebgigiakfjocaaDoor
