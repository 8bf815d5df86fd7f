/-
  Contracts of the laws' own helpers over bytes: toByteS makes a new row with the same bytes; eqByteS tells whether two rows read alike.
-/
import Derived.Test.YtfmlgpnjckamjaaBase
import Derived.Deep.QuietTactic
import Derived.BigQuiet
import Derived.Outline
namespace Go.Proofs.Ytfmlgpnjckamjaa
open Go.RowKit

theorem infoU8 : (Try.prog.info? 5).map (fun i => (i.zero, i.size, i.bytes)) = some (some (.int .u8 0), 1, 1) := by kernel_rfl

set_option maxHeartbeats 400000 in
theorem toByteS_c0 (l : List UInt8) (A : Option Addr) (c : Nat) (w : World) (hl : l.length ≤ 4294967296) (h : RB w w.heap.size A l) :
    Calls Try.prog 28 #[.slice A l.length c] w fun e w' => e = .returned (.slice (some ⟨w.heap.size, 0, none⟩) l.length l.length) ∧ Blk w' w.heap.size 5 (vb l).toArray ∧ w'.heap.size = w.heap.size + 1 ∧ Below w.heap.size w w' := by
  have hmk := run_make_row' (P := Try.prog) 27 5 (.int .u8 0) 1 Try.underlying27 infoU8 rfl .i64 .i64 l.length (by omega) (by omega)
  go_enter Try.func28, Try.ntmps28
  go_wp2
  go_loopw [4] (fun i wr => ∃ (k : Nat) (cs : Array Value), k ≤ l.length ∧ i = .int .i64 k ∧ cs.size = l.length ∧ (∀ j, j < k → cs[j]? = (vb l)[j]?) ∧ wr = w.alloc (.cells cs 5)) (fun i _ => l.length - (intOf i).toNat)
  case atStart => exact ⟨0, madeCells #[.int .u8 0] l.length, Nat.zero_le _, rfl, by simp [madeCells], fun j hj => by omega, rfl⟩
  case round =>
    obtain ⟨k, cs, hk, rfl, hcs, hsame, rfl⟩ := hrel
    have hc := Lib.hid hcs
    have hs := Lib.hid hsame
    clear hcs hsame
    by_cases hlt : k < l.length
    · obtain ⟨ad, rfl, hb, hcell⟩ := (h.alloc (Nat.le_refl _) (.cells cs 5)).at_ hlt
      obtain ⟨v, hv⟩ : ∃ v, cs[k]? = some v := ⟨_, Array.getElem?_eq_getElem (by have := hc.out; omega)⟩
      go_wp2
      go_roundw
      case rel =>
        refine ⟨k + 1, cs.setIfInBounds k (.int .u8 l[k].toNat), by omega, by go_num, by simpa using hc.out, fun j hj => ?_, ?_⟩
        · have h1 := hs.out j
          have h2 := hc.out
          by_cases hjk : j = k
          · subst hjk
            rw [Array.getElem?_setIfInBounds_self_of_lt (by omega), vb_get, List.getElem?_eq_getElem hlt]; rfl
          · rw [Array.getElem?_setIfInBounds_ne (by omega)]
            exact h1 (by omega)
        · simp
      case measure => simp [intOf]; omega
    · go_wp2
      go_ret
      have : k = l.length := by omega
      subst this
      have e : cs = (vb l).toArray := by
        apply Array.ext'
        apply List.ext_getElem?
        intro j
        have h1 := hs.out j
        have h2 := hc.out
        by_cases hj : j < l.length
        · simpa using h1 hj
        · rw [List.getElem?_eq_none, List.getElem?_eq_none] <;> simp [vb] <;> omega
      subst e
      exact ⟨rfl, Blk.new _ _ _, by simp, (Below.refl _ _).alloc (Nat.le_refl _) _⟩

theorem toByteS_c (l : List UInt8) (A : Option Addr) (c B : Nat) (w : World) (hl : l.length ≤ 4294967296) (hB : B ≤ w.heap.size) (h : RB w B A l) :
    Calls Try.prog 28 #[.slice A l.length c] w fun e w' => ∃ g, e = .returned (.slice (some ⟨g, 0, none⟩) l.length l.length) ∧ Blk w' g 5 (vb l).toArray ∧ w.heap.size ≤ g ∧ g < w'.heap.size ∧ Below w.heap.size w w' := by
  refine (toByteS_c0 l A c w hl (h.more hB)).mono ?_
  rintro e w' ⟨rfl, hb, hs, hbl⟩
  exact ⟨_, rfl, hb, Nat.le_refl _, by omega, hbl⟩

set_option maxHeartbeats 400000 in
theorem eqByteS_c (l : List UInt8) (A A' : Option Addr) (c c' B B' : Nat) (w : World) (hl : l.length ≤ 4294967296) (h : RB w B A l) (h' : RB w B' A' l) :
    Calls Try.prog 13 #[.slice A l.length c, .slice A' l.length c'] w fun e w' => e = .returned (.bool true) ∧ ∃ n, w' = w.drewN n := by
  go_enter Try.func13, Try.ntmps13
  go_wp2
  go_loopw [5] (fun i wr => ∃ (k : Nat), k ≤ l.length ∧ i = .int .i64 k ∧ ∃ n, wr = w.drewN n) (fun i _ => l.length - (intOf i).toNat)
  case atStart => exact ⟨0, Nat.zero_le _, rfl, 0, rfl⟩
  case round =>
    obtain ⟨k, hk, rfl, n, rfl⟩ := hrel
    by_cases hlt : k < l.length
    · obtain ⟨ad, rfl, hb, hcell⟩ := h.at_ hlt
      obtain ⟨ad', rfl, hb', hcell'⟩ := h'.at_ hlt
      go_wp2
      go_quiet (fail)
      go_wp2
      go_roundw
      case rel => exact ⟨k + 1, by omega, by go_num, _, rfl⟩
      case measure => simp [intOf]; omega
    · go_wp2
      go_ret
      exact ⟨rfl, _, rfl⟩
end Go.Proofs.Ytfmlgpnjckamjaa
