/-
  Where a name stands among names: the program's placeOf.
-/
import Derived.Test.YtmejbmfopdfbjaaImplBase
namespace Go.Proofs.Ytmejbmfopdfbjaa
open Go.RowKit
set_option linter.unusedVariables false

/-- the first place; -1 -/
def placeOf (l : List (List UInt8)) (b : List UInt8) : Int :=
  match l.findIdx? (fun x => x == b) with
  | some i => i
  | none => -1
theorem place_hit {l : List (List UInt8)} {b : List UInt8} {k : Nat} (hk : k < l.length) (h : ∀ x ∈ l.take k, (x == b) = false) (he : (l[k] == b) = true) : placeOf l b = k := by
  have : l.findIdx? (fun x => x == b) = some k := by
    rw [List.findIdx?_eq_some_iff_getElem]
    refine ⟨hk, he, fun j hj => ?_⟩
    have hjl : j < l.length := by omega
    have := h l[j] (List.mem_take_iff_getElem.2 ⟨j, by omega, rfl⟩)
    rw [this]; simp
  unfold placeOf
  rw [this]
theorem place_none {l : List (List UInt8)} {b : List UInt8} (h : ∀ x ∈ l, (x == b) = false) : placeOf l b = -1 := by
  have : l.findIdx? (fun x => x == b) = none := by
    rw [List.findIdx?_eq_none_iff]
    exact h
  unfold placeOf
  rw [this]
theorem place_le (l : List (List UInt8)) (b : List UInt8) : -1 ≤ placeOf l b ∧ placeOf l b < l.length := by
  unfold placeOf
  cases h : l.findIdx? (fun x => x == b) with
  | none => simp; omega
  | some i =>
    rw [List.findIdx?_eq_some_iff_getElem] at h
    obtain ⟨hi, _⟩ := h
    simp; omega
theorem place_mem (l : List (List UInt8)) (b : List UInt8) : 0 ≤ placeOf l b ↔ b ∈ l := by
  unfold placeOf
  cases h : l.findIdx? (fun x => x == b) with
  | none =>
    rw [List.findIdx?_eq_none_iff] at h
    simp
    intro hb
    have := h b hb
    simp at this
  | some i =>
    rw [List.findIdx?_eq_some_iff_getElem] at h
    obtain ⟨hi, he, _⟩ := h
    simp
    rw [← eq_of_beq he]
    exact List.getElem_mem hi

set_option maxRecDepth 100000 in
set_option maxHeartbeats 1000000 in
theorem bytesEqual_c (l l' : List UInt8) (A A' : Option Addr) (c c' B B' : Nat) (w : World) (h : RB w B A l) (h' : RB w B' A' l') :
    Calls Try.prog 93 #[.slice A l.length c, .slice A' l'.length c'] w fun e w' => e = .returned (.bool (l == l')) ∧ w = w' := by
  have hcv := run_convert_RB (P := Try.prog) h 22 5 9 c Try.underlying22 Try.underlying5 Try.underlying9
  have hcv' := run_convert_RB (P := Try.prog) h' 22 5 9 c' Try.underlying22 Try.underlying5 Try.underlying9
  go_enter Try.func93, Try.ntmps93
  go_wp2
  go_ret
  exact ⟨ret_bool' rfl, rfl⟩

theorem placeOf1_c (x b : List UInt8) (A A' : Option Addr) (c c' B B' Bn : Nat) (w : World) (hn : w.cell? ⟨Bn, 0, none⟩ = some (.slice A' b.length c')) (h : RB w B A x) (h' : RB w B' A' b) :
    Calls Try.prog 92 #[.slice A x.length c, .pointer (some ⟨Bn, 0, none⟩)] w fun e w' => e = .returned (.bool (x == b)) ∧ w = w' := by
  go_enter Try.func92, Try.ntmps92
  go_wp2_with fail
  refine (bytesEqual_c x b A A' c c' B B' w h h').mono ?_
  rintro e w' ⟨rfl, rfl⟩
  go_wp2
  go_ret
  exact ⟨rfl, rfl⟩

set_option maxHeartbeats 2000000 in
theorem indexFunc_c (l : List (List UInt8)) (b : List UInt8) (A A' : Option Addr) (c c' L B B' Bn : Nat) (w : World) (hn : w.cell? ⟨Bn, 0, none⟩ = some (.slice A' b.length c')) (h : BsL w L B A l) (h' : RB w B' A' b) :
    Calls Try.prog 91 #[.slice A l.length c, .func (.func 92) #[] #[.pointer (some ⟨Bn, 0, none⟩)]] w fun e w' => e = .returned (.int .i64 (placeOf l b)) ∧ w = w' := by
  have hm := h.1
  unfold maxLen at hm
  go_enter Try.func91, Try.ntmps91
  go_wp2
  go_loopw [8] (fun i wr => ∃ (k : Nat), k ≤ l.length ∧ i = .int .i64 k ∧ wr = w ∧ Hid (∀ x ∈ l.take k, (x == b) = false)) (fun i _ => l.length - (intOf i).toNat)
  case atStart => exact ⟨0, Nat.zero_le _, rfl, rfl, Lib.hid (by simp)⟩
  case round =>
    obtain ⟨k, hk, rfl, rfl, hall⟩ := hrel
    by_cases hlt : k < l.length
    · obtain ⟨ad, rfl, _, hb, hat⟩ := h.2 (by omega)
      obtain ⟨A1, c1, hcell, hR, hm1⟩ := hat k hlt
      have hx := placeOf1_c l[k] b A1 A' c1 c' B B' Bn wr hn hR.1 h'
      cases hs : (l[k] == b)
      · rw [hs] at hx
        have Hs := Lib.hid hs
        have Hx := Lib.hid hx
        clear hs hx hat
        go_wp2_with fail
        refine Hx.out.mono ?_
        rintro e w' ⟨rfl, rfl⟩
        go_wp2
        go_roundw
        case rel =>
          refine ⟨k + 1, by omega, by go_num, by trivial, Lib.hid (fun x hx => ?_)⟩
          rw [List.take_succ_eq_append_getElem hlt, List.mem_append] at hx
          rcases hx with hx | hx
          · exact hall.out x hx
          · rw [List.mem_singleton.1 hx]; exact Hs.out
        case measure => simp [intOf]; omega
      · rw [hs] at hx
        have Hs := Lib.hid hs
        have Hx := Lib.hid hx
        clear hs hx hat
        go_wp2_with fail
        refine Hx.out.mono ?_
        rintro e w' ⟨rfl, rfl⟩
        go_wp2
        go_ret
        exact ⟨by rw [place_hit hlt hall.out Hs.out]; rfl, rfl⟩
    · go_wp2
      go_ret
      have hkl : k = l.length := by omega
      subst hkl
      have h1 := hall.out
      rw [List.take_length] at h1
      exact ⟨by rw [place_none h1]; rfl, rfl⟩

theorem placeOf_c (l : List (List UInt8)) (b : List UInt8) (A A' : Option Addr) (c c' L B B' : Nat) (w : World) (hB : B ≤ w.heap.size) (hB' : B' ≤ w.heap.size) (h : BsL w L B A l) (h' : RB w B' A' b) :
    Calls Try.prog 62 #[.slice A l.length c, .slice A' b.length c'] w fun e w' => e = .returned (.int .i64 (placeOf l b)) ∧ Below w.heap.size w w' := by
  have hb0 : Below w.heap.size w (w.alloc (.cells #[.slice A' b.length c'] 22)) := (Below.refl _ _).alloc (Nat.le_refl _) _
  have hx := indexFunc_c l b A A' c c' L B B' w.heap.size (w.alloc (.cells #[.slice A' b.length c'] 22)) ((Blk.new w _ _).cell_of 0 rfl) (h.below (hb0.mono hB)) (h'.below (hb0.mono hB'))
  have Hx := Lib.hid hx
  clear hx h h'
  go_enter Try.func62, Try.ntmps62
  go_wp2_with fail
  refine Hx.out.mono ?_
  rintro e w' ⟨rfl, rfl⟩
  go_wp2
  go_ret
  exact ⟨rfl, hb0⟩

theorem BsL.take_ {w : World} {L B : Nat} {A : Option Addr} {l : List (List UInt8)} (h : BsL w L B A l) (k : Nat) (hk : k ≤ l.length) : BsL w L B A (l.take k) := by
  have hlen : (l.take k).length = k := by rw [List.length_take]; omega
  refine ⟨by have := h.1; rw [hlen]; omega, fun hp => ?_⟩
  obtain ⟨ad, eA, hL, hB, hs⟩ := h.2 (by omega)
  refine ⟨ad, eA, hL, hB, fun j hj => ?_⟩
  have hjl : j < l.length := by omega
  have := hs j hjl
  rw [List.getElem_take]
  exact this

/-- are names unlike? -/
def unl (l : List (List UInt8)) : Bool := (List.range l.length).all fun i => decide (placeOf (l.take i) (l[i]?.getD []) < 0)
theorem unl_no {l : List (List UInt8)} {k : Nat} (hk : k < l.length) (h : 0 ≤ placeOf (l.take k) l[k]) : unl l = false := by
  unfold unl
  rw [List.all_eq_false]
  refine ⟨k, List.mem_range.2 hk, ?_⟩
  rw [List.getElem?_eq_getElem hk]
  simp; omega
theorem unl_yes {l : List (List UInt8)} (h : ∀ k (hk : k < l.length), placeOf (l.take k) l[k] < 0) : unl l = true := by
  unfold unl
  rw [List.all_eq_true]
  intro k hk
  have hk' := List.mem_range.1 hk
  rw [List.getElem?_eq_getElem hk']
  simpa using h k hk'

set_option maxHeartbeats 2000000 in
theorem unlike_c (l : List (List UInt8)) (A : Option Addr) (c L B : Nat) (w : World) (hc : l.length ≤ c) (hcm : c ≤ maxLen) (hB : B ≤ w.heap.size) (h : BsL w L B A l) :
    Calls Try.prog 78 #[.slice A l.length c] w fun e w' => e = .returned (.bool (unl l)) ∧ Below w.heap.size w w' := by
  have hm := h.1
  unfold maxLen at hm hcm
  go_enter Try.func78, Try.ntmps78
  go_wp2
  go_loopw [7] (fun i wr => ∃ (k : Nat), k ≤ l.length ∧ i = .int .i64 k ∧ Below w.heap.size w wr ∧ Hid (∀ j (hj : j < l.length), j < k → placeOf (l.take j) l[j] < 0)) (fun i _ => l.length - (intOf i).toNat)
  case atStart => exact ⟨0, Nat.zero_le _, rfl, Below.refl _ _, Lib.hid (fun j _ h0 => by omega)⟩
  case round =>
    obtain ⟨k, hk, rfl, hbl, hall⟩ := hrel
    by_cases hlt : k < l.length
    · have hw := h.below (hbl.mono hB)
      obtain ⟨ad, rfl, _, hb, hat⟩ := hw.2 (by omega)
      obtain ⟨A1, c1, hcell, hR, hm1⟩ := hat k hlt
      have hBr : B ≤ wr.heap.size := Nat.le_trans hB hbl.size
      have hx := placeOf_c (l.take k) l[k] (some ad) A1 c c1 L B B wr hBr hBr (hw.take_ k hk) hR.1
      rw [show (l.take k).length = k by rw [List.length_take]; omega] at hx
      have hpl := place_le (l.take k) l[k]
      have Hx := Lib.hid hx
      clear hx hat
      go_wp2_with fail
      refine Hx.out.mono ?_
      rintro e w2 ⟨rfl, hb2⟩
      have hbn := hbl.trans (hb2.mono hbl.size)
      by_cases hp : 0 ≤ placeOf (l.take k) l[k]
      · go_wp2
        go_ret
        exact ⟨ret_bool' (unl_no hlt hp), hbn⟩
      · have hp' : placeOf (l.take k) l[k] < 0 := by omega
        have Hp := Lib.hid hp'
        clear hp
        go_wp2
        go_roundw
        case rel =>
          refine ⟨k + 1, by omega, by go_num, hbn, Lib.hid (fun j hj hjk => ?_)⟩
          rcases Nat.lt_or_ge j k with h1 | h1
          · exact hall.out j hj h1
          · obtain rfl : j = k := by omega
            exact Hp.out
        case measure => simp [intOf]; omega
    · go_wp2
      go_ret
      have hkl : k = l.length := by omega
      subst hkl
      exact ⟨ret_bool' (unl_yes fun j hj => hall.out j hj hj), hbl⟩
end Go.Proofs.Ytmejbmfopdfbjaa
