/-
  Kept: the program's and the model's answer the same, at every list of bytes.
-/
import Derived.Test.YtmejbmfopdfbjaaBytes
import Derived.Laws.BytesString
import Derived.Laws.BytesArg
namespace Go.Proofs.Ytmejbmfopdfbjaa
open Go.RowKit

/-- a list of bytes as a string's value -/
def str (l : List UInt8) : Value := .string ⟨l.toArray⟩

theorem run_convert_RB {P : Program} {w : World} {B : Nat} {A : Option Addr} {l : List UInt8} (h : RB w B A l) (src e dst c : Nat) (hs : P.underlying src = some (.slice e)) (he : P.underlying e = some (.int .u8)) (hd : P.underlying dst = some .string) :
    (Go.convert src dst (Value.slice A l.length c)).run P w = .ok (.string ⟨l.toArray⟩) w := by
  rw [run_convert_bytes_string w src dst e A l.length c hs he hd]
  rcases A with _ | ad
  · have : l = [] := by
      rcases Nat.eq_zero_or_pos l.length with h0 | h0
      · exact List.eq_nil_of_length_eq_zero h0
      · obtain ⟨ad, e, _⟩ := h.at_ h0
        cases e
    subst this
    simp [Conv.bytesToString]
    rfl
  · have hl := run_loadCells_list (P := P) w ad (vb l) (fun j v hj => by
      have hj' : j < l.length := by
        rcases Nat.lt_or_ge j l.length with h1 | h1
        · exact h1
        · rw [List.getElem?_eq_none (by rw [vb_len]; exact h1)] at hj
          cases hj
      obtain ⟨ad', e, _, hc⟩ := h.2 (by omega)
      cases e
      exact hc j v hj)
    have hm : (vb l) = (l.map fun b => (b.toNat : Int)).map (Value.int .u8) := by simp [vb]
    rw [vb_len, hm] at hl
    rw [run_bytesToString w ad l.length c _ hl, foldl_push_bytes]
    congr 2
    show ByteArray.mk _ = ByteArray.mk _
    congr 1
    apply Array.ext'
    rw [Array.toList_append, List.map_map]
    show [] ++ List.map _ l = l
    rw [List.nil_append]
    conv => rhs; rw [← List.map_id l]
    apply List.map_congr_left
    intro b _
    simp

/-- the words that are the language's own -/
def kws : List (List UInt8) := [[102, 117, 110, 99], [108, 101, 116], [115, 101, 116], [112, 114, 105, 110, 116], [114, 101, 116, 117, 114, 110], [105, 102], [101, 108, 115, 101], [119, 104, 105, 108, 101], [100, 111], [110, 105, 108], [110, 101, 119], [119, 101, 97, 107], [108, 105, 118, 101]]
def kept (l : List UInt8) : Bool := kws.contains l
def kwArr : Array Value := (kws.map fun k => str k).toArray
theorem kept_no {l : List UInt8} (h : (kws.take kws.length).all (fun k => !(k == l)) = true) : kept l = false := by
  rw [List.take_length, List.all_eq_true] at h
  unfold kept
  rw [List.contains_eq_any_beq, List.any_eq_false]
  intro x hx
  have := h x hx
  simp at this
  simp
  intro e
  exact this e.symm
theorem kept_yes {l : List UInt8} {k : Nat} (hk : k < kws.length) (h : (kws[k] == l) = true) : kept l = true := by
  unfold kept
  rw [List.contains_iff_mem]
  rw [← eq_of_beq h]
  exact List.getElem_mem hk
theorem kws_next {l : List UInt8} {k : Nat} (hk : k < kws.length) (ha : (kws.take k).all (fun k => !(k == l)) = true) (h : (kws[k] == l) = false) : (kws.take (k + 1)).all (fun k => !(k == l)) = true := by
  rw [List.take_succ_eq_append_getElem hk, List.all_append, ha]
  simp [h]

set_option maxRecDepth 100000 in
set_option maxHeartbeats 1000000 in
theorem implKept_c (l : List UInt8) (A : Option Addr) (c B : Nat) (w : World) (h : RB w B A l) :
    Calls Try.prog 121 #[.slice A l.length c] w fun e w' => e = .returned (.bool (kept l)) ∧ w = w' := by
  have hcv := run_convert_RB (P := Try.prog) h 22 5 9 c Try.underlying22 Try.underlying5 Try.underlying9
  go_enter Try.func121, Try.ntmps121
  go_wp2
  all_goals
    go_ret
    refine ⟨?_, rfl⟩
    apply congrArg (fun b => Ending.returned (Value.bool b))
    simp_all [kept, kws]

set_option maxRecDepth 100000 in
set_option maxHeartbeats 1000000 in
theorem l1kept_c (l : List UInt8) (w : World) :
    Calls Try.prog 108 #[.string ⟨l.toArray⟩] w fun e w' => e = .returned (.bool (kept l)) ∧ Below w.heap.size w w' := by
  go_enter Try.func108, Try.ntmps108
  go_wp2
  go_loopw [4] (fun i wr => ∃ (k : Nat), k ≤ 13 ∧ i = .int .i64 k ∧ Blk wr w.heap.size 9 kwArr ∧ Below w.heap.size w wr ∧ Hid ((kws.take k).all (fun k => !(k == l)) = true)) (fun i _ => 13 - (intOf i).toNat)
  case atStart => exact ⟨0, Nat.zero_le _, rfl, Blk.new _ _ _, (Below.refl _ _).alloc (Nat.le_refl _) _, Lib.hid (by simp)⟩
  case round =>
    obtain ⟨k, hk, rfl, hB, hb, ha⟩ := hrel
    by_cases hlt : k < 13
    · have hlt' : k < kws.length := hlt
      have hcell : wr.cell? ⟨w.heap.size, k, none⟩ = some (.string ⟨(kws[k]).toArray⟩) := by
        rw [hB.cell]
        simp [kwArr, str, hlt']
      cases hs : (kws[k] == l)
      · have Hs := Lib.hid hs
        go_wp2
        go_roundw
        case rel => exact ⟨k + 1, by omega, by go_num, hB, hb, Lib.hid (kws_next hlt' ha.out Hs.out)⟩
        case measure => simp [intOf]; omega
      · have Hs := Lib.hid hs
        go_wp2
        go_ret
        exact ⟨by rw [kept_yes hlt' Hs.out]; rfl, hb⟩
    · go_wp2
      go_ret
      have : k = kws.length := by show k = 13; omega
      subst this
      exact ⟨by rw [kept_no ha.out]; rfl, hb⟩

theorem specKept_c (l : List UInt8) (A : Option Addr) (c B : Nat) (w : World) (h : RB w B A l) :
    Calls Try.prog 84 #[.slice A l.length c] w fun e w' => e = .returned (.bool (kept l)) ∧ Below w.heap.size w w' := by
  have hcv := run_convert_RB (P := Try.prog) h 22 5 9 c Try.underlying22 Try.underlying5 Try.underlying9
  go_enter Try.func84, Try.ntmps84
  go_wp2_with fail
  refine (l1kept_c l _).mono ?_
  rintro e w1 ⟨rfl, hb1⟩
  go_wp2
  go_ret
  exact ⟨rfl, hb1⟩
end Go.Proofs.Ytmejbmfopdfbjaa
