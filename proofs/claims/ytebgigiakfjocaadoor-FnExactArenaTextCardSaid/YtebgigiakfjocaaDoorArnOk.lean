/-
  Arenas that may be: the words.
-/
import Derived.Test.YtebgigiakfjocaaDoorArnVal
import Derived.Test.YtebgigiakfjocaaDoorWord
import Derived.Lib.Bytealg
import Derived.Laws.BytesString
import Derived.Laws.BytesArg
namespace Go.Proofs.YtebgigiakfjocaaDoor
open Go.RowKit
set_option linter.unusedVariables false

theorem convert_RB {P : Program} {w : World} {B : Nat} {A : Option Addr} {l : List UInt8} (h : RB w B A l) (src e dst c : Nat) (hs : P.underlying src = some (.slice e)) (he : P.underlying e = some (.int .u8)) (hd : P.underlying dst = some .string) :
    (Go.convert src dst (Value.slice A l.length c)).run P w = .ok (.string ⟨l.toArray⟩) w := by
  rw [run_convert_bytes_string w src dst e A l.length c hs he hd]
  rcases A with _ | ad
  · have : l = [] := by
      rcases Nat.eq_zero_or_pos l.length with h0 | h0
      · exact List.eq_nil_of_length_eq_zero h0
      · obtain ⟨ad, e, _⟩ := h.at_ h0
        cases e
    subst this
    simp [Conv.bytesToString]
    rfl
  · have hl := run_loadCells_list (P := P) w ad (vb l) (fun j v hj => by
      have hj' : j < l.length := by
        rcases Nat.lt_or_ge j l.length with h1 | h1
        · exact h1
        · rw [List.getElem?_eq_none (by rw [vb_len]; exact h1)] at hj
          cases hj
      obtain ⟨ad', e, _, hc⟩ := h.2 (by omega)
      cases e
      exact hc j v hj)
    have hm : (vb l) = (l.map fun b => (b.toNat : Int)).map (Value.int .u8) := by simp [vb]
    rw [vb_len, hm] at hl
    rw [run_bytesToString w ad l.length c _ hl, foldl_push_bytes]
    congr 2
    show ByteArray.mk _ = ByteArray.mk _
    congr 1
    apply Array.ext'
    rw [Array.toList_append, List.map_map]
    show [] ++ List.map _ l = l
    rw [List.nil_append]
    conv => rhs; rw [← List.map_id l]
    apply List.map_congr_left
    intro b _
    simp

/-- is a field, at its place, as it may be? -/
def fdAt (S : List Sl) (fs : List Fd) (k : Nat) : Bool :=
  match fs[k]? with
  | none => true
  | some f => wordOk f.name && valOk S f.k f.n f.g && (match k with
    | 0 => true
    | j + 1 => match fs[j]? with
      | none => true
      | some e => Op.bytesLess e.name f.name)
def fdsOk (S : List Sl) (fs : List Fd) : Bool := (List.range fs.length).all (fdAt S fs)
/-- a slot but for its fields' insides -/
def slBd (s : Sl) : Bool := decide (0 ≤ s.gen) && decide (s.gen ≤ 1000000) && decide (0 ≤ s.count) && decide (s.count ≤ 1000000) && (if s.live then !(s.gen == 0) && !(s.count == 0) else s.count == 0 && s.fs.length == 0)
def slOk (S : List Sl) (s : Sl) : Bool := slBd s && fdsOk S s.fs
def liveAt (S : List Sl) (n : Int) : Bool := match slotAt S n with | some s => s.live | none => false
def purAt (S : List Sl) (P : List Int) (i : Nat) : Bool :=
  match P[i]? with
  | none => true
  | some x => liveAt S x && !(P.take i).contains x
def arOk (a : Ar) : Bool :=
  decide (1 ≤ a.slots.length) && decide (a.slots.length ≤ 16) && decide (a.queue.length ≤ 500) && decide (a.purple.length ≤ 16) && inAll a.queue a.slots.length && inAll a.purple a.slots.length &&
  a.slots.all (slOk a.slots) && a.queue.all (liveAt a.slots) && (List.range a.purple.length).all (purAt a.slots a.purple)

theorem range_next {p : Nat → Bool} {k : Nat} (h : (List.range k).all p = true) (hp : p k = true) : (List.range (k + 1)).all p = true := by
  rw [List.range_succ, List.all_append, h]; simp [hp]
theorem range_not {p : Nat → Bool} {n k : Nat} (hk : k < n) (hp : p k = false) : (List.range n).all p = false := by
  rw [List.all_eq_false]
  exact ⟨k, List.mem_range.2 hk, by simp [hp]⟩
section
variable {α : Type}
theorem all_next {p : α → Bool} {l : List α} {k : Nat} (h : (l.take k).all p = true) (hk : k < l.length) (hp : p l[k] = true) : (l.take (k + 1)).all p = true := by
  rw [List.take_succ_eq_append_getElem hk, List.all_append, h]; simp [hp]
theorem all_not {p : α → Bool} {l : List α} {k : Nat} (hk : k < l.length) (hp : p l[k] = false) : l.all p = false := by
  rw [List.all_eq_false]
  exact ⟨l[k], List.getElem_mem hk, by simp [hp]⟩
end
theorem fdAt_zero {S : List Sl} {fs : List Fd} (h : 0 < fs.length) : fdAt S fs 0 = (wordOk fs[0].name && valOk S fs[0].k fs[0].n fs[0].g) := by
  unfold fdAt
  rw [List.getElem?_eq_getElem h]
  simp
theorem fdAt_succ {S : List Sl} {fs : List Fd} {k : Nat} (h : k + 1 < fs.length) : fdAt S fs (k + 1) = (wordOk fs[k + 1].name && valOk S fs[k + 1].k fs[k + 1].n fs[k + 1].g && Op.bytesLess fs[k].name fs[k + 1].name) := by
  unfold fdAt
  rw [List.getElem?_eq_getElem h]
  simp only [List.getElem?_eq_getElem (show k < fs.length by omega)]
theorem fdAt_word {S : List Sl} {fs : List Fd} {k : Nat} (h : k < fs.length) (hw : wordOk fs[k].name = false) : fdAt S fs k = false := by
  unfold fdAt
  rw [List.getElem?_eq_getElem h]
  simp [hw]
theorem fdAt_val {S : List Sl} {fs : List Fd} {k : Nat} (h : k < fs.length) (hv : valOk S fs[k].k fs[k].n fs[k].g = false) : fdAt S fs k = false := by
  unfold fdAt
  rw [List.getElem?_eq_getElem h]
  simp [hv]
theorem purAt_eq {S : List Sl} {P : List Int} {k : Nat} (h : k < P.length) : purAt S P k = (liveAt S P[k] && !(P.take k).contains P[k]) := by
  unfold purAt
  rw [List.getElem?_eq_getElem h]
theorem liveAt_eq {S : List Sl} {k : Nat} (h : k < S.length) : liveAt S k = S[k].live := by
  unfold liveAt slotAt
  rw [if_pos (by omega), show ((k : Int)).toNat = k by omega, List.getElem?_eq_getElem h]

theorem wordOk_len {l : List UInt8} (h : wordOk l = true) : l.length ≤ 6 := by
  unfold wordOk at h
  simp only [Bool.and_eq_true, decide_eq_true_eq] at h
  exact h.1.2
theorem inAll_get {l : List Int} {n : Int} (h : inAll l n = true) {k : Nat} (hk : k < l.length) : 0 ≤ l[k] ∧ l[k] < n := by
  unfold inAll at h
  rw [List.all_eq_true] at h
  have := h l[k] (List.getElem_mem hk)
  simpa using this

/-- bytes behind one another, two ways of telling -/
theorem compare_less : ∀ (a b : List UInt8), (0 ≤ Lib.compareBytes a b) = (Op.bytesLess a b = false)
  | [], [] => by simp [Lib.compareBytes, Op.bytesLess]
  | [], _ :: _ => by simp [Lib.compareBytes, Op.bytesLess]
  | _ :: _, [] => by simp [Lib.compareBytes, Op.bytesLess]
  | x :: a, y :: b => by
    have ih := compare_less a b
    unfold Lib.compareBytes Op.bytesLess
    by_cases h1 : x < y
    · simp [h1]
    · by_cases h2 : y < x
      · have hne : ¬ x = y := by rintro rfl; exact h1 h2
        simp [h1, h2, hne]
      · have : x = y := UInt8.le_antisymm (UInt8.not_lt.1 h2) (UInt8.not_lt.1 h1)
        subst this
        simp [h1, ih]
end Go.Proofs.YtebgigiakfjocaaDoor
