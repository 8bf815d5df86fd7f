/-
  An arena's text, as a function over lists; how long it may be.
-/
import Derived.Test.YtebgigiakfjocaaDoorArnOk
import Derived.Test.YtebgigiakfjocaaDoorDig
namespace Go.Proofs.YtebgigiakfjocaaDoor
open Go.RowKit
set_option linter.unusedVariables false

/-- whom a field refers to -/
def refTxt (f : Fd) : List UInt8 := if f.k = 2 then 62 :: Lib.decDigits f.n.toNat else []
def fdTxt (f : Fd) : List UInt8 := 32 :: (f.name ++ refTxt f)
def fdsTo (l : List Fd) : Nat → List UInt8
  | 0 => []
  | k + 1 => fdsTo l k ++ fdTxt (l.getD k ⟨[], 0, 0, 0⟩)
def liveB : List UInt8 := [108, 105, 118, 101, 32]
def emptyB : List UInt8 := [101, 109, 112, 116, 121]
def slHead (s : Sl) : List UInt8 := if s.live then liveB ++ Lib.decDigits s.count.toNat else emptyB
def slTxt (s : Sl) : List UInt8 := slHead s ++ fdsTo s.fs s.fs.length
def slLine (i : Nat) (s : Sl) : List UInt8 := Lib.decDigits i ++ (32 :: (slTxt s ++ [10]))
def slsTo (S : List Sl) : Nat → List UInt8
  | 0 => []
  | k + 1 => slsTo S k ++ slLine k (S.getD k ⟨false, 0, 0, []⟩)
def arTxt (a : Ar) : List UInt8 := if arOk a then slsTo a.slots a.slots.length else []

theorem getD_in {α : Type} {l : List α} {k : Nat} (h : k < l.length) (d : α) : l.getD k d = l[k] := by rw [List.getD_eq_getElem?_getD, List.getElem?_eq_getElem h]; rfl
theorem fdsTo_succ {l : List Fd} {k : Nat} (h : k < l.length) : fdsTo l (k + 1) = fdsTo l k ++ fdTxt l[k] := by
  show fdsTo l k ++ fdTxt (l.getD k _) = _
  rw [getD_in h]
theorem slsTo_succ {S : List Sl} {k : Nat} (h : k < S.length) : slsTo S (k + 1) = slsTo S k ++ slLine k S[k] := by
  show slsTo S k ++ slLine k (S.getD k _) = _
  rw [getD_in h]
theorem dig_len (n : Nat) (h : n < 10000000000) : (Lib.decDigits n).length ≤ 10 := by
  rw [Lib.decDigits_length]
  exact nDigits_le n h

/-- a field, a slot as the text wants them -/
def FdB (f : Fd) : Prop := f.name.length ≤ 6 ∧ (f.k = 2 → 0 ≤ f.n ∧ f.n ≤ 15)
def SlB (s : Sl) : Prop := 0 ≤ s.count ∧ s.count ≤ 1000000 ∧ ∀ j (h : j < s.fs.length), FdB s.fs[j]
theorem fdTxt_len {f : Fd} (h : FdB f) : (fdTxt f).length ≤ 18 := by
  unfold fdTxt refTxt
  have h1 := h.1
  split
  · rename_i hk
    have h2 := h.2 hk
    have := dig_len f.n.toNat (by omega)
    simp only [List.length_cons, List.length_append]
    omega
  · simp only [List.length_cons, List.length_append, List.length_nil]
    omega
theorem fdsTo_len {l : List Fd} (h : ∀ j (hj : j < l.length), FdB l[j]) : ∀ k, k ≤ l.length → (fdsTo l k).length ≤ 18 * k
  | 0, _ => by simp [fdsTo]
  | k + 1, hk => by
    rw [fdsTo_succ (by omega), List.length_append]
    have := fdsTo_len h k (by omega)
    have := fdTxt_len (h k (by omega))
    omega
theorem slHead_len {s : Sl} (h : SlB s) : (slHead s).length ≤ 15 := by
  unfold slHead
  split
  · have := dig_len s.count.toNat (by have := h.2.1; omega)
    rw [List.length_append]
    show 5 + _ ≤ 15
    omega
  · show 5 ≤ 15
    omega
theorem slTxt_len {s : Sl} (h : SlB s) (hl : s.fs.length ≤ 1048576) : (slTxt s).length ≤ 20000000 := by
  unfold slTxt
  rw [List.length_append]
  have := slHead_len h
  have := fdsTo_len h.2.2 s.fs.length (Nat.le_refl _)
  omega
theorem slLine_len {i : Nat} {s : Sl} (hi : i < 16) (h : SlB s) (hl : s.fs.length ≤ 1048576) : (slLine i s).length ≤ 20000020 := by
  unfold slLine
  have := slTxt_len h hl
  have := dig_len i (by omega)
  simp only [List.length_append, List.length_cons, List.length_nil]
  omega
theorem slsTo_len {S : List Sl} (h16 : S.length ≤ 16) (h : ∀ j (hj : j < S.length), SlB S[j] ∧ S[j].fs.length ≤ 1048576) : ∀ k, k ≤ S.length → (slsTo S k).length ≤ 20000020 * k
  | 0, _ => by simp [slsTo]
  | k + 1, hk => by
    rw [slsTo_succ (by omega), List.length_append]
    have := slsTo_len h16 h k (by omega)
    have := slLine_len (i := k) (by omega) (h k (by omega)).1 (h k (by omega)).2
    omega

/-- what an arena that may be has -/
theorem arOk_txt {a : Ar} (h : arOk a = true) : a.slots.length ≤ 16 ∧ ∀ k (hk : k < a.slots.length), SlB a.slots[k] := by
  unfold arOk at h
  simp only [Bool.and_eq_true, decide_eq_true_eq] at h
  obtain ⟨⟨⟨⟨⟨⟨⟨⟨h1, h2⟩, h3⟩, h4⟩, h5⟩, h6⟩, h7⟩, h8⟩, h9⟩ := h
  refine ⟨h2, fun k hk => ?_⟩
  rw [List.all_eq_true] at h7
  have hs := h7 _ (List.getElem_mem hk)
  unfold slOk at hs
  rw [Bool.and_eq_true] at hs
  obtain ⟨hb, hf⟩ := hs
  unfold slBd at hb
  simp only [Bool.and_eq_true, decide_eq_true_eq] at hb
  refine ⟨hb.1.1.2, hb.1.2, fun j hj => ?_⟩
  unfold fdsOk at hf
  rw [List.all_eq_true] at hf
  have hfj := hf j (List.mem_range.2 hj)
  refine ⟨?_, fun hk2 => ?_⟩
  · cases hw : wordOk a.slots[k].fs[j].name
    · rw [fdAt_word hj hw] at hfj; cases hfj
    · exact wordOk_len hw
  · cases hv : valOk a.slots a.slots[k].fs[j].k a.slots[k].fs[j].n a.slots[k].fs[j].g
    · rw [fdAt_val hj hv] at hfj; cases hfj
    · rw [hk2] at hv
      unfold valOk at hv
      rw [if_neg (by decide), if_neg (by decide), if_pos rfl] at hv
      rcases slotAt_cases a.slots a.slots[k].fs[j].n with ⟨e, _⟩ | ⟨m, hm, e, _⟩
      · rw [e] at hv; cases hv
      · omega
theorem fs_len {a : Ar} (h : arSz a ≤ 1048576) {j : Nat} (hj : j < a.slots.length) : a.slots[j].fs.length ≤ 1048576 := by
  have h1 : fsSz a.slots[j].fs ≤ (a.slots.map slSz).sum := sum_get slSz hj
  unfold fsSz at h1
  unfold arSz slsSz at h
  omega
theorem arTxt_bd {a : Ar} (h : arSz a ≤ 1048576) : (arTxt a).length ≤ 400000000 := by
  unfold arTxt
  split
  · rename_i hok
    obtain ⟨h16, hs⟩ := arOk_txt hok
    have := slsTo_len h16 (fun j hj => ⟨hs j hj, fs_len h hj⟩) a.slots.length (Nat.le_refl _)
    omega
  · simp
end Go.Proofs.YtebgigiakfjocaaDoor
