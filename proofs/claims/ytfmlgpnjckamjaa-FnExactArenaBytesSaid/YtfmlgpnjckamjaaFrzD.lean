/-
  An arena's bytes, as a function over lists; how many they may be.
-/
import Derived.Test.YtfmlgpnjckamjaaFrzN
import Derived.Test.YtfmlgpnjckamjaaMroom
namespace Go.Proofs.Ytfmlgpnjckamjaa
open Go.RowKit
set_option linter.unusedVariables false
set_option linter.unusedSimpArgs false
namespace Frz

/-- a byte of a number -/
def b1 (n : Int) : List UInt8 := [byAt n 0]
theorem b1_cell (n : Int) : (#[.int .u8 (n % 256)] : Array Value).toList = vb (b1 n) := by
  have := byAt_cell n 0
  rwa [show n / (2 : Int) ^ 0 = n from Int.ediv_one n] at this
theorem b1_cell' {n : Int} (h0 : 0 ≤ n) (h1 : n < 256) : (#[.int .u8 n] : Array Value).toList = vb (b1 n) := by
  have := b1_cell n
  rwa [show n % 256 = n from by omega] at this
def valB (k n g : Int) : List UInt8 := b1 k ++ by8 n ++ by8 g
theorem valB_len (k n g : Int) : (valB k n g).length = 17 := by
  unfold valB
  rw [List.length_append, List.length_append, by8_len, by8_len]; rfl
/-- the first k of a row of things, one behind the other -/
def catTo {α : Type} (f : α → List UInt8) (l : List α) (k : Nat) : List UInt8 := (l.take k).flatMap f
theorem catTo_zero {α : Type} (f : α → List UInt8) (l : List α) : catTo f l 0 = [] := rfl
theorem catTo_succ {α : Type} {f : α → List UInt8} {l : List α} {k : Nat} (h : k < l.length) : catTo f l (k + 1) = catTo f l k ++ f l[k] := by
  unfold catTo
  rw [List.take_succ_eq_append_getElem h, List.flatMap_append]
  simp
theorem catTo_len {α : Type} {f : α → List UInt8} {l : List α} {m : Nat} (hm : ∀ j (hj : j < l.length), (f l[j]).length ≤ m) : ∀ k, k ≤ l.length → (catTo f l k).length ≤ m * k
  | 0, _ => by simp [catTo_zero]
  | k + 1, hk => by
    rw [catTo_succ (by omega), List.length_append]
    have h1 := catTo_len hm k (by omega)
    have h2 := hm k (by omega)
    have e : m * (k + 1) = m * k + m := Nat.mul_succ m k
    omega
def numB (n : Int) : List UInt8 := by8 n
def lstB (l : List Int) : List UInt8 := by8 l.length ++ catTo by8 l l.length
def nmB (nm : List UInt8) : List UInt8 := b1 nm.length ++ nm
def fdB (f : Fd) : List UInt8 := nmB f.name ++ valB f.k f.n f.g
def slH (s : Sl) : List UInt8 := b1 (if s.live then 1 else 0) ++ by8 s.gen ++ by8 s.count
def slB (s : Sl) : List UInt8 := slH s ++ by8 s.fs.length ++ catTo fdB s.fs s.fs.length
def slsB (S : List Sl) : List UInt8 := by8 S.length ++ catTo slB S S.length
def arB (a : Ar) : List UInt8 := slsB a.slots ++ lstB a.queue ++ lstB a.purple
def frzB (a : Ar) : List UInt8 := if arOk a then arB a else []
/-- what an arena that may be has -/
structure Small (a : Ar) : Prop where
  s : a.slots.length ≤ 16
  q : a.queue.length ≤ 500
  p : a.purple.length ≤ 16
  f : ∀ i (hi : i < a.slots.length), a.slots[i].fs.length ≤ 1050000
  n : ∀ i (hi : i < a.slots.length) j (hj : j < a.slots[i].fs.length), a.slots[i].fs[j].name.length ≤ 6
theorem small_of {a : Ar} (h : arOk a = true) (hsz : arSz a ≤ 1050000) : Small a := by
  unfold arOk at h
  simp only [Bool.and_eq_true, decide_eq_true_eq] at h
  obtain ⟨⟨⟨⟨⟨⟨⟨⟨h1, h2⟩, h3⟩, h4⟩, h5⟩, h6⟩, h7⟩, h8⟩, h9⟩ := h
  refine ⟨h2, h3, h4, fun i hi => ?_, fun i hi j hj => ?_⟩
  · have h1 : fsSz a.slots[i].fs ≤ (a.slots.map slSz).sum := sum_get slSz hi
    unfold fsSz at h1
    unfold arSz slsSz at hsz
    omega
  · rw [List.all_eq_true] at h7
    have hs := h7 _ (List.getElem_mem hi)
    unfold slOk at hs
    rw [Bool.and_eq_true] at hs
    obtain ⟨-, hf⟩ := hs
    unfold fdsOk at hf
    rw [List.all_eq_true] at hf
    have hfj := hf j (List.mem_range.2 hj)
    cases hw : wordOk a.slots[i].fs[j].name
    · rw [fdAt_word hj hw] at hfj; cases hfj
    · exact wordOk_len hw
theorem fdB_len {f : Fd} (h : f.name.length ≤ 6) : (fdB f).length ≤ 24 := by
  unfold fdB nmB
  rw [List.length_append, List.length_append, valB_len]
  show 1 + _ + 17 ≤ 24
  omega
theorem slB_len {s : Sl} (h : s.fs.length ≤ 1050000) (hn : ∀ j (hj : j < s.fs.length), s.fs[j].name.length ≤ 6) : (slB s).length ≤ 30000000 := by
  unfold slB slH
  have := catTo_len (f := fdB) (fun j hj => fdB_len (hn j hj)) s.fs.length (Nat.le_refl _)
  simp only [List.length_append, by8_len]
  show 1 + 8 + 8 + 8 + _ ≤ _
  omega
theorem lst_len (l : List Int) {k : Nat} (hk : k ≤ l.length) : (catTo by8 l k).length ≤ 8 * k := catTo_len (f := by8) (fun j hj => by rw [by8_len]; omega) k hk
theorem arB_len {a : Ar} (h : Small a) : (arB a).length ≤ 500000000 := by
  unfold arB slsB lstB
  have h1 := catTo_len (f := slB) (fun j hj => slB_len (h.f j hj) (h.n j hj)) a.slots.length (Nat.le_refl _)
  have h2 := lst_len a.queue (Nat.le_refl _)
  have h3 := lst_len a.purple (Nat.le_refl _)
  have := h.s
  have := h.q
  have := h.p
  simp only [List.length_append, by8_len]
  omega
theorem frzB_bd {a : Ar} (hsz : arSz a ≤ 1050000) : (frzB a).length ≤ 500000000 := by
  unfold frzB
  split
  · rename_i h
    exact arB_len (small_of h hsz)
  · simp
end Frz
end Go.Proofs.Ytfmlgpnjckamjaa
