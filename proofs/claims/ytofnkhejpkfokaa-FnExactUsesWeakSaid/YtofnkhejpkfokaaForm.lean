/-
  What a program's form is, how many parts it has, how deep they are: plain words; and worlds that differ in one block.
-/
import Derived.Test.YtofnkhejpkfokaaFn
import Derived.Test.YtofnkhejpkfokaaWord
import Derived.Test.YtofnkhejpkfokaaKept
namespace Go.Proofs.Ytofnkhejpkfokaa
open Go.RowKit
set_option linter.unusedVariables false

def nameOk (l : List UInt8) : Bool := wordOk l && !kept l
def isBin (n : Int) : Bool := n == 43 || n == 45 || n == 42 || n == 60 || n == 61

def exOk1 (k n : Int) (name : List UInt8) (na : Nat) : Bool :=
  if k = 0 ∨ k = 3 then n == 0 && name.length == 0 && na == 0
  else if k = 1 then decide (0 ≤ n) && decide (n ≤ 999999) && name.length == 0 && na == 0
  else if k = 2 then n == 0 && nameOk name && na == 0
  else if k = 4 then n == 0 && nameOk name && na == 1
  else if k = 5 then n == 0 && nameOk name && decide (na ≤ 3)
  else if k = 6 then isBin n && name.length == 0 && na == 2
  else if k = 7 ∨ k = 8 then n == 0 && name.length == 0 && na == 1
  else false
def exNone : Ex → Bool
  | .mk k n name args => k == 0 && n == 0 && name.length == 0 && args.length == 0
def stOk1 (k : Int) (name : List UInt8) (f : Ex) (nb ne : Nat) : Bool :=
  if k = 0 ∨ k = 1 then nameOk name && exNone f && nb == 0 && ne == 0
  else if k = 2 then nameOk name && nb == 0 && ne == 0
  else if k = 3 ∨ k = 4 ∨ k = 7 then name.length == 0 && exNone f && nb == 0 && ne == 0
  else if k = 5 then name.length == 0 && exNone f
  else if k = 6 then name.length == 0 && exNone f && ne == 0
  else false

mutual
def exN : Ex → Nat
  | .mk _ _ _ args => 1 + exsN args
def exsN : List Ex → Nat
  | [] => 0
  | e :: r => exN e + exsN r
end
mutual
def exGood : Ex → Nat → Bool
  | .mk k n name args, d => decide (d ≤ 7) && exOk1 k n name args.length && exsGood args (d + 1)
def exsGood : List Ex → Nat → Bool
  | [], _ => true
  | e :: r, d => exGood e d && exsGood r d
end
mutual
def exDeep : Ex → Nat → Nat
  | .mk _ _ _ args, d => max d (exsDeep args (d + 1))
def exsDeep : List Ex → Nat → Nat
  | [], _ => 0
  | e :: r, d => max (exDeep e d) (exsDeep r d)
end
theorem exN_mk (k n : Int) (name : List UInt8) (args : List Ex) : exN (.mk k n name args) = 1 + exsN args := by rw [exN]
theorem exGood_mk (k n : Int) (name : List UInt8) (args : List Ex) (d : Nat) : exGood (.mk k n name args) d = (decide (d ≤ 7) && exOk1 k n name args.length && exsGood args (d + 1)) := by rw [exGood]
theorem exDeep_mk (k n : Int) (name : List UInt8) (args : List Ex) (d : Nat) : exDeep (.mk k n name args) d = max d (exsDeep args (d + 1)) := by rw [exDeep]
theorem exN_pos (e : Ex) : 1 ≤ exN e := by cases e; rw [exN_mk]; omega
theorem exsN_step : ∀ {l : List Ex} {k : Nat} (hk : k < l.length), exsN (l.take (k + 1)) = exsN (l.take k) + exN l[k]
  | [], k, hk => by simp at hk
  | e :: r, 0, hk => by simp [exsN]
  | e :: r, k + 1, hk => by
    have := exsN_step (l := r) (k := k) (by simpa using hk)
    simp only [List.take_succ_cons, exsN, List.getElem_cons_succ]
    omega
theorem exsN_take : ∀ (l : List Ex) (k : Nat), exsN (l.take k) ≤ exsN l
  | [], k => by simp
  | e :: r, 0 => by simp [exsN]
  | e :: r, k + 1 => by have := exsN_take r k; simp only [List.take_succ_cons, exsN]; omega
theorem exsN_get {l : List Ex} {k : Nat} (hk : k < l.length) : exsN (l.take k) + exN l[k] ≤ exsN l := by rw [← exsN_step hk]; exact exsN_take _ _
theorem exsGood_step : ∀ {l : List Ex} {k d : Nat} (hk : k < l.length), exsGood (l.take (k + 1)) d = (exsGood (l.take k) d && exGood l[k] d)
  | [], k, _, hk => by simp at hk
  | e :: r, 0, d, hk => by simp [exsGood]
  | e :: r, k + 1, d, hk => by
    have := exsGood_step (l := r) (k := k) (d := d) (by simpa using hk)
    simp only [List.take_succ_cons, exsGood, List.getElem_cons_succ]
    rw [this, Bool.and_assoc]
theorem exsGood_get : ∀ {l : List Ex} {k d : Nat} (hk : k < l.length), exsGood l d = true → exGood l[k] d = true
  | [], k, _, hk, _ => by simp at hk
  | e :: r, 0, d, hk, h => by simp [exsGood] at h; exact h.1
  | e :: r, k + 1, d, hk, h => by
    simp [exsGood] at h
    have := exsGood_get (l := r) (k := k) (d := d) (by simpa using hk) h.2
    simpa using this
theorem exsDeep_step : ∀ {l : List Ex} {k d : Nat} (hk : k < l.length), exsDeep (l.take (k + 1)) d = max (exsDeep (l.take k) d) (exDeep l[k] d)
  | [], k, _, hk => by simp at hk
  | e :: r, 0, d, hk => by simp [exsDeep]
  | e :: r, k + 1, d, hk => by
    have := exsDeep_step (l := r) (k := k) (d := d) (by simpa using hk)
    simp only [List.take_succ_cons, exsDeep, List.getElem_cons_succ]
    rw [this, Nat.max_assoc]

mutual
def stN : St → Nat
  | .mk k _ e f body els => 1 + exN e + (if k = 2 then exN f else 0) + stsN body + stsN els
def stsN : List St → Nat
  | [] => 0
  | s :: r => stN s + stsN r
end
mutual
def stGood : St → Nat → Bool
  | .mk k name e f body els, d => decide (d ≤ 7) && stOk1 k name f body.length els.length && exGood e (d + 1) && (k != 2 || exGood f (d + 1)) && stsGood body (d + 1) && stsGood els (d + 1)
def stsGood : List St → Nat → Bool
  | [], _ => true
  | s :: r, d => stGood s d && stsGood r d
end
mutual
def stDeep : St → Nat → Nat
  | .mk k _ e f body els, d => max d (max (exDeep e (d + 1)) (max (if k = 2 then exDeep f (d + 1) else 0) (max (stsDeep body (d + 1)) (stsDeep els (d + 1)))))
def stsDeep : List St → Nat → Nat
  | [], _ => 0
  | s :: r, d => max (stDeep s d) (stsDeep r d)
end
section
variable (k : Int) (name : List UInt8) (e f : Ex) (body els : List St) (d : Nat)
theorem stN_mk : stN (.mk k name e f body els) = 1 + exN e + (if k = 2 then exN f else 0) + stsN body + stsN els := by rw [stN]
theorem stGood_mk : stGood (.mk k name e f body els) d = (decide (d ≤ 7) && stOk1 k name f body.length els.length && exGood e (d + 1) && (k != 2 || exGood f (d + 1)) && stsGood body (d + 1) && stsGood els (d + 1)) := by rw [stGood]
theorem stDeep_mk : stDeep (.mk k name e f body els) d = max d (max (exDeep e (d + 1)) (max (if k = 2 then exDeep f (d + 1) else 0) (max (stsDeep body (d + 1)) (stsDeep els (d + 1))))) := by rw [stDeep]
end
theorem stN_pos (s : St) : 1 ≤ stN s := by cases s; rw [stN_mk]; omega
theorem stsN_step : ∀ {l : List St} {k : Nat} (hk : k < l.length), stsN (l.take (k + 1)) = stsN (l.take k) + stN l[k]
  | [], k, hk => by simp at hk
  | e :: r, 0, hk => by simp [stsN]
  | e :: r, k + 1, hk => by
    have := stsN_step (l := r) (k := k) (by simpa using hk)
    simp only [List.take_succ_cons, stsN, List.getElem_cons_succ]
    omega
theorem stsN_take : ∀ (l : List St) (k : Nat), stsN (l.take k) ≤ stsN l
  | [], k => by simp
  | e :: r, 0 => by simp [stsN]
  | e :: r, k + 1 => by have := stsN_take r k; simp only [List.take_succ_cons, stsN]; omega
theorem stsN_get {l : List St} {k : Nat} (hk : k < l.length) : stsN (l.take k) + stN l[k] ≤ stsN l := by rw [← stsN_step hk]; exact stsN_take _ _
theorem stsGood_step : ∀ {l : List St} {k d : Nat} (hk : k < l.length), stsGood (l.take (k + 1)) d = (stsGood (l.take k) d && stGood l[k] d)
  | [], k, _, hk => by simp at hk
  | e :: r, 0, d, hk => by simp [stsGood]
  | e :: r, k + 1, d, hk => by
    have := stsGood_step (l := r) (k := k) (d := d) (by simpa using hk)
    simp only [List.take_succ_cons, stsGood, List.getElem_cons_succ]
    rw [this, Bool.and_assoc]
theorem stsGood_get : ∀ {l : List St} {k d : Nat} (hk : k < l.length), stsGood l d = true → stGood l[k] d = true
  | [], k, _, hk, _ => by simp at hk
  | e :: r, 0, d, hk, h => by simp [stsGood] at h; exact h.1
  | e :: r, k + 1, d, hk, h => by
    simp [stsGood] at h
    have := stsGood_get (l := r) (k := k) (d := d) (by simpa using hk) h.2
    simpa using this
theorem stsDeep_step : ∀ {l : List St} {k d : Nat} (hk : k < l.length), stsDeep (l.take (k + 1)) d = max (stsDeep (l.take k) d) (stDeep l[k] d)
  | [], k, _, hk => by simp at hk
  | e :: r, 0, d, hk => by simp [stsDeep]
  | e :: r, k + 1, d, hk => by
    have := stsDeep_step (l := r) (k := k) (d := d) (by simpa using hk)
    simp only [List.take_succ_cons, stsDeep, List.getElem_cons_succ]
    rw [this, Nat.max_assoc]

-- functions and programs
def headOk (f : Fn) : Bool := nameOk f.name && decide (f.params.length ≤ 3) && f.params.all nameOk
def fnsN (l : List Fn) : Nat := (l.map fun f => stsN f.body).sum
def fnsGood (l : List Fn) : Bool := l.all fun f => headOk f && stsGood f.body 2
def fnsDeep (l : List Fn) : Nat := (l.map fun f => stsDeep f.body 2).foldr max 0
def formOk (l : List Fn) : Bool := decide (1 ≤ l.length) && decide (l.length ≤ 4) && fnsGood l && decide (fnsN l ≤ 90)
theorem fnsN_step {l : List Fn} {k : Nat} (hk : k < l.length) : fnsN (l.take (k + 1)) = fnsN (l.take k) + stsN l[k].body := by
  unfold fnsN
  rw [List.take_succ_eq_append_getElem hk, List.map_append, List.sum_append]
  simp
theorem fnsN_take (l : List Fn) (k : Nat) : fnsN (l.take k) ≤ fnsN l := by
  conv => rhs; rw [← List.take_append_drop k l]
  unfold fnsN
  rw [List.map_append, List.sum_append]
  omega
theorem fnsGood_step {l : List Fn} {k : Nat} (hk : k < l.length) : fnsGood (l.take (k + 1)) = (fnsGood (l.take k) && (headOk l[k] && stsGood l[k].body 2)) := by
  unfold fnsGood
  rw [List.take_succ_eq_append_getElem hk, List.all_append]
  simp
theorem fnsGood_get {l : List Fn} {k : Nat} (hk : k < l.length) (h : fnsGood l = true) : headOk l[k] = true ∧ stsGood l[k].body 2 = true := by
  unfold fnsGood at h
  rw [List.all_eq_true] at h
  simpa using h l[k] (List.getElem_mem hk)
theorem foldr_max_app (a b : List Nat) : (a ++ b).foldr max 0 = max (a.foldr max 0) (b.foldr max 0) := by
  induction a with
  | nil => simp
  | cons x r ih => simp only [List.cons_append, List.foldr_cons, ih, Nat.max_assoc]
theorem fnsDeep_step {l : List Fn} {k : Nat} (hk : k < l.length) : fnsDeep (l.take (k + 1)) = max (fnsDeep (l.take k)) (stsDeep l[k].body 2) := by
  unfold fnsDeep
  rw [List.take_succ_eq_append_getElem hk, List.map_append, foldr_max_app]
  simp

/-- what lay is as it lay, but for block g -/
structure Past (g : Nat) (w w' : World) : Prop where
  os : w'.os = w.os
  tape : w'.tape = w.tape
  output : w'.output = w.output
  size : w.heap.size ≤ w'.heap.size
  block : ∀ k, k < w.heap.size → k ≠ g → w'.heap[k]? = w.heap[k]?
section
variable {g : Nat} {a b c w w' : World}
theorem Past.refl (g : Nat) (w : World) : Past g w w := ⟨rfl, rfl, rfl, Nat.le_refl _, fun _ _ _ => rfl⟩
theorem Past.trans (h : Past g a b) (k : Past g b c) : Past g a c :=
  ⟨k.os.trans h.os, k.tape.trans h.tape, k.output.trans h.output, Nat.le_trans h.size k.size, fun i hi hg => (k.block i (Nat.lt_of_lt_of_le hi h.size) hg).trans (h.block i hi hg)⟩
theorem Past.of (h : Below a.heap.size a b) (g : Nat) : Past g a b := ⟨h.os, h.tape, h.output, h.size, fun k hk _ => h.block k hk⟩
theorem Past.below {B : Nat} (h : Past g a b) (hB : B ≤ g) (hs : B ≤ a.heap.size) : Below B a b := ⟨h.os, h.tape, h.output, h.size, fun k hk => h.block k (by omega) (by omega)⟩
theorem Past.alloc (h : Past g a w) (o : Obj) : Past g a (w.alloc o) := h.trans (Past.of ((Below.refl _ w).alloc (Nat.le_refl _) o) g)
theorem Past.drew (h : Past g a w) : Past g a w.drew := ⟨h.os, h.tape, h.output, h.size, h.block⟩
theorem Past.set_ (h : Past g a w) {p : Addr} (hp : p.block = g ∨ a.heap.size ≤ p.block) (u : Value) : Past g a (w.setCell p u) :=
  ⟨h.os, h.tape, h.output, by rw [World.size_setCell]; exact h.size, fun k hk hg => (Below.heap_setCell w p u k (by omega)).trans (h.block k hk hg)⟩
theorem Blk.past {i : Nat} {t : TypeId} {cs : Array Value} (h : Blk w i t cs) (hp : Past g w w') (hg : i ≠ g) : Blk w' i t cs := (hp.block i h.lt hg).trans h
end
end Go.Proofs.Ytofnkhejpkfokaa
