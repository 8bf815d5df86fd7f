/-
  Counting who is referred to: a row of counts that is bumped, by the program's closure.
-/
import Derived.Test.YtpepikjcbgkcfaaRoots
import Derived.Test.YtpepikjcbgkcfaaKids
namespace Go.Proofs.Ytpepikjcbgkcfaa
open Go.RowKit
set_option linter.unusedVariables false
set_option linter.unusedSimpArgs false

def bump1 (c : List Int) (n : Int) : List Int := c.set n.toNat (c.getD n.toNat 0 + 1)
def bumps (c : List Int) (l : List Int) : List Int := l.foldl bump1 c
theorem bump1_len (c : List Int) (n : Int) : (bump1 c n).length = c.length := by simp [bump1]
theorem bumps_len (l : List Int) : ∀ c : List Int, (bumps c l).length = c.length := by
  induction l with
  | nil => intro c; rfl
  | cons x r ih => intro c; show (bumps (bump1 c x) r).length = _; rw [ih, bump1_len]
theorem bumps_app (c l r : List Int) : bumps c (l ++ r) = bumps (bumps c l) r := List.foldl_append
theorem bumps_snoc (c : List Int) {l : List Int} {k : Nat} (h : k < l.length) : bumps c (l.take (k + 1)) = bump1 (bumps c (l.take k)) l[k] := by
  rw [List.take_succ_eq_append_getElem h, bumps_app]; rfl
/-- no count is above m -/
def Sm (c : List Int) (m : Nat) : Prop := ∀ i (h : i < c.length), 0 ≤ c[i] ∧ c[i] ≤ m
theorem Sm.bump {c : List Int} {m : Nat} (h : Sm c m) (n : Int) : Sm (bump1 c n) (m + 1) := fun i hi => by
  have hi' := hi
  rw [bump1_len] at hi'
  have e : (bump1 c n)[i] = (c.set n.toNat (c.getD n.toNat 0 + 1))[i]'(by rw [List.length_set]; exact hi') := rfl
  rw [e, List.getElem_set]
  split
  · rename_i e
    have hn : n.toNat < c.length := by omega
    have := h n.toNat hn
    rw [List.getD_eq_getElem?_getD, List.getElem?_eq_getElem hn]
    simp only [Option.getD_some]
    omega
  · have := h i hi'
    omega
theorem Sm.bumps (l : List Int) : ∀ {c : List Int} {m : Nat}, Sm c m → Sm (bumps c l) (m + l.length) := by
  induction l with
  | nil => intro c m h; exact h
  | cons x r ih =>
    intro c m h
    have := ih (h.bump x)
    rw [show m + (x :: r).length = m + 1 + r.length by simp; omega]
    exact this
theorem Sm.zero (n : Nat) : Sm (List.replicate n 0) 0 := fun i hi => by simp
/-- all in range -/
def InR (N : Nat) (l : List Int) : Prop := ∀ k (h : k < l.length), 0 ≤ l[k] ∧ l[k] < N
theorem InR.mem {N : Nat} {l : List Int} (h : ∀ x ∈ l, 0 ≤ x ∧ x < (N : Int)) : InR N l := fun k hk => h _ (List.getElem_mem hk)
theorem vi_set (c : List Int) (j : Nat) (x : Int) : (vi c).toArray.setIfInBounds j (.int .i64 x) = (vi (c.set j x)).toArray := by
  apply Array.ext'
  simp [vi, List.map_set]

/-- nothing but one block has been touched -/
structure Tch (g : Nat) (w w' : World) : Prop where
  os : w'.os = w.os
  tape : w'.tape = w.tape
  output : w'.output = w.output
  size : w'.heap.size = w.heap.size
  block : ∀ b, b ≠ g → w'.heap[b]? = w.heap[b]?
theorem Tch.refl (g : Nat) (w : World) : Tch g w w := ⟨rfl, rfl, rfl, rfl, fun _ _ => rfl⟩
theorem Tch.set_ {g : Nat} {w w' : World} (h : Tch g w w') (i : Nat) (v : Value) : Tch g w (w'.setCell ⟨g, i, none⟩ v) :=
  ⟨h.os, h.tape, h.output, by rw [World.size_setCell]; exact h.size, fun b hb => (Below.heap_setCell w' ⟨g, i, none⟩ v b hb).trans (h.block b hb)⟩
theorem Tch.below {g B : Nat} {w w' : World} (h : Tch g w w') (hB : B ≤ g) : Below B w w' := ⟨h.os, h.tape, h.output, by rw [h.size]; exact Nat.le_refl _, fun b hb => h.block b (by omega)⟩
theorem Tch.cell {g : Nat} {w w' : World} (h : Tch g w w') {p : Addr} (hp : p.block ≠ g) : w'.cell? p = w.cell? p := World.cell?_of_block (h.block _ hp)

set_option maxRecDepth 100000 in
set_option maxHeartbeats 2000000 in
theorem count_c (c l : List Int) (A : Option Addr) (cp L B g Bn m : Nat) (w : World) (hl : l.length ≤ 1048576) (h : IL w L B A l) (hg : g < L ∨ B ≤ g) (hr : InR c.length l) (hm : Sm c m) (hmb : m + l.length ≤ 1000000000)
    (hne : Bn ≠ g) (hb : w.cell? ⟨Bn, 0, none⟩ = some (.slice (some ⟨g, 0, none⟩) c.length c.length)) (hc : Blk w g 3 (vi c).toArray) (hcl : c.length ≤ 1048576) :
    Calls Try.prog 91 #[.slice A l.length cp, .pointer (some ⟨Bn, 0, none⟩)] w fun e w' => (∃ v, e = .returned v) ∧ Blk w' g 3 (vi (bumps c l)).toArray ∧ Tch g w w' := by
  go_enter Try.func91, Try.ntmps91
  go_wp2_with fail
  go_loopw [7] (fun i wr => ∃ k : Nat, k ≤ l.length ∧ i = .int .i64 k ∧ Hid (Blk wr g 3 (vi (bumps c (l.take k))).toArray) ∧ Hid (Tch g w wr)) (fun i _ => l.length - (intOf i).toNat)
  case atStart => exact ⟨0, Nat.zero_le _, rfl, Lib.hid hc, Lib.hid (Tch.refl _ _)⟩
  case round =>
    obtain ⟨k, hk, rfl, hblk, htch⟩ := hrel
    by_cases hlt : k < l.length
    · obtain ⟨ad, rfl, hLa, hBa, hat⟩ := (h.keep (w' := wr) (fun p h1 h2 => htch.out.cell (by rcases hg with h | h <;> omega))).2 (by omega)
      have d0 := hat k hlt
      obtain ⟨j, hj⟩ : ∃ j : Nat, l[k] = (j : Int) := ⟨l[k].toNat, by have := hr k hlt; omega⟩
      have hjl : j < c.length := by have := hr k hlt; omega
      rw [hj] at d0
      have p0 : wr.cell? ⟨Bn, 0, none⟩ = some (.slice (some ⟨g, 0, none⟩) c.length c.length) := (htch.out.cell (p := ⟨Bn, 0, none⟩) hne).trans hb
      have hsn := bumps_snoc c hlt
      rw [hj] at hsn
      have hbl : (bumps c (l.take k)).length = c.length := bumps_len _ _
      have hsm := hm.bumps (l.take k) j (by rw [hbl]; exact hjl)
      have htk : (l.take k).length = k := by simp; omega
      obtain ⟨z, hz⟩ : ∃ z, z = (bumps c (l.take k))[j]'(by rw [hbl]; exact hjl) := ⟨_, rfl⟩
      rw [← hz, htk] at hsm
      have q0 : wr.cell? ⟨g, j, none⟩ = some (.int .i64 z) := by
        rw [hblk.out.cell]
        simp [vi, List.getElem?_eq_getElem (show j < (bumps c (l.take k)).length by rw [hbl]; exact hjl), hz]
      have f0 : wr.frozen? ⟨g, j, none⟩ = false := hblk.out.frozen j
      have hnew : Hid (Blk (wr.setCell ⟨g, j, none⟩ (.int .i64 (z + 1))) g 3 (vi (bumps c (l.take (k + 1)))).toArray) := Lib.hid (by
        have h1 := hblk.out.set_ j (.int .i64 (z + 1))
        rw [vi_set] at h1
        rw [hsn]
        unfold bump1
        rw [Int.toNat_natCast, List.getD_eq_getElem?_getD, List.getElem?_eq_getElem (show j < (bumps c (l.take k)).length by rw [hbl]; exact hjl), ← hz]
        exact h1)
      have Ht := Lib.hid (htch.out.set_ j (.int .i64 (z + 1)))
      have hz0 := hsm.1
      have hz1 : z ≤ 1000000000 := by omega
      clear hat hj hsn hbl hsm htk hz hblk htch
      go_wp2
      go_roundw
      case rel => exact ⟨k + 1, by omega, by go_num, hnew, Ht⟩
      case measure => simp [intOf]; omega
    · obtain rfl : k = l.length := by omega
      have hb2 := hblk.out
      rw [List.take_length] at hb2
      have Hb2 := Lib.hid hb2
      clear hb2
      go_wp2
      refine bodyPost_end (results_none rfl _ _ _) rfl ?_
      exact ⟨⟨_, rfl⟩, Hb2.out, htch.out⟩
end Go.Proofs.Ytpepikjcbgkcfaa
