/-
  A code's bytes, as a function over lists; how many they may be.
-/
import Derived.Test.YtebgigiakfjocaaDoorCodTxt
namespace Go.Proofs.YtebgigiakfjocaaDoor
open Go.RowKit
set_option linter.unusedVariables false
set_option linter.unusedSimpArgs false
namespace Cod

/-- a number in three bytes -/
def long (n : Nat) : List UInt8 := [UInt8.ofNat (n / 65536), UInt8.ofNat (n / 256), UInt8.ofNat n]
def inB1 (o : In) : List UInt8 := [UInt8.ofNat o.op.toNat] ++ long o.a.toNat ++ long o.b.toNat ++ long o.c.toNat ++ [UInt8.ofNat o.name.length] ++ o.name
def insB (l : List In) : Nat → List UInt8
  | 0 => []
  | k + 1 => insB l k ++ inB1 (l.getD k ⟨0, 0, 0, 0, []⟩)
def unH (u : Un) : List UInt8 := [UInt8.ofNat u.params.toNat, UInt8.ofNat u.regs.toNat] ++ long u.l.length
def unB1 (u : Un) : List UInt8 := unH u ++ insB u.l u.l.length
def unsB (C : List Un) : Nat → List UInt8
  | 0 => []
  | k + 1 => unsB C k ++ unB1 (C.getD k ⟨0, 0, []⟩)
def codRow (C : List Un) : List UInt8 := [UInt8.ofNat C.length] ++ unsB C C.length
def codB (C : List Un) : List UInt8 := if codeOk C then codRow C else []
theorem insB_succ {l : List In} {k : Nat} (h : k < l.length) : insB l (k + 1) = insB l k ++ inB1 l[k] := by
  show insB l k ++ inB1 (l.getD k _) = _
  rw [getD_at h]
theorem unsB_succ {C : List Un} {k : Nat} (h : k < C.length) : unsB C (k + 1) = unsB C k ++ unB1 C[k] := by
  show unsB C k ++ unB1 (C.getD k _) = _
  rw [getD_at h]
theorem inB1_len {o : In} (h : InB o) : (inB1 o).length ≤ 17 := by
  obtain ⟨h0, ha, hb, hc, hn⟩ := h
  unfold inB1 long
  simp only [List.length_append, List.length_cons, List.length_nil]
  omega
theorem insB_len {l : List In} (h : ∀ j (hj : j < l.length), InB l[j]) : ∀ k, k ≤ l.length → (insB l k).length ≤ 17 * k
  | 0, _ => by simp [insB]
  | k + 1, hk => by
    rw [insB_succ (by omega), List.length_append]
    have := insB_len h k (by omega)
    have := inB1_len (h k (by omega))
    omega
theorem unB1_len {u : Un} (h : UnB u) : (unB1 u).length ≤ 5105 := by
  unfold unB1
  rw [List.length_append]
  have : (unH u).length = 5 := rfl
  have := insB_len h.2.2.2 u.l.length (Nat.le_refl _)
  have := h.2.2.1.2
  omega
theorem unsB_len {C : List Un} (h : ∀ j (hj : j < C.length), UnB C[j]) : ∀ k, k ≤ C.length → (unsB C k).length ≤ 5105 * k
  | 0, _ => by simp [unsB]
  | k + 1, hk => by
    rw [unsB_succ (by omega), List.length_append]
    have := unsB_len h k (by omega)
    have := unB1_len (h k (by omega))
    omega
theorem codB_bd (C : List Un) : (codB C).length ≤ 100000 := by
  unfold codB
  split
  · rename_i h
    obtain ⟨h1, h2⟩ := codeOk_bd h
    have := unsB_len h2 C.length (Nat.le_refl _)
    unfold codRow
    simp only [List.length_append, List.length_cons, List.length_nil]
    omega
  · simp
end Cod
end Go.Proofs.YtebgigiakfjocaaDoor
