/-
  A code's text, as a function over lists; how long it may be; what a code that may be has.
-/
import Derived.Test.YtebgigiakfjocaaDoorCodeD
import Derived.Test.YtebgigiakfjocaaDoorDig
import Derived.Lib.ItoaLen
namespace Go.Proofs.YtebgigiakfjocaaDoor
open Go.RowKit
set_option linter.unusedVariables false
set_option linter.unusedSimpArgs false
namespace Cod

/-- an order's word -/
def opWords : List (List UInt8) := [[116, 105, 99, 107], [110, 117, 109], [110, 105, 108], [109, 111, 118, 101], [110, 101, 119], [103, 101, 116], [112, 117, 116], [98, 105, 110], [106, 117, 109, 112], [122, 101, 114, 111], [99, 97, 108, 108], [98, 97, 99, 107], [115, 104, 111, 119], [119, 101, 97, 107], [108, 105, 118, 101]]
def opW (k : Nat) : List UInt8 := opWords.getD k []
theorem opW_len (k : Nat) : (opW k).length ≤ 4 := by
  unfold opW
  rcases Nat.lt_or_ge k 15 with h | h
  · have : k = 0 ∨ k = 1 ∨ k = 2 ∨ k = 3 ∨ k = 4 ∨ k = 5 ∨ k = 6 ∨ k = 7 ∨ k = 8 ∨ k = 9 ∨ k = 10 ∨ k = 11 ∨ k = 12 ∨ k = 13 ∨ k = 14 := by omega
    rcases this with rfl | rfl | rfl | rfl | rfl | rfl | rfl | rfl | rfl | rfl | rfl | rfl | rfl | rfl | rfl <;> decide
  · rw [List.getD_eq_getElem?_getD, List.getElem?_eq_none (by simpa [opWords] using h)]
    simp
def unitW : List UInt8 := [117, 110, 105, 116]
/-- an order's name in a text -/
def nmT (nm : List UInt8) : List UInt8 := if 0 < nm.length then 32 :: nm else []
def inTxt (o : In) : List UInt8 := opW o.op.toNat ++ [32] ++ Lib.decDigits o.a.toNat ++ [32] ++ Lib.decDigits o.b.toNat ++ [32] ++ Lib.decDigits o.c.toNat ++ nmT o.name ++ [10]
def insTo (l : List In) : Nat → List UInt8
  | 0 => []
  | k + 1 => insTo l k ++ inTxt (l.getD k ⟨0, 0, 0, 0, []⟩)
def unHead (u : Un) : List UInt8 := unitW ++ [32] ++ Lib.decDigits u.params.toNat ++ [32] ++ Lib.decDigits u.regs.toNat ++ [10]
def unTxt (u : Un) : List UInt8 := unHead u ++ insTo u.l u.l.length
def unsTo (C : List Un) : Nat → List UInt8
  | 0 => []
  | k + 1 => unsTo C k ++ unTxt (C.getD k ⟨0, 0, []⟩)
def codTxt (C : List Un) : List UInt8 := if codeOk C then unsTo C C.length else []
theorem getD_at {α : Type} {l : List α} {k : Nat} (h : k < l.length) (d : α) : l.getD k d = l[k] := by rw [List.getD_eq_getElem?_getD, List.getElem?_eq_getElem h]; rfl
theorem insTo_succ {l : List In} {k : Nat} (h : k < l.length) : insTo l (k + 1) = insTo l k ++ inTxt l[k] := by
  show insTo l k ++ inTxt (l.getD k _) = _
  rw [getD_at h]
theorem unsTo_succ {C : List Un} {k : Nat} (h : k < C.length) : unsTo C (k + 1) = unsTo C k ++ unTxt C[k] := by
  show unsTo C k ++ unTxt (C.getD k _) = _
  rw [getD_at h]

/-- an order, a unit as the text wants them -/
def InB (o : In) : Prop := (0 ≤ o.op ∧ o.op < 15) ∧ (0 ≤ o.a ∧ o.a ≤ 9223372036854775807) ∧ (0 ≤ o.b ∧ o.b ≤ 9223372036854775807) ∧ (0 ≤ o.c ∧ o.c ≤ 9223372036854775807) ∧ o.name.length ≤ 6
def UnB (u : Un) : Prop := (0 ≤ u.params ∧ u.params ≤ 3) ∧ (1 ≤ u.regs ∧ u.regs ≤ 24) ∧ (1 ≤ u.l.length ∧ u.l.length ≤ 300) ∧ ∀ j (h : j < u.l.length), InB u.l[j]
theorem wrap64_le (x : Int) : wrap64 x ≤ 9223372036854775807 := by unfold wrap64; omega
theorem met_bd {w : Int} {C : List Un} {u : Un} {ob n : Int} (hu : u.regs ≤ 24) (hl : u.l.length ≤ 300) (hC : C.length ≤ 4) (h : met w C u ob n = true) : 0 ≤ n ∧ n ≤ 9223372036854775807 := by
  unfold met at h
  split at h
  · simp only [Bool.and_eq_true, decide_eq_true_eq] at h; omega
  split at h
  · simp only [Bool.and_eq_true, decide_eq_true_eq] at h; omega
  split at h
  · simp only [Bool.and_eq_true, decide_eq_true_eq] at h; omega
  split at h
  · simp only [Bool.and_eq_true, decide_eq_true_eq] at h; omega
  split at h
  · unfold isBin at h
    simp only [Bool.or_eq_true, beq_iff_eq] at h
    omega
  split at h
  · simp only [Bool.and_eq_true, decide_eq_true_eq] at h; omega
  split at h
  · simp only [Bool.and_eq_true, decide_eq_true_eq] at h
    have := wrap64_le (u.regs - pOf C ob)
    omega
  · simp only [decide_eq_true_eq] at h; omega
theorem ordOk_bd {C : List Un} {u : Un} {o : In} (hu : u.regs ≤ 24) (hl : u.l.length ≤ 300) (hC : C.length ≤ 4) (h : ordOk C u o = true) : InB o := by
  unfold ordOk at h
  simp only [Bool.and_eq_true, decide_eq_true_eq] at h
  obtain ⟨⟨⟨⟨h0, h1⟩, h2⟩, h3⟩, ⟨h4, h5⟩, h6⟩ := h
  refine ⟨⟨h0, h1⟩, met_bd hu hl hC h4, met_bd hu hl hC h5, met_bd hu hl hC h6, ?_⟩
  rcases Nat.eq_zero_or_pos o.name.length with hn | hn
  · omega
  · rw [decide_eq_true hn] at h2
    have hn2 : nmd o.op.toNat = true := by simpa using h2
    rw [hn2] at h3
    have hw : wordOk o.name = true := by simpa using h3
    unfold wordOk at hw
    simp only [Bool.and_eq_true, decide_eq_true_eq] at hw
    omega
theorem codeOk_bd {C : List Un} (h : codeOk C = true) : (1 ≤ C.length ∧ C.length ≤ 4) ∧ ∀ k (hk : k < C.length), UnB C[k] := by
  unfold codeOk at h
  simp only [Bool.and_eq_true, decide_eq_true_eq] at h
  obtain ⟨⟨hC, h0⟩, hall⟩ := h
  refine ⟨hC, fun k hk => ?_⟩
  have hu := List.all_eq_true.1 hall C[k] (List.getElem_mem hk)
  unfold unitOk at hu
  simp only [Bool.and_eq_true] at hu
  obtain ⟨⟨hh, hb⟩, hi⟩ := hu
  unfold headOk at hh
  unfold bodyOk at hb
  simp only [Bool.and_eq_true, decide_eq_true_eq] at hh hb
  exact ⟨⟨hh.1, hh.2.1⟩, ⟨hh.2.2.2.1, hh.2.2.2.2⟩, hb.1, fun j hj => ordOk_bd hh.2.2.2.2 hb.1.2 hC.2 (List.all_eq_true.1 hi _ (List.getElem_mem hj))⟩
theorem dig20 (n : Nat) (h : n < 100000000000000000000) : (Lib.decDigits n).length ≤ 20 := by
  rw [Lib.decDigits_length]
  have step : ∀ (k u : Nat), u < 10 ^ (k + 1) → Lib.nDigits u ≤ k + 1 := by
    intro k
    induction k with
    | zero => intro u hu; rw [Lib.nDigits_small (by simpa using hu)]; exact Nat.le_refl _
    | succ k ih =>
      intro u hu
      by_cases h : u < 10
      · rw [Lib.nDigits_small h]; omega
      · rw [Lib.nDigits, dif_neg h]
        have := ih (u / 10) (by rw [Nat.pow_succ] at hu; omega)
        omega
  exact step 19 n (by simpa using h)
theorem nmT_len (nm : List UInt8) (h : nm.length ≤ 6) : (nmT nm).length ≤ 7 := by
  unfold nmT
  split <;> simp <;> omega
theorem inTxt_len {o : In} (h : InB o) : (inTxt o).length ≤ 80 := by
  obtain ⟨h0, ha, hb, hc, hn⟩ := h
  have := opW_len o.op.toNat
  have := dig20 o.a.toNat (by omega)
  have := dig20 o.b.toNat (by omega)
  have := dig20 o.c.toNat (by omega)
  have := nmT_len o.name hn
  unfold inTxt
  simp only [List.length_append, List.length_cons, List.length_nil]
  omega
theorem insTo_len {l : List In} (h : ∀ j (hj : j < l.length), InB l[j]) : ∀ k, k ≤ l.length → (insTo l k).length ≤ 80 * k
  | 0, _ => by simp [insTo]
  | k + 1, hk => by
    rw [insTo_succ (by omega), List.length_append]
    have := insTo_len h k (by omega)
    have := inTxt_len (h k (by omega))
    omega
theorem unHead_len {u : Un} (h : UnB u) : (unHead u).length ≤ 60 := by
  obtain ⟨h0, h1, _⟩ := h
  have := dig20 u.params.toNat (by omega)
  have := dig20 u.regs.toNat (by omega)
  unfold unHead
  simp only [List.length_append, List.length_cons, List.length_nil]
  show 4 + _ + _ + _ + _ + _ ≤ 60
  omega
theorem unTxt_len {u : Un} (h : UnB u) : (unTxt u).length ≤ 24060 := by
  unfold unTxt
  rw [List.length_append]
  have := unHead_len h
  have := insTo_len h.2.2.2 u.l.length (Nat.le_refl _)
  have := h.2.2.1.2
  omega
theorem unsTo_len {C : List Un} (h : ∀ j (hj : j < C.length), UnB C[j]) : ∀ k, k ≤ C.length → (unsTo C k).length ≤ 24060 * k
  | 0, _ => by simp [unsTo]
  | k + 1, hk => by
    rw [unsTo_succ (by omega), List.length_append]
    have := unsTo_len h k (by omega)
    have := unTxt_len (h k (by omega))
    omega
theorem codTxt_bd (C : List Un) : (codTxt C).length ≤ 100000 := by
  unfold codTxt
  split
  · rename_i h
    obtain ⟨h1, h2⟩ := codeOk_bd h
    have := unsTo_len h2 C.length (Nat.le_refl _)
    omega
  · simp
end Cod
end Go.Proofs.YtebgigiakfjocaaDoor
