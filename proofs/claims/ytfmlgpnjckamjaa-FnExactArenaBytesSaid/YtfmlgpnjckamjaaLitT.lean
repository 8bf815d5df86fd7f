/-
  Bytes written out behind a row.
-/
import Derived.Test.YtfmlgpnjckamjaaApp
namespace Go.Proofs.Ytfmlgpnjckamjaa
open Go.RowKit
set_option linter.unusedVariables false
set_option linter.unusedSimpArgs false

/-- bytes written out, in a block of their own -/
theorem OwnB.lit (w : World) (r : List UInt8) (cs : Array Value) (hcs : cs.toList = vb r) (hm : r.length ≤ maxLen) : OwnB (w.alloc (.cells cs 5)) w.heap.size (.slice (some ⟨w.heap.size, 0, none⟩) r.length r.length) r := by
  have hl : cs.size = r.length := by rw [← Array.length_toList, hcs, vb_len]
  exact ⟨by rw [vb_len, Nat.mul_one], Or.inr ⟨w.heap.size, r.length, cs, rfl, Nat.le_refl _, heap_alloc_new w _, Nat.le_refl _, hm, by omega, by rw [← hcs]; exact List.take_of_length_le (by simp [hl])⟩⟩
theorem rb_lit (w : World) (r : List UInt8) (cs : Array Value) (hcs : cs.toList = vb r) (hm : r.length ≤ maxLen) : RB (w.alloc (.cells cs 5)) (w.alloc (.cells cs 5)).heap.size (some ⟨w.heap.size, 0, none⟩) r := by
  obtain ⟨A, c, e, h⟩ := (OwnB.lit w r cs hcs hm).form
  obtain ⟨rfl, -, rfl⟩ : some ⟨w.heap.size, 0, none⟩ = A ∧ True ∧ r.length = c := by injection e with e1 e2 e3; exact ⟨e1, trivial, e3⟩
  exact h

section
variable {w : World} {B : Nat} {v : Value} {l r : List UInt8} {ops : Array Oper} {rest : List Oper} {o : Oper} {a : Act} {Q : Exit → Act → World → Prop}
theorem wpList_litT {w0 : World} {cs : Array Value} {n : Nat} (hgd : o.guard = none) (s0 x : Operand) (ho : o.op = .call { callee := .builtin .append, args := #[s0, x], argTypes := #[27, 27] })
    (hs : a.eval s0 = v) (hown : OwnT w0 B v l) (hcs : cs.toList = vb r) {g : Nat} (hx : a.eval x = .slice (some ⟨g, 0, none⟩) n n) (hn : r.length = n) (hg : w0.heap.size = g) {l' : List UInt8} (hl' : l ++ r = l') (hlen : l.length + r.length ≤ 140737488355328) (hbase : B ≤ w0.heap.size)
    (h : ∀ A c w', OwnT w' B (.slice A l'.length c) l' → Say B w0 w' → wpList Try.prog ops Q rest (a.put o.dst (.slice A l'.length c)) w') : wpList Try.prog ops Q (o :: rest) a (w0.alloc (.cells cs 5)) := by
  subst hg hn
  exact wpList_rowT hgd s0 x ho hs (hown.alloc _) hx (rb_lit w0 r cs hcs (by unfold maxLen; omega)) hl' hlen (by rw [World.size_alloc]; omega) (fun A c w' hO hS => h A c w' hO (((Say.refl B w0).alloc hbase _).trans hS))
end
end Go.Proofs.Ytfmlgpnjckamjaa
