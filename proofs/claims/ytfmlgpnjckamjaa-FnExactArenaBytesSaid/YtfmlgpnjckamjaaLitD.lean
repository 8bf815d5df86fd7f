/-
  Bytes written out behind a row, in a statement that draws its order.
-/
import Derived.Test.YtfmlgpnjckamjaaLitT
import Derived.Test.YtfmlgpnjckamjaaAppD
namespace Go.Proofs.Ytfmlgpnjckamjaa
open Go.RowKit
set_option linter.unusedVariables false
set_option linter.unusedSimpArgs false
section
variable {w : World} {B : Nat} {v : Value} {l r l' : List UInt8} {o : Oper} {a : Act} {K : Act → World → Prop} {Q : Exit → Act → World → Prop}
theorem wp_litK {cs : Array Value} {n : Nat} (s0 x : Operand) (ho : o.op = .call { callee := .builtin .append, args := #[s0, x], argTypes := #[27, 27] })
    (hown : OwnT w B v l) {g : Nat} (hK : Blk w g 5 cs) (hcs : cs.toList = vb r) (hn : r.length = n) (hl' : l ++ r = l') (hlen : l.length + r.length ≤ 140737488355328) (hbase : B ≤ w.heap.size) (hs : a.eval s0 = v) (hx : a.eval x = .slice (some ⟨g, 0, none⟩) n n)
    (h : ∀ A c w', OwnT w' B (.slice A l'.length c) l' → Say B w w' → Keeps v (.slice A l'.length c) w w' → K (a.put o.dst (.slice A l'.length c)) w') : o.wp Try.prog a w K Q := by
  subst hn
  have e : cs = (vb r).toArray := by rw [← hcs]
  subst e
  exact wp_rowK s0 x ho hown (r := r) (RB.of_blk (g := g) (t := 5) hK hK.lt) hl' hlen hbase hs hx h
end
end Go.Proofs.Ytfmlgpnjckamjaa
