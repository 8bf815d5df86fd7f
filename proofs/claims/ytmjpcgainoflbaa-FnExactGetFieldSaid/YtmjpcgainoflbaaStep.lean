/-
  Steps of worlds in a statement that draws and makes a box somewhere between its calls; nothing of the program.
-/
import Derived.Test.YtmjpcgainoflbaaArn
namespace Go.Proofs.Ytmjpcgainoflbaa
open Go.RowKit
set_option linter.unusedVariables false

theorem st_0 {w w1 : World} (hb : Below w.heap.size w w1) : Below w.heap.size w w1 := hb
theorem st_d {w w1 : World} {n : Nat} (hb : Below (w.drewN n).heap.size (w.drewN n) w1) : Below w.heap.size w w1 := ⟨hb.os, hb.tape, hb.output, hb.size, hb.block⟩
theorem st_a {w w1 : World} {o : Obj} (hb : Below (w.alloc o).heap.size (w.alloc o) w1) : Below w.heap.size w w1 :=
  ((Below.refl _ w).alloc (Nat.le_refl _) o).trans (hb.mono (by simp))
theorem st_da {w w1 : World} {o : Obj} {n : Nat} (hb : Below ((w.drewN n).alloc o).heap.size ((w.drewN n).alloc o) w1) : Below w.heap.size w w1 := st_d (st_a hb)
theorem st_ad {w w1 : World} {o : Obj} {n : Nat} (hb : Below ((w.alloc o).drewN n).heap.size ((w.alloc o).drewN n) w1) : Below w.heap.size w w1 := st_a (st_d hb)
theorem bx_a {w w1 : World} {cs : Array Value} {t : TypeId} (hb : Below (w.alloc (.cells cs t)).heap.size (w.alloc (.cells cs t)) w1) : Blk w1 w.heap.size t cs := (Blk.new w t cs).below hb (by simp)
theorem bx_da {w w1 : World} {cs : Array Value} {t : TypeId} {n : Nat} (hb : Below ((w.drewN n).alloc (.cells cs t)).heap.size ((w.drewN n).alloc (.cells cs t)) w1) : Blk w1 w.heap.size t cs := (show Blk w1 (w.drewN n).heap.size t cs from bx_a hb)
theorem bx_ad {w w1 : World} {cs : Array Value} {t : TypeId} {n : Nat} (hb : Below ((w.alloc (.cells cs t)).drewN n).heap.size ((w.alloc (.cells cs t)).drewN n) w1) : Blk w1 w.heap.size t cs := bx_a (st_d hb)
/-- a world behind w0, and what is made behind that -/
theorem on_0 {w0 w : World} (h : Below w0.heap.size w0 w) : Below w0.heap.size w0 w := h
theorem on_d {w0 w : World} {n : Nat} (h : Below w0.heap.size w0 w) : Below w0.heap.size w0 (w.drewN n) := ⟨h.os, h.tape, h.output, h.size, h.block⟩
theorem on_a {w0 w : World} {o : Obj} (h : Below w0.heap.size w0 w) : Below w0.heap.size w0 (w.alloc o) := h.alloc h.size o
theorem on_da {w0 w : World} {o : Obj} {n : Nat} (h : Below w0.heap.size w0 w) : Below w0.heap.size w0 ((w.drewN n).alloc o) := on_a (on_d h)
theorem on_ad {w0 w : World} {o : Obj} {n : Nat} (h : Below w0.heap.size w0 w) : Below w0.heap.size w0 ((w.alloc o).drewN n) := on_d (on_a h)
end Go.Proofs.Ytmjpcgainoflbaa
