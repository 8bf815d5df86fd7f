/-
  Appends to rows of bytes, as steps of a statement that draws its order.
-/
import Derived.Test.YtfmlgpnjckamjaaApp
import Derived.Deep.RegionLaw
namespace Go.Proofs.Ytfmlgpnjckamjaa
open Go.RowKit
set_option linter.unusedVariables false
set_option linter.unusedSimpArgs false

theorem OwnT.ad {w : World} {B : Nat} {v : Value} {l : List UInt8} (h : OwnT w B v l) (o : Obj) : OwnT (w.alloc o).drew B v l := h.alloc o
theorem Say.ad {B : Nat} {w w' : World} {o : Obj} (h : Say B (w.alloc o).drew w') (hB : B ≤ w.heap.size) : Say B w w' := ((Say.refl B w).alloc hB o).trans h.undrew
theorem Blk.new_d (w : World) (t : TypeId) (cs : Array Value) : Blk (w.alloc (.cells cs t)).drew w.heap.size t cs := Blk.new w t cs
/-- all blocks but the row's are as they were, and are none of the row's new one -/
def Keeps (v v' : Value) (w w' : World) : Prop := ∀ b, b < w.heap.size → v.ownBlock ≠ some b → w'.heap[b]? = w.heap[b]? ∧ v'.ownBlock ≠ some b
theorem Keeps.blk {v v' : Value} {w w' : World} {g : Nat} {t : TypeId} {cs : Array Value} (h : Keeps v v' w w') (hK : Blk w g t cs) (hn : v.ownBlock ≠ some g) : Blk w' g t cs ∧ v'.ownBlock ≠ some g :=
  ⟨(h g hK.lt hn).1.trans hK, (h g hK.lt hn).2⟩
/-- the run of an append of bytes, and what it keeps -/
theorem run_appK {w : World} {B : Nat} {v : Value} {l r : List UInt8} (hown : OwnT w B v l) (tx : TypeId) (ty : TypeId) (x : Value) (hS : Src Try.prog 1 tx x r.length (vb r) w) (hlen : l.length + r.length ≤ 140737488355328) (hbase : B ≤ w.heap.size) :
    ∃ A c w', (Builtin.append_ #[27, tx] ty #[v, x]).run Try.prog w = .ok (.slice A (l ++ r).length c) w' ∧ OwnT w' B (.slice A (l ++ r).length c) (l ++ r) ∧ Say B w w' ∧ Keeps v (.slice A (l ++ r).length c) w w' := by
  obtain ⟨i0, hi, hz0, hz1, hz2⟩ := info_parts infoU8
  obtain ⟨v', w', h1, h2, h3, -, h5⟩ := run_append_T0 (P := Try.prog) w B 27 tx ty 5 i0 _ 1 1 Try.underlying27 hi hz0 hz1 hz2 rfl v _ _ hown x _ _ hS (by unfold maxLen; omega) (by omega) hbase
  have hO : OwnT w' B v' (l ++ r) := by unfold OwnT; rw [List.length_append, vb_app]; exact h2
  have hk : Keeps v v' w w' := fun b hb hn => ⟨h3.block b hb (fun e => hn e.symm), fun e => by
    rcases h5 with h5 | h5
    · exact hn (h5.symm.trans e)
    · rw [h5] at e; cases e; omega⟩
  obtain ⟨A, c, rfl, -⟩ := hO.form
  exact ⟨A, c, w', h1, hO, (Say.refl B w).grownT h3 hown hbase, hk⟩
section
variable {w : World} {B : Nat} {v : Value} {l r l' : List UInt8} {ops : Array Oper} {o : Oper} {a : Act} {K : Act → World → Prop} {Q : Exit → Act → World → Prop} {E : Prop}
theorem step_rowT (hgd : o.guard = none) (s0 x : Operand) (ho : o.op = .call { callee := .builtin .append, args := #[s0, x], argTypes := #[27, 27] })
    (hown : OwnT w B v l) {A0 : Option Addr} {c0 B0 : Nat} (hr : RB w B0 A0 r) (hl' : l ++ r = l') (hlen : l.length + r.length ≤ 140737488355328) (hbase : B ≤ w.heap.size) (hs : a.eval s0 = v) (hx : a.eval x = .slice A0 r.length c0)
    (h : ∀ A c w', OwnT w' B (.slice A l'.length c) l' → Say B w w' → K (a.put o.dst (.slice A l'.length c)) w') : if Region.wanted o (yielded ops a.tmps) = true then o.wp Try.prog a w K Q else E := by
  subst hl'
  rw [if_pos (show Region.wanted o (yielded ops a.tmps) = true by simp [Region.wanted, hgd])]
  obtain ⟨A, c, w', hrun, hO, hsay⟩ := run_appT hown 27 o.type (.slice A0 r.length c0) (src_rb Try.underlying27 c0 hr) hlen hbase
  unfold Oper.wp execOp
  simp only [ho, resolve, invoke, builtin, Sem.run_bind, Sem.run_pure, Result.andThen_ok, List.map_toArray, List.map_cons, List.map_nil, hs, hx, hrun]
  exact h A c w' hO hsay
theorem step_strT (hgd : o.guard = none) (s0 x : Operand) (ho : o.op = .call { callee := .builtin .append, args := #[s0, x], argTypes := #[27, 9] })
    (hown : OwnT w B v l) {s : ByteArray} (hsr : s.data.toList = r) (hl' : l ++ r = l') (hlen : l.length + r.length ≤ 140737488355328) (hbase : B ≤ w.heap.size) (hs : a.eval s0 = v) (hx : a.eval x = .string s)
    (h : ∀ A c w', OwnT w' B (.slice A l'.length c) l' → Say B w w' → K (a.put o.dst (.slice A l'.length c)) w') : if Region.wanted o (yielded ops a.tmps) = true then o.wp Try.prog a w K Q else E := by
  subst hl'
  rw [if_pos (show Region.wanted o (yielded ops a.tmps) = true by simp [Region.wanted, hgd])]
  obtain ⟨A, c, w', hrun, hO, hsay⟩ := run_appT hown 9 o.type (.string s) (hsr ▸ srcT_str w Try.underlying9 s) hlen hbase
  unfold Oper.wp execOp
  simp only [ho, resolve, invoke, builtin, Sem.run_bind, Sem.run_pure, Result.andThen_ok, List.map_toArray, List.map_cons, List.map_nil, hs, hx, hrun]
  exact h A c w' hO hsay
/-- one byte, in a block made ahead -/
theorem step_oneT {b : UInt8} (hgd : o.guard = none) (s0 x : Operand) (ho : o.op = .call { callee := .builtin .append, args := #[s0, x], argTypes := #[27, 27] })
    (hown : OwnT w B v l) (y : Int) (hy : (b.toNat : Int) = y) {g : Nat} (hK : Blk w g 5 #[.int .u8 y]) (hl' : l ++ [b] = l') (hlen : l.length ≤ 140737488355000) (hbase : B ≤ w.heap.size) (hs : a.eval s0 = v) (hx : a.eval x = .slice (some ⟨g, 0, none⟩) 1 1)
    (h : ∀ A c w', OwnT w' B (.slice A l'.length c) l' → Say B w w' → K (a.put o.dst (.slice A l'.length c)) w') : if Region.wanted o (yielded ops a.tmps) = true then o.wp Try.prog a w K Q else E := by
  subst hy
  exact step_rowT hgd s0 x ho hown (r := [b]) (RB.of_blk (g := g) (t := 5) hK hK.lt) hl' (by simp; omega) hbase hs hx h
theorem step_rowK (hgd : o.guard = none) (s0 x : Operand) (ho : o.op = .call { callee := .builtin .append, args := #[s0, x], argTypes := #[27, 27] })
    (hown : OwnT w B v l) {A0 : Option Addr} {c0 B0 : Nat} (hr : RB w B0 A0 r) (hl' : l ++ r = l') (hlen : l.length + r.length ≤ 140737488355328) (hbase : B ≤ w.heap.size) (hs : a.eval s0 = v) (hx : a.eval x = .slice A0 r.length c0)
    (h : ∀ A c w', OwnT w' B (.slice A l'.length c) l' → Say B w w' → Keeps v (.slice A l'.length c) w w' → K (a.put o.dst (.slice A l'.length c)) w') : if Region.wanted o (yielded ops a.tmps) = true then o.wp Try.prog a w K Q else E := by
  subst hl'
  rw [if_pos (show Region.wanted o (yielded ops a.tmps) = true by simp [Region.wanted, hgd])]
  obtain ⟨A, c, w', hrun, hO, hsay, hkp⟩ := run_appK hown 27 o.type (.slice A0 r.length c0) (src_rb Try.underlying27 c0 hr) hlen hbase
  unfold Oper.wp execOp
  simp only [ho, resolve, invoke, builtin, Sem.run_bind, Sem.run_pure, Result.andThen_ok, List.map_toArray, List.map_cons, List.map_nil, hs, hx, hrun]
  exact h A c w' hO hsay hkp
/-- one byte, in a block made ahead -/
theorem step_oneK {b : UInt8} (hgd : o.guard = none) (s0 x : Operand) (ho : o.op = .call { callee := .builtin .append, args := #[s0, x], argTypes := #[27, 27] })
    (hown : OwnT w B v l) (y : Int) (hy : (b.toNat : Int) = y) {g : Nat} (hK : Blk w g 5 #[.int .u8 y]) (hl' : l ++ [b] = l') (hlen : l.length ≤ 140737488355000) (hbase : B ≤ w.heap.size) (hs : a.eval s0 = v) (hx : a.eval x = .slice (some ⟨g, 0, none⟩) 1 1)
    (h : ∀ A c w', OwnT w' B (.slice A l'.length c) l' → Say B w w' → Keeps v (.slice A l'.length c) w w' → K (a.put o.dst (.slice A l'.length c)) w') : if Region.wanted o (yielded ops a.tmps) = true then o.wp Try.prog a w K Q else E := by
  subst hy
  exact step_rowK hgd s0 x ho hown (r := [b]) (RB.of_blk (g := g) (t := 5) hK hK.lt) hl' (by simp; omega) hbase hs hx h
theorem wp_rowK (s0 x : Operand) (ho : o.op = .call { callee := .builtin .append, args := #[s0, x], argTypes := #[27, 27] })
    (hown : OwnT w B v l) {A0 : Option Addr} {c0 B0 : Nat} (hr : RB w B0 A0 r) (hl' : l ++ r = l') (hlen : l.length + r.length ≤ 140737488355328) (hbase : B ≤ w.heap.size) (hs : a.eval s0 = v) (hx : a.eval x = .slice A0 r.length c0)
    (h : ∀ A c w', OwnT w' B (.slice A l'.length c) l' → Say B w w' → Keeps v (.slice A l'.length c) w w' → K (a.put o.dst (.slice A l'.length c)) w') : o.wp Try.prog a w K Q := by
  subst hl'
  obtain ⟨A, c, w', hrun, hO, hsay, hkp⟩ := run_appK hown 27 o.type (.slice A0 r.length c0) (src_rb Try.underlying27 c0 hr) hlen hbase
  unfold Oper.wp execOp
  simp only [ho, resolve, invoke, builtin, Sem.run_bind, Sem.run_pure, Result.andThen_ok, List.map_toArray, List.map_cons, List.map_nil, hs, hx, hrun]
  exact h A c w' hO hsay hkp
theorem wp_strK (s0 x : Operand) (ho : o.op = .call { callee := .builtin .append, args := #[s0, x], argTypes := #[27, 9] })
    (hown : OwnT w B v l) {s : ByteArray} (hsr : s.data.toList = r) (hl' : l ++ r = l') (hlen : l.length + r.length ≤ 140737488355328) (hbase : B ≤ w.heap.size) (hs : a.eval s0 = v) (hx : a.eval x = .string s)
    (h : ∀ A c w', OwnT w' B (.slice A l'.length c) l' → Say B w w' → Keeps v (.slice A l'.length c) w w' → K (a.put o.dst (.slice A l'.length c)) w') : o.wp Try.prog a w K Q := by
  subst hl'
  obtain ⟨A, c, w', hrun, hO, hsay, hkp⟩ := run_appK hown 9 o.type (.string s) (hsr ▸ srcT_str w Try.underlying9 s) hlen hbase
  unfold Oper.wp execOp
  simp only [ho, resolve, invoke, builtin, Sem.run_bind, Sem.run_pure, Result.andThen_ok, List.map_toArray, List.map_cons, List.map_nil, hs, hx, hrun]
  exact h A c w' hO hsay hkp
/-- one byte, in a block made ahead -/
theorem wp_oneK {b : UInt8} (s0 x : Operand) (ho : o.op = .call { callee := .builtin .append, args := #[s0, x], argTypes := #[27, 27] })
    (hown : OwnT w B v l) (y : Int) (hy : (b.toNat : Int) = y) {g : Nat} (hK : Blk w g 5 #[.int .u8 y]) (hl' : l ++ [b] = l') (hlen : l.length ≤ 140737488355000) (hbase : B ≤ w.heap.size) (hs : a.eval s0 = v) (hx : a.eval x = .slice (some ⟨g, 0, none⟩) 1 1)
    (h : ∀ A c w', OwnT w' B (.slice A l'.length c) l' → Say B w w' → Keeps v (.slice A l'.length c) w w' → K (a.put o.dst (.slice A l'.length c)) w') : o.wp Try.prog a w K Q := by
  subst hy
  exact wp_rowK s0 x ho hown (r := [b]) (RB.of_blk (g := g) (t := 5) hK hK.lt) hl' (by simp; omega) hbase hs hx h
end
end Go.Proofs.Ytfmlgpnjckamjaa
