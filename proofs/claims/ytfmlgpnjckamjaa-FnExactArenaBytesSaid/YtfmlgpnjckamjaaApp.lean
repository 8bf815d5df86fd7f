/-
  Appends to rows of bytes of a call's own: a byte, a string, bytes; what they leave as it was.
-/
import Derived.Test.YtfmlgpnjckamjaaOwnU
import Derived.Test.YtfmlgpnjckamjaaDigO
import Derived.Lib.OthersKept
import Derived.Lib.AppendStr
namespace Go.Proofs.Ytfmlgpnjckamjaa
open Go.RowKit
set_option linter.unusedVariables false
set_option linter.unusedSimpArgs false

/-- what lies below B, and what is no row of bytes, is as it was -/
structure Say (B : Nat) (w w' : World) : Prop where
  below : Below B w w'
  kept : Lib.OthersKept 5 none w w'
theorem Say.refl (B : Nat) (w : World) : Say B w w := ⟨Below.refl _ _, Lib.OthersKept.refl _ _ _⟩
theorem Say.trans {B : Nat} {a b c : World} (h : Say B a b) (k : Say B b c) : Say B a c := ⟨h.below.trans k.below, h.kept.trans k.kept⟩
theorem Say.mono {B B' : Nat} {w w' : World} (h : Say B w w') (hB : B' ≤ B) : Say B' w w' := ⟨h.below.mono hB, h.kept⟩
theorem Say.size {B : Nat} {w w' : World} (h : Say B w w') : w.heap.size ≤ w'.heap.size := h.below.size
theorem Say.alloc {B : Nat} {a w : World} (h : Say B a w) (hB : B ≤ w.heap.size) (o : Obj) : Say B a (w.alloc o) := ⟨h.below.alloc hB o, h.kept.alloc o⟩
theorem Say.drew {B : Nat} {a w : World} (h : Say B a w) : Say B a w.drew := ⟨h.below.drew, h.kept.drew⟩
theorem Say.undrew {B : Nat} {w w' : World} (h : Say B w.drew w') : Say B w w' := ⟨⟨h.below.os, h.below.tape, h.below.output, h.below.size, h.below.block⟩, h.kept⟩
theorem Say.of {B : Nat} {w w' : World} (h : Below w.heap.size w w') (hB : B ≤ w.heap.size) : Say B w w' :=
  ⟨h.mono hB, fun k o hk _ _ => (h.block k (Array.getElem?_eq_some_iff.1 hk).1).trans hk⟩
theorem Blk.say {B : Nat} {w w' : World} {g : Nat} {t : TypeId} {cs : Array Value} (h : Blk w g t cs) (hs : Say B w w') (hne : t ≠ 5) : Blk w' g t cs :=
  hs.kept g _ h (by simp) (fun c fz e => hne (by injection e))
theorem Blk.four {w : World} {g : Nat} {t : TypeId} {a b c d : Value} (h : Blk w g t #[a, b, c, d]) : w.cell? ⟨g, 0, none⟩ = some a ∧ w.cell? ⟨g, 1, none⟩ = some b ∧ w.cell? ⟨g, 2, none⟩ = some c ∧ w.cell? ⟨g, 3, none⟩ = some d :=
  ⟨by rw [h.cell]; rfl, by rw [h.cell]; rfl, by rw [h.cell]; rfl, by rw [h.cell]; rfl⟩
theorem blOne (w : World) (o : Obj) : Below w.heap.size w (w.alloc o) := (Below.refl _ _).alloc (Nat.le_refl _) o
theorem RB.say {B : Nat} {w w' : World} {A : Option Addr} {l : List UInt8} (h : RB w B A l) (hs : Say B w w') : RB w' B A l := h.below hs.below
theorem OwnT.kind {w : World} {B : Nat} {v : Value} {l : List UInt8} (h : OwnT w B v l) : ∀ g, v.ownBlock = some g → ∃ c fz, w.heap[g]? = some (.cells c 5 fz) := by
  intro g hg
  rcases h.2 with ⟨rfl, _⟩ | ⟨g', cap, cur, rfl, hb, ⟨fz, hgg, _⟩, _⟩
  · simp [Value.ownBlock] at hg
  · simp [Value.ownBlock] at hg
    subst hg
    exact ⟨cur, fz, hgg⟩
theorem OwnB.toT {w : World} {B : Nat} {v : Value} {l : List UInt8} (h : OwnB w B v l) : OwnT w B v l := ownsT_of h
theorem OwnB.kind {w : World} {B : Nat} {v : Value} {l : List UInt8} (h : OwnB w B v l) : ∀ g, v.ownBlock = some g → ∃ c fz, w.heap[g]? = some (.cells c 5 fz) := h.toT.kind
theorem Say.grownT {B : Nat} {a w w' : World} {v : Value} {l : List UInt8} (h : Say B a w) (hg : w.grownBy w' v.ownBlock) (hO : OwnT w B v l) (hB : B ≤ w.heap.size) : Say B a w' :=
  ⟨h.below.grown hg hB (fun g hk => (hO.block hk).1), h.kept.grown hg hO.kind⟩
theorem Say.grownB {B : Nat} {a w w' : World} {v : Value} {l : List UInt8} (h : Say B a w) (hg : w.grownBy w' v.ownBlock) (hO : OwnB w B v l) (hB : B ≤ w.heap.size) : Say B a w' := h.grownT hg hO.toT hB
theorem strCells_bytes (s : ByteArray) : Lib.strCells s = vb s.data.toList := rfl

section
variable {w : World} {B : Nat} {v : Value} {l r : List UInt8} {ops : Array Oper} {rest : List Oper} {o : Oper} {a : Act} {Q : Exit → Act → World → Prop}
theorem srcT_str {P : Program} {tx : TypeId} (w : World) (hk : P.underlying tx = some .string) (s : ByteArray) : Src P 1 tx (.string s) s.data.toList.length (vb s.data.toList) w := by
  have := Src.ofString (P := P) w hk s
  rw [ba_len]
  exact this
/-- the run of an append of bytes -/
theorem run_appT (hown : OwnT w B v l) (tx : TypeId) (ty : TypeId) (x : Value) (hS : Src Try.prog 1 tx x r.length (vb r) w) (hlen : l.length + r.length ≤ 140737488355328) (hbase : B ≤ w.heap.size) :
    ∃ A c w', (Builtin.append_ #[27, tx] ty #[v, x]).run Try.prog w = .ok (.slice A (l ++ r).length c) w' ∧ OwnT w' B (.slice A (l ++ r).length c) (l ++ r) ∧ Say B w w' := by
  obtain ⟨i0, hi, hz0, hz1, hz2⟩ := info_parts infoU8
  obtain ⟨v', w', h1, h2, h3, -⟩ := run_append_T (P := Try.prog) w B 27 tx ty 5 i0 _ 1 1 Try.underlying27 hi hz0 hz1 hz2 rfl v _ _ hown x _ _ hS (by unfold maxLen; omega) (by omega) hbase
  have hO : OwnT w' B v' (l ++ r) := by unfold OwnT; rw [List.length_append, vb_app]; exact h2
  obtain ⟨A, c, rfl, -⟩ := hO.form
  exact ⟨A, c, w', h1, hO, (Say.refl B w).grownT h3 hown hbase⟩
theorem Src.row {P : Program} {size : Nat} {tx : TypeId} {x : Value} {n : Nat} {news : List Value} {w : World} (h : Src P size tx x n news w) : True := trivial
/-- the same, of a row that no conversion made -/
theorem run_appB (hown : OwnB w B v l) (tx : TypeId) (ty : TypeId) (x : Value) (hS : Src Try.prog 1 tx x r.length (vb r) w) (hlen : l.length + r.length ≤ 140737488355328) (hbase : B ≤ w.heap.size) :
    ∃ A c w', (Builtin.append_ #[27, tx] ty #[v, x]).run Try.prog w = .ok (.slice A (l ++ r).length c) w' ∧ OwnB w' B (.slice A (l ++ r).length c) (l ++ r) ∧ Say B w w' := by
  obtain ⟨i0, hi, hz0, hz1, hz2⟩ := info_parts infoU8
  obtain ⟨v', w', h1, h2, h3, -⟩ := run_append_S (P := Try.prog) w B 27 tx ty 5 i0 _ 1 1 Try.underlying27 hi hz0 hz1 hz2 rfl v _ _ hown x _ _ hS (by unfold maxLen; omega) (by omega) hbase
  have hO : OwnB w' B v' (l ++ r) := by unfold OwnB; rw [List.length_append, vb_append]; exact h2
  obtain ⟨A, c, rfl, -⟩ := hO.form
  exact ⟨A, c, w', h1, hO, (Say.refl B w).grownB h3 hown hbase⟩
theorem wpList_rowT (hgd : o.guard = none) (s0 x : Operand) (ho : o.op = .call { callee := .builtin .append, args := #[s0, x], argTypes := #[27, 27] })
    (hs : a.eval s0 = v) (hown : OwnT w B v l) {A0 : Option Addr} {c0 B0 : Nat} (hx : a.eval x = .slice A0 r.length c0) (hr : RB w B0 A0 r) {l' : List UInt8} (hl' : l ++ r = l') (hlen : l.length + r.length ≤ 140737488355328) (hbase : B ≤ w.heap.size)
    (h : ∀ A c w', OwnT w' B (.slice A l'.length c) l' → Say B w w' → wpList Try.prog ops Q rest (a.put o.dst (.slice A l'.length c)) w') : wpList Try.prog ops Q (o :: rest) a w := by
  subst hl'
  refine wpList_plain hgd fun K hK => ?_
  obtain ⟨A, c, w', hrun, hO, hsay⟩ := run_appT hown 27 o.type (.slice A0 r.length c0) (src_rb Try.underlying27 c0 hr) hlen hbase
  unfold Oper.wp execOp
  simp only [ho, resolve, invoke, builtin, Sem.run_bind, Sem.run_pure, Result.andThen_ok, List.map_toArray, List.map_cons, List.map_nil, hs, hx, hrun]
  exact hK _ _ (h A c w' hO hsay)
theorem wpList_strT (hgd : o.guard = none) (s0 x : Operand) (ho : o.op = .call { callee := .builtin .append, args := #[s0, x], argTypes := #[27, 9] })
    (hs : a.eval s0 = v) (hown : OwnT w B v l) {s : ByteArray} (hx : a.eval x = .string s) (hsr : s.data.toList = r) {l' : List UInt8} (hl' : l ++ r = l') (hlen : l.length + r.length ≤ 140737488355328) (hbase : B ≤ w.heap.size)
    (h : ∀ A c w', OwnT w' B (.slice A l'.length c) l' → Say B w w' → wpList Try.prog ops Q rest (a.put o.dst (.slice A l'.length c)) w') : wpList Try.prog ops Q (o :: rest) a w := by
  subst hl'
  refine wpList_plain hgd fun K hK => ?_
  obtain ⟨A, c, w', hrun, hO, hsay⟩ := run_appT hown 9 o.type (.string s) (hsr ▸ srcT_str w Try.underlying9 s) hlen hbase
  unfold Oper.wp execOp
  simp only [ho, resolve, invoke, builtin, Sem.run_bind, Sem.run_pure, Result.andThen_ok, List.map_toArray, List.map_cons, List.map_nil, hs, hx, hrun]
  exact hK _ _ (h A c w' hO hsay)
theorem wpList_oneT {w0 : World} {b : UInt8} (hgd : o.guard = none) (s0 x : Operand) (ho : o.op = .call { callee := .builtin .append, args := #[s0, x], argTypes := #[27, 27] })
    (hs : a.eval s0 = v) (hown : OwnT w0 B v l) (y : Int) (hy : (b.toNat : Int) = y) {g : Nat} (hx : a.eval x = .slice (some ⟨g, 0, none⟩) 1 1) (hg : w0.heap.size = g) {l' : List UInt8} (hl' : l ++ [b] = l') (hlen : l.length ≤ 140737488355000) (hbase : B ≤ w0.heap.size)
    (h : ∀ A c w', OwnT w' B (.slice A l'.length c) l' → Say B w0 w' → wpList Try.prog ops Q rest (a.put o.dst (.slice A l'.length c)) w') : wpList Try.prog ops Q (o :: rest) a (w0.alloc (.cells #[.int .u8 y] 5)) := by
  subst hl'
  subst hg
  refine wpList_plain hgd fun K hK => ?_
  obtain ⟨A, c, w', hrun, hO, hsay⟩ := run_appT (r := [b]) (hown.alloc (.cells #[.int .u8 y] 5)) 27 o.type (.slice (some ⟨w0.heap.size, 0, none⟩) 1 1) (by subst hy; exact src_one Try.underlying27 _ _) (by simp; omega) (by simp; omega)
  unfold Oper.wp execOp
  simp only [ho, resolve, invoke, builtin, Sem.run_bind, Sem.run_pure, Result.andThen_ok, List.map_toArray, List.map_cons, List.map_nil, hs, hx, hrun]
  exact hK _ _ (h A c w' hO (((Say.refl B w0).alloc hbase _).trans hsay))
theorem wpList_rowB (hgd : o.guard = none) (s0 x : Operand) (ho : o.op = .call { callee := .builtin .append, args := #[s0, x], argTypes := #[27, 27] })
    (hs : a.eval s0 = v) (hown : OwnB w B v l) {A0 : Option Addr} {c0 B0 : Nat} (hx : a.eval x = .slice A0 r.length c0) (hr : RB w B0 A0 r) {l' : List UInt8} (hl' : l ++ r = l') (hlen : l.length + r.length ≤ 140737488355328) (hbase : B ≤ w.heap.size)
    (h : ∀ A c w', OwnB w' B (.slice A l'.length c) l' → Say B w w' → wpList Try.prog ops Q rest (a.put o.dst (.slice A l'.length c)) w') : wpList Try.prog ops Q (o :: rest) a w := by
  subst hl'
  refine wpList_plain hgd fun K hK => ?_
  obtain ⟨A, c, w', hrun, hO, hsay⟩ := run_appB hown 27 o.type (.slice A0 r.length c0) (src_rb Try.underlying27 c0 hr) hlen hbase
  unfold Oper.wp execOp
  simp only [ho, resolve, invoke, builtin, Sem.run_bind, Sem.run_pure, Result.andThen_ok, List.map_toArray, List.map_cons, List.map_nil, hs, hx, hrun]
  exact hK _ _ (h A c w' hO hsay)
theorem wpList_strB (hgd : o.guard = none) (s0 x : Operand) (ho : o.op = .call { callee := .builtin .append, args := #[s0, x], argTypes := #[27, 9] })
    (hs : a.eval s0 = v) (hown : OwnB w B v l) {s : ByteArray} (hx : a.eval x = .string s) (hsr : s.data.toList = r) {l' : List UInt8} (hl' : l ++ r = l') (hlen : l.length + r.length ≤ 140737488355328) (hbase : B ≤ w.heap.size)
    (h : ∀ A c w', OwnB w' B (.slice A l'.length c) l' → Say B w w' → wpList Try.prog ops Q rest (a.put o.dst (.slice A l'.length c)) w') : wpList Try.prog ops Q (o :: rest) a w := by
  subst hl'
  refine wpList_plain hgd fun K hK => ?_
  obtain ⟨A, c, w', hrun, hO, hsay⟩ := run_appB hown 9 o.type (.string s) (hsr ▸ srcT_str w Try.underlying9 s) hlen hbase
  unfold Oper.wp execOp
  simp only [ho, resolve, invoke, builtin, Sem.run_bind, Sem.run_pure, Result.andThen_ok, List.map_toArray, List.map_cons, List.map_nil, hs, hx, hrun]
  exact hK _ _ (h A c w' hO hsay)
theorem wpList_oneB {w0 : World} {b : UInt8} (hgd : o.guard = none) (s0 x : Operand) (ho : o.op = .call { callee := .builtin .append, args := #[s0, x], argTypes := #[27, 27] })
    (hs : a.eval s0 = v) (hown : OwnB w0 B v l) (y : Int) (hy : (b.toNat : Int) = y) {g : Nat} (hx : a.eval x = .slice (some ⟨g, 0, none⟩) 1 1) (hg : w0.heap.size = g) {l' : List UInt8} (hl' : l ++ [b] = l') (hlen : l.length ≤ 140737488355000) (hbase : B ≤ w0.heap.size)
    (h : ∀ A c w', OwnB w' B (.slice A l'.length c) l' → Say B w0 w' → wpList Try.prog ops Q rest (a.put o.dst (.slice A l'.length c)) w') : wpList Try.prog ops Q (o :: rest) a (w0.alloc (.cells #[.int .u8 y] 5)) := by
  subst hl'
  subst hg
  refine wpList_plain hgd fun K hK => ?_
  obtain ⟨A, c, w', hrun, hO, hsay⟩ := run_appB (r := [b]) (hown.alloc (.cells #[.int .u8 y] 5)) 27 o.type (.slice (some ⟨w0.heap.size, 0, none⟩) 1 1) (by subst hy; exact src_one Try.underlying27 _ _) (by simp; omega) (by simp; omega)
  unfold Oper.wp execOp
  simp only [ho, resolve, invoke, builtin, Sem.run_bind, Sem.run_pure, Result.andThen_ok, List.map_toArray, List.map_cons, List.map_nil, hs, hx, hrun]
  exact hK _ _ (h A c w' hO (((Say.refl B w0).alloc hbase _).trans hsay))
end
end Go.Proofs.Ytfmlgpnjckamjaa
