/-
  Two rows of numbers in the making; what the model's copy of an arena is made of.
-/
import Derived.Test.YtfmlgpnjckamjaaMgrow
import Derived.Test.YtfmlgpnjckamjaaTallyJ
namespace Go.Proofs.Ytfmlgpnjckamjaa
open Go.RowKit
set_option linter.unusedVariables false
set_option linter.unusedSimpArgs false
namespace ArnG
open ArnM

/-- two rows of numbers of one's own, from lo on, in blocks unlike; all below lo is as it was in w0 -/
structure Two (w0 w : World) (lo : Nat) (v1 : Value) (l1 : List Int) (v2 : Value) (l2 : List Int) : Prop where
  low : lo ≤ w.heap.size
  below : Below lo w0 w
  r1 : IRow w lo v1 l1
  r2 : IRow w lo v2 l2
  un : ∀ b, v1.ownBlock = some b → v2.ownBlock ≠ some b
section
variable {w0 w w' : World} {lo : Nat} {v1 v2 : Value} {l1 l2 : List Int}
theorem Two.start (w0 : World) {lo : Nat} (h : lo ≤ w0.heap.size) : Two w0 w0 lo (.slice none 0 0) [] (.slice none 0 0) [] := ⟨h, Below.refl _ _, IRow.nil _ _, IRow.nil _ _, fun b hb => by cases hb⟩
theorem Two.alloc (h : Two w0 w lo v1 l1 v2 l2) (o : Obj) : Two w0 (w.alloc o) lo v1 l1 v2 l2 := ⟨by have := h.low; rw [World.size_alloc]; omega, h.below.alloc h.low _, h.r1.alloc _, h.r2.alloc _, h.un⟩
theorem Two.drew (h : Two w0 w lo v1 l1 v2 l2) : Two w0 w.drew lo v1 l1 v2 l2 := ⟨h.low, h.below.drew, h.r1, h.r2, h.un⟩
theorem Two.step (h : Two w0 w lo v1 l1 v2 l2) (hb : Below w.heap.size w w') : Two w0 w' lo v1 l1 v2 l2 := ⟨Nat.le_trans h.low hb.size, h.below.trans (hb.mono h.low), h.r1.below hb, h.r2.below hb, h.un⟩
theorem Two.far {g : Nat} {t : TypeId} {cs : Array Value} (h : Two w0 w lo v1 l1 v2 l2) (hK : Blk w g t cs) (ht : t ≠ 3) (hg : lo ≤ g) (i : Nat) (u : Value) : Two w0 (w.setCell ⟨g, i, none⟩ u) lo v1 l1 v2 l2 := by
  refine ⟨by rw [World.size_setCell]; exact h.low, h.below.setCell (p := ⟨g, i, none⟩) hg u, h.r1.keep fun b hb => ?_, h.r2.keep fun b hb => ?_, h.un⟩
  · exact Below.heap_setCell w ⟨g, i, none⟩ u b (fun e => own_ne h.r1 hK ht (by rw [hb]; exact congrArg some e))
  · exact Below.heap_setCell w ⟨g, i, none⟩ u b (fun e => own_ne h.r2 hK ht (by rw [hb]; exact congrArg some e))
/-- a block of another kind grows -/
theorem Two.grown {base : Nat} {e : TypeId} {size : Nat} {v : Value} {n : Nat} {xs : List Value} (h : Two w0 w lo v1 l1 v2 l2) (ho : w.ownsRow base e size v n xs) (hlo : lo ≤ base) (he : e ≠ 3) (hg : w.grownBy w' v.ownBlock) : Two w0 w' lo v1 l1 v2 l2 := by
  have hk : ∀ {u : Value} {l : List Int}, IRow w lo u l → ∀ b, u.ownBlock = some b → w'.heap[b]? = w.heap[b]? := fun {u l} hr b hb => hg.block b (hr.at_ hb).2.1 (fun e1 => by
    obtain ⟨_, _, cs, h1⟩ := hr.at_ hb
    exact own_ne ho h1 (Ne.symm he) e1.symm)
  exact ⟨Nat.le_trans h.low hg.size, h.below.grown hg h.low (fun g hg' => Nat.le_trans hlo (ho.lt g hg').1), h.r1.keep (hk h.r1), h.r2.keep (hk h.r2), h.un⟩
theorem irow_made (w : World) {lo : Nat} (h : lo ≤ w.heap.size) : IRow (w.alloc (.cells #[] 3)) lo (.slice (some ⟨w.heap.size, 0, none⟩) 0 0) [] := World.ownsRow_made w #[] 0 h (by unfold maxLen; omega) rfl
theorem Two.make1 (h : Two w0 w lo v1 l1 v2 l2) : Two w0 (w.alloc (.cells #[] 3)) lo (.slice (some ⟨w.heap.size, 0, none⟩) 0 0) [] v2 l2 := by
  have h1 := h.alloc (.cells #[] 3)
  exact ⟨h1.low, h1.below, irow_made w h.low, h1.r2, fun b hb hb2 => by
    cases hb
    exact Nat.lt_irrefl _ (h.r2.at_ hb2).2.1⟩
theorem Two.make2 (h : Two w0 w lo v1 l1 v2 l2) : Two w0 (w.alloc (.cells #[] 3)) lo v1 l1 (.slice (some ⟨w.heap.size, 0, none⟩) 0 0) [] := by
  have h1 := h.alloc (.cells #[] 3)
  exact ⟨h1.low, h1.below, h1.r1, irow_made w h.low, fun b hb hb2 => by
    cases hb2
    exact Nat.lt_irrefl _ (h.r1.at_ hb).2.1⟩
theorem srcI {w : World} {L B : Nat} {A : Option Addr} {l : List Int} (h : IL w L B A l) (c : Nat) : Src Try.prog 1 23 (.slice A l.length c) l.length (vi l) w := by
  cases A with
  | none =>
    have h0 : l = [] := by
      cases l with
      | nil => rfl
      | cons x r => obtain ⟨ad, e, _⟩ := h.2 (by simp); cases e
    subst h0
    exact Src.ofNil w Try.underlying23 c
  | some ad =>
    refine Src.ofSlice w Try.underlying23 ad l.length c (vi l) (by rw [vi_len, Nat.mul_one]) (fun j u hu => ?_) (fun u hu => ?_)
    · rw [vi_get] at hu
      rcases Nat.lt_or_ge j l.length with hj | hj
      · obtain ⟨ad', e, -, -, hc⟩ := h.2 (by omega)
        injection e with e
        subst e
        rw [hc j hj, ← hu, List.getElem?_eq_getElem hj]; rfl
      · rw [List.getElem?_eq_none hj] at hu; cases hu
    · obtain ⟨x, _, rfl⟩ := List.mem_map.1 hu
      rfl
section
variable {o : Oper} {a : Act} {K : Act → World → Prop} {Q' : Exit → Act → World → Prop} {L B c : Nat} {A : Option Addr} {l : List Int}
theorem irow_of {w' : World} {v' : Value} (h : w'.ownsRow lo 3 1 v' (0 + l.length) ([] ++ vi l)) : ∃ A' c', v' = .slice A' l.length c' ∧ IRow w' lo (.slice A' l.length c') l := by
  rw [Nat.zero_add, List.nil_append] at h
  obtain ⟨A', c', rfl, -⟩ := own_form h
  exact ⟨A', c', rfl, h⟩
theorem wp_two1 (s y : Operand) (ho : o.op = .call { callee := .builtin .append, args := #[s, y], argTypes := #[23, 23] }) (h : Two w0 w lo v1 [] v2 l2) (hI : IL w L B A l) (hl : l.length ≤ 1050000)
    (hs : a.eval s = v1) (hx : a.eval y = .slice A l.length c)
    (hn : ∀ A' c' w', Two w0 w' lo (.slice A' l.length c') l v2 l2 → (∀ g t cs, Blk w g t cs → t ≠ 3 → Blk w' g t cs) → w.heap.size ≤ w'.heap.size → K (a.put o.dst (.slice A' l.length c')) w') : o.wp Try.prog a w K Q' := by
  obtain ⟨i0, hi, hz0, hz1, hz2⟩ := AppI.parts AppI.infoInt
  refine wp_grow s y 23 23 ho lo 3 i0 _ 1 8 Try.underlying23 hi hz0 hz1 hz2 rfl v1 0 [] h.r1 _ _ _ (srcI hI c) (by unfold maxLen; omega) (by omega) h.low hs hx ?_
  intro v' w' hO hg hw
  obtain ⟨A', c', rfl, hR⟩ := irow_of hO
  refine hn A' c' w' ⟨Nat.le_trans h.low hg.size, h.r1.grown h.below h.low hg, hR, h.r2.keep fun b hb => hg.block b (h.r2.at_ hb).2.1 (fun e => h.un b e.symm hb), fun b hb hb2 => ?_⟩ (fun g t cs hK ht => own_grown h.r1 hK ht hg) hg.size
  rcases hw with e | e
  · exact h.un b (e.symm.trans hb) hb2
  · rw [e] at hb
    cases hb
    have := (h.r2.at_ hb2).2.1
    omega
theorem wp_two2 (s y : Operand) (ho : o.op = .call { callee := .builtin .append, args := #[s, y], argTypes := #[23, 23] }) (h : Two w0 w lo v1 l1 v2 []) (hI : IL w L B A l) (hl : l.length ≤ 1050000)
    (hs : a.eval s = v2) (hx : a.eval y = .slice A l.length c)
    (hn : ∀ A' c' w', Two w0 w' lo v1 l1 (.slice A' l.length c') l → (∀ g t cs, Blk w g t cs → t ≠ 3 → Blk w' g t cs) → w.heap.size ≤ w'.heap.size → K (a.put o.dst (.slice A' l.length c')) w') : o.wp Try.prog a w K Q' := by
  obtain ⟨i0, hi, hz0, hz1, hz2⟩ := AppI.parts AppI.infoInt
  refine wp_grow s y 23 23 ho lo 3 i0 _ 1 8 Try.underlying23 hi hz0 hz1 hz2 rfl v2 0 [] h.r2 _ _ _ (srcI hI c) (by unfold maxLen; omega) (by omega) h.low hs hx ?_
  intro v' w' hO hg hw
  obtain ⟨A', c', rfl, hR⟩ := irow_of hO
  refine hn A' c' w' ⟨Nat.le_trans h.low hg.size, h.r2.grown h.below h.low hg, h.r1.keep fun b hb => hg.block b (h.r1.at_ hb).2.1 (fun e => h.un b hb e.symm), hR, fun b hb hb2 => ?_⟩ (fun g t cs hK ht => own_grown h.r2 hK ht hg) hg.size
  rcases hw with e | e
  · exact h.un b hb (e.symm.trans hb2)
  · rw [e] at hb2
    cases hb2
    have := (h.r1.at_ hb).2.1
    omega
end
end

/-- bytes copied behind an empty row -/
theorem wp_bytes {w : World} {o : Oper} {a : Act} {K : Act → World → Prop} {Q' : Exit → Act → World → Prop} {lo g : Nat} {l : List UInt8} {A : Option Addr} {B c : Nat} (s y : Operand) (ho : o.op = .call { callee := .builtin .append, args := #[s, y], argTypes := #[27, 27] })
    (hg : lo ≤ g) (hK : Blk w g 5 #[]) (hr : RB w B A l) (hl : l.length ≤ 1050000) (hs : a.eval s = .slice (some ⟨g, 0, none⟩) 0 0) (hx : a.eval y = .slice A l.length c)
    (hn : ∀ A' c' b w', BkB w' lo A' b l → (0 < l.length → (b = g ∨ b = w.heap.size) ∧ b < w'.heap.size) → Below g w w' → (∀ k, k < w.heap.size → k ≠ g → w'.heap[k]? = w.heap[k]?) → K (a.put o.dst (.slice A' l.length c')) w') : o.wp Try.prog a w K Q' := by
  obtain ⟨i0, hi, hz0, hz1, hz2⟩ := info_parts infoU8
  have hO : w.ownsRow lo 5 1 (.slice (some ⟨g, 0, none⟩) 0 0) 0 [] := ⟨rfl, .inr ⟨g, 0, #[], rfl, hg, hK, Nat.le_refl _, by unfold maxLen; omega, rfl, rfl⟩⟩
  have hlt := hK.lt
  refine wp_grow s y 27 27 ho lo 5 i0 _ 1 1 Try.underlying27 hi hz0 hz1 hz2 rfl _ 0 [] hO _ _ _ (src_rb Try.underlying27 c hr) (by unfold maxLen; omega) (by omega) (by omega) hs hx ?_
  intro v' w' hO' hgr hw
  rw [Nat.zero_add, List.nil_append] at hO'
  obtain ⟨A', c', b, rfl, hB, hb⟩ := bkB_of hO'
  refine hn A' c' b w' hB (fun h0 => ?_) ((Below.refl g w).grown hgr (by omega) (fun k hk => by cases hk; exact Nat.le_refl _)) (fun k hk hne => hgr.block k hk (fun e => by cases e; exact hne rfl))
  obtain ⟨h1, h2⟩ := hb h0
  refine ⟨?_, h1⟩
  rcases hw with e | e
  · rw [h2] at e
    cases e
    exact .inl rfl
  · rw [h2] at e
    cases e
    exact .inr rfl
section
variable {w w' : World} {lo : Nat} {v : Value} {l : List Sl} {fb : Nat → Nat} {nb : Nat → Nat → Nat}
/-- what is written into a block of another kind leaves the slots be -/
theorem SRowG.far {g : Nat} {cs : Array Value} (h : SRowG w lo v l fb nb) (hK : Blk w g 32 cs) (i : Nat) (u : Value) : SRowG (w.setCell ⟨g, i, none⟩ u) lo v l fb nb := by
  obtain ⟨xs, h1, h2⟩ := h.row
  have ha : Apart (fun b => b = g) w (w.setCell ⟨g, i, none⟩ u) := Apart.setCell (S := fun b => b = g) (p := ⟨g, i, none⟩) (Apart.refl _ w) rfl u
  refine ⟨⟨xs, own_keep h1 fun k hk => Below.heap_setCell w ⟨g, i, none⟩ u k (fun e => own_ne h1 hK (by decide) (by rw [hk]; exact congrArg some e)), fun j hj => (h2 j hj).apart ha fun b hb e => ?_⟩, fun j hj b hb => by rw [World.size_setCell]; exact h.lt j hj b hb, h.one⟩
  obtain ⟨t, bs, hK', ht⟩ := slAt_kind (h2 j hj) hb
  rcases ht with rfl | rfl
  · exact Blk.ne_ hK' hK (by decide) e
  · exact Blk.ne_ hK' hK (by decide) e
end
/-- what the model's copy answers: an arena of its own whose queue and purple may grow -/
def ArAnsJ (w : World) (lo : Nat) (a : Ar) (v : Value) : Prop :=
  ∃ (A0 A1 A2 : Option Addr) (c0 c1 c2 g : Nat) (fb : Nat → Nat) (nb : Nat → Nat → Nat) (g1 g2 : Nat), v = .agg #[.slice A0 a.slots.length c0, .slice A1 a.queue.length c1, .slice A2 a.purple.length c2] ∧
    OwnAr w lo A0 A1 A2 a g fb nb g1 g2 ∧ (∀ b, asOf a g fb nb g1 g2 b → b < w.heap.size) ∧ RowQ w lo A1 A2 c1 c2 g1 g2 a.queue a.purple
/-- the parts are an arena -/
theorem ansJ_of {w0 w : World} {lo : Nat} {v0 : Value} {S : List Sl} {Q P : List Int} {fb : Nat → Nat} {nb : Nat → Nat → Nat} {A1 A2 : Option Addr} {c1 c2 : Nat} (hS : SRowG w lo v0 S fb nb) (h : Two w0 w lo (.slice A1 Q.length c1) Q (.slice A2 P.length c2) P) :
    ∃ A0 c0 g g1 g2, v0 = .slice A0 S.length c0 ∧ OwnAr w lo A0 A1 A2 ⟨S, Q, P⟩ g fb nb g1 g2 ∧ (∀ b, asOf ⟨S, Q, P⟩ g fb nb g1 g2 b → b < w.heap.size) ∧ RowQ w lo A1 A2 c1 c2 g1 g2 Q P := by
  obtain ⟨A0, c0, g, rfl, hO, hk⟩ := hS.own
  obtain ⟨A1', c1', g1, e1, hB1, hg1⟩ := BkI.of h.r1
  obtain ⟨A2', c2', g2, e2, hB2, hg2⟩ := BkI.of h.r2
  cases e1
  cases e2
  have ne : ∀ b, bsOf S g fb nb b → ∀ t cs, Blk w b t cs → t ≠ 3 := fun b hb t cs hK => by
    obtain ⟨-, t', bs, hK', ht⟩ := hk b hb
    have : t = t' := by
      rcases Classical.em (t = t') with e | e
      · exact e
      · exact absurd rfl (Blk.ne_ hK hK' e)
    rw [this]
    rcases ht with rfl | rfl | rfl <;> decide
  have o1 : 0 < Q.length → (.slice A1 Q.length c1 : Value).ownBlock = some g1 := fun h0 => by
    obtain ⟨e, -⟩ := hB1 h0
    rw [e]; rfl
  have o2 : 0 < P.length → (.slice A2 P.length c2 : Value).ownBlock = some g2 := fun h0 => by
    obtain ⟨e, -⟩ := hB2 h0
    rw [e]; rfl
  refine ⟨A0, c0, g, g1, g2, rfl, ⟨hO, hB1, hB2, fun h0 b hb e => ?_, fun h0 b hb e => ?_, fun h1 h2 e => ?_⟩, fun b hb => ?_, ⟨h.r1, h.r2, h.un, o1, o2⟩⟩
  · obtain ⟨-, -, cs, hK, -⟩ := hB1 h0
    subst e
    exact ne b hb _ _ hK rfl
  · obtain ⟨-, -, cs, hK, -⟩ := hB2 h0
    subst e
    exact ne b hb _ _ hK rfl
  · subst e
    exact h.un _ (o1 h1) (o2 h2)
  · rcases hb with hb | ⟨h0, rfl⟩ | ⟨h0, rfl⟩
    · exact (hk b hb).1
    · exact hg1 h0
    · exact hg2 h0
end ArnG
end Go.Proofs.Ytfmlgpnjckamjaa
