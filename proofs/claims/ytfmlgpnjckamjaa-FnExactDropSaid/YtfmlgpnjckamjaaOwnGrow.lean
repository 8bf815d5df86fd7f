/-
  An arena of one's own whose queue has grown.
-/
import Derived.Test.YtfmlgpnjckamjaaTallyJ
import Derived.Test.YtfmlgpnjckamjaaMgrow
namespace Go.Proofs.Ytfmlgpnjckamjaa
open Go.RowKit
set_option linter.unusedVariables false
set_option linter.unusedSimpArgs false
namespace ArnM
/-- no block of the slots holds numbers -/
theorem OwnSls.kind {w : World} {lo g : Nat} {fb : Nat → Nat} {nb : Nat → Nat → Nat} {A : Option Addr} {l : List Sl} (h : OwnSls w lo A l g fb nb) {b : Nat} (hb : bsOf l g fb nb b) : ∃ t cs, Blk w b t cs ∧ t ≠ 3 := by
  rcases hb with ⟨h0, rfl⟩ | ⟨i, hi, hb⟩
  · obtain ⟨-, -, cs, hK, -⟩ := h.row h0
    exact ⟨_, cs, hK, by decide⟩
  · obtain ⟨-, -, cs, hK, hat⟩ := h.row (by omega)
    obtain ⟨-, -, -, A', c', -, hF⟩ := hat i hi
    rcases hb with ⟨h0, rfl⟩ | ⟨j, hj, h0, rfl⟩
    · obtain ⟨-, -, cs, hK, -⟩ := hF.row h0
      exact ⟨_, cs, hK, by decide⟩
    · obtain ⟨-, -, cs, hK, hfd⟩ := hF.row (by omega)
      have hB : ∃ A, BkB w lo A (nb i j) (l[i].fs[j].name) := by
        have := hfd j hj
        unfold FdAt at this
        obtain ⟨A2, c2, -, hB, -⟩ := this
        exact ⟨A2, hB⟩
      obtain ⟨A2, hB⟩ := hB
      obtain ⟨-, -, tc, hK, -⟩ := hB h0
      exact ⟨_, tc, hK, by decide⟩
/-- the queue has grown: an arena of one's own yet, and its rows grow -/
theorem OwnAr.grow {w w' : World} {lo g g1 g2 c1 c2 c1' : Nat} {fb : Nat → Nat} {nb : Nat → Nat → Nat} {A0 A1 A2 A1' : Option Addr} {S : List Sl} {Q P Q' : List Int} (h : OwnAr w lo A0 A1 A2 ⟨S, Q, P⟩ g fb nb g1 g2) (hR : RowQ w lo A1 A2 c1 c2 g1 g2 Q P)
    (hl : ∀ b, asOf ⟨S, Q, P⟩ g fb nb g1 g2 b → b < w.heap.size) (hg : w.grownBy w' (.slice A1 Q.length c1 : Value).ownBlock) (hq : IRow w' lo (.slice A1' Q'.length c1') Q')
    (hn : (.slice A1' Q'.length c1' : Value).ownBlock = (.slice A1 Q.length c1 : Value).ownBlock ∨ (.slice A1' Q'.length c1' : Value).ownBlock = some w.heap.size) :
    ∃ g1', OwnAr w' lo A0 A1' A2 ⟨S, Q', P⟩ g fb nb g1' g2 ∧ RowQ w' lo A1' A2 c1' c2 g1' g2 Q' P ∧ (∀ b, asOf ⟨S, Q', P⟩ g fb nb g1' g2 b → b < w'.heap.size) := by
  obtain ⟨A, c, g1', e, hi, hlt⟩ := BkI.of hq
  obtain ⟨rfl, -, rfl⟩ : A1' = A ∧ True ∧ c1' = c := by injection e with e1 e2 e3; exact ⟨e1, trivial, e3⟩
  have hg1 : 0 < Q'.length → (.slice A1' Q'.length c1' : Value).ownBlock = some g1' := fun h0 => by
    obtain ⟨e1, -⟩ := hi h0
    subst e1
    rfl
  have hA : Apart (fun b => (.slice A1 Q.length c1 : Value).ownBlock = some b) w w' := ⟨hg.os, hg.tape, hg.output, hg.size, fun k hk hn => hg.block k hk (fun e => hn e.symm)⟩
  have hsl : ∀ b, bsOf S g fb nb b → ¬ (.slice A1 Q.length c1 : Value).ownBlock = some b := fun b hb e => by
    obtain ⟨t, cs, hK, ht⟩ := h.slots.kind hb
    exact (hR.ne hK ht).1 e
  have hQ : ∀ b, b < w.heap.size → ¬ (.slice A1 Q.length c1 : Value).ownBlock = some b → 0 < Q'.length → ¬ b = g1' := fun b hb hne h0 e => by
    rcases hn with e2 | e2
    · exact hne (by rw [← e2, hg1 h0, e])
    · rw [hg1 h0] at e2
      cases e2
      omega
  refine ⟨g1', ⟨h.slots.apart hA hsl, hi, h.purple.apart hA (fun h0 e => hR.un g2 e (hR.p1 h0)), fun h0 b hb => hQ b (hl b (.inl hb)) (hsl b hb) h0, h.sp, fun h0 h2 e => hQ g2 (hl g2 (.inr (.inr ⟨h2, rfl⟩))) (fun e2 => hR.un g2 e2 (hR.p1 h2)) h0 e.symm⟩,
    hR.grow hg hq (hn.imp id (fun e => ⟨_, e, Nat.le_refl _⟩)) hg1, fun b hb => ?_⟩
  rcases hb with hb | ⟨h0, rfl⟩ | ⟨h0, rfl⟩
  · exact Nat.lt_of_lt_of_le (hl b (.inl hb)) hg.size
  · exact hlt h0
  · exact Nat.lt_of_lt_of_le (hl _ (.inr (.inr ⟨h0, rfl⟩))) hg.size
end ArnM
end Go.Proofs.Ytfmlgpnjckamjaa
