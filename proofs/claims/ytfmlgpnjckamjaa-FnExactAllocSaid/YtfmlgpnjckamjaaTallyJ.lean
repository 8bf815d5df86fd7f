/-
  A tally over a copy of an arena whose queue and purple grow apart.
-/
import Derived.Test.YtfmlgpnjckamjaaTallyA
import Derived.Test.YtfmlgpnjckamjaaCopyOfJ
namespace Go.Proofs.Ytfmlgpnjckamjaa
open Go.RowKit
set_option linter.unusedVariables false
set_option linter.unusedSimpArgs false

/-- queue and purple as rows that grow, in blocks unlike -/
structure RowQ (w : World) (lo : Nat) (A1 A2 : Option Addr) (c1 c2 g1 g2 : Nat) (Q P : List Int) : Prop where
  q : IRow w lo (.slice A1 Q.length c1) Q
  p : IRow w lo (.slice A2 P.length c2) P
  un : ∀ b, (.slice A1 Q.length c1 : Value).ownBlock = some b → (.slice A2 P.length c2 : Value).ownBlock ≠ some b
  q1 : 0 < Q.length → (.slice A1 Q.length c1 : Value).ownBlock = some g1
  p1 : 0 < P.length → (.slice A2 P.length c2 : Value).ownBlock = some g2
section
variable {w w' : World} {lo lo' c1 c2 g1 g2 : Nat} {A1 A2 : Option Addr} {Q P : List Int}
theorem RowQ.of {s1 s2 s3 : Nat} (hl : lo ≤ s1) (hl2 : lo ≤ s2) (hq : ArnM.BkJ w s1 s2 A1 c1 g1 Q) (hp : ArnM.BkJ w s2 s3 A2 c2 g2 P) : RowQ w lo A1 A2 c1 c2 g1 g2 Q P :=
  ⟨hq.2.1.lo_le hl, hp.2.1.lo_le hl2, hq.unlike hp (Nat.le_refl _), hq.2.2.2, hp.2.2.2⟩
theorem RowQ.lo_le (h : RowQ w lo A1 A2 c1 c2 g1 g2 Q P) (hl : lo' ≤ lo) : RowQ w lo' A1 A2 c1 c2 g1 g2 Q P := ⟨h.q.lo_le hl, h.p.lo_le hl, h.un, h.q1, h.p1⟩
theorem RowQ.below (h : RowQ w lo A1 A2 c1 c2 g1 g2 Q P) (hb : Below w.heap.size w w') : RowQ w' lo A1 A2 c1 c2 g1 g2 Q P := ⟨h.q.below hb, h.p.below hb, h.un, h.q1, h.p1⟩
/-- a block of another kind is neither's -/
theorem RowQ.ne {g : Nat} {t : TypeId} {cs : Array Value} (h : RowQ w lo A1 A2 c1 c2 g1 g2 Q P) (hK : Blk w g t cs) (ht : t ≠ 3) : (.slice A1 Q.length c1 : Value).ownBlock ≠ some g ∧ (.slice A2 P.length c2 : Value).ownBlock ≠ some g := by
  refine ⟨fun e => ?_, fun e => ?_⟩
  · obtain ⟨_, _, cs', h1⟩ := h.q.at_ e
    unfold Blk at hK h1
    rw [hK] at h1
    injection h1 with h1
    injection h1 with _ h1
    exact ht h1
  · obtain ⟨_, _, cs', h1⟩ := h.p.at_ e
    unfold Blk at hK h1
    rw [hK] at h1
    injection h1 with h1
    injection h1 with _ h1
    exact ht h1
/-- what is written into a block of another kind leaves them be -/
theorem RowQ.far {g : Nat} {t : TypeId} {cs : Array Value} (h : RowQ w lo A1 A2 c1 c2 g1 g2 Q P) (hK : Blk w g t cs) (ht : t ≠ 3) (i : Nat) (v : Value) : RowQ (w.setCell ⟨g, i, none⟩ v) lo A1 A2 c1 c2 g1 g2 Q P := by
  obtain ⟨n1, n2⟩ := h.ne hK ht
  refine ⟨h.q.keep fun b hb => ?_, h.p.keep fun b hb => ?_, h.un, h.q1, h.p1⟩
  · exact Below.heap_setCell w ⟨g, i, none⟩ v b (fun e => n1 (by rw [hb, e]))
  · exact Below.heap_setCell w ⟨g, i, none⟩ v b (fun e => n2 (by rw [hb, e]))
/-- the queue has grown -/
theorem RowQ.grow {A1' : Option Addr} {c1' g1' : Nat} {Q' : List Int} (h : RowQ w lo A1 A2 c1 c2 g1 g2 Q P) (hg : w.grownBy w' (.slice A1 Q.length c1 : Value).ownBlock) (hq : IRow w' lo (.slice A1' Q'.length c1') Q')
    (hn : (.slice A1' Q'.length c1' : Value).ownBlock = (.slice A1 Q.length c1 : Value).ownBlock ∨ ∃ b, (.slice A1' Q'.length c1' : Value).ownBlock = some b ∧ w.heap.size ≤ b) (hg1 : 0 < Q'.length → (.slice A1' Q'.length c1' : Value).ownBlock = some g1') :
    RowQ w' lo A1' A2 c1' c2 g1' g2 Q' P := by
  refine ⟨hq, h.p.keep fun b hb => hg.block b (h.p.at_ hb).2.1 (fun e => h.un b e.symm hb), fun b hb hb2 => ?_, hg1, h.p1⟩
  rcases hn with e | ⟨b', e, hb'⟩
  · exact h.un b (e.symm.trans hb) hb2
  · have := (h.p.at_ hb2).2.1
    rw [e] at hb
    cases hb
    omega
end

/-- a tally of an arena of the call's own: its queue and purple grow -/
def TalJ (w : World) (lo bt : Nat) (d : Value) (a : Ar) : Prop :=
  ∃ (A0 A1 A2 : Option Addr) (c0 c1 c2 g : Nat) (fb : Nat → Nat) (nb : Nat → Nat → Nat) (g1 g2 : Nat),
    Blk w bt 111 #[.slice A0 a.slots.length c0, .slice A1 a.queue.length c1, .slice A2 a.purple.length c2, d] ∧
    lo ≤ bt ∧ ArnM.OwnAr w lo A0 A1 A2 a g fb nb g1 g2 ∧ (∀ b, ArnM.asOf a g fb nb g1 g2 b → b < w.heap.size ∧ ¬ b = bt) ∧ RowQ w lo A1 A2 c1 c2 g1 g2 a.queue a.purple
theorem TalJ.toQ {w : World} {lo bt : Nat} {d : Value} {a : Ar} (h : TalJ w lo bt d a) : TalQ w lo bt d a := by
  obtain ⟨A0, A1, A2, c0, c1, c2, g, fb, nb, g1, g2, hK, hlo, hO, hs, -⟩ := h
  exact ⟨A0, A1, A2, c0, c1, c2, g, fb, nb, g1, g2, hK, hlo, hO, hs⟩

section
variable (S : List Sl) (Q P : List Int) (A0 A1 A2 : Option Addr) (c0 c1 c2 L B : Nat) (w : World)

theorem tallyOfJ_c (hB : B ≤ w.heap.size) (hsz : arSz ⟨S, Q, P⟩ ≤ 1050000) (h : ArL w L B A0 A1 A2 ⟨S, Q, P⟩) :
    Calls Try.prog 54 #[.agg #[.slice A0 S.length c0, .slice A1 Q.length c1, .slice A2 P.length c2]] w fun e w' => ∃ bt, e = .returned (.pointer (some ⟨bt, 0, none⟩)) ∧
      TalJ w' w.heap.size bt (.slice none 0 0) ⟨S, Q, P⟩ ∧ Below w.heap.size w w' := by
  have hbW := CopyOfJ.blw1 w (.cells #[.slice A0 S.length c0, .slice A1 Q.length c1, .slice A2 P.length c2] 32)
  have HR := Lib.hid (CopyOfJ.copyOfJ_c S Q P A0 A1 A2 c0 c1 c2 L B (w.alloc (.cells #[.slice A0 S.length c0, .slice A1 Q.length c1, .slice A2 P.length c2] 32)) (Nat.le_trans hB hbW.size) hsz (h.below (hbW.mono hB)))
  have HbW := Lib.hid hbW
  have Hs : (w.alloc (.cells #[.slice A0 S.length c0, .slice A1 Q.length c1, .slice A2 P.length c2] 32)).heap.size = w.heap.size + 1 := by simp
  have HKA := Lib.hid (Blk.new w 32 #[.slice A0 S.length c0, .slice A1 Q.length c1, .slice A2 P.length c2])
  clear h hsz hbW
  go_enter Try.func54, Try.ntmps54
  go_wp2_with fail
  refine HR.out.mono ?_
  rintro e w1 ⟨B0, B1, B2, d0, d1, d2, g, fb, nb, g1, g2, rfl, hO, hl, hb, s1, s2, s3, ⟨hs1, hs2⟩, hqj, hpj⟩
  rw [Hs] at hO hb
  have HR2 := Lib.hid (RowQ.of (lo := w.heap.size) (by rw [Hs] at hs1; omega) (by rw [Hs] at hs2; omega) hqj hpj)
  have HO := Lib.hid hO
  have Hl := Lib.hid hl
  have Hb := Lib.hid (HbW.out.trans (hb.mono (by omega)))
  have Hge := Lib.hid (show w.heap.size + 1 ≤ w1.heap.size from Hs ▸ (Hs ▸ hb.size))
  clear hb hO hl HR HbW HKA hqj hpj hs1 hs2
  go_wp2
  go_ret
  have hbl := CopyOfJ.blw1 w1 (.cells #[.slice B0 S.length d0, .slice B1 Q.length d1, .slice B2 P.length d2, .slice none 0 0] 111)
  have hge := Hge.out
  refine ⟨_, rfl, ⟨B0, B1, B2, d0, d1, d2, g, fb, nb, g1, g2, Blk.new w1 _ _, by omega, ((HO.out.apart (S := fun _ => False) (Apart.of_below hbl) (fun _ _ h => h)).lo_le (by omega)), fun b hb => ?_, HR2.out.below hbl⟩, Hb.out.trans (hbl.mono (by omega))⟩
  have := Hl.out b hb
  exact ⟨by simp; omega, by omega⟩
end
end Go.Proofs.Ytfmlgpnjckamjaa
