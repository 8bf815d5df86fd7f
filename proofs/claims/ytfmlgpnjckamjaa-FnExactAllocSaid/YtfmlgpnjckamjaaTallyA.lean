/-
  The program's tally over a copy of an arena.
-/
import Derived.Test.YtfmlgpnjckamjaaCopyOf
namespace Go.Proofs.Ytfmlgpnjckamjaa
open Go.RowKit
set_option linter.unusedVariables false
set_option linter.unusedSimpArgs false

namespace ArnM
theorem OwnSls.lo_le {w : World} {lo lo' g : Nat} {fb : Nat → Nat} {nb : Nat → Nat → Nat} {A : Option Addr} {l : List Sl} (h : OwnSls w lo A l g fb nb) (hl : lo' ≤ lo) : OwnSls w lo' A l g fb nb :=
  ⟨fun h0 => by
    obtain ⟨h1, h2, cs, h3, h4⟩ := h.row h0
    refine ⟨h1, Nat.le_trans hl h2, cs, h3, fun i hi => ?_⟩
    obtain ⟨e0, e1, e2, A', c', e3, hF⟩ := h4 i hi
    exact ⟨e0, e1, e2, A', c', e3, hF.lo_le hl⟩, h.one, h.ne⟩
theorem OwnAr.lo_le {w : World} {lo lo' g g1 g2 : Nat} {fb : Nat → Nat} {nb : Nat → Nat → Nat} {A0 A1 A2 : Option Addr} {a : Ar} (h : OwnAr w lo A0 A1 A2 a g fb nb g1 g2) (hl : lo' ≤ lo) : OwnAr w lo' A0 A1 A2 a g fb nb g1 g2 :=
  ⟨h.slots.lo_le hl, h.queue.lo_le hl, h.purple.lo_le hl, h.sq, h.sp, h.qp⟩
/-- a row of slots with the count of slot n changed -/
def cntAt (l : List Sl) (n : Nat) (z : Int) : List Sl := l.modify n (fun s => { s with count := z })
@[simp] theorem cntAt_len (l : List Sl) (n : Nat) (z : Int) : (cntAt l n z).length = l.length := by simp [cntAt]
theorem cntAt_get {l : List Sl} {n : Nat} {z : Int} {i : Nat} (h : i < (cntAt l n z).length) : (cntAt l n z)[i] = if n = i then { l[i]'(by simpa using h) with count := z } else l[i]'(by simpa using h) := by
  simp [cntAt, List.getElem_modify]
theorem blOf_cnt {l : List Sl} {n : Nat} {z : Int} {i : Nat} (h : i < (cntAt l n z).length) (f : Nat) (nb : Nat → Nat) (b : Nat) : blOf (cntAt l n z)[i] f nb b ↔ blOf (l[i]'(by simpa using h)) f nb b := by
  rw [cntAt_get h]
  split <;> rfl
theorem bsOf_cnt {l : List Sl} {n : Nat} {z : Int} (g : Nat) (fb : Nat → Nat) (nb : Nat → Nat → Nat) (b : Nat) : bsOf (cntAt l n z) g fb nb b ↔ bsOf l g fb nb b := by
  refine ⟨fun h => ?_, fun h => ?_⟩
  · rcases h with ⟨h0, e⟩ | ⟨i, hi, hb⟩
    · exact .inl ⟨by simpa using h0, e⟩
    · exact .inr ⟨i, by simpa using hi, (blOf_cnt hi _ _ _).1 hb⟩
  · rcases h with ⟨h0, e⟩ | ⟨i, hi, hb⟩
    · exact .inl ⟨by simpa using h0, e⟩
    · exact .inr ⟨i, by simpa using hi, (blOf_cnt (by simpa using hi) _ _ _).2 hb⟩
theorem OwnSls.setCnt {w : World} {lo g : Nat} {fb : Nat → Nat} {nb : Nat → Nat → Nat} {A : Option Addr} {l : List Sl} (h : OwnSls w lo A l g fb nb) (n : Nat) (hn : n < l.length) (z : Int) :
    OwnSls (w.setCell ⟨g, n * 4 + 2, none⟩ (.int .i64 z)) lo A (cntAt l n z) g fb nb := by
  refine ⟨fun h0 => ?_, fun i j hi hj hij b h1 h2 => ?_, fun i hi b hb => ?_⟩
  · obtain ⟨h1, h2, cs, h3, h4⟩ := h.row (by omega)
    refine ⟨h1, h2, _, h3.set_ (n * 4 + 2) (.int .i64 z), fun i hi => ?_⟩
    have hi' : i < l.length := by simpa using hi
    have h5 := (h4 i hi').apart (Apart.setCell (S := fun b => b = g) (p := ⟨g, n * 4 + 2, none⟩) (Apart.refl _ w) rfl (.int .i64 z)) (fun b hb e => h.ne i hi' b hb e)
    rw [cntAt_get hi]
    split
    · rename_i e
      subst e
      obtain ⟨e0, e1, e2, A', c', e3, hF⟩ := h5
      have hlt : n * 4 + 2 < cs.size := some_lt e2
      exact ⟨by rw [Array.getElem?_setIfInBounds_ne (by omega)]; exact e0, by rw [Array.getElem?_setIfInBounds_ne (by omega)]; exact e1, by rw [Array.getElem?_setIfInBounds_self_of_lt hlt], A', c', by rw [Array.getElem?_setIfInBounds_ne (by omega)]; exact e3, hF⟩
    · exact h5.cells (fun j hj => Array.getElem?_setIfInBounds_ne (by omega))
  · rw [blOf_cnt hi] at h1
    rw [blOf_cnt hj] at h2
    exact h.one i j (by simpa using hi) (by simpa using hj) hij b h1 h2
  · rw [blOf_cnt hi] at hb
    exact h.ne i (by simpa using hi) b hb
theorem OwnAr.setCnt {w : World} {lo g g1 g2 : Nat} {fb : Nat → Nat} {nb : Nat → Nat → Nat} {A0 A1 A2 : Option Addr} {S : List Sl} {Q P : List Int} (h : OwnAr w lo A0 A1 A2 ⟨S, Q, P⟩ g fb nb g1 g2) (n : Nat) (hn : n < S.length) (z : Int) :
    OwnAr (w.setCell ⟨g, n * 4 + 2, none⟩ (.int .i64 z)) lo A0 A1 A2 ⟨cntAt S n z, Q, P⟩ g fb nb g1 g2 := by
  have ha := Apart.setCell (S := fun b => b = g) (p := ⟨g, n * 4 + 2, none⟩) (Apart.refl _ w) rfl (.int .i64 z)
  have hg : bsOf S g fb nb g := .inl ⟨by omega, rfl⟩
  exact ⟨h.slots.setCnt n hn z, h.queue.apart ha (fun h0 e => h.sq h0 g hg e.symm), h.purple.apart ha (fun h0 e => h.sp h0 g hg e.symm),
    fun h0 b hb => h.sq h0 b ((bsOf_cnt g fb nb b).1 hb), fun h0 b hb => h.sp h0 b ((bsOf_cnt g fb nb b).1 hb), h.qp⟩
end ArnM

/-- a tally of an arena of the call's own, its box behind the arena's blocks -/
def TalQ (w : World) (lo bt : Nat) (d : Value) (a : Ar) : Prop :=
  ∃ (A0 A1 A2 : Option Addr) (c0 c1 c2 g : Nat) (fb : Nat → Nat) (nb : Nat → Nat → Nat) (g1 g2 : Nat),
    Blk w bt 111 #[.slice A0 a.slots.length c0, .slice A1 a.queue.length c1, .slice A2 a.purple.length c2, d] ∧
    lo ≤ bt ∧ ArnM.OwnAr w lo A0 A1 A2 a g fb nb g1 g2 ∧ (∀ b, ArnM.asOf a g fb nb g1 g2 b → b < w.heap.size ∧ ¬ b = bt)

section
variable (S : List Sl) (Q P : List Int) (A0 A1 A2 : Option Addr) (c0 c1 c2 L B : Nat) (w : World)

theorem tallyOf_c (hB : B ≤ w.heap.size) (hsz : arSz ⟨S, Q, P⟩ ≤ 1050000) (h : ArL w L B A0 A1 A2 ⟨S, Q, P⟩) :
    Calls Try.prog 54 #[.agg #[.slice A0 S.length c0, .slice A1 Q.length c1, .slice A2 P.length c2]] w fun e w' => ∃ bt, e = .returned (.pointer (some ⟨bt, 0, none⟩)) ∧
      TalQ w' w.heap.size bt (.slice none 0 0) ⟨S, Q, P⟩ ∧ Below w.heap.size w w' := by
  have hbW := CopyOf.blw1 w (.cells #[.slice A0 S.length c0, .slice A1 Q.length c1, .slice A2 P.length c2] 32)
  have HR := Lib.hid (CopyOf.copyOf_c S Q P A0 A1 A2 c0 c1 c2 L B (w.alloc (.cells #[.slice A0 S.length c0, .slice A1 Q.length c1, .slice A2 P.length c2] 32)) (Nat.le_trans hB hbW.size) hsz (h.below (hbW.mono hB)))
  have HbW := Lib.hid hbW
  have Hs : (w.alloc (.cells #[.slice A0 S.length c0, .slice A1 Q.length c1, .slice A2 P.length c2] 32)).heap.size = w.heap.size + 1 := by simp
  have HKA := Lib.hid (Blk.new w 32 #[.slice A0 S.length c0, .slice A1 Q.length c1, .slice A2 P.length c2])
  clear h hsz hbW
  go_enter Try.func54, Try.ntmps54
  go_wp2_with fail
  refine HR.out.mono ?_
  rintro e w1 ⟨B0, B1, B2, d0, d1, d2, g, fb, nb, g1, g2, rfl, hO, hl, hb⟩
  rw [Hs] at hO hb
  have HO := Lib.hid hO
  have Hl := Lib.hid hl
  have Hb := Lib.hid (HbW.out.trans (hb.mono (by omega)))
  have Hge := Lib.hid (show w.heap.size + 1 ≤ w1.heap.size from Hs ▸ (Hs ▸ hb.size))
  clear hb hO hl HR HbW HKA
  go_wp2
  go_ret
  have hbl := CopyOf.blw1 w1 (.cells #[.slice B0 S.length d0, .slice B1 Q.length d1, .slice B2 P.length d2, .slice none 0 0] 111)
  have hge := Hge.out
  refine ⟨_, rfl, ⟨B0, B1, B2, d0, d1, d2, g, fb, nb, g1, g2, Blk.new w1 _ _, by omega, ((HO.out.apart (S := fun _ => False) (Apart.of_below hbl) (fun _ _ h => h)).lo_le (by omega)), fun b hb => ?_⟩, Hb.out.trans (hbl.mono (by omega))⟩
  have := Hl.out b hb
  exact ⟨by simp; omega, by omega⟩
end
end Go.Proofs.Ytfmlgpnjckamjaa
