/-
  A thing that is made: the first empty slot, as a function over lists; a slot of ours replaced by one without fields.
-/
import Derived.Test.YtfmlgpnjckamjaaKeepI
namespace Go.Proofs.Ytfmlgpnjckamjaa
open Go.RowKit
set_option linter.unusedVariables false
set_option linter.unusedSimpArgs false

/-- the first empty slot, or how many there are -/
def freeN (S : List Sl) : Nat := S.findIdx fun s => !s.live
def newSl (s : Sl) : Sl := ⟨true, s.gen + 1, 1, []⟩
def allocS (S : List Sl) : List Sl := if h : freeN S < S.length then S.set (freeN S) (newSl S[freeN S]) else S
def allocT (a : Ar) : Ar := ⟨allocS a.slots, a.queue, a.purple⟩
def allocF (S : List Sl) : Bool := decide (freeN S < S.length)
def allocK (S : List Sl) : Int := if freeN S < S.length then 2 else 0
def allocN (S : List Sl) : Int := if freeN S < S.length then freeN S else 0
def allocG (S : List Sl) : Int := if h : freeN S < S.length then S[freeN S].gen + 1 else 0
theorem freeN_at {S : List Sl} {k : Nat} (hk : k < S.length) (h : ∀ j (hj : j < S.length), j < k → S[j].live = true) (hl : S[k].live = false) : freeN S = k := by
  unfold freeN
  rw [List.findIdx_eq hk]
  refine ⟨by simp [hl], fun j hj => ?_⟩
  simp [h j (by omega) hj]
theorem freeN_no {S : List Sl} (h : ∀ j (hj : j < S.length), j < S.length → S[j].live = true) : freeN S = S.length := by
  unfold freeN
  rw [List.findIdx_eq_length]
  intro x hx
  obtain ⟨j, hj, rfl⟩ := List.getElem_of_mem hx
  simp [h j hj hj]
/-- what alloc answers, its parts -/
theorem alloc_at {S : List Sl} {k : Nat} (hk : k < S.length) (h : ∀ j (hj : j < S.length), j < k → S[j].live = true) (hl : S[k].live = false) :
    allocS S = S.set k ⟨true, S[k].gen + 1, 1, []⟩ ∧ allocF S = true ∧ allocK S = 2 ∧ allocN S = k ∧ allocG S = S[k].gen + 1 := by
  have e := freeN_at hk h hl
  subst e
  exact ⟨by unfold allocS; rw [dif_pos hk]; rfl, by unfold allocF; exact decide_eq_true hk, by unfold allocK; rw [if_pos hk], by unfold allocN; rw [if_pos hk], by unfold allocG; rw [dif_pos hk]⟩
theorem alloc_no {S : List Sl} (h : ∀ j (hj : j < S.length), j < S.length → S[j].live = true) : allocS S = S ∧ allocF S = false ∧ allocK S = 0 ∧ allocN S = 0 ∧ allocG S = 0 := by
  have e := freeN_no h
  have hn : ¬ freeN S < S.length := by omega
  exact ⟨by unfold allocS; rw [dif_neg hn], by unfold allocF; exact decide_eq_false hn, by unfold allocK; rw [if_neg hn], by unfold allocN; rw [if_neg hn], by unfold allocG; rw [dif_neg hn]⟩
theorem sum_set_le {S : List Sl} {k : Nat} {s : Sl} (hk : k < S.length) (hs : slSz s ≤ slSz S[k]) : ((S.set k s).map slSz).sum ≤ (S.map slSz).sum := by
  induction S generalizing k with
  | nil => simp at hk
  | cons x r ih =>
    cases k with
    | zero => simp at hs ⊢; omega
    | succ k =>
      simp only [List.set_cons_succ, List.map_cons, List.sum_cons]
      have := ih (k := k) (by simpa using hk) (by simpa using hs)
      omega
theorem allocT_sz (a : Ar) : arSz (allocT a) ≤ arSz a := by
  obtain ⟨S, Q, P⟩ := a
  unfold allocT arSz slsSz
  dsimp only
  have hl : (allocS S).length = S.length := by unfold allocS; split <;> simp
  have : ((allocS S).map slSz).sum ≤ (S.map slSz).sum := by
    unfold allocS
    split
    · rename_i h
      refine sum_set_le h ?_
      have : slSz (newSl S[freeN S]) = 0 := by unfold slSz newSl fsSz; simp
      omega
    · exact Nat.le_refl _
  omega
namespace ArnM
theorem own_nil (w : World) (lo f : Nat) (nb : Nat → Nat) : OwnFs w lo none [] f nb := ⟨fun h => absurd h (by simp), fun i j hi => absurd hi (by simp), fun i hi => absurd hi (by simp)⟩
/-- the world with slot n of block g written -/
def wr4 (w : World) (g n : Nat) (lv : Bool) (gn ct : Int) : World := (((w.setCell ⟨g, n * 4, none⟩ (.bool lv)).setCell ⟨g, n * 4 + 1, none⟩ (.int .i64 gn)).setCell ⟨g, n * 4 + 2, none⟩ (.int .i64 ct)).setCell ⟨g, n * 4 + 3, none⟩ (.slice none 0 0)
theorem wr4_apart (w : World) (g n : Nat) (lv : Bool) (gn ct : Int) : Apart (fun b => b = g) w (wr4 w g n lv gn ct) :=
  ((((Apart.refl (fun b => b = g) w).setCell (p := ⟨g, n * 4, none⟩) rfl _).setCell (p := ⟨g, n * 4 + 1, none⟩) rfl _).setCell (p := ⟨g, n * 4 + 2, none⟩) rfl _).setCell (p := ⟨g, n * 4 + 3, none⟩) rfl _
theorem wr4_size (w : World) (g n : Nat) (lv : Bool) (gn ct : Int) : (wr4 w g n lv gn ct).heap.size = w.heap.size := by unfold wr4; simp
theorem blOf_set {l : List Sl} {n i : Nat} {lv : Bool} {gn ct : Int} (h : i < (l.set n ⟨lv, gn, ct, []⟩).length) {f : Nat} {nb : Nat → Nat} {b : Nat} (hb : blOf (l.set n ⟨lv, gn, ct, []⟩)[i] f nb b) : ¬ n = i ∧ blOf (l[i]'(by simpa using h)) f nb b := by
  rw [List.getElem_set] at hb
  split at hb
  · exfalso
    rcases hb with ⟨h0, -⟩ | ⟨j, hj, -⟩
    · simp at h0
    · simp at hj
  · rename_i hne
    exact ⟨hne, hb⟩
theorem bsOf_set {l : List Sl} {n g : Nat} {lv : Bool} {gn ct : Int} {fb : Nat → Nat} {nb : Nat → Nat → Nat} {b : Nat} (hb : bsOf (l.set n ⟨lv, gn, ct, []⟩) g fb nb b) : bsOf l g fb nb b := by
  rcases hb with ⟨h0, e⟩ | ⟨i, hi, hb⟩
  · exact .inl ⟨by simpa using h0, e⟩
  · exact .inr ⟨i, by simpa using hi, (blOf_set hi hb).2⟩
theorem OwnSls.put {w : World} {lo g : Nat} {fb : Nat → Nat} {nb : Nat → Nat → Nat} {A : Option Addr} {l : List Sl} (h : OwnSls w lo A l g fb nb) (n : Nat) (hn : n < l.length) (lv : Bool) (gn ct : Int) :
    OwnSls (wr4 w g n lv gn ct) lo A (l.set n ⟨lv, gn, ct, []⟩) g fb nb := by
  refine ⟨fun h0 => ?_, fun i j hi hj hij b h1 h2 => ?_, fun i hi b hb => ?_⟩
  · obtain ⟨h1, h2, cs, h3, h4⟩ := h.row (by omega)
    refine ⟨h1, h2, _, (((h3.set_ (n * 4) (.bool lv)).set_ (n * 4 + 1) (.int .i64 gn)).set_ (n * 4 + 2) (.int .i64 ct)).set_ (n * 4 + 3) (.slice none 0 0), fun i hi => ?_⟩
    have hi' : i < l.length := by simpa using hi
    rw [List.getElem_set]
    split
    · rename_i e
      subst e
      obtain ⟨e0, e1, e2, A', c', e3, hF⟩ := h4 n hn
      have hlt : n * 4 + 3 < cs.size := some_lt e3
      refine ⟨?_, ?_, ?_, none, 0, ?_, own_nil _ _ _ _⟩
      · rw [Array.getElem?_setIfInBounds_ne (by omega), Array.getElem?_setIfInBounds_ne (by omega), Array.getElem?_setIfInBounds_ne (by omega), Array.getElem?_setIfInBounds_self_of_lt (by omega)]
      · rw [Array.getElem?_setIfInBounds_ne (by omega), Array.getElem?_setIfInBounds_ne (by omega), Array.getElem?_setIfInBounds_self_of_lt (by simp; omega)]
      · rw [Array.getElem?_setIfInBounds_ne (by omega), Array.getElem?_setIfInBounds_self_of_lt (by simp; omega)]
      · rw [Array.getElem?_setIfInBounds_self_of_lt (by simp; omega)]; rfl
    · rename_i hne
      refine ((h4 i hi').apart (wr4_apart w g n lv gn ct) (fun b hb e => h.ne i hi' b hb e)).cells fun j hj => ?_
      rw [Array.getElem?_setIfInBounds_ne (by omega), Array.getElem?_setIfInBounds_ne (by omega), Array.getElem?_setIfInBounds_ne (by omega), Array.getElem?_setIfInBounds_ne (by omega)]
  · obtain ⟨n1, h1⟩ := blOf_set hi h1
    obtain ⟨n2, h2⟩ := blOf_set hj h2
    exact h.one i j (by simpa using hi) (by simpa using hj) hij b h1 h2
  · exact h.ne i (by simpa using hi) b (blOf_set hi hb).2
theorem OwnAr.put {w : World} {lo g g1 g2 : Nat} {fb : Nat → Nat} {nb : Nat → Nat → Nat} {A0 A1 A2 : Option Addr} {S : List Sl} {Q P : List Int} (h : OwnAr w lo A0 A1 A2 ⟨S, Q, P⟩ g fb nb g1 g2) (n : Nat) (hn : n < S.length) (lv : Bool) (gn ct : Int) :
    OwnAr (wr4 w g n lv gn ct) lo A0 A1 A2 ⟨S.set n ⟨lv, gn, ct, []⟩, Q, P⟩ g fb nb g1 g2 := by
  have hg : bsOf S g fb nb g := .inl ⟨by omega, rfl⟩
  exact ⟨h.slots.put n hn lv gn ct, h.queue.apart (wr4_apart w g n lv gn ct) (fun h0 e => h.sq h0 g hg e.symm), h.purple.apart (wr4_apart w g n lv gn ct) (fun h0 e => h.sp h0 g hg e.symm),
    fun h0 b hb => h.sq h0 b (bsOf_set hb), fun h0 b hb => h.sp h0 b (bsOf_set hb), h.qp⟩
theorem asOf_set {S : List Sl} {Q P : List Int} {n g g1 g2 : Nat} {lv : Bool} {gn ct : Int} {fb : Nat → Nat} {nb : Nat → Nat → Nat} {b : Nat} (hb : asOf ⟨S.set n ⟨lv, gn, ct, []⟩, Q, P⟩ g fb nb g1 g2 b) : asOf ⟨S, Q, P⟩ g fb nb g1 g2 b := hb.imp bsOf_set id
end ArnM
end Go.Proofs.Ytfmlgpnjckamjaa
