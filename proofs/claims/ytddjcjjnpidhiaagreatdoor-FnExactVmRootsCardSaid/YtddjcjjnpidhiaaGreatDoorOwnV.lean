/-
  Rows of values that a call has made: marks in them, and what they hold.
-/
import Derived.Test.YtddjcjjnpidhiaaGreatDoorMfrm
namespace Go.Proofs.YtddjcjjnpidhiaaGreatDoor
open Go.RowKit
set_option linter.unusedVariables false

/-- a row of n values in a block of its own, from block lo on: its 3 n numbers -/
def OwnV (w : World) (lo : Nat) (A : Option Addr) (n : Nat) (f : Nat → Int) : Prop :=
  0 < n → ∃ g cs, A = some ⟨g, 0, none⟩ ∧ Blk w g 77 cs ∧ lo ≤ g ∧ n * 3 ≤ cs.size ∧ ∀ i, i < n * 3 → cs[i]? = some (.int .i64 (f i))
theorem OwnV.below {w w' : World} {lo n : Nat} {A : Option Addr} {f : Nat → Int} (h : OwnV w lo A n f) (hb : Below w.heap.size w w') : OwnV w' lo A n f := fun hn => by
  obtain ⟨g, cs, e, hB, hl, h2, h1⟩ := h hn
  exact ⟨g, cs, e, hB.below hb hB.lt, hl, h2, h1⟩
theorem OwnV.ext {w : World} {lo n : Nat} {A : Option Addr} {f f' : Nat → Int} (h : OwnV w lo A n f) (hf : ∀ i, i < n * 3 → f' i = f i) : OwnV w lo A n f' := fun hn => by
  obtain ⟨g, cs, e, hB, hl, h2, h1⟩ := h hn
  exact ⟨g, cs, e, hB, hl, h2, fun i hi => by rw [hf i hi]; exact h1 i hi⟩
theorem OwnV.lo_le {w : World} {lo lo' n : Nat} {A : Option Addr} {f : Nat → Int} (h : OwnV w lo A n f) (hl : lo' ≤ lo) : OwnV w lo' A n f := fun hn => by
  obtain ⟨g, cs, e, hB, h3, h2, h1⟩ := h hn
  exact ⟨g, cs, e, hB, by omega, h2, h1⟩
theorem OwnV.keep {w w' : World} {lo n : Nat} {A : Option Addr} {f : Nat → Int} (h : OwnV w lo A n f) (hk : ∀ b, lo ≤ b → b < w.heap.size → w'.heap[b]? = w.heap[b]?) : OwnV w' lo A n f := fun hn => by
  obtain ⟨g, cs, e, hB, hl, h2, h1⟩ := h hn
  exact ⟨g, cs, e, (hk g hl hB.lt).trans hB, hl, h2, h1⟩
/-- the numbers of a list of values -/
def gV (l : List Vl) (i : Nat) : Int := match (vv l)[i]? with | some (.int _ n) => n | _ => 0
theorem gV_at : ∀ (l : List Vl) (i : Nat), i < l.length * 3 → (vv l)[i]? = some (.int .i64 (gV l i))
  | [], i, h => by simp at h
  | x :: r, 0, _ => rfl
  | x :: r, 1, _ => rfl
  | x :: r, 2, _ => rfl
  | x :: r, i + 3, h => by
    have := gV_at r i (by simp at h; omega)
    show (vv r)[i]? = some (.int .i64 (match (vv r)[i]? with | some (.int _ n) => n | _ => 0))
    rw [this]
theorem VRow.own {w : World} {lo n c : Nat} {A : Option Addr} {l : List Vl} (h : VRow w lo (.slice A n c) l) : OwnV w lo A l.length (gV l) := fun hn => by
  rcases h.2 with ⟨_, h0⟩ | ⟨g', cap, cur, hv, hb, hh, h1, h2, h3, h4⟩
  · omega
  · injection hv with e1 e2 e3
    refine ⟨g', cur, e1, hh, hb, ?_, fun i hi => ?_⟩
    · omega
    · have := gV_at l i hi
      rw [← h4, List.getElem?_take_of_lt hi] at this
      simpa using this

set_option maxRecDepth 100000 in
set_option maxHeartbeats 2000000 in
theorem markValS_o (n : Nat) (A : Option Addr) (c lo k : Nat) (f : Nat → Int) (w : World) (hsz : k + n * 3 ≤ 1073741824) (h : OwnV w lo A n f) :
    Calls Tryz.prog 17 #[.slice A n c, .int .i64 (k : Int)] w fun r w' => r = .returned (.int .i64 ((k + 3 * n : Nat) : Int)) ∧ OwnV w' lo A n (fun i => ((k + i : Nat) : Int)) ∧ w'.heap.size = w.heap.size ∧ Below lo w w' ∧ Oth A w w' := by
  go_enter Tryz.func17, Tryz.ntmps17
  go_wp2
  go_loopw [1, 5] (fun s i wr => ∃ (m : Nat), m ≤ n ∧ i = .int .i64 m ∧ s = .int .i64 ((k + 3 * m : Nat) : Int) ∧ OwnV wr lo A n (fun i => if i < 3 * m then ((k + i : Nat) : Int) else f i) ∧ wr.heap.size = w.heap.size ∧ Below lo w wr ∧ Hid (Oth A w wr)) (fun _ i _ => n - (intOf i).toNat)
  case atStart => exact ⟨0, Nat.zero_le _, rfl, rfl, h, rfl, Below.refl _ _, Lib.hid (Oth.refl _ _)⟩
  case round =>
    obtain ⟨m, hm, rfl, rfl, hO, hs, hbw, Ho⟩ := hrel
    have Hs := Lib.hid hs
    clear hs
    by_cases hlt : m < n
    · obtain ⟨g, cs, rfl, hB, hl, hcs, hat⟩ := hO (by omega)
      have q0 : wr.cell? ⟨g, m * 3, none⟩ = some (.int .i64 (if m * 3 < 3 * m then ((k + m * 3 : Nat) : Int) else f (m * 3))) := by rw [hB.cell]; exact hat (m * 3) (by omega)
      have q1 : wr.cell? ⟨g, m * 3 + 1, none⟩ = some (.int .i64 (if m * 3 + 1 < 3 * m then ((k + (m * 3 + 1) : Nat) : Int) else f (m * 3 + 1))) := by rw [hB.cell]; exact hat (m * 3 + 1) (by omega)
      have q2 : wr.cell? ⟨g, m * 3 + 2, none⟩ = some (.int .i64 (if m * 3 + 2 < 3 * m then ((k + (m * 3 + 2) : Nat) : Int) else f (m * 3 + 2))) := by rw [hB.cell]; exact hat (m * 3 + 2) (by omega)
      rw [if_neg (by omega)] at q0 q1 q2
      obtain ⟨f0, hf0⟩ : ∃ x, x = f (m * 3) := ⟨_, rfl⟩
      obtain ⟨f1, hf1⟩ : ∃ x, x = f (m * 3 + 1) := ⟨_, rfl⟩
      obtain ⟨f2, hf2⟩ : ∃ x, x = f (m * 3 + 2) := ⟨_, rfl⟩
      rw [← hf0] at q0
      rw [← hf1] at q1
      rw [← hf2] at q2
      have z0 : wr.frozen? ⟨g, m * 3, none⟩ = false := hB.frozen _
      have z1 : wr.frozen? ⟨g, m * 3 + 1, none⟩ = false := hB.frozen _
      have z2 : wr.frozen? ⟨g, m * 3 + 2, none⟩ = false := hB.frozen _
      obtain ⟨t, ht⟩ : ∃ t, t = k + 3 * m := ⟨_, rfl⟩
      have htb : t ≤ 1073741824 := by omega
      rw [← ht]
      have hnew : OwnV (((wr.setCell ⟨g, m * 3, none⟩ (.int .i64 (t : Int))).setCell ⟨g, m * 3 + 1, none⟩ (.int .i64 ((t : Int) + 1))).setCell ⟨g, m * 3 + 2, none⟩ (.int .i64 ((t : Int) + 1 + 1))) lo (some ⟨g, 0, none⟩) n (fun i => if i < 3 * (m + 1) then ((k + i : Nat) : Int) else f i) := fun _ =>
        ⟨g, _, rfl, hB.pt3 (m * 3) _ _ _, hl, by rw [pt3_size]; exact hcs, fun i hi => by
          obtain ⟨p0, p1, p2⟩ := pt3_at (cs := cs) (k := m * 3) (a := .int .i64 (t : Int)) (b := .int .i64 ((t : Int) + 1)) (c := .int .i64 ((t : Int) + 1 + 1)) (by omega)
          by_cases e0 : i = m * 3
          · subst e0
            rw [p0]
            show _ = some (Value.int IntKind.i64 (if m * 3 < 3 * (m + 1) then _ else _))
            rw [if_pos (by omega)]
            congr 2
            omega
          by_cases e1 : i = m * 3 + 1
          · subst e1
            rw [p1]
            show _ = some (Value.int IntKind.i64 (if m * 3 + 1 < 3 * (m + 1) then _ else _))
            rw [if_pos (by omega)]
            congr 2
            omega
          by_cases e2 : i = m * 3 + 2
          · subst e2
            rw [p2]
            show _ = some (Value.int IntKind.i64 (if m * 3 + 2 < 3 * (m + 1) then _ else _))
            rw [if_pos (by omega)]
            congr 2
            omega
          rw [pt3_ne (by omega), hat i hi]
          show some (Value.int IntKind.i64 (if i < 3 * m then _ else _)) = some (Value.int IntKind.i64 (if i < 3 * (m + 1) then _ else _))
          by_cases h1 : i < 3 * m
          · rw [if_pos h1, if_pos (by omega)]
          · rw [if_neg h1, if_neg (by omega)]⟩
      have hbn : Below lo w (((wr.setCell ⟨g, m * 3, none⟩ (.int .i64 (t : Int))).setCell ⟨g, m * 3 + 1, none⟩ (.int .i64 ((t : Int) + 1))).setCell ⟨g, m * 3 + 2, none⟩ (.int .i64 ((t : Int) + 1 + 1))) :=
        ((hbw.setCell (p := ⟨g, m * 3, none⟩) hl _).setCell (p := ⟨g, m * 3 + 1, none⟩) hl _).setCell (p := ⟨g, m * 3 + 2, none⟩) hl _
      have Hn := Lib.hid (And.intro hnew hbn)
      have hnext : k + 3 * (m + 1) = t + 3 := by omega
      have Hnext := Lib.hid hnext
      have s1 : ∀ (a0 : Int), (wr.setCell ⟨g, m * 3, none⟩ (.int .i64 a0)).cell? ⟨g, m * 3 + 1, none⟩ = some (.int .i64 f1) := fun a0 => by rw [World.cell?_setCell_other _ _ _ _ (fun e => by have := congrArg Addr.off e; simp at this)]; exact q1
      have s2 : ∀ (a0 a1 : Int), ((wr.setCell ⟨g, m * 3, none⟩ (.int .i64 a0)).setCell ⟨g, m * 3 + 1, none⟩ (.int .i64 a1)).cell? ⟨g, m * 3 + 2, none⟩ = some (.int .i64 f2) := fun a0 a1 => by rw [World.cell?_setCell_other _ _ _ _ (fun e => by have := congrArg Addr.off e; simp at this), World.cell?_setCell_other _ _ _ _ (fun e => by have := congrArg Addr.off e; simp at this)]; exact q2
      clear hnew hbn hat hcs hO hB hnext ht hf0 hf1 hf2
      go_wp2
      go_roundw
      case rel => exact ⟨m + 1, by omega, by go_num, by rw [Hnext.out]; go_num, Hn.out.1, by rw [World.size_setCell, World.size_setCell, World.size_setCell]; exact Hs.out, Hn.out.2, Lib.hid (((Ho.out.set_ _ _).set_ _ _).set_ _ _)⟩
      case measure => simp [intOf]; omega
    · go_wp2
      go_ret
      have : m = n := by omega
      subst this
      exact ⟨rfl, hO.ext fun i hi => (if_pos (by omega)).symm, Hs.out, hbw, Ho.out⟩

set_option maxRecDepth 100000 in
set_option maxHeartbeats 2000000 in
theorem heldValS_o (n : Nat) (A : Option Addr) (c lo k : Nat) (w : World) (hsz : k + n * 3 ≤ 1073741824) (h : OwnV w lo A n (fun i => ((k + i : Nat) : Int))) :
    Calls Tryz.prog 18 #[.slice A n c, .int .i64 (k : Int)] w fun r w' => r = .returned (.int .i64 ((k + 3 * n : Nat) : Int)) ∧ w = w' := by
  go_enter Tryz.func18, Tryz.ntmps18
  go_wp2
  go_loopw [1, 5] (fun s i wr => ∃ (m : Nat), m ≤ n ∧ i = .int .i64 m ∧ s = .int .i64 ((k + 3 * m : Nat) : Int) ∧ wr = w) (fun _ i _ => n - (intOf i).toNat)
  case atStart => exact ⟨0, Nat.zero_le _, rfl, rfl, by trivial⟩
  case round =>
    obtain ⟨m, hm, rfl, rfl, rfl⟩ := hrel
    by_cases hlt : m < n
    · obtain ⟨g, cs, rfl, hB, hl, hcs, hat⟩ := h (by omega)
      obtain ⟨t, ht⟩ : ∃ t, t = k + 3 * m := ⟨_, rfl⟩
      have htb : t ≤ 1073741824 := by omega
      rw [← ht]
      have q0 : wr.cell? ⟨g, m * 3, none⟩ = some (.int .i64 (t : Int)) := by rw [hB.cell]; exact (hat (m * 3) (by omega)).trans (by show some (Value.int IntKind.i64 ((k + (m * 3) : Nat) : Int)) = _; congr 2; omega)
      have q1 : wr.cell? ⟨g, m * 3 + 1, none⟩ = some (.int .i64 ((t : Int) + 1)) := by rw [hB.cell]; exact (hat (m * 3 + 1) (by omega)).trans (by show some (Value.int IntKind.i64 ((k + (m * 3 + 1) : Nat) : Int)) = _; congr 2; omega)
      have q2 : wr.cell? ⟨g, m * 3 + 2, none⟩ = some (.int .i64 ((t : Int) + 1 + 1)) := by rw [hB.cell]; exact (hat (m * 3 + 2) (by omega)).trans (by show some (Value.int IntKind.i64 ((k + (m * 3 + 2) : Nat) : Int)) = _; congr 2; omega)
      have Hnext := Lib.hid (show k + 3 * (m + 1) = t + 3 by omega)
      clear hat hcs hB ht
      go_wp2
      go_roundw
      case rel => exact ⟨m + 1, by omega, by go_num, by rw [Hnext.out]; go_num, by trivial⟩
      case measure => simp [intOf]; omega
    · go_wp2
      go_ret
      have : m = n := by omega
      subst this
      exact ⟨rfl, rfl⟩
end Go.Proofs.YtddjcjjnpidhiaaGreatDoor
