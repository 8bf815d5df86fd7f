/-
  Rows of truths that a call has made: likeness, marks.
-/
import Derived.Test.YtiofabnicdlceaaIntRow
namespace Go.Proofs.Ytiofabnicdlceaa
open Go.RowKit
set_option linter.unusedVariables false

def vo (l : List Bool) : List Value := l.map fun b => .bool b
theorem vo_len (l : List Bool) : (vo l).length = l.length := by simp [vo]
theorem vo_get (l : List Bool) (k : Nat) : (vo l)[k]? = (l[k]?).map fun b => .bool b := by simp [vo]
theorem vo_set (c : List Bool) (j : Nat) (x : Bool) : (vo c).toArray.setIfInBounds j (.bool x) = (vo (c.set j x)).toArray := by
  apply Array.ext'
  simp [vo, List.map_set]

/-- truths -/
def OL (w : World) (L B : Nat) (A : Option Addr) (l : List Bool) : Prop :=
  l.length ≤ maxLen ∧ (0 < l.length → ∃ ad, A = some ad ∧ L ≤ ad.block ∧ ad.block < B ∧ ∀ k (h : k < l.length), w.cell? (ad.add k) = some (.bool l[k]))
section
variable {w w' : World} {L B L' B' : Nat} {A : Option Addr}
theorem OL.keep {l : List Bool} (h : OL w L B A l) (hk : ∀ p : Addr, L ≤ p.block → p.block < B → w'.cell? p = w.cell? p) : OL w' L B A l :=
  ⟨h.1, fun hn => by
    obtain ⟨ad, e, hL, hB, hc⟩ := h.2 hn
    exact ⟨ad, e, hL, hB, fun j hj => (hk _ (by rw [block_of_add]; exact hL) (by rw [block_of_add]; exact hB)).trans (hc j hj)⟩⟩
theorem OL.below {l : List Bool} (h : OL w L B A l) (hb : Below B w w') : OL w' L B A l := h.keep fun _ _ hp => hb.cell hp
theorem OL.more {l : List Bool} (h : OL w L B A l) (hL : L' ≤ L) (hB : B ≤ B') : OL w L' B' A l :=
  ⟨h.1, fun hn => by obtain ⟨ad, e, hl, hb, hc⟩ := h.2 hn; exact ⟨ad, e, by omega, by omega, hc⟩⟩
end

/-- a row of n truths in a block of its own, from block lo on -/
def OwnO (w : World) (lo : Nat) (A : Option Addr) (n : Nat) (f : Nat → Bool) : Prop :=
  0 < n → ∃ g cs, A = some ⟨g, 0, none⟩ ∧ Blk w g 4 cs ∧ lo ≤ g ∧ n ≤ cs.size ∧ ∀ i, i < n → cs[i]? = some (.bool (f i))
theorem OwnO.below {w w' : World} {lo n : Nat} {A : Option Addr} {f : Nat → Bool} (h : OwnO w lo A n f) (hb : Below w.heap.size w w') : OwnO w' lo A n f := fun hn => by
  obtain ⟨g, cs, e, hB, hl, h2, h1⟩ := h hn
  exact ⟨g, cs, e, hB.below hb hB.lt, hl, h2, h1⟩
theorem OwnO.ext {w : World} {lo n : Nat} {A : Option Addr} {f f' : Nat → Bool} (h : OwnO w lo A n f) (hf : ∀ i, i < n → f' i = f i) : OwnO w lo A n f' := fun hn => by
  obtain ⟨g, cs, e, hB, hl, h2, h1⟩ := h hn
  exact ⟨g, cs, e, hB, hl, h2, fun i hi => by rw [hf i hi]; exact h1 i hi⟩
theorem OwnO.il {w : World} {lo : Nat} {A : Option Addr} {l : List Bool} {f : Nat → Bool} (h : OwnO w lo A l.length f) (hf : ∀ i (hi : i < l.length), f i = l[i]) (hm : l.length ≤ maxLen) : OL w lo w.heap.size A l := by
  refine ⟨hm, fun hn => ?_⟩
  obtain ⟨g, cs, e, hB, hl, _, h1⟩ := h hn
  refine ⟨_, e, hl, hB.lt, fun k hk => ?_⟩
  rw [add_zero_, hB.cell, h1 k hk, hf k hk]
theorem OwnO.none_ (w : World) (lo : Nat) (A : Option Addr) (f : Nat → Bool) : OwnO w lo A 0 f := fun h => absurd h (by omega)
theorem OwnO.lo_le {w : World} {lo lo' n : Nat} {A : Option Addr} {f : Nat → Bool} (h : OwnO w lo A n f) (hl : lo' ≤ lo) : OwnO w lo' A n f := fun hn => by
  obtain ⟨g, cs, e, hB, h0, h1⟩ := h hn
  exact ⟨g, cs, e, hB, Nat.le_trans hl h0, h1⟩
theorem OwnO.keep {w w' : World} {lo n : Nat} {A : Option Addr} {f : Nat → Bool} (h : OwnO w lo A n f) (hk : ∀ b, lo ≤ b → b < w.heap.size → w'.heap[b]? = w.heap[b]?) : OwnO w' lo A n f := fun hn => by
  obtain ⟨g, cs, e, hB, h0, h1⟩ := h hn
  exact ⟨g, cs, e, (hk g h0 (Blk.lt hB)).trans hB, h0, h1⟩
/-- the truth at a place -/
def gO (l : List Bool) (i : Nat) : Bool := l.getD i false
theorem gO_get {l : List Bool} {i : Nat} (h : i < l.length) : gO l i = l[i] := by simp [gO, h]
theorem OwnO.olg {w : World} {lo : Nat} {A : Option Addr} {l : List Bool} (h : OwnO w lo A l.length (gO l)) (hm : l.length ≤ maxLen) : OL w lo w.heap.size A l := h.il (fun i hi => gO_get hi) hm
theorem OwnO.of_blk {w : World} {lo g : Nat} {l : List Bool} (h : Blk w g 4 (vo l).toArray) (hl : lo ≤ g) : OwnO w lo (some ⟨g, 0, none⟩) l.length (gO l) := fun _ =>
  ⟨g, _, rfl, h, hl, by simp [vo_len], fun i hi => by
    have : (vo l)[i]? = some (.bool (gO l i)) := by rw [vo_get, List.getElem?_eq_getElem hi, gO_get hi]; rfl
    simpa using this⟩
/-- an answer that is a row of truths of the call's own, or none -/
def AnsO (w : World) (l : List Bool) (e : Ending) (w' : World) : Prop := ∃ A c, e = .returned (.slice A l.length c) ∧ OwnO w' w.heap.size A l.length (gO l) ∧ Below w.heap.size w w'
theorem AnsO.nil {w w' : World} (hb : Below w.heap.size w w') : AnsO w [] (.returned (.slice none 0 0)) w' := ⟨none, 0, rfl, OwnO.none_ _ _ _ _, hb⟩

set_option maxHeartbeats 400000 in
theorem eqBoolS_c (l : List Bool) (A A' : Option Addr) (c c' L B L' B' : Nat) (w : World) (h : OL w L B A l) (h' : OL w L' B' A' l) :
    Calls Try.prog 23 #[.slice A l.length c, .slice A' l.length c'] w fun e w' => e = .returned (.bool true) ∧ ∃ n, w' = w.drewN n := by
  have hm := h.1
  unfold maxLen at hm
  go_enter Try.func23, Try.ntmps23
  go_wp2
  go_loopw [5] (fun i wr => ∃ (k : Nat), k ≤ l.length ∧ i = .int .i64 k ∧ ∃ n, wr = w.drewN n) (fun i _ => l.length - (intOf i).toNat)
  case atStart => exact ⟨0, Nat.zero_le _, rfl, 0, rfl⟩
  case round =>
    obtain ⟨k, hk, rfl, n, rfl⟩ := hrel
    by_cases hlt : k < l.length
    · obtain ⟨ad, rfl, _, hb, hcell⟩ := h.2 (by omega)
      obtain ⟨ad', rfl, _, hb', hcell'⟩ := h'.2 (by omega)
      have h1 := hcell k hlt
      have h2 := hcell' k hlt
      clear hcell hcell'
      go_wp2
      go_quiet (fail)
      go_wp2
      go_roundw
      case rel => exact ⟨k + 1, by omega, by go_num, _, rfl⟩
      case measure => simp [intOf]; omega
    · go_wp2
      go_ret
      exact ⟨rfl, _, rfl⟩

set_option maxHeartbeats 1000000 in
theorem markBoolS_c (n : Nat) (A : Option Addr) (c lo k : Nat) (f : Nat → Bool) (w : World) (hsz : k + n ≤ 1073741824) (h : OwnO w lo A n f) :
    Calls Try.prog 24 #[.slice A n c, .int .i64 (k : Int)] w fun r w' => r = .returned (.int .i64 ((k + n : Nat) : Int)) ∧ OwnO w' lo A n (fun i => ((k + i : Nat) : Int) % 3 == 0) ∧ w'.heap.size = w.heap.size ∧ Below lo w w' ∧ Oth A w w' := by
  go_enter Try.func24, Try.ntmps24
  go_wp2
  go_loopw [1, 5] (fun s i wr => ∃ (m q : Nat), m ≤ n ∧ i = .int .i64 m ∧ s = .int .i64 (q : Int) ∧ Hid (q = k + m) ∧ Hid (OwnO wr lo A n (fun i => if i < m then ((k + i : Nat) : Int) % 3 == 0 else f i)) ∧ wr.heap.size = w.heap.size ∧ Below lo w wr ∧ Hid (Oth A w wr)) (fun _ i _ => n - (intOf i).toNat)
  case atStart => exact ⟨0, k, Nat.zero_le _, rfl, rfl, Lib.hid (by omega), Lib.hid h, rfl, Below.refl _ _, Lib.hid (Oth.refl _ _)⟩
  case round =>
    obtain ⟨m, q, hm, rfl, rfl, Hq, HO, hs, hbw, Ho⟩ := hrel
    have Hs := Lib.hid hs
    clear hs
    by_cases hlt : m < n
    · obtain ⟨g, cs, rfl, hB, hl, hcs, hat⟩ := HO.out (by omega)
      obtain ⟨x, hx⟩ : ∃ v, cs[m]? = some v := ⟨_, hat m hlt⟩
      have q0 : wr.cell? ⟨g, m, none⟩ = some x := by rw [hB.cell]; exact hx
      have z0 : wr.frozen? ⟨g, m, none⟩ = false := hB.frozen _
      have hnew : OwnO (wr.setCell ⟨g, m, none⟩ (.bool ((q : Int) % 3 == 0))) lo (some ⟨g, 0, none⟩) n (fun i => if i < m + 1 then ((k + i : Nat) : Int) % 3 == 0 else f i) := fun _ =>
        ⟨g, _, rfl, hB.set_ m _, hl, by simpa using hcs, fun i hi => by
          by_cases e : i = m
          · subst e
            rw [Array.getElem?_setIfInBounds_self_of_lt (by omega)]
            show _ = some (Value.bool (if i < i + 1 then _ else _))
            rw [if_pos (by omega), Hq.out]
          · rw [Array.getElem?_setIfInBounds_ne (by omega), hat i hi]
            show some (Value.bool (if i < m then _ else _)) = some (Value.bool (if i < m + 1 then _ else _))
            by_cases h1 : i < m
            · rw [if_pos h1, if_pos (by omega)]
            · rw [if_neg h1, if_neg (by omega)]⟩
      have hbn : Below lo w (wr.setCell ⟨g, m, none⟩ (.bool ((q : Int) % 3 == 0))) := hbw.setCell (p := ⟨g, m, none⟩) hl _
      have Hn := Lib.hid (And.intro hnew hbn)
      have hqb : q ≤ 1073741824 := by have := Hq.out; omega
      clear hnew hbn hat hx hcs hB HO
      go_wp2
      go_roundw
      case rel => exact ⟨m + 1, q + 1, by omega, by go_num, by go_num, Lib.hid (by have := Hq.out; omega), Lib.hid Hn.out.1, by rw [World.size_setCell]; exact Hs.out, Hn.out.2, Lib.hid (Ho.out.set_ m _)⟩
      case measure => simp [intOf]; omega
    · go_wp2
      go_ret
      have : m = n := by omega
      subst this
      exact ⟨by rw [Hq.out]; rfl, HO.out.ext fun i hi => (if_pos hi).symm, Hs.out, hbw, Ho.out⟩

set_option maxHeartbeats 1000000 in
theorem heldBoolS_c (n : Nat) (A : Option Addr) (c lo k : Nat) (w : World) (hsz : k + n ≤ 1073741824) (h : OwnO w lo A n (fun i => ((k + i : Nat) : Int) % 3 == 0)) :
    Calls Try.prog 25 #[.slice A n c, .int .i64 (k : Int)] w fun r w' => r = .returned (.int .i64 ((k + n : Nat) : Int)) ∧ w = w' := by
  go_enter Try.func25, Try.ntmps25
  go_wp2
  go_loopw [1, 5] (fun s i wr => ∃ (m q : Nat), m ≤ n ∧ i = .int .i64 m ∧ s = .int .i64 (q : Int) ∧ Hid (q = k + m) ∧ wr = w) (fun _ i _ => n - (intOf i).toNat)
  case atStart => exact ⟨0, k, Nat.zero_le _, rfl, rfl, Lib.hid (by omega), by trivial⟩
  case round =>
    obtain ⟨m, q, hm, rfl, rfl, Hq, rfl⟩ := hrel
    by_cases hlt : m < n
    · obtain ⟨g, cs, rfl, hB, hl, hcs, hat⟩ := h (by omega)
      have q0 : wr.cell? ⟨g, m, none⟩ = some (.bool ((q : Int) % 3 == 0)) := by rw [hB.cell, hat m hlt, Hq.out]
      have hqb : q ≤ 1073741824 := by have := Hq.out; omega
      clear hat hcs hB
      go_wp2
      go_roundw
      case rel => exact ⟨m + 1, q + 1, by omega, by go_num, by go_num, Lib.hid (by have := Hq.out; omega), by trivial⟩
      case measure => simp [intOf]; omega
    · go_wp2
      go_ret
      have : m = n := by omega
      subst this
      exact ⟨by rw [Hq.out]; rfl, rfl⟩
end Go.Proofs.Ytiofabnicdlceaa
