/-
  Rows of numbers that a call has made: marks in them.
-/
import Derived.Test.YtmjpcgainoflbaaArnEq
namespace Go.Proofs.Ytmjpcgainoflbaa
open Go.RowKit
set_option linter.unusedVariables false

/-- a row of n numbers in a block of its own, from block lo on -/
def OwnI (w : World) (lo : Nat) (A : Option Addr) (n : Nat) (f : Nat → Int) : Prop :=
  0 < n → ∃ g cs, A = some ⟨g, 0, none⟩ ∧ Blk w g 3 cs ∧ lo ≤ g ∧ n ≤ cs.size ∧ ∀ i, i < n → cs[i]? = some (.int .i64 (f i))
/-- all blocks but a slice's own are as they were -/
def Oth (A : Option Addr) (w w' : World) : Prop := ∀ b, (∀ ad, A = some ad → ad.block ≠ b) → w'.heap[b]? = w.heap[b]?
theorem Oth.refl (A : Option Addr) (w : World) : Oth A w w := fun _ _ => rfl
theorem Oth.set_ {g : Nat} {w w' : World} (h : Oth (some ⟨g, 0, none⟩) w w') (i : Nat) (v : Value) : Oth (some ⟨g, 0, none⟩) w (w'.setCell ⟨g, i, none⟩ v) := fun b hb =>
  (Below.heap_setCell w' ⟨g, i, none⟩ v b (fun e => hb _ rfl e.symm)).trans (h b hb)
theorem OwnI.below {w w' : World} {lo n : Nat} {A : Option Addr} {f : Nat → Int} (h : OwnI w lo A n f) (hb : Below w.heap.size w w') : OwnI w' lo A n f := fun hn => by
  obtain ⟨g, cs, e, hB, hl, h2, h1⟩ := h hn
  exact ⟨g, cs, e, hB.below hb hB.lt, hl, h2, h1⟩
theorem OwnI.ext {w : World} {lo n : Nat} {A : Option Addr} {f f' : Nat → Int} (h : OwnI w lo A n f) (hf : ∀ i, i < n → f' i = f i) : OwnI w lo A n f' := fun hn => by
  obtain ⟨g, cs, e, hB, hl, h2, h1⟩ := h hn
  exact ⟨g, cs, e, hB, hl, h2, fun i hi => by rw [hf i hi]; exact h1 i hi⟩
theorem OwnI.il {w : World} {lo : Nat} {A : Option Addr} {l : List Int} {f : Nat → Int} (h : OwnI w lo A l.length f) (hf : ∀ i (hi : i < l.length), f i = l[i]) (hm : l.length ≤ maxLen) : IL w lo w.heap.size A l := by
  refine ⟨hm, fun hn => ?_⟩
  obtain ⟨g, cs, e, hB, hl, _, h1⟩ := h hn
  refine ⟨_, e, hl, hB.lt, fun k hk => ?_⟩
  rw [add_zero_, hB.cell, h1 k hk, hf k hk]
theorem OwnI.none_ (w : World) (lo : Nat) (A : Option Addr) (f : Nat → Int) : OwnI w lo A 0 f := fun h => absurd h (by omega)

set_option maxHeartbeats 1000000 in
theorem markIntS_c (n : Nat) (A : Option Addr) (c lo k : Nat) (f : Nat → Int) (w : World) (hsz : k + n ≤ 1073741824) (h : OwnI w lo A n f) :
    Calls Try.prog 46 #[.slice A n c, .int .i64 (k : Int)] w fun r w' => r = .returned (.int .i64 ((k + n : Nat) : Int)) ∧ OwnI w' lo A n (fun i => ((k + i : Nat) : Int)) ∧ w'.heap.size = w.heap.size ∧ Below lo w w' ∧ Oth A w w' := by
  go_enter Try.func46, Try.ntmps46
  go_wp2
  go_loopw [1, 5] (fun s i wr => ∃ (m : Nat), m ≤ n ∧ i = .int .i64 m ∧ s = .int .i64 ((k + m : Nat) : Int) ∧ OwnI wr lo A n (fun i => if i < m then ((k + i : Nat) : Int) else f i) ∧ wr.heap.size = w.heap.size ∧ Below lo w wr ∧ Hid (Oth A w wr)) (fun _ i _ => n - (intOf i).toNat)
  case atStart => exact ⟨0, Nat.zero_le _, rfl, rfl, h, rfl, Below.refl _ _, Lib.hid (Oth.refl _ _)⟩
  case round =>
    obtain ⟨m, hm, rfl, rfl, hO, hs, hbw, Ho⟩ := hrel
    have Hs := Lib.hid hs
    clear hs
    by_cases hlt : m < n
    · obtain ⟨g, cs, rfl, hB, hl, hcs, hat⟩ := hO (by omega)
      obtain ⟨x, hx⟩ : ∃ v, cs[m]? = some v := ⟨_, hat m hlt⟩
      have q0 : wr.cell? ⟨g, m, none⟩ = some x := by rw [hB.cell]; exact hx
      have z0 : wr.frozen? ⟨g, m, none⟩ = false := hB.frozen _
      have hnew : OwnI (wr.setCell ⟨g, m, none⟩ (.int .i64 ((k + m : Nat) : Int))) lo (some ⟨g, 0, none⟩) n (fun i => if i < m + 1 then ((k + i : Nat) : Int) else f i) := fun _ =>
        ⟨g, _, rfl, hB.set_ m _, hl, by simpa using hcs, fun i hi => by
          by_cases e : i = m
          · subst e
            rw [Array.getElem?_setIfInBounds_self_of_lt (by omega)]
            show _ = some (Value.int IntKind.i64 (if i < i + 1 then _ else _))
            rw [if_pos (by omega)]
          · rw [Array.getElem?_setIfInBounds_ne (by omega), hat i hi]
            show some (Value.int IntKind.i64 (if i < m then _ else _)) = some (Value.int IntKind.i64 (if i < m + 1 then _ else _))
            by_cases h1 : i < m
            · rw [if_pos h1, if_pos (by omega)]
            · rw [if_neg h1, if_neg (by omega)]⟩
      have hbn : Below lo w (wr.setCell ⟨g, m, none⟩ (.int .i64 ((k + m : Nat) : Int))) := hbw.setCell (p := ⟨g, m, none⟩) hl _
      have Hn := Lib.hid (And.intro hnew hbn)
      clear hnew hbn hat hx hcs hO hB
      go_wp2
      go_roundw
      case rel => exact ⟨m + 1, by omega, by go_num, by go_num, Hn.out.1, by rw [World.size_setCell]; exact Hs.out, Hn.out.2, Lib.hid (Ho.out.set_ m _)⟩
      case measure => simp [intOf]; omega
    · go_wp2
      go_ret
      have : m = n := by omega
      subst this
      exact ⟨rfl, hO.ext fun i hi => (if_pos hi).symm, Hs.out, hbw, Ho.out⟩

set_option maxHeartbeats 1000000 in
theorem heldIntS_c (n : Nat) (A : Option Addr) (c lo k : Nat) (w : World) (hsz : k + n ≤ 1073741824) (h : OwnI w lo A n (fun i => ((k + i : Nat) : Int))) :
    Calls Try.prog 47 #[.slice A n c, .int .i64 (k : Int)] w fun r w' => r = .returned (.int .i64 ((k + n : Nat) : Int)) ∧ w = w' := by
  go_enter Try.func47, Try.ntmps47
  go_wp2
  go_loopw [1, 5] (fun s i wr => ∃ (m : Nat), m ≤ n ∧ i = .int .i64 m ∧ s = .int .i64 ((k + m : Nat) : Int) ∧ wr = w) (fun _ i _ => n - (intOf i).toNat)
  case atStart => exact ⟨0, Nat.zero_le _, rfl, rfl, by trivial⟩
  case round =>
    obtain ⟨m, hm, rfl, rfl, rfl⟩ := hrel
    by_cases hlt : m < n
    · obtain ⟨g, cs, rfl, hB, hl, hcs, hat⟩ := h (by omega)
      have q0 : wr.cell? ⟨g, m, none⟩ = some (.int .i64 ((k + m : Nat) : Int)) := by rw [hB.cell]; exact hat m hlt
      clear hat hcs hB
      go_wp2
      go_roundw
      case rel => exact ⟨m + 1, by omega, by go_num, by go_num, by trivial⟩
      case measure => simp [intOf]; omega
    · go_wp2
      go_ret
      have : m = n := by omega
      subst this
      exact ⟨rfl, rfl⟩

end Go.Proofs.Ytmjpcgainoflbaa
