/-
  Rows of numbers that a call has made: marks in them; slots that are empty: made, marked.
-/
import Derived.Test.YtdaajeocpccnmaaArnEq
namespace Go.Proofs.Ytdaajeocpccnmaa
open Go.RowKit
set_option linter.unusedVariables false

/-- a row of n numbers in a block of its own, from block lo on -/
def OwnI (w : World) (lo : Nat) (A : Option Addr) (n : Nat) (f : Nat → Int) : Prop :=
  0 < n → ∃ g cs, A = some ⟨g, 0, none⟩ ∧ Blk w g 3 cs ∧ lo ≤ g ∧ n ≤ cs.size ∧ ∀ i, i < n → cs[i]? = some (.int .i64 (f i))
/-- all blocks but a slice's own are as they were -/
def Oth (A : Option Addr) (w w' : World) : Prop := ∀ b, (∀ ad, A = some ad → ad.block ≠ b) → w'.heap[b]? = w.heap[b]?
theorem Oth.refl (A : Option Addr) (w : World) : Oth A w w := fun _ _ => rfl
theorem Oth.set_ {g : Nat} {w w' : World} (h : Oth (some ⟨g, 0, none⟩) w w') (i : Nat) (v : Value) : Oth (some ⟨g, 0, none⟩) w (w'.setCell ⟨g, i, none⟩ v) := fun b hb =>
  (Below.heap_setCell w' ⟨g, i, none⟩ v b (fun e => hb _ rfl e.symm)).trans (h b hb)
theorem OwnI.below {w w' : World} {lo n : Nat} {A : Option Addr} {f : Nat → Int} (h : OwnI w lo A n f) (hb : Below w.heap.size w w') : OwnI w' lo A n f := fun hn => by
  obtain ⟨g, cs, e, hB, hl, h2, h1⟩ := h hn
  exact ⟨g, cs, e, hB.below hb hB.lt, hl, h2, h1⟩
theorem OwnI.ext {w : World} {lo n : Nat} {A : Option Addr} {f f' : Nat → Int} (h : OwnI w lo A n f) (hf : ∀ i, i < n → f' i = f i) : OwnI w lo A n f' := fun hn => by
  obtain ⟨g, cs, e, hB, hl, h2, h1⟩ := h hn
  exact ⟨g, cs, e, hB, hl, h2, fun i hi => by rw [hf i hi]; exact h1 i hi⟩
theorem OwnI.il {w : World} {lo : Nat} {A : Option Addr} {l : List Int} {f : Nat → Int} (h : OwnI w lo A l.length f) (hf : ∀ i (hi : i < l.length), f i = l[i]) (hm : l.length ≤ maxLen) : IL w lo w.heap.size A l := by
  refine ⟨hm, fun hn => ?_⟩
  obtain ⟨g, cs, e, hB, hl, _, h1⟩ := h hn
  refine ⟨_, e, hl, hB.lt, fun k hk => ?_⟩
  rw [add_zero_, hB.cell, h1 k hk, hf k hk]
theorem OwnI.none_ (w : World) (lo : Nat) (A : Option Addr) (f : Nat → Int) : OwnI w lo A 0 f := fun h => absurd h (by omega)

set_option maxHeartbeats 1000000 in
theorem markIntS_c (n : Nat) (A : Option Addr) (c lo k : Nat) (f : Nat → Int) (w : World) (hsz : k + n ≤ 1073741824) (h : OwnI w lo A n f) :
    Calls Try.prog 34 #[.slice A n c, .int .i64 (k : Int)] w fun r w' => r = .returned (.int .i64 ((k + n : Nat) : Int)) ∧ OwnI w' lo A n (fun i => ((k + i : Nat) : Int)) ∧ w'.heap.size = w.heap.size ∧ Below lo w w' ∧ Oth A w w' := by
  go_enter Try.func34, Try.ntmps34
  go_wp2
  go_loopw [1, 5] (fun s i wr => ∃ (m : Nat), m ≤ n ∧ i = .int .i64 m ∧ s = .int .i64 ((k + m : Nat) : Int) ∧ OwnI wr lo A n (fun i => if i < m then ((k + i : Nat) : Int) else f i) ∧ wr.heap.size = w.heap.size ∧ Below lo w wr ∧ Hid (Oth A w wr)) (fun _ i _ => n - (intOf i).toNat)
  case atStart => exact ⟨0, Nat.zero_le _, rfl, rfl, h, rfl, Below.refl _ _, Lib.hid (Oth.refl _ _)⟩
  case round =>
    obtain ⟨m, hm, rfl, rfl, hO, hs, hbw, Ho⟩ := hrel
    have Hs := Lib.hid hs
    clear hs
    by_cases hlt : m < n
    · obtain ⟨g, cs, rfl, hB, hl, hcs, hat⟩ := hO (by omega)
      obtain ⟨x, hx⟩ : ∃ v, cs[m]? = some v := ⟨_, hat m hlt⟩
      have q0 : wr.cell? ⟨g, m, none⟩ = some x := by rw [hB.cell]; exact hx
      have z0 : wr.frozen? ⟨g, m, none⟩ = false := hB.frozen _
      have hnew : OwnI (wr.setCell ⟨g, m, none⟩ (.int .i64 ((k + m : Nat) : Int))) lo (some ⟨g, 0, none⟩) n (fun i => if i < m + 1 then ((k + i : Nat) : Int) else f i) := fun _ =>
        ⟨g, _, rfl, hB.set_ m _, hl, by simpa using hcs, fun i hi => by
          by_cases e : i = m
          · subst e
            rw [Array.getElem?_setIfInBounds_self_of_lt (by omega)]
            show _ = some (Value.int IntKind.i64 (if i < i + 1 then _ else _))
            rw [if_pos (by omega)]
          · rw [Array.getElem?_setIfInBounds_ne (by omega), hat i hi]
            show some (Value.int IntKind.i64 (if i < m then _ else _)) = some (Value.int IntKind.i64 (if i < m + 1 then _ else _))
            by_cases h1 : i < m
            · rw [if_pos h1, if_pos (by omega)]
            · rw [if_neg h1, if_neg (by omega)]⟩
      have hbn : Below lo w (wr.setCell ⟨g, m, none⟩ (.int .i64 ((k + m : Nat) : Int))) := hbw.setCell (p := ⟨g, m, none⟩) hl _
      have Hn := Lib.hid (And.intro hnew hbn)
      clear hnew hbn hat hx hcs hO hB
      go_wp2
      go_roundw
      case rel => exact ⟨m + 1, by omega, by go_num, by go_num, Hn.out.1, by rw [World.size_setCell]; exact Hs.out, Hn.out.2, Lib.hid (Ho.out.set_ m _)⟩
      case measure => simp [intOf]; omega
    · go_wp2
      go_ret
      have : m = n := by omega
      subst this
      exact ⟨rfl, hO.ext fun i hi => (if_pos hi).symm, Hs.out, hbw, Ho.out⟩

set_option maxHeartbeats 1000000 in
theorem heldIntS_c (n : Nat) (A : Option Addr) (c lo k : Nat) (w : World) (hsz : k + n ≤ 1073741824) (h : OwnI w lo A n (fun i => ((k + i : Nat) : Int))) :
    Calls Try.prog 35 #[.slice A n c, .int .i64 (k : Int)] w fun r w' => r = .returned (.int .i64 ((k + n : Nat) : Int)) ∧ w = w' := by
  go_enter Try.func35, Try.ntmps35
  go_wp2
  go_loopw [1, 5] (fun s i wr => ∃ (m : Nat), m ≤ n ∧ i = .int .i64 m ∧ s = .int .i64 ((k + m : Nat) : Int) ∧ wr = w) (fun _ i _ => n - (intOf i).toNat)
  case atStart => exact ⟨0, Nat.zero_le _, rfl, rfl, by trivial⟩
  case round =>
    obtain ⟨m, hm, rfl, rfl, rfl⟩ := hrel
    by_cases hlt : m < n
    · obtain ⟨g, cs, rfl, hB, hl, hcs, hat⟩ := h (by omega)
      have q0 : wr.cell? ⟨g, m, none⟩ = some (.int .i64 ((k + m : Nat) : Int)) := by rw [hB.cell]; exact hat m hlt
      clear hat hcs hB
      go_wp2
      go_roundw
      case rel => exact ⟨m + 1, by omega, by go_num, by go_num, by trivial⟩
      case measure => simp [intOf]; omega
    · go_wp2
      go_ret
      have : m = n := by omega
      subst this
      exact ⟨rfl, rfl⟩

theorem markFieldS_0 (A : Option Addr) (c : Nat) (k : Int) (w : World) : Calls Try.prog 93 #[.slice A 0 c, .int .i64 k] w fun r w' => r = .returned (.int .i64 k) ∧ w = w' := by
  go_enter Try.func93, Try.ntmps93
  go_wp2
  go_loopw [1, 5] (fun s i wr => i = .int .i64 0 ∧ s = .int .i64 k ∧ wr = w) (fun _ i _ => 0)
  case atStart => exact ⟨rfl, rfl, by trivial⟩
  case round =>
    obtain ⟨rfl, rfl, rfl⟩ := hrel
    go_wp2
    go_ret
    exact ⟨rfl, rfl⟩
theorem heldFieldS_0 (A : Option Addr) (c : Nat) (k : Int) (w : World) : Calls Try.prog 94 #[.slice A 0 c, .int .i64 k] w fun r w' => r = .returned (.int .i64 k) ∧ w = w' := by
  go_enter Try.func94, Try.ntmps94
  go_wp2
  go_loopw [1, 5] (fun s i wr => i = .int .i64 0 ∧ s = .int .i64 k ∧ wr = w) (fun _ i _ => 0)
  case atStart => exact ⟨rfl, rfl, by trivial⟩
  case round =>
    obtain ⟨rfl, rfl, rfl⟩ := hrel
    go_wp2
    go_ret
    exact ⟨rfl, rfl⟩

/-- n slots without fields in a block of their own: the first m of them marked from k on -/
def Mks (cs : Array Value) (n k m : Nat) : Prop := cs.size = n * 4 ∧ (∀ i, i < n → cs[i * 4 + 3]? = some (.slice none 0 0)) ∧
  ∀ i, i < m → cs[i * 4]? = some (.bool (((k + i * 3 : Nat) : Int) % 3 == 0)) ∧ cs[i * 4 + 1]? = some (.int .i64 (((k + i * 3 : Nat) : Int) + 1)) ∧ cs[i * 4 + 2]? = some (.int .i64 (((k + i * 3 : Nat) : Int) + 1 + 1))
def pt3 (cs : Array Value) (k : Nat) (a b c : Value) : Array Value := ((cs.setIfInBounds k a).setIfInBounds (k + 1) b).setIfInBounds (k + 2) c
theorem pt3_size (cs : Array Value) (k : Nat) (a b c : Value) : (pt3 cs k a b c).size = cs.size := by simp [pt3]
theorem pt3_at {cs : Array Value} {k : Nat} {a b c : Value} (h : k + 2 < cs.size) : (pt3 cs k a b c)[k]? = some a ∧ (pt3 cs k a b c)[k + 1]? = some b ∧ (pt3 cs k a b c)[k + 2]? = some c := by
  unfold pt3
  refine ⟨?_, ?_, ?_⟩
  · rw [Array.getElem?_setIfInBounds_ne (by omega), Array.getElem?_setIfInBounds_ne (by omega), Array.getElem?_setIfInBounds_self_of_lt (by omega)]
  · rw [Array.getElem?_setIfInBounds_ne (by omega), Array.getElem?_setIfInBounds_self_of_lt (by simp; omega)]
  · rw [Array.getElem?_setIfInBounds_self_of_lt (by simp; omega)]
theorem pt3_ne {cs : Array Value} {k j : Nat} {a b c : Value} (h : j < k ∨ k + 2 < j) : (pt3 cs k a b c)[j]? = cs[j]? := by
  unfold pt3
  rw [Array.getElem?_setIfInBounds_ne (by omega), Array.getElem?_setIfInBounds_ne (by omega), Array.getElem?_setIfInBounds_ne (by omega)]
theorem Mks.step {cs : Array Value} {n k m : Nat} (h : Mks cs n k m) (hm : m < n) : Mks (pt3 cs (m * 4) (.bool (((k + m * 3 : Nat) : Int) % 3 == 0)) (.int .i64 (((k + m * 3 : Nat) : Int) + 1)) (.int .i64 (((k + m * 3 : Nat) : Int) + 1 + 1))) n k (m + 1) := by
  obtain ⟨hs, h3, hc⟩ := h
  refine ⟨by rw [pt3_size]; exact hs, fun i hi => by rw [pt3_ne (by omega)]; exact h3 i hi, fun i hi => ?_⟩
  by_cases e : i = m
  · subst e
    exact pt3_at (by omega)
  · obtain ⟨a, b, c⟩ := hc i (by omega)
    exact ⟨by rw [pt3_ne (by omega)]; exact a, by rw [pt3_ne (by omega)]; exact b, by rw [pt3_ne (by omega)]; exact c⟩

def OwnZ (w : World) (lo : Nat) (A : Option Addr) (n k m : Nat) : Prop := 0 < n → ∃ g cs, A = some ⟨g, 0, none⟩ ∧ Blk w g 67 cs ∧ lo ≤ g ∧ Mks cs n k m
theorem OwnZ.below {w w' : World} {lo n k m : Nat} {A : Option Addr} (h : OwnZ w lo A n k m) (hb : Below w.heap.size w w') : OwnZ w' lo A n k m := fun hn => by
  obtain ⟨g, cs, e, hB, hl, h1⟩ := h hn
  exact ⟨g, cs, e, hB.below hb hB.lt, hl, h1⟩
set_option maxHeartbeats 2000000 in
theorem markSlotS_z (n : Nat) (A : Option Addr) (c lo k : Nat) (w : World) (hn : n ≤ 16) (hk : k ≤ 1000) (h : OwnZ w lo A n k 0) :
    Calls Try.prog 66 #[.slice A n c, .int .i64 (k : Int)] w fun r w' => r = .returned (.int .i64 ((k + n * 3 : Nat) : Int)) ∧ OwnZ w' lo A n k n ∧ w'.heap.size = w.heap.size ∧ Below lo w w' ∧ Oth A w w' := by
  go_enter Try.func66, Try.ntmps66
  go_wp2
  go_loopw [1, 5] (fun s i wr => ∃ (m q : Nat), m ≤ n ∧ i = .int .i64 m ∧ s = .int .i64 (q : Int) ∧ Hid (q = k + m * 3) ∧ OwnZ wr lo A n k m ∧ Hid (wr.heap.size = w.heap.size) ∧ Below lo w wr ∧ Hid (Oth A w wr)) (fun _ i _ => n - (intOf i).toNat)
  case atStart => exact ⟨0, k, Nat.zero_le _, rfl, rfl, Lib.hid (by omega), h, Lib.hid rfl, Below.refl _ _, Lib.hid (Oth.refl _ _)⟩
  case round =>
    obtain ⟨m, q, hm, rfl, rfl, Hq, hO, Hs, hbw, Ho⟩ := hrel
    by_cases hlt : m < n
    · obtain ⟨g, cs, rfl, hB, hl, hat⟩ := hO (by omega)
      obtain ⟨hsz, h3, _⟩ := id hat
      obtain ⟨x0, e0⟩ : ∃ v, cs[m * 4]? = some v := ⟨_, Array.getElem?_eq_getElem (by omega)⟩
      obtain ⟨x1, e1⟩ : ∃ v, cs[m * 4 + 1]? = some v := ⟨_, Array.getElem?_eq_getElem (by omega)⟩
      obtain ⟨x2, e2⟩ : ∃ v, cs[m * 4 + 2]? = some v := ⟨_, Array.getElem?_eq_getElem (by omega)⟩
      have e3 := h3 m hlt
      have q0 : wr.cell? ⟨g, m * 4, none⟩ = some x0 := by rw [hB.cell]; exact e0
      have q1 : wr.cell? ⟨g, m * 4 + 1, none⟩ = some x1 := by rw [hB.cell]; exact e1
      have q2 : wr.cell? ⟨g, m * 4 + 2, none⟩ = some x2 := by rw [hB.cell]; exact e2
      have q3 : wr.cell? ⟨g, m * 4 + 3, none⟩ = some (.slice none 0 0) := by rw [hB.cell]; exact e3
      have z0 : wr.frozen? ⟨g, m * 4, none⟩ = false := hB.frozen _
      have z1 : wr.frozen? ⟨g, m * 4 + 1, none⟩ = false := hB.frozen _
      have z2 : wr.frozen? ⟨g, m * 4 + 2, none⟩ = false := hB.frozen _
      have hqb : q ≤ 1048 := by have := Hq.out; omega
      have HB := Lib.hid hB
      have Hat := Lib.hid hat
      clear hB hat hsz h3 e0 e1 e2 e3 hO
      go_wp2_with fail
      refine (markFieldS_0 none 0 _ _).mono ?_
      rintro r w' ⟨rfl, rfl⟩
      go_wp2
      go_roundw
      case rel =>
        refine ⟨m + 1, q + 1 + 1 + 1, by omega, by go_num, by go_num, Lib.hid (by have := Hq.out; omega), fun _ => ⟨g, _, rfl, ((HB.out.set_ (m * 4) _).set_ (m * 4 + 1) _).set_ (m * 4 + 2) _, hl, ?_⟩, Lib.hid (by simpa only [World.size_setCell] using Hs.out), ((hbw.setCell (p := ⟨g, m * 4, none⟩) hl _).setCell (p := ⟨g, m * 4 + 1, none⟩) hl _).setCell (p := ⟨g, m * 4 + 2, none⟩) hl _, Lib.hid (((Ho.out.set_ (m * 4) _).set_ (m * 4 + 1) _).set_ (m * 4 + 2) _)⟩
        have h1 := Hat.out.step hlt
        rw [← Hq.out] at h1
        exact h1
      case measure => simp [intOf]; omega
    · go_wp2
      go_ret
      have : m = n := by omega
      subst this
      refine ⟨?_, hO, Hs.out, hbw, Ho.out⟩
      rw [← Hq.out]; rfl
end Go.Proofs.Ytdaajeocpccnmaa
