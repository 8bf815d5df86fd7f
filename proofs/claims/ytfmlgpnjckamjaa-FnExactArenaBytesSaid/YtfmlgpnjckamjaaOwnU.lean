/-
  Rows of bytes that a call has made: marks in them, and what they hold.
-/
import Derived.Test.YtfmlgpnjckamjaaMgrow
namespace Go.Proofs.Ytfmlgpnjckamjaa
open Go.RowKit
set_option linter.unusedVariables false

theorem addU (g j : Nat) : (⟨g, 0, none⟩ : Addr).add j = ⟨g, j, none⟩ := by unfold Addr.add; split <;> simp_all
/-- all blocks but A's are as they were -/
def OthU (A : Option Addr) (w w' : World) : Prop := ∀ b, (∀ ad, A = some ad → ad.block ≠ b) → w'.heap[b]? = w.heap[b]?
theorem OthU.refl (A : Option Addr) (w : World) : OthU A w w := fun _ _ => rfl
theorem OthU.set_ {g : Nat} {w w' : World} (h : OthU (some ⟨g, 0, none⟩) w w') (i : Nat) (v : Value) : OthU (some ⟨g, 0, none⟩) w (w'.setCell ⟨g, i, none⟩ v) := fun b hb =>
  (Below.heap_setCell w' ⟨g, i, none⟩ v b (fun e => hb _ rfl e.symm)).trans (h b hb)

/-- a row of n bytes in a block of its own, from block lo on -/
def OwnU (w : World) (lo : Nat) (A : Option Addr) (n : Nat) (f : Nat → Int) : Prop :=
  0 < n → ∃ g cs, A = some ⟨g, 0, none⟩ ∧ BlkT w g 5 cs ∧ lo ≤ g ∧ n ≤ cs.size ∧ ∀ i, i < n → cs[i]? = some (.int .u8 (f i))
theorem OwnU.below {w w' : World} {lo n : Nat} {A : Option Addr} {f : Nat → Int} (h : OwnU w lo A n f) (hb : Below w.heap.size w w') : OwnU w' lo A n f := fun hn => by
  obtain ⟨g, cs, e, hB, hl, h2, h1⟩ := h hn
  exact ⟨g, cs, e, hB.below hb hB.lt, hl, h2, h1⟩
theorem OwnU.ext {w : World} {lo n : Nat} {A : Option Addr} {f f' : Nat → Int} (h : OwnU w lo A n f) (hf : ∀ i, i < n → f' i = f i) : OwnU w lo A n f' := fun hn => by
  obtain ⟨g, cs, e, hB, hl, h2, h1⟩ := h hn
  exact ⟨g, cs, e, hB, hl, h2, fun i hi => by rw [hf i hi]; exact h1 i hi⟩
theorem OwnU.none_ (w : World) (lo : Nat) (A : Option Addr) (f : Nat → Int) : OwnU w lo A 0 f := fun h => absurd h (by omega)

set_option maxHeartbeats 1000000 in
theorem markByteS_o (n : Nat) (A : Option Addr) (c lo k : Nat) (f : Nat → Int) (w : World) (hsz : k + n ≤ 1073741824) (h : OwnU w lo A n f) :
    Calls Try.prog 16 #[.slice A n c, .int .i64 (k : Int)] w fun r w' => r = .returned (.int .i64 ((k + n : Nat) : Int)) ∧ OwnU w' lo A n (fun i => (((k + i) % 256 : Nat) : Int)) ∧ w'.heap.size = w.heap.size ∧ Below lo w w' ∧ OthU A w w' := by
  go_enter Try.func16, Try.ntmps16
  go_wp2
  go_loopw [1, 5] (fun s i wr => ∃ (m : Nat), m ≤ n ∧ i = .int .i64 m ∧ s = .int .i64 ((k + m : Nat) : Int) ∧ OwnU wr lo A n (fun i => if i < m then (((k + i) % 256 : Nat) : Int) else f i) ∧ wr.heap.size = w.heap.size ∧ Below lo w wr ∧ Hid (OthU A w wr)) (fun _ i _ => n - (intOf i).toNat)
  case atStart => exact ⟨0, Nat.zero_le _, rfl, rfl, h, rfl, Below.refl _ _, Lib.hid (OthU.refl _ _)⟩
  case round =>
    obtain ⟨m, hm, rfl, rfl, hO, hs, hbw, Ho⟩ := hrel
    have Hs := Lib.hid hs
    clear hs
    by_cases hlt : m < n
    · obtain ⟨g, cs, rfl, hB, hl, hcs, hat⟩ := hO (by omega)
      obtain ⟨x, hx⟩ : ∃ v, cs[m]? = some v := ⟨_, hat m hlt⟩
      have q0 : wr.cell? ⟨g, m, none⟩ = some x := by rw [hB.cell]; exact hx
      have z0 : wr.frozen? ⟨g, m, none⟩ = false := hB.frozen (by omega)
      have hnew : OwnU (wr.setCell ⟨g, m, none⟩ (.int .u8 (((k + m) % 256 : Nat) : Int))) lo (some ⟨g, 0, none⟩) n (fun i => if i < m + 1 then (((k + i) % 256 : Nat) : Int) else f i) := fun _ =>
        ⟨g, _, rfl, hB.set_ m _, hl, by simpa using hcs, fun i hi => by
          by_cases e : i = m
          · subst e
            rw [Array.getElem?_setIfInBounds_self_of_lt (by omega)]
            show _ = some (Value.int IntKind.u8 (if i < i + 1 then _ else _))
            rw [if_pos (by omega)]
          · rw [Array.getElem?_setIfInBounds_ne (by omega), hat i hi]
            show some (Value.int IntKind.u8 (if i < m then _ else _)) = some (Value.int IntKind.u8 (if i < m + 1 then _ else _))
            by_cases h1 : i < m
            · rw [if_pos h1, if_pos (by omega)]
            · rw [if_neg h1, if_neg (by omega)]⟩
      have hbn : Below lo w (wr.setCell ⟨g, m, none⟩ (.int .u8 (((k + m) % 256 : Nat) : Int))) := hbw.setCell (p := ⟨g, m, none⟩) hl _
      have Hn := Lib.hid (And.intro hnew hbn)
      clear hnew hbn hat hx hcs hO hB
      go_wp2
      go_roundw
      case rel =>
        have e9 : (((k : Int) + (m : Int)) % 256) = (((k + m) % 256 : Nat) : Int) := by omega
        rw [e9]
        exact ⟨m + 1, by omega, by go_num, by go_num, Hn.out.1, by rw [World.size_setCell]; exact Hs.out, Hn.out.2, Lib.hid (Ho.out.set_ m _)⟩
      case measure => simp [intOf]; omega
    · go_wp2
      go_ret
      have : m = n := by omega
      subst this
      exact ⟨rfl, hO.ext fun i hi => (if_pos hi).symm, Hs.out, hbw, Ho.out⟩
theorem OwnU.lo_le {w : World} {lo lo' n : Nat} {A : Option Addr} {f : Nat → Int} (h : OwnU w lo A n f) (hl : lo' ≤ lo) : OwnU w lo' A n f := fun hn => by
  obtain ⟨g, cs, e, hB, h3, h2, h1⟩ := h hn
  exact ⟨g, cs, e, hB, by omega, h2, h1⟩
theorem OwnU.keep {w w' : World} {lo n : Nat} {A : Option Addr} {f : Nat → Int} (h : OwnU w lo A n f) (hk : ∀ b, lo ≤ b → b < w.heap.size → w'.heap[b]? = w.heap[b]?) : OwnU w' lo A n f := fun hn => by
  obtain ⟨g, cs, e, hB, hl, h2, h1⟩ := h hn
  exact ⟨g, cs, e, hB.same (hk g hl hB.lt), hl, h2, h1⟩
/-- the numbers of bytes -/
def gU (l : List UInt8) (i : Nat) : Int := ((l.getD i 0).toNat : Int)
theorem gU_at {l : List UInt8} {i : Nat} (h : i < l.length) : (vb l)[i]? = some (.int .u8 (gU l i)) := by
  unfold vb gU
  rw [List.getElem?_map, List.getElem?_eq_getElem h, List.getD_eq_getElem?_getD, List.getElem?_eq_getElem h]
  rfl
theorem OwnU.rb {w : World} {lo : Nat} {A : Option Addr} {l : List UInt8} (h : OwnU w lo A l.length (gU l)) : RB w w.heap.size A l := by
  refine ⟨by simp [vb], fun hn => ?_⟩
  obtain ⟨g, cs, e, hB, hl, hc, hat⟩ := h hn
  refine ⟨_, e, hB.lt, fun j u hu => ?_⟩
  have hj : j < l.length := by
    have := (List.getElem?_eq_some_iff.1 hu).1
    simpa [vb] using this
  rw [gU_at hj] at hu
  rw [addU, hB.cell, hat j hj, hu]
theorem OwnT.ownU {w : World} {B : Nat} {A : Option Addr} {n c : Nat} {l : List UInt8} (h : OwnT w B (.slice A n c) l) : OwnU w B A l.length (gU l) := fun hn => by
  rcases h.2 with ⟨_, h0⟩ | ⟨g', cap, cur, hv, hb, hh, h1, h2, h3, h4⟩
  · omega
  · injection hv with e1 e2 e3
    refine ⟨g', cur, e1, hh, hb, by omega, fun i hi => ?_⟩
    have := gU_at hi
    rw [← h4, List.getElem?_take_of_lt (by omega)] at this
    simpa using this

/-- an answer: a row of bytes of its own -/
def AnsT (w : World) (l : List UInt8) (e : Ending) (w' : World) : Prop := ∃ A c, e = .returned (.slice A l.length c) ∧ OwnT w' w.heap.size (.slice A l.length c) l ∧ Below w.heap.size w w'
theorem AnsT.nil {w w' : World} (h : Below w.heap.size w w') : AnsT w [] (.returned (.slice none 0 0)) w' := ⟨none, 0, rfl, OwnT.nil _ _, h⟩
theorem OwnT.ans {w w' : World} {v : Value} {l : List UInt8} (h : OwnT w' w.heap.size v l) (hb : Below w.heap.size w w') : AnsT w l (.returned v) w' := by
  obtain ⟨A, c, rfl, _⟩ := h.form
  exact ⟨A, c, rfl, h, hb⟩

set_option maxHeartbeats 1000000 in
theorem heldByteS_o (n : Nat) (A : Option Addr) (c lo k : Nat) (w : World) (hsz : k + n ≤ 1073741824) (h : OwnU w lo A n (fun i => (((k + i) % 256 : Nat) : Int))) :
    Calls Try.prog 17 #[.slice A n c, .int .i64 (k : Int)] w fun r w' => r = .returned (.int .i64 ((k + n : Nat) : Int)) ∧ w = w' := by
  go_enter Try.func17, Try.ntmps17
  go_wp2
  go_loopw [1, 5] (fun s i wr => ∃ (m : Nat), m ≤ n ∧ i = .int .i64 m ∧ s = .int .i64 ((k + m : Nat) : Int) ∧ wr = w) (fun _ i _ => n - (intOf i).toNat)
  case atStart => exact ⟨0, Nat.zero_le _, rfl, rfl, by trivial⟩
  case round =>
    obtain ⟨m, hm, rfl, rfl, rfl⟩ := hrel
    by_cases hlt : m < n
    · obtain ⟨g, cs, rfl, hB, hl, hcs, hat⟩ := h (by omega)
      have q0 : wr.cell? ⟨g, m, none⟩ = some (.int .u8 (((k + m) % 256 : Nat) : Int)) := by rw [hB.cell]; exact hat m hlt
      clear hat hcs hB
      go_wp2
      go_roundw
      case rel => exact ⟨m + 1, by omega, by go_num, by go_num, by trivial⟩
      case measure => simp [intOf]; omega
    · go_wp2
      go_ret
      have : m = n := by omega
      subst this
      exact ⟨rfl, rfl⟩
end Go.Proofs.Ytfmlgpnjckamjaa
