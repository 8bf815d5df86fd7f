/-
  Rows of numbers.
-/
import Derived.Test.YtfmlgpnjckamjaaMarn
namespace Go.Proofs.Ytfmlgpnjckamjaa
open Go.RowKit
set_option linter.unusedVariables false

/-- a row of n numbers in a block of its own, from block lo on -/
def OwnI (w : World) (lo : Nat) (A : Option Addr) (n : Nat) (f : Nat → Int) : Prop :=
  0 < n → ∃ g cs, A = some ⟨g, 0, none⟩ ∧ Blk w g 3 cs ∧ lo ≤ g ∧ n ≤ cs.size ∧ ∀ i, i < n → cs[i]? = some (.int .i64 (f i))
/-- all blocks but a slice's own are as they were -/
def Oth (A : Option Addr) (w w' : World) : Prop := ∀ b, (∀ ad, A = some ad → ad.block ≠ b) → w'.heap[b]? = w.heap[b]?
theorem Oth.refl (A : Option Addr) (w : World) : Oth A w w := fun _ _ => rfl
theorem Oth.set_ {g : Nat} {w w' : World} (h : Oth (some ⟨g, 0, none⟩) w w') (i : Nat) (v : Value) : Oth (some ⟨g, 0, none⟩) w (w'.setCell ⟨g, i, none⟩ v) := fun b hb =>
  (Below.heap_setCell w' ⟨g, i, none⟩ v b (fun e => hb _ rfl e.symm)).trans (h b hb)
theorem OwnI.below {w w' : World} {lo n : Nat} {A : Option Addr} {f : Nat → Int} (h : OwnI w lo A n f) (hb : Below w.heap.size w w') : OwnI w' lo A n f := fun hn => by
  obtain ⟨g, cs, e, hB, hl, h2, h1⟩ := h hn
  exact ⟨g, cs, e, hB.below hb hB.lt, hl, h2, h1⟩
theorem OwnI.ext {w : World} {lo n : Nat} {A : Option Addr} {f f' : Nat → Int} (h : OwnI w lo A n f) (hf : ∀ i, i < n → f' i = f i) : OwnI w lo A n f' := fun hn => by
  obtain ⟨g, cs, e, hB, hl, h2, h1⟩ := h hn
  exact ⟨g, cs, e, hB, hl, h2, fun i hi => by rw [hf i hi]; exact h1 i hi⟩
theorem OwnI.il {w : World} {lo : Nat} {A : Option Addr} {l : List Int} {f : Nat → Int} (h : OwnI w lo A l.length f) (hf : ∀ i (hi : i < l.length), f i = l[i]) (hm : l.length ≤ maxLen) : IL w lo w.heap.size A l := by
  refine ⟨hm, fun hn => ?_⟩
  obtain ⟨g, cs, e, hB, hl, _, h1⟩ := h hn
  refine ⟨_, e, hl, hB.lt, fun k hk => ?_⟩
  rw [add_zero_, hB.cell, h1 k hk, hf k hk]
theorem OwnI.none_ (w : World) (lo : Nat) (A : Option Addr) (f : Nat → Int) : OwnI w lo A 0 f := fun h => absurd h (by omega)

set_option maxHeartbeats 1000000 in
theorem markIntS_c (n : Nat) (A : Option Addr) (c lo k : Nat) (f : Nat → Int) (w : World) (hsz : k + n ≤ 1073741824) (h : OwnI w lo A n f) :
    Calls Try.prog 43 #[.slice A n c, .int .i64 (k : Int)] w fun r w' => r = .returned (.int .i64 ((k + n : Nat) : Int)) ∧ OwnI w' lo A n (fun i => ((k + i : Nat) : Int)) ∧ w'.heap.size = w.heap.size ∧ Below lo w w' ∧ Oth A w w' := by
  go_enter Try.func43, Try.ntmps43
  go_wp2
  go_loopw [1, 5] (fun s i wr => ∃ (m : Nat), m ≤ n ∧ i = .int .i64 m ∧ s = .int .i64 ((k + m : Nat) : Int) ∧ OwnI wr lo A n (fun i => if i < m then ((k + i : Nat) : Int) else f i) ∧ wr.heap.size = w.heap.size ∧ Below lo w wr ∧ Hid (Oth A w wr)) (fun _ i _ => n - (intOf i).toNat)
  case atStart => exact ⟨0, Nat.zero_le _, rfl, rfl, h, rfl, Below.refl _ _, Lib.hid (Oth.refl _ _)⟩
  case round =>
    obtain ⟨m, hm, rfl, rfl, hO, hs, hbw, Ho⟩ := hrel
    have Hs := Lib.hid hs
    clear hs
    by_cases hlt : m < n
    · obtain ⟨g, cs, rfl, hB, hl, hcs, hat⟩ := hO (by omega)
      obtain ⟨x, hx⟩ : ∃ v, cs[m]? = some v := ⟨_, hat m hlt⟩
      have q0 : wr.cell? ⟨g, m, none⟩ = some x := by rw [hB.cell]; exact hx
      have z0 : wr.frozen? ⟨g, m, none⟩ = false := hB.frozen _
      have hnew : OwnI (wr.setCell ⟨g, m, none⟩ (.int .i64 ((k + m : Nat) : Int))) lo (some ⟨g, 0, none⟩) n (fun i => if i < m + 1 then ((k + i : Nat) : Int) else f i) := fun _ =>
        ⟨g, _, rfl, hB.set_ m _, hl, by simpa using hcs, fun i hi => by
          by_cases e : i = m
          · subst e
            rw [Array.getElem?_setIfInBounds_self_of_lt (by omega)]
            show _ = some (Value.int IntKind.i64 (if i < i + 1 then _ else _))
            rw [if_pos (by omega)]
          · rw [Array.getElem?_setIfInBounds_ne (by omega), hat i hi]
            show some (Value.int IntKind.i64 (if i < m then _ else _)) = some (Value.int IntKind.i64 (if i < m + 1 then _ else _))
            by_cases h1 : i < m
            · rw [if_pos h1, if_pos (by omega)]
            · rw [if_neg h1, if_neg (by omega)]⟩
      have hbn : Below lo w (wr.setCell ⟨g, m, none⟩ (.int .i64 ((k + m : Nat) : Int))) := hbw.setCell (p := ⟨g, m, none⟩) hl _
      have Hn := Lib.hid (And.intro hnew hbn)
      clear hnew hbn hat hx hcs hO hB
      go_wp2
      go_roundw
      case rel => exact ⟨m + 1, by omega, by go_num, by go_num, Hn.out.1, by rw [World.size_setCell]; exact Hs.out, Hn.out.2, Lib.hid (Ho.out.set_ m _)⟩
      case measure => simp [intOf]; omega
    · go_wp2
      go_ret
      have : m = n := by omega
      subst this
      exact ⟨rfl, hO.ext fun i hi => (if_pos hi).symm, Hs.out, hbw, Ho.out⟩

end Go.Proofs.Ytfmlgpnjckamjaa

namespace Go.Proofs.Ytfmlgpnjckamjaa
open Go.RowKit
set_option linter.unusedVariables false

/-- the number at a place -/
def gI (l : List Int) (i : Nat) : Int := l.getD i 0
theorem gI_get {l : List Int} {i : Nat} (h : i < l.length) : gI l i = l[i] := by simp [gI, h]
/-- a row that has grown to l, in a block of its own from lo on, or none -/
def IRow (w : World) (lo : Nat) (v : Value) (l : List Int) : Prop := w.ownsRow lo 3 1 v l.length (vi l)
theorem IRow.nil (w : World) (lo : Nat) : IRow w lo (.slice none 0 0) [] := World.ownsRow_nil _ _ _ _
theorem IRow.form {w : World} {lo : Nat} {v : Value} {l : List Int} (h : IRow w lo v l) : ∃ A c, v = .slice A l.length c ∧ l.length ≤ c := by
  rcases h.2 with ⟨hv, h0⟩ | ⟨g', cap, cur, hv, _, _, h1, _⟩
  · exact ⟨none, 0, by rw [h0]; exact hv, by omega⟩
  · exact ⟨_, _, hv, h1⟩
theorem IRow.at_ {w : World} {lo : Nat} {v : Value} {l : List Int} (h : IRow w lo v l) {g : Nat} (hg : v.ownBlock = some g) : lo ≤ g ∧ g < w.heap.size ∧ ∃ cs, Blk w g 3 cs := by
  rcases h.2 with ⟨hv, _⟩ | ⟨g', cap, cur, hv, hb, hh, _⟩
  · subst hv; cases hg
  · subst hv
    have : g' = g := by simpa [Value.ownBlock] using hg
    subst this
    exact ⟨hb, Blk.lt hh, cur, hh⟩
theorem IRow.keep {w w' : World} {lo : Nat} {v : Value} {l : List Int} (h : IRow w lo v l) (hk : ∀ g, v.ownBlock = some g → w'.heap[g]? = w.heap[g]?) : IRow w' lo v l := by
  refine ⟨h.1, ?_⟩
  rcases h.2 with h1 | ⟨g', cap, cur, hv, hb, hh, hr⟩
  · exact .inl h1
  · exact .inr ⟨g', cap, cur, hv, hb, (hk g' (by rw [hv]; rfl)).trans hh, hr⟩
theorem IRow.below {w w' : World} {lo : Nat} {v : Value} {l : List Int} (h : IRow w lo v l) (hb : Below w.heap.size w w') : IRow w' lo v l := h.keep fun g hg => hb.block g (h.at_ hg).2.1
theorem IRow.alloc {w : World} {lo : Nat} {v : Value} {l : List Int} (h : IRow w lo v l) (o : Obj) : IRow (w.alloc o) lo v l := h.below ((Below.refl _ _).alloc (Nat.le_refl _) o)
theorem IRow.lo_le {w : World} {lo lo' : Nat} {v : Value} {l : List Int} (h : IRow w lo v l) (hl : lo' ≤ lo) : IRow w lo' v l := by
  refine ⟨h.1, ?_⟩
  rcases h.2 with h1 | ⟨g', cap, cur, hv, hb, hr⟩
  · exact .inl h1
  · exact .inr ⟨g', cap, cur, hv, Nat.le_trans hl hb, hr⟩
/-- what is appended -/
theorem IRow.snoc {w' : World} {lo : Nat} {v' : Value} {l : List Int} {x : Int} (h : w'.ownsRow lo 3 1 v' (l.length + 1) (vi l ++ [.int .i64 x])) : IRow w' lo v' (l ++ [x]) := by
  unfold IRow
  rw [List.length_append]
  simpa [vi] using h
theorem IRow.grown {a w w' : World} {lo : Nat} {v : Value} {l : List Int} (h : IRow w lo v l) (hb : Below lo a w) (hlo : lo ≤ w.heap.size) (hg : w.grownBy w' v.ownBlock) : Below lo a w' := hb.grown hg hlo fun g hg' => (h.at_ hg').1
theorem IRow.apart {w w' : World} {lo g : Nat} {v : Value} {l : List Int} {t : TypeId} {cs : Array Value} (h : IRow w lo v l) (hb : Blk w g t cs) (ht : t ≠ 3) (hg : w.grownBy w' v.ownBlock) : Blk w' g t cs :=
  (hg.block g hb.lt (fun e1 => by
    obtain ⟨_, _, cs', h1⟩ := h.at_ e1.symm
    unfold Blk at hb h1
    rw [hb] at h1
    injection h1 with h1
    injection h1 with _ h1
    exact ht h1)).trans hb
/-- the row when it is done -/
theorem IRow.own {w : World} {lo : Nat} {A : Option Addr} {n c : Nat} {l : List Int} (h : IRow w lo (.slice A n c) l) : OwnI w lo A l.length (gI l) := fun hn => by
  rcases h.2 with ⟨_, h0⟩ | ⟨g', cap, cur, hv, hb, hh, h1, h2, h3, h4⟩
  · omega
  · injection hv with e1 e2 e3
    refine ⟨g', cur, e1, hh, hb, by omega, fun i hi => ?_⟩
    have h5 : (vi l)[i]? = some (.int .i64 (gI l i)) := by rw [vi_get, List.getElem?_eq_getElem hi, gI_get hi]; rfl
    rw [← h4, List.getElem?_take_of_lt (by omega)] at h5
    simpa using h5
theorem OwnI.lo_le {w : World} {lo lo' n : Nat} {A : Option Addr} {f : Nat → Int} (h : OwnI w lo A n f) (hl : lo' ≤ lo) : OwnI w lo' A n f := fun hn => by
  obtain ⟨g, cs, e, hB, h0, h1⟩ := h hn
  exact ⟨g, cs, e, hB, Nat.le_trans hl h0, h1⟩
theorem OwnI.keep {w w' : World} {lo n : Nat} {A : Option Addr} {f : Nat → Int} (h : OwnI w lo A n f) (hk : ∀ b, lo ≤ b → b < w.heap.size → w'.heap[b]? = w.heap[b]?) : OwnI w' lo A n f := fun hn => by
  obtain ⟨g, cs, e, hB, h0, h1⟩ := h hn
  exact ⟨g, cs, e, (hk g h0 (Blk.lt hB)).trans hB, h0, h1⟩
theorem OwnI.ilg {w : World} {lo : Nat} {A : Option Addr} {l : List Int} (h : OwnI w lo A l.length (gI l)) (hm : l.length ≤ maxLen) : IL w lo w.heap.size A l := h.il (fun i hi => gI_get hi) hm
/-- an answer that is a row of numbers of the call's own, or none -/
def AnsI (w : World) (l : List Int) (e : Ending) (w' : World) : Prop := ∃ A c, e = .returned (.slice A l.length c) ∧ OwnI w' w.heap.size A l.length (gI l) ∧ Below w.heap.size w w'
theorem AnsI.nil {w w' : World} (hb : Below w.heap.size w w') : AnsI w [] (.returned (.slice none 0 0)) w' := ⟨none, 0, rfl, OwnI.none_ _ _ _ _, hb⟩
end Go.Proofs.Ytfmlgpnjckamjaa
