/-
  Rows of numbers and of values.
-/
import Derived.Test.YtddjcjjnpidhiaaGreatDoorMarn
import Derived.Test.YtddjcjjnpidhiaaGreatDoorMqueue
import Derived.Test.YtddjcjjnpidhiaaGreatDoorMroom
namespace Go.Proofs.YtddjcjjnpidhiaaGreatDoor
open Go.RowKit
set_option linter.unusedVariables false

/-- a row of n numbers in a block of its own, from block lo on -/
def OwnI (w : World) (lo : Nat) (A : Option Addr) (n : Nat) (f : Nat → Int) : Prop :=
  0 < n → ∃ g cs, A = some ⟨g, 0, none⟩ ∧ Blk w g 3 cs ∧ lo ≤ g ∧ n ≤ cs.size ∧ ∀ i, i < n → cs[i]? = some (.int .i64 (f i))
/-- all blocks but a slice's own are as they were -/
def Oth (A : Option Addr) (w w' : World) : Prop := ∀ b, (∀ ad, A = some ad → ad.block ≠ b) → w'.heap[b]? = w.heap[b]?
theorem Oth.refl (A : Option Addr) (w : World) : Oth A w w := fun _ _ => rfl
theorem Oth.set_ {g : Nat} {w w' : World} (h : Oth (some ⟨g, 0, none⟩) w w') (i : Nat) (v : Value) : Oth (some ⟨g, 0, none⟩) w (w'.setCell ⟨g, i, none⟩ v) := fun b hb =>
  (Below.heap_setCell w' ⟨g, i, none⟩ v b (fun e => hb _ rfl e.symm)).trans (h b hb)
theorem OwnI.below {w w' : World} {lo n : Nat} {A : Option Addr} {f : Nat → Int} (h : OwnI w lo A n f) (hb : Below w.heap.size w w') : OwnI w' lo A n f := fun hn => by
  obtain ⟨g, cs, e, hB, hl, h2, h1⟩ := h hn
  exact ⟨g, cs, e, hB.below hb hB.lt, hl, h2, h1⟩
theorem OwnI.ext {w : World} {lo n : Nat} {A : Option Addr} {f f' : Nat → Int} (h : OwnI w lo A n f) (hf : ∀ i, i < n → f' i = f i) : OwnI w lo A n f' := fun hn => by
  obtain ⟨g, cs, e, hB, hl, h2, h1⟩ := h hn
  exact ⟨g, cs, e, hB, hl, h2, fun i hi => by rw [hf i hi]; exact h1 i hi⟩
theorem OwnI.il {w : World} {lo : Nat} {A : Option Addr} {l : List Int} {f : Nat → Int} (h : OwnI w lo A l.length f) (hf : ∀ i (hi : i < l.length), f i = l[i]) (hm : l.length ≤ maxLen) : IL w lo w.heap.size A l := by
  refine ⟨hm, fun hn => ?_⟩
  obtain ⟨g, cs, e, hB, hl, _, h1⟩ := h hn
  refine ⟨_, e, hl, hB.lt, fun k hk => ?_⟩
  rw [add_zero_, hB.cell, h1 k hk, hf k hk]
theorem OwnI.none_ (w : World) (lo : Nat) (A : Option Addr) (f : Nat → Int) : OwnI w lo A 0 f := fun h => absurd h (by omega)

set_option maxHeartbeats 1000000 in
theorem markIntS_c (n : Nat) (A : Option Addr) (c lo k : Nat) (f : Nat → Int) (w : World) (hsz : k + n ≤ 1073741824) (h : OwnI w lo A n f) :
    Calls Tryz.prog 80 #[.slice A n c, .int .i64 (k : Int)] w fun r w' => r = .returned (.int .i64 ((k + n : Nat) : Int)) ∧ OwnI w' lo A n (fun i => ((k + i : Nat) : Int)) ∧ w'.heap.size = w.heap.size ∧ Below lo w w' ∧ Oth A w w' := by
  go_enter Tryz.func80, Tryz.ntmps80
  go_wp2
  go_loopw [1, 5] (fun s i wr => ∃ (m : Nat), m ≤ n ∧ i = .int .i64 m ∧ s = .int .i64 ((k + m : Nat) : Int) ∧ OwnI wr lo A n (fun i => if i < m then ((k + i : Nat) : Int) else f i) ∧ wr.heap.size = w.heap.size ∧ Below lo w wr ∧ Hid (Oth A w wr)) (fun _ i _ => n - (intOf i).toNat)
  case atStart => exact ⟨0, Nat.zero_le _, rfl, rfl, h, rfl, Below.refl _ _, Lib.hid (Oth.refl _ _)⟩
  case round =>
    obtain ⟨m, hm, rfl, rfl, hO, hs, hbw, Ho⟩ := hrel
    have Hs := Lib.hid hs
    clear hs
    by_cases hlt : m < n
    · obtain ⟨g, cs, rfl, hB, hl, hcs, hat⟩ := hO (by omega)
      obtain ⟨x, hx⟩ : ∃ v, cs[m]? = some v := ⟨_, hat m hlt⟩
      have q0 : wr.cell? ⟨g, m, none⟩ = some x := by rw [hB.cell]; exact hx
      have z0 : wr.frozen? ⟨g, m, none⟩ = false := hB.frozen _
      have hnew : OwnI (wr.setCell ⟨g, m, none⟩ (.int .i64 ((k + m : Nat) : Int))) lo (some ⟨g, 0, none⟩) n (fun i => if i < m + 1 then ((k + i : Nat) : Int) else f i) := fun _ =>
        ⟨g, _, rfl, hB.set_ m _, hl, by simpa using hcs, fun i hi => by
          by_cases e : i = m
          · subst e
            rw [Array.getElem?_setIfInBounds_self_of_lt (by omega)]
            show _ = some (Value.int IntKind.i64 (if i < i + 1 then _ else _))
            rw [if_pos (by omega)]
          · rw [Array.getElem?_setIfInBounds_ne (by omega), hat i hi]
            show some (Value.int IntKind.i64 (if i < m then _ else _)) = some (Value.int IntKind.i64 (if i < m + 1 then _ else _))
            by_cases h1 : i < m
            · rw [if_pos h1, if_pos (by omega)]
            · rw [if_neg h1, if_neg (by omega)]⟩
      have hbn : Below lo w (wr.setCell ⟨g, m, none⟩ (.int .i64 ((k + m : Nat) : Int))) := hbw.setCell (p := ⟨g, m, none⟩) hl _
      have Hn := Lib.hid (And.intro hnew hbn)
      clear hnew hbn hat hx hcs hO hB
      go_wp2
      go_roundw
      case rel => exact ⟨m + 1, by omega, by go_num, by go_num, Hn.out.1, by rw [World.size_setCell]; exact Hs.out, Hn.out.2, Lib.hid (Ho.out.set_ m _)⟩
      case measure => simp [intOf]; omega
    · go_wp2
      go_ret
      have : m = n := by omega
      subst this
      exact ⟨rfl, hO.ext fun i hi => (if_pos hi).symm, Hs.out, hbw, Ho.out⟩

end Go.Proofs.YtddjcjjnpidhiaaGreatDoor

namespace Go.Proofs.YtddjcjjnpidhiaaGreatDoor
open Go.RowKit
set_option linter.unusedVariables false

/-- the number at a place -/
def gI (l : List Int) (i : Nat) : Int := l.getD i 0
theorem gI_get {l : List Int} {i : Nat} (h : i < l.length) : gI l i = l[i] := by simp [gI, h]
/-- a row that has grown to l, in a block of its own from lo on, or none -/
def IRow (w : World) (lo : Nat) (v : Value) (l : List Int) : Prop := w.ownsRow lo 3 1 v l.length (vi l)
theorem IRow.nil (w : World) (lo : Nat) : IRow w lo (.slice none 0 0) [] := World.ownsRow_nil _ _ _ _
theorem IRow.form {w : World} {lo : Nat} {v : Value} {l : List Int} (h : IRow w lo v l) : ∃ A c, v = .slice A l.length c ∧ l.length ≤ c := by
  rcases h.2 with ⟨hv, h0⟩ | ⟨g', cap, cur, hv, _, _, h1, _⟩
  · exact ⟨none, 0, by rw [h0]; exact hv, by omega⟩
  · exact ⟨_, _, hv, h1⟩
theorem IRow.at_ {w : World} {lo : Nat} {v : Value} {l : List Int} (h : IRow w lo v l) {g : Nat} (hg : v.ownBlock = some g) : lo ≤ g ∧ g < w.heap.size ∧ ∃ cs, Blk w g 3 cs := by
  rcases h.2 with ⟨hv, _⟩ | ⟨g', cap, cur, hv, hb, hh, _⟩
  · subst hv; cases hg
  · subst hv
    have : g' = g := by simpa [Value.ownBlock] using hg
    subst this
    exact ⟨hb, Blk.lt hh, cur, hh⟩
theorem IRow.keep {w w' : World} {lo : Nat} {v : Value} {l : List Int} (h : IRow w lo v l) (hk : ∀ g, v.ownBlock = some g → w'.heap[g]? = w.heap[g]?) : IRow w' lo v l := by
  refine ⟨h.1, ?_⟩
  rcases h.2 with h1 | ⟨g', cap, cur, hv, hb, hh, hr⟩
  · exact .inl h1
  · exact .inr ⟨g', cap, cur, hv, hb, (hk g' (by rw [hv]; rfl)).trans hh, hr⟩
theorem IRow.below {w w' : World} {lo : Nat} {v : Value} {l : List Int} (h : IRow w lo v l) (hb : Below w.heap.size w w') : IRow w' lo v l := h.keep fun g hg => hb.block g (h.at_ hg).2.1
theorem IRow.alloc {w : World} {lo : Nat} {v : Value} {l : List Int} (h : IRow w lo v l) (o : Obj) : IRow (w.alloc o) lo v l := h.below ((Below.refl _ _).alloc (Nat.le_refl _) o)
theorem IRow.lo_le {w : World} {lo lo' : Nat} {v : Value} {l : List Int} (h : IRow w lo v l) (hl : lo' ≤ lo) : IRow w lo' v l := by
  refine ⟨h.1, ?_⟩
  rcases h.2 with h1 | ⟨g', cap, cur, hv, hb, hr⟩
  · exact .inl h1
  · exact .inr ⟨g', cap, cur, hv, Nat.le_trans hl hb, hr⟩
/-- what is appended -/
theorem IRow.snoc {w' : World} {lo : Nat} {v' : Value} {l : List Int} {x : Int} (h : w'.ownsRow lo 3 1 v' (l.length + 1) (vi l ++ [.int .i64 x])) : IRow w' lo v' (l ++ [x]) := by
  unfold IRow
  rw [List.length_append]
  simpa [vi] using h
theorem IRow.grown {a w w' : World} {lo : Nat} {v : Value} {l : List Int} (h : IRow w lo v l) (hb : Below lo a w) (hlo : lo ≤ w.heap.size) (hg : w.grownBy w' v.ownBlock) : Below lo a w' := hb.grown hg hlo fun g hg' => (h.at_ hg').1
theorem IRow.apart {w w' : World} {lo g : Nat} {v : Value} {l : List Int} {t : TypeId} {cs : Array Value} (h : IRow w lo v l) (hb : Blk w g t cs) (ht : t ≠ 3) (hg : w.grownBy w' v.ownBlock) : Blk w' g t cs :=
  (hg.block g hb.lt (fun e1 => by
    obtain ⟨_, _, cs', h1⟩ := h.at_ e1.symm
    unfold Blk at hb h1
    rw [hb] at h1
    injection h1 with h1
    injection h1 with _ h1
    exact ht h1)).trans hb
/-- the row when it is done -/
theorem IRow.own {w : World} {lo : Nat} {A : Option Addr} {n c : Nat} {l : List Int} (h : IRow w lo (.slice A n c) l) : OwnI w lo A l.length (gI l) := fun hn => by
  rcases h.2 with ⟨_, h0⟩ | ⟨g', cap, cur, hv, hb, hh, h1, h2, h3, h4⟩
  · omega
  · injection hv with e1 e2 e3
    refine ⟨g', cur, e1, hh, hb, by omega, fun i hi => ?_⟩
    have h5 : (vi l)[i]? = some (.int .i64 (gI l i)) := by rw [vi_get, List.getElem?_eq_getElem hi, gI_get hi]; rfl
    rw [← h4, List.getElem?_take_of_lt (by omega)] at h5
    simpa using h5
theorem OwnI.lo_le {w : World} {lo lo' n : Nat} {A : Option Addr} {f : Nat → Int} (h : OwnI w lo A n f) (hl : lo' ≤ lo) : OwnI w lo' A n f := fun hn => by
  obtain ⟨g, cs, e, hB, h0, h1⟩ := h hn
  exact ⟨g, cs, e, hB, Nat.le_trans hl h0, h1⟩
theorem OwnI.keep {w w' : World} {lo n : Nat} {A : Option Addr} {f : Nat → Int} (h : OwnI w lo A n f) (hk : ∀ b, lo ≤ b → b < w.heap.size → w'.heap[b]? = w.heap[b]?) : OwnI w' lo A n f := fun hn => by
  obtain ⟨g, cs, e, hB, h0, h1⟩ := h hn
  exact ⟨g, cs, e, (hk g h0 (Blk.lt hB)).trans hB, h0, h1⟩
theorem OwnI.ilg {w : World} {lo : Nat} {A : Option Addr} {l : List Int} (h : OwnI w lo A l.length (gI l)) (hm : l.length ≤ maxLen) : IL w lo w.heap.size A l := h.il (fun i hi => gI_get hi) hm
/-- an answer that is a row of numbers of the call's own, or none -/
def AnsI (w : World) (l : List Int) (e : Ending) (w' : World) : Prop := ∃ A c, e = .returned (.slice A l.length c) ∧ OwnI w' w.heap.size A l.length (gI l) ∧ Below w.heap.size w w'
theorem AnsI.nil {w w' : World} (hb : Below w.heap.size w w') : AnsI w [] (.returned (.slice none 0 0)) w' := ⟨none, 0, rfl, OwnI.none_ _ _ _ _, hb⟩
end Go.Proofs.YtddjcjjnpidhiaaGreatDoor

namespace Go.Proofs.YtddjcjjnpidhiaaGreatDoor
open Go.RowKit
set_option linter.unusedVariables false

def liveA (a : Ar) : List Int := if arOk a = true then liveTo a.slots a.slots.length else []
def cntTo (S : List Sl) (k : Nat) : List Int := (S.take k).map fun s => s.count
theorem cntTo_zero (S : List Sl) : cntTo S 0 = [] := rfl
theorem cntTo_succ {S : List Sl} {k : Nat} (h : k < S.length) : cntTo S (k + 1) = cntTo S k ++ [S[k].count] := by
  unfold cntTo
  rw [List.take_succ_eq_append_getElem h, List.map_append]; rfl
theorem cntTo_len {S : List Sl} {k : Nat} (h : k ≤ S.length) : (cntTo S k).length = k := by simp [cntTo]; omega
def countsA (a : Ar) : List Int := if arOk a = true then cntTo a.slots a.slots.length else []
theorem liveTo_le (S : List Sl) (k : Nat) : (liveTo S k).length ≤ k := by
  unfold liveTo
  rw [List.length_map]
  exact Nat.le_trans (List.length_filter_le _ _) (by simp)
/-- whom fields refer to -/
def refsTo (l : List Fd) (k : Nat) : List Int := ((l.take k).filter fun f => f.k == 2).map fun f => f.n
theorem refsTo_zero (l : List Fd) : refsTo l 0 = [] := rfl
theorem refsTo_yes {l : List Fd} {k : Nat} (h : k < l.length) (h2 : l[k].k = 2) : refsTo l (k + 1) = refsTo l k ++ [l[k].n] := by
  unfold refsTo
  rw [List.take_succ_eq_append_getElem h, List.filter_append, List.map_append]
  simp [h2]
theorem refsTo_no {l : List Fd} {k : Nat} (h : k < l.length) (h2 : ¬ l[k].k = 2) : refsTo l (k + 1) = refsTo l k := by
  unfold refsTo
  rw [List.take_succ_eq_append_getElem h, List.filter_append, List.map_append]
  simp [h2]
theorem refsTo_le (l : List Fd) (k : Nat) : (refsTo l k).length ≤ k := by
  unfold refsTo
  rw [List.length_map]
  exact Nat.le_trans (List.length_filter_le _ _) (by simp; omega)
def kidsA (a : Ar) (s : Int) : List Int := if h : arOk a = true ∧ 0 ≤ s ∧ s < a.slots.length then refsTo (a.slots[s.toNat]'(by omega)).fs (a.slots[s.toNat]'(by omega)).fs.length else []
theorem liveA_bd (a : Ar) (h : arSz a ≤ 1048576) : (liveA a).length ≤ 1048576 := by
  have h1 := liveTo_le a.slots a.slots.length
  unfold arSz slsSz at h
  unfold liveA
  split
  · omega
  · simp
theorem countsA_bd (a : Ar) (h : arSz a ≤ 1048576) : (countsA a).length ≤ 1048576 := by
  have h1 := cntTo_len (Nat.le_refl a.slots.length)
  unfold arSz slsSz at h
  unfold countsA
  split
  · omega
  · simp
theorem SetV.ans {w w' : World} {v : Value} {l : List Int} (h : SetV w' w.heap.size v l) (hb : Below w.heap.size w w') : AnsI w l (.returned v) w' := by
  rcases h with ⟨rfl, rfl⟩ | ⟨g, cs, rfl, hg, hB, h1, h2, h3⟩
  · exact AnsI.nil hb
  · exact ⟨_, _, rfl, fun hn => ⟨g, cs, rfl, hB, hg, h1, fun i hi => by rw [h3 i hi, gI_get hi]⟩, hb⟩
end Go.Proofs.YtddjcjjnpidhiaaGreatDoor

namespace Go.Proofs.YtddjcjjnpidhiaaGreatDoor
open Go.RowKit
set_option linter.unusedVariables false
set_option linter.unusedSimpArgs false

structure Vl where
  k : Int
  n : Int
  g : Int
def VlL (w : World) (L B : Nat) (A : Option Addr) (l : List Vl) : Prop :=
  l.length ≤ maxLen ∧ (0 < l.length → ∃ ad, A = some ad ∧ L ≤ ad.block ∧ ad.block < B ∧ ∀ k (h : k < l.length), w.cell? (ad.add (k * 3)) = some (.int .i64 l[k].k) ∧
    w.cell? ⟨(ad.add (k * 3)).block, (ad.add (k * 3)).off + 1, none⟩ = some (.int .i64 l[k].n) ∧ w.cell? ⟨(ad.add (k * 3)).block, (ad.add (k * 3)).off + 2, none⟩ = some (.int .i64 l[k].g))
theorem VlL.keep {w w' : World} {L B : Nat} {A : Option Addr} {l : List Vl} (h : VlL w L B A l) (hk : ∀ p : Addr, L ≤ p.block → p.block < B → w'.cell? p = w.cell? p) : VlL w' L B A l :=
  ⟨h.1, fun hn => by
    obtain ⟨ad, e, h1, h2, h3⟩ := h.2 hn
    refine ⟨ad, e, h1, h2, fun k hk' => ?_⟩
    obtain ⟨a0, a1, a2⟩ := h3 k hk'
    have e1 : (ad.add (k * 3)).block = ad.block := by rw [block_of_add]
    exact ⟨(hk _ (by rw [e1]; exact h1) (by rw [e1]; exact h2)).trans a0, (hk ⟨(ad.add (k * 3)).block, _, none⟩ (by rw [e1]; exact h1) (by rw [e1]; exact h2)).trans a1, (hk ⟨(ad.add (k * 3)).block, _, none⟩ (by rw [e1]; exact h1) (by rw [e1]; exact h2)).trans a2⟩⟩
theorem VlL.more {w : World} {L B L' B' : Nat} {A : Option Addr} {l : List Vl} (h : VlL w L B A l) (hL : L' ≤ L) (hB : B ≤ B') : VlL w L' B' A l :=
  ⟨h.1, fun hn => by obtain ⟨ad, e, h1, h2, h3⟩ := h.2 hn; exact ⟨ad, e, by omega, by omega, h3⟩⟩
theorem VlL.below {w w' : World} {L B : Nat} {A : Option Addr} {l : List Vl} (h : VlL w L B A l) (hb : Below B w w') : VlL w' L B A l := h.keep fun _ _ hp => hb.cell hp

def vv : List Vl → List Value
  | [] => []
  | x :: r => .int .i64 x.k :: .int .i64 x.n :: .int .i64 x.g :: vv r
theorem vv_len : ∀ l : List Vl, (vv l).length = l.length * 3
  | [] => rfl
  | x :: r => by simp [vv, vv_len r]; omega
theorem vv_app : ∀ (l r : List Vl), vv (l ++ r) = vv l ++ vv r
  | [], r => rfl
  | x :: l, r => by simp [vv, vv_app l r]
theorem vv_get : ∀ (l : List Vl) (i : Nat) (h : i < l.length), (vv l)[i * 3]? = some (.int .i64 l[i].k) ∧ (vv l)[i * 3 + 1]? = some (.int .i64 l[i].n) ∧ (vv l)[i * 3 + 2]? = some (.int .i64 l[i].g)
  | x :: r, 0, _ => ⟨rfl, rfl, rfl⟩
  | x :: r, i + 1, h => by
    have := vv_get r i (by simpa using h)
    have e0 : (i + 1) * 3 = i * 3 + 1 + 1 + 1 := by omega
    have e1 : (i + 1) * 3 + 1 = (i * 3 + 1) + 1 + 1 + 1 := by omega
    have e2 : (i + 1) * 3 + 2 = (i * 3 + 2) + 1 + 1 + 1 := by omega
    refine ⟨?_, ?_, ?_⟩
    · rw [e0]; simp only [vv, List.getElem?_cons_succ, List.getElem_cons_succ]; exact this.1
    · rw [e1]; simp only [vv, List.getElem?_cons_succ, List.getElem_cons_succ]; exact this.2.1
    · rw [e2]; simp only [vv, List.getElem?_cons_succ, List.getElem_cons_succ]; exact this.2.2

/-- a row of values that has grown, in a block of its own from lo on, or none -/
def VRow (w : World) (lo : Nat) (v : Value) (l : List Vl) : Prop := w.ownsRow lo 77 3 v l.length (vv l)
theorem VRow.nil (w : World) (lo : Nat) : VRow w lo (.slice none 0 0) [] := World.ownsRow_nil _ _ _ _
theorem VRow.form {w : World} {lo : Nat} {v : Value} {l : List Vl} (h : VRow w lo v l) : ∃ A c, v = .slice A l.length c ∧ l.length ≤ c := by
  rcases h.2 with ⟨hv, h0⟩ | ⟨g', cap, cur, hv, _, _, h1, _⟩
  · exact ⟨none, 0, by rw [h0]; exact hv, by omega⟩
  · exact ⟨_, _, hv, h1⟩
theorem VRow.at_ {w : World} {lo : Nat} {v : Value} {l : List Vl} (h : VRow w lo v l) {g : Nat} (hg : v.ownBlock = some g) : lo ≤ g ∧ g < w.heap.size ∧ ∃ cs, Blk w g 77 cs := by
  rcases h.2 with ⟨hv, _⟩ | ⟨g', cap, cur, hv, hb, hh, _⟩
  · subst hv; cases hg
  · subst hv
    have : g' = g := by simpa [Value.ownBlock] using hg
    subst this
    exact ⟨hb, Blk.lt hh, cur, hh⟩
theorem VRow.keep {w w' : World} {lo : Nat} {v : Value} {l : List Vl} (h : VRow w lo v l) (hk : ∀ g, v.ownBlock = some g → w'.heap[g]? = w.heap[g]?) : VRow w' lo v l := by
  refine ⟨h.1, ?_⟩
  rcases h.2 with h1 | ⟨g', cap, cur, hv, hb, hh, hr⟩
  · exact .inl h1
  · exact .inr ⟨g', cap, cur, hv, hb, (hk g' (by rw [hv]; rfl)).trans hh, hr⟩
theorem VRow.below {w w' : World} {lo : Nat} {v : Value} {l : List Vl} (h : VRow w lo v l) (hb : Below w.heap.size w w') : VRow w' lo v l := h.keep fun g hg => hb.block g (h.at_ hg).2.1
theorem VRow.alloc {w : World} {lo : Nat} {v : Value} {l : List Vl} (h : VRow w lo v l) (o : Obj) : VRow (w.alloc o) lo v l := h.below ((Below.refl _ _).alloc (Nat.le_refl _) o)
theorem VRow.snoc {w' : World} {lo : Nat} {v' : Value} {l : List Vl} {x : Vl} (h : w'.ownsRow lo 77 3 v' (l.length + 1) (vv l ++ [.int .i64 x.k, .int .i64 x.n, .int .i64 x.g])) : VRow w' lo v' (l ++ [x]) := by
  unfold VRow
  rw [List.length_append, vv_app]
  simpa [vv] using h
theorem VRow.grown {a w w' : World} {lo : Nat} {v : Value} {l : List Vl} (h : VRow w lo v l) (hb : Below lo a w) (hlo : lo ≤ w.heap.size) (hg : w.grownBy w' v.ownBlock) : Below lo a w' := hb.grown hg hlo fun g hg' => (h.at_ hg').1
theorem VRow.vl {w : World} {lo : Nat} {A : Option Addr} {n c : Nat} {l : List Vl} (h : VRow w lo (.slice A n c) l) (hm : l.length ≤ maxLen) : VlL w lo w.heap.size A l := by
  refine ⟨hm, fun hn => ?_⟩
  rcases h.2 with ⟨_, h0⟩ | ⟨g', cap, cur, hv, hb, hh, h1, h2, h3, h4⟩
  · omega
  · injection hv with e1 e2 e3
    refine ⟨_, e1, hb, Blk.lt hh, fun i hi => ?_⟩
    obtain ⟨b0, b1, b2⟩ := vv_get l i hi
    rw [← h4, List.getElem?_take_of_lt (by omega)] at b0 b1 b2
    have hB : Blk w g' 77 cur := hh
    rw [add_zero_]
    exact ⟨hB.cel _ (by simpa using b0), hB.cel _ (by simpa using b1), hB.cel _ (by simpa using b2)⟩

/-- whom the first k refer to -/
def refsV (l : List Vl) (k : Nat) : List Int := ((l.take k).filter fun f => f.k == 2).map fun f => f.n
theorem refsV_zero (l : List Vl) : refsV l 0 = [] := rfl
theorem refsV_yes {l : List Vl} {k : Nat} (h : k < l.length) (h2 : l[k].k = 2) : refsV l (k + 1) = refsV l k ++ [l[k].n] := by
  unfold refsV
  rw [List.take_succ_eq_append_getElem h, List.filter_append, List.map_append]
  simp [h2]
theorem refsV_no {l : List Vl} {k : Nat} (h : k < l.length) (h2 : ¬ l[k].k = 2) : refsV l (k + 1) = refsV l k := by
  unfold refsV
  rw [List.take_succ_eq_append_getElem h, List.filter_append, List.map_append]
  simp [h2]
theorem refsV_le (l : List Vl) (k : Nat) : (refsV l k).length ≤ k := by
  unfold refsV
  rw [List.length_map]
  exact Nat.le_trans (List.length_filter_le _ _) (by simp; omega)
/-- fields' values -/
def valsTo (l : List Fd) (k : Nat) : List Vl := (l.take k).map fun f => ⟨f.k, f.n, f.g⟩
theorem valsTo_zero (l : List Fd) : valsTo l 0 = [] := rfl
theorem valsTo_succ {l : List Fd} {k : Nat} (h : k < l.length) : valsTo l (k + 1) = valsTo l k ++ [⟨l[k].k, l[k].n, l[k].g⟩] := by
  unfold valsTo
  rw [List.take_succ_eq_append_getElem h, List.map_append]; rfl
theorem valsTo_len {l : List Fd} {k : Nat} (h : k ≤ l.length) : (valsTo l k).length = k := by simp [valsTo]; omega
theorem refsV_vals (l : List Fd) : refsV (valsTo l l.length) (valsTo l l.length).length = refsTo l l.length := by
  unfold refsV refsTo valsTo
  rw [List.take_length, List.take_length, List.filter_map, List.map_map]
  rfl

set_option maxRecDepth 100000 in
set_option maxHeartbeats 2000000 in
theorem refsAmong_c (l : List Vl) (A : Option Addr) (c L B : Nat) (w : World) (hB : B ≤ w.heap.size) (hl : l.length ≤ 1048576) (h : VlL w L B A l) :
    Calls Tryz.prog 52 #[.slice A l.length c] w (AnsI w (refsV l l.length)) := by
  obtain ⟨i0, hi, hz0, hz1, hz2⟩ := info_parts infoI
  have H := Lib.hid h
  clear h
  go_enter Tryz.func52, Tryz.ntmps52
  go_wp2_with fail
  go_loopw [3, 8] (fun n i wr => ∃ k : Nat, k ≤ l.length ∧ i = .int .i64 k ∧ Hid (IRow wr w.heap.size n (refsV l k)) ∧ Below w.heap.size w wr) (fun _ i _ => l.length - (intOf i).toNat)
  case atStart => exact ⟨0, Nat.zero_le _, rfl, Lib.hid (IRow.nil _ _), Below.refl _ _⟩
  case round =>
    obtain ⟨k, hk, rfl, hrow, hbl⟩ := hrel
    obtain ⟨A', c', rfl, hlc⟩ := hrow.out.form
    have hll := refsV_le l k
    have hws := hbl.size
    by_cases hlt : k < l.length
    · obtain ⟨ad, rfl, _, hbk, hat⟩ := (H.out.below (hbl.mono hB)).2 (by omega)
      obtain ⟨d0, d1, d2⟩ := hat k hlt
      have Hy := Lib.hid (fun h => refsV_yes (l := l) (k := k) hlt h)
      have Hno := Lib.hid (fun h => refsV_no (l := l) (k := k) hlt h)
      obtain ⟨vk, hvk⟩ : ∃ f, f = l[k].k := ⟨_, rfl⟩
      obtain ⟨vn, hvn⟩ : ∃ f, f = l[k].n := ⟨_, rfl⟩
      obtain ⟨vg, hvg⟩ : ∃ f, f = l[k].g := ⟨_, rfl⟩
      rw [← hvk] at d0 Hy Hno
      rw [← hvn] at d1 Hy
      rw [← hvg] at d2
      clear hat hvk hvn hvg
      have hr1 := hrow.out.alloc (.cells #[.int .i64 vk, .int .i64 vn, .int .i64 vg] 77)
      have hbl1 := hbl.trans ((blw1 wr (.cells #[.int .i64 vk, .int .i64 vn, .int .i64 vg] 77)).mono hws)
      by_cases he : vk = 2
      · subst he
        have Hn := Lib.hid (Hy.out rfl)
        have HO := Lib.hid (hr1.alloc (.cells #[.int .i64 vn] 3))
        have Hcell := Lib.hid (cell_one_new (wr.alloc (.cells #[.int .i64 2, .int .i64 vn, .int .i64 vg] 77)) (.int .i64 vn) 3)
        have Hbl1 := Lib.hid hbl1
        clear hr1 hbl hbl1 Hy Hno
        go_wp2_with (at_builtin; refine wpList_append_own _ rfl (.tmp 15) (.tmp 18) 26 rfl w.heap.size 3 i0 _ 1 8 Tryz.underlying26 hi hz0 hz1 hz2 rfl (by omega) _ _ _ rfl HO.out ⟨wr.heap.size + 1, 0, none⟩ 1 1 [.int .i64 vn] rfl rfl (by have := Hcell.out; rw [World.size_alloc] at this; exact this) (by simp [Value.oneCell']) (by unfold maxLen; omega) (by omega) (by simp; omega) ?_; intro v' w4 hown' hgrow _)
        have hbn : Below w.heap.size w w4 := HO.out.grown (Hbl1.out.alloc (by simp; omega) _) (by simp; omega) hgrow
        have Hnew := Lib.hid (IRow.snoc hown')
        have Hbn := Lib.hid hbn
        clear hown' hgrow hbn HO Hcell Hbl1
        go_roundw
        case rel => exact ⟨k + 1, by omega, by go_num, by rw [Hn.out]; exact Hnew, Hbn.out⟩
        case measure => simp [intOf]; omega
      · have Hn := Lib.hid (Hno.out he)
        have Hr1 := Lib.hid hr1
        have Hbl1 := Lib.hid hbl1
        clear hr1 hbl hbl1 Hy Hno hrow
        go_wp2
        go_roundw
        case rel => exact ⟨k + 1, by omega, by go_num, by rw [Hn.out]; exact Hr1, Hbl1.out⟩
        case measure => simp [intOf]; omega
    · obtain rfl : k = l.length := by omega
      have Hbw := Lib.hid hbl
      clear hbl
      go_wp2
      go_ret
      exact ⟨_, _, rfl, hrow.out.own, Hbw.out⟩
end Go.Proofs.YtddjcjjnpidhiaaGreatDoor
