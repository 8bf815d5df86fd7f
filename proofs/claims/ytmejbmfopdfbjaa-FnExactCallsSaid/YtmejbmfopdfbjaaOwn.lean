/-
  Rows of names that a call makes itself: they grow by append, and lie on whatever an iterator does.
-/
import Derived.Test.YtmejbmfopdfbjaaVisit
import Derived.Test.YtmejbmfopdfbjaaPlace
import Derived.Maps.AppendAt
namespace Go.Proofs.Ytmejbmfopdfbjaa
open Go.RowKit Go.Shelf
set_option linter.unusedVariables false

/-- the kinds of blocks that a row of names and its names lie in -/
def NmT (t : TypeId) : Prop := t = 5 ∨ t = 22
theorem NmT.no : NoT NmT := by
  refine ⟨?_, ?_, ?_, ?_⟩ <;> · rintro (h | h) <;> exact absurd h (by decide)

/-- a name that lies below n, or in a block of bytes -/
def NmB (w : World) (n : Nat) (A : Option Addr) (l : List UInt8) : Prop :=
  RB w w.heap.size A l ∧ (0 < l.length → ∃ ad, A = some ad ∧ (ad.block < n ∨ Tag (fun t => t = 5) w.heap[ad.block]?))
/-- a row of names that grows -/
def NmRow (w : World) (n lo : Nat) (v : Value) (l : List (List UInt8)) : Prop :=
  l.length ≤ 4194304 ∧ ∃ A c xs, v = .slice A l.length c ∧ w.ownsRow lo 22 1 v l.length xs ∧ l.length ≤ c ∧ c ≤ maxLen ∧
    ∀ j (hj : j < l.length), ∃ A2 c2, xs[j]? = some (.slice A2 l[j].length c2) ∧ NmB w n A2 l[j] ∧ l[j].length ≤ maxLen

theorem NmB.keep {w w' : World} {n : Nat} {A : Option Addr} {l : List UInt8} (h : NmB w n A l) (hs : w.heap.size ≤ w'.heap.size)
    (hk : ∀ k, k < w.heap.size → (k < n ∨ Tag (fun t => t = 5) w.heap[k]?) → w'.heap[k]? = w.heap[k]?) : NmB w' n A l := by
  refine ⟨⟨h.1.1, fun hn => ?_⟩, fun hn => ?_⟩
  · obtain ⟨ad, eA, hb, hc⟩ := h.1.2 hn
    obtain ⟨ad', eA', hL⟩ := h.2 hn
    rw [eA] at eA'
    injection eA' with eA'
    subst eA'
    refine ⟨ad, eA, Nat.lt_of_lt_of_le hb hs, fun j u hj => ?_⟩
    exact (World.cell?_of_block (by rw [block_of_add]; exact hk _ hb hL)).trans (hc j u hj)
  · obtain ⟨ad', eA', hL⟩ := h.2 hn
    obtain ⟨ad, eA, hb, hc⟩ := h.1.2 hn
    rw [eA'] at eA
    injection eA with eA
    subst eA
    exact ⟨ad', eA', by rw [hk _ hb hL]; exact hL⟩
theorem NmB.of_data {w : World} {L n : Nat} {A : Option Addr} {l : List UInt8} (h : RBL w L n A l) (hn : n ≤ w.heap.size) : NmB w n A l :=
  ⟨h.1.more hn, fun hp => by
    obtain ⟨ad, eA, hb, hc⟩ := h.1.2 hp
    exact ⟨ad, eA, .inl hb⟩⟩

theorem NmB.more {w : World} {n n' : Nat} {A : Option Addr} {l : List UInt8} (h : NmB w n A l) (hn : n ≤ n') : NmB w n' A l :=
  ⟨h.1, fun hp => by
    obtain ⟨ad, e, hc⟩ := h.2 hp
    refine ⟨ad, e, ?_⟩
    rcases hc with hc | hc
    · exact .inl (by omega)
    · exact .inr hc⟩
theorem NmB.below {w w' : World} {n : Nat} {A : Option Addr} {l : List UInt8} (h : NmB w n A l) (hb : Below w.heap.size w w') : NmB w' n A l := h.keep hb.size fun k hk _ => hb.block k hk

theorem NmRow.nil (w : World) (n lo : Nat) : NmRow w n lo (.slice none 0 0) [] :=
  ⟨Nat.zero_le _, none, 0, [], rfl, World.ownsRow_nil _ _ _ _, Nat.le_refl _, Nat.zero_le _, fun j hj => by simp at hj⟩
theorem own_tag {w : World} {lo : Nat} {e : TypeId} {v : Value} {k : Nat} {xs : List Value} (h : w.ownsRow lo e 1 v k xs) {g : Nat} (hg : v.ownBlock = some g) : lo ≤ g ∧ Tag (fun t => t = e) w.heap[g]? := by
  rcases h.2 with ⟨hv, _⟩ | ⟨g', cap, cur, hv, hb, hh, _⟩
  · subst hv; cases hg
  · subst hv
    have : g' = g := by simpa [Value.ownBlock] using hg
    subst this
    exact ⟨hb, cur, e, hh, rfl⟩
theorem Tag.mono {T T' : TypeId → Prop} {o : Option Obj} (h : Tag T o) (ht : ∀ t, T t → T' t) : Tag T' o := by
  obtain ⟨cs, t, e, h1⟩ := h
  exact ⟨cs, t, e, ht t h1⟩
theorem own_keep {w w' : World} {lo : Nat} {e : TypeId} {v : Value} {k : Nat} {xs : List Value} (h : w.ownsRow lo e 1 v k xs) (hk : ∀ g, v.ownBlock = some g → w'.heap[g]? = w.heap[g]?) : w'.ownsRow lo e 1 v k xs := by
  refine ⟨h.1, ?_⟩
  rcases h.2 with h1 | ⟨g', cap, cur, hv, hb, hh, hr⟩
  · exact .inl h1
  · exact .inr ⟨g', cap, cur, hv, hb, (hk g' (by rw [hv]; rfl)).trans hh, hr⟩
theorem NmRow.keep {w w' : World} {n lo : Nat} {v : Value} {l : List (List UInt8)} (h : NmRow w n lo v l) (hs : w.heap.size ≤ w'.heap.size)
    (hk : ∀ k, k < w.heap.size → (k < n ∨ Tag NmT w.heap[k]?) → w'.heap[k]? = w.heap[k]?) : NmRow w' n lo v l := by
  obtain ⟨h1, A, c, xs, hv, hown, hc, hcm, hall⟩ := h
  refine ⟨h1, A, c, xs, hv, own_keep hown (fun g hg => ?_), hc, hcm, fun j hj => ?_⟩
  · have ht := (own_tag hown hg).2
    exact hk g ht.lt (.inr (ht.mono fun t e => .inr e))
  · obtain ⟨A2, c2, hx, hn, hm⟩ := hall j hj
    exact ⟨A2, c2, hx, hn.keep hs (fun k hkl hc => hk k hkl (by rcases hc with hc | hc <;> first | exact .inl hc | exact .inr (hc.mono fun t e => .inl e))), hm⟩
theorem NmRow.ext {w w' : World} {n lo s : Nat} {v : Value} {l : List (List UInt8)} (h : NmRow w n lo v l) (he : Ext s NmT w w') (hn : n ≤ s) : NmRow w' n lo v l :=
  h.keep he.size fun k _ hc => he.block k (by rcases hc with hc | hc <;> first | exact .inl (by omega) | exact .inr hc)
theorem NmRow.below {w w' : World} {n lo : Nat} {v : Value} {l : List (List UInt8)} (h : NmRow w n lo v l) (hb : Below w.heap.size w w') : NmRow w' n lo v l :=
  h.keep hb.size fun k hk _ => hb.block k hk
/-- as names that are read -/
theorem NmRow.bsl {w : World} {n lo : Nat} {v : Value} {l : List (List UInt8)} (h : NmRow w n lo v l) : ∃ A c, v = .slice A l.length c ∧ l.length ≤ c ∧ c ≤ maxLen ∧ BsL w 0 w.heap.size A l := by
  obtain ⟨h1, A, c, xs, hv, hown, hc, hcm, hall⟩ := h
  refine ⟨A, c, hv, hc, hcm, ?_⟩
  subst hv
  have hR := Reads.of_own hown
  refine ⟨by unfold maxLen; omega, fun hp => ?_⟩
  obtain ⟨ad, eA, hb', hcs⟩ := hR.2 hp
  refine ⟨ad, eA, Nat.zero_le _, hb', fun j hj => ?_⟩
  obtain ⟨A2, c2, hx, hR2, hm2⟩ := hall j hj
  refine ⟨A2, c2, hcs j _ hx, ⟨hR2.1, fun hn => ?_⟩, hm2⟩
  obtain ⟨ad', eA', _⟩ := hR2.2 hn
  exact ⟨ad', eA', Nat.zero_le _⟩
/-- one name more, behind append's law -/
theorem NmRow.snoc {w w' : World} {n lo : Nat} {v v' : Value} {l : List (List UInt8)} {b : List UInt8} {A2 : Option Addr} {c2 : Nat} (hlo : n ≤ lo) (hlen : l.length + 1 ≤ 4194304)
    {xs : List Value} (hown : w.ownsRow lo 22 1 v l.length xs) (hall : ∀ j (hj : j < l.length), ∃ A2 c2, xs[j]? = some (.slice A2 l[j].length c2) ∧ NmB w n A2 l[j] ∧ l[j].length ≤ maxLen)
    (hb : NmB w n A2 b) (hm : b.length ≤ maxLen) (hown' : w'.ownsRow lo 22 1 v' (l.length + 1) (xs ++ [.slice A2 b.length c2])) (hg : w.grownBy w' v.ownBlock) : NmRow w' n lo v' (l ++ [b]) := by
  have hkeep : ∀ k, k < w.heap.size → (k < n ∨ Tag (fun t => t = 5) w.heap[k]?) → w'.heap[k]? = w.heap[k]? := fun k hk hc => hg.block k hk (fun e => by
    have ht := own_tag hown e.symm
    rcases hc with hc | hc
    · omega
    · obtain ⟨cs, t, e1, e2⟩ := hc
      obtain ⟨cs', t', e1', e2'⟩ := ht.2
      rw [e1] at e1'
      injection e1' with e1'
      injection e1' with _ e1'
      subst e2
      subst e2'
      exact absurd e1' (by decide))
  have hll : (l ++ [b]).length = l.length + 1 := by simp
  have hxl : xs.length = l.length := by have := hown.1; omega
  obtain ⟨g', cap', rfl, hcap, hcm⟩ : ∃ g' cap', v' = .slice (some ⟨g', 0, none⟩) (l.length + 1) cap' ∧ l.length + 1 ≤ cap' ∧ cap' ≤ maxLen := by
    rcases hown'.2 with ⟨_, h0⟩ | ⟨g2, cap2, cur2, hv2, _, _, hc2, hc3, _⟩
    · omega
    · exact ⟨g2, cap2, hv2, hc2, hc3⟩
  refine ⟨by rw [hll]; exact hlen, some ⟨g', 0, none⟩, cap', xs ++ [.slice A2 b.length c2], by rw [hll], by rw [hll]; exact hown', by rw [hll]; exact hcap, hcm, fun j hj => ?_⟩
  rcases Nat.lt_or_ge j l.length with h1 | h1
  · obtain ⟨A3, c3, hx, hR2, hm2⟩ := hall j h1
    rw [List.getElem_append_left h1]
    exact ⟨A3, c3, by rw [List.getElem?_append_left (by omega)]; exact hx, hR2.keep hg.size hkeep, hm2⟩
  · obtain rfl : j = l.length := by rw [hll] at hj; omega
    have e : (l ++ [b])[l.length] = b := by simp
    rw [e]
    exact ⟨A2, c2, by rw [List.getElem?_append_right (by omega), hxl, Nat.sub_self]; rfl, hb.keep hg.size hkeep, hm⟩
theorem KB.grown {w w' : World} {n b lo : Nat} {v : Value} {k : Nat} {xs : List Value} (hown : w.ownsRow lo 22 1 v k xs) (hlo : n ≤ lo) (hg : w.grownBy w' v.ownBlock) : KB n b NmT w w' :=
  ⟨hg.os, hg.tape, hg.output, hg.size, fun i hi hc => hg.block i hi (fun e => by
    have ht := own_tag hown e.symm
    rcases hc with hc | hc
    · omega
    · exact hc.2 (ht.2.mono fun t e => .inr e))⟩
theorem Below.grown_ {w w' : World} {lo : Nat} {v : Value} {k : Nat} {xs : List Value} (hown : w.ownsRow lo 22 1 v k xs) (hlo : lo ≤ w.heap.size) (hg : w.grownBy w' v.ownBlock) : Below lo w w' :=
  (Below.refl lo w).grown hg hlo fun g hg' => (own_tag hown hg').1
end Go.Proofs.Ytmejbmfopdfbjaa
