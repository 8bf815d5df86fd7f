/-
  A row of tokens that a call makes itself: it grows by append; each text in a block of its own.
-/
import Derived.Test.YtmejbmfopdfbjaaScan
namespace Go.Proofs.Ytmejbmfopdfbjaa
open Go.RowKit Go.Shelf
set_option linter.unusedVariables false

theorem own_tagS {w : World} {lo size : Nat} {e : TypeId} {v : Value} {k : Nat} {xs : List Value} (h : w.ownsRow lo e size v k xs) {g : Nat} (hg : v.ownBlock = some g) : lo ≤ g ∧ Tag (fun t => t = e) w.heap[g]? := by
  rcases h.2 with ⟨hv, _⟩ | ⟨g', cap, cur, hv, hb, hh, _⟩
  · subst hv; cases hg
  · subst hv
    have : g' = g := by simpa [Value.ownBlock] using hg
    subst this
    exact ⟨hb, cur, e, hh, rfl⟩
theorem own_keepS {w w' : World} {lo size : Nat} {e : TypeId} {v : Value} {k : Nat} {xs : List Value} (h : w.ownsRow lo e size v k xs) (hk : ∀ g, v.ownBlock = some g → w'.heap[g]? = w.heap[g]?) : w'.ownsRow lo e size v k xs := by
  refine ⟨h.1, ?_⟩
  rcases h.2 with h1 | ⟨g', cap, cur, hv, hb, hh, hr⟩
  · exact .inl h1
  · exact .inr ⟨g', cap, cur, hv, hb, (hk g' (by rw [hv]; rfl)).trans hh, hr⟩
theorem row_apartS {w w' : World} {lo size g k : Nat} {e t : TypeId} {v : Value} {xs : List Value} {cs : Array Value} (h : w.ownsRow lo e size v k xs) (hb : Blk w g t cs) (hne : t ≠ e) (hg : w.grownBy w' v.ownBlock) : w'.heap[g]? = w.heap[g]? :=
  hg.block g hb.lt (fun e1 => by
    obtain ⟨cs', t', e1', e2'⟩ := (own_tagS h e1.symm).2
    unfold Blk at hb
    rw [hb] at e1'
    injection e1' with e1'
    injection e1' with _ e1'
    exact hne (e1'.trans e2'))
theorem tag_mono {T T' : TypeId → Prop} {o : Option Obj} (h : Tag T o) (ht : ∀ t, T t → T' t) : Tag T' o := by
  obtain ⟨cs, t, e, h1⟩ := h
  exact ⟨cs, t, e, ht t h1⟩
theorem own_formS {w : World} {lo size : Nat} {e : TypeId} {v : Value} {k : Nat} {xs : List Value} (h : w.ownsRow lo e size v k xs) : ∃ A c, v = .slice A k c := by
  rcases h.2 with ⟨hv, h0⟩ | ⟨g', cap, cur, hv, _⟩
  · subst h0; exact ⟨none, 0, hv⟩
  · exact ⟨_, _, hv⟩

theorem OwnP.keepT {w w' : World} {lo k : Nat} {cs : Array Value} {ts : List Tok} {gs : Nat → Nat} (h : OwnP w lo cs ts k gs) (hk : ∀ g t, Blk w g 5 t → w'.heap[g]? = w.heap[g]?) : OwnP w' lo cs ts k gs :=
  ⟨fun i hi hik => by
    obtain ⟨h0, h1, h2, v, h3, A, c, e, h4⟩ := h.1 i hi hik
    refine ⟨h0, h1, h2, v, h3, A, c, e, fun hn => ?_⟩
    obtain ⟨e1, e2, tc, hb, ht⟩ := h4 hn
    exact ⟨e1, e2, tc, (hk _ _ hb).trans hb, ht⟩, h.2⟩

def TRow (w : World) (lo : Nat) (v : Value) (ts : List Tok) (gs : Nat → Nat) : Prop := ∃ xs : List Value, w.ownsRow lo 78 4 v ts.length xs ∧ OwnP w lo xs.toArray ts ts.length gs
theorem TRow.nil (w : World) (lo : Nat) (gs : Nat → Nat) : TRow w lo (.slice none 0 0) [] gs := ⟨[], World.ownsRow_nil _ _ _ _, ⟨fun i h => by simp at h, fun i j h => by simp at h⟩⟩
theorem TRow.keep {w w' : World} {lo : Nat} {v : Value} {ts : List Tok} {gs : Nat → Nat} (h : TRow w lo v ts gs) (hk : ∀ k : Nat, Tag TkT w.heap[k]? → w'.heap[k]? = w.heap[k]?) : TRow w' lo v ts gs := by
  obtain ⟨xs, h1, h2⟩ := h
  exact ⟨xs, own_keepS h1 (fun g hg => hk g (tag_mono (own_tagS h1 hg).2 fun t e => .inr e)), h2.keepT (fun g t hb => hk g ⟨t, _, hb, .inl rfl⟩)⟩
theorem TRow.ext {w w' : World} {lo s : Nat} {v : Value} {ts : List Tok} {gs : Nat → Nat} (h : TRow w lo v ts gs) (he : Ext s TkT w w') : TRow w' lo v ts gs := h.keep fun k hc => he.block k (.inr hc)
theorem TRow.below {w w' : World} {lo : Nat} {v : Value} {ts : List Tok} {gs : Nat → Nat} (h : TRow w lo v ts gs) (hb : Below w.heap.size w w') : TRow w' lo v ts gs := h.keep fun k hc => hb.block k hc.lt
theorem TRow.form {w : World} {lo : Nat} {v : Value} {ts : List Tok} {gs : Nat → Nat} (h : TRow w lo v ts gs) : ∃ A c, v = .slice A ts.length c := by
  obtain ⟨xs, h1, _⟩ := h
  exact own_formS h1
theorem TRow.ownb {w : World} {lo : Nat} {v : Value} {ts : List Tok} {gs : Nat → Nat} (h : TRow w lo v ts gs) {g : Nat} (hg : v.ownBlock = some g) : lo ≤ g := by
  obtain ⟨xs, h1, _⟩ := h
  exact (own_tagS h1 hg).1
theorem TRow.apart {w w' : World} {lo g : Nat} {v : Value} {ts : List Tok} {gs : Nat → Nat} {t : TypeId} {cs : Array Value} (h : TRow w lo v ts gs) (hb : Blk w g t cs) (ht : ¬ TkT t) (hg : w.grownBy w' v.ownBlock) : Blk w' g t cs := by
  obtain ⟨xs, h1, _⟩ := h
  exact (row_apartS h1 hb (fun e => ht (.inr e)) hg).trans hb
theorem TRow.kp {w w' : World} {p n b lo : Nat} {v : Value} {ts : List Tok} {gs : Nat → Nat} {t : TypeId} {cs : Array Value} (h : TRow w lo v ts gs) (hlo : n ≤ lo) (hp : Blk w p t cs) (ht : ¬ TkT t) (hg : w.grownBy w' v.ownBlock) : KP p n b TkT w w' := by
  obtain ⟨xs, h1, _⟩ := h
  refine ⟨hg.os, hg.tape, hg.output, hg.size, fun i hi hc => ?_⟩
  rcases hc with hc | hc | hc
  · exact hg.block i hi (fun e => by have := (own_tagS h1 e.symm).1; omega)
  · subst hc; exact row_apartS h1 hp (fun e => ht (.inr e)) hg
  · exact hg.block i hi (fun e => hc.2 (tag_mono (own_tagS h1 e.symm).2 fun t e => .inr e))
/-- one token more -/
theorem TRow.snoc {w w' : World} {lo g : Nat} {v v' : Value} {ts : List Tok} {gs : Nat → Nat} {t : Tok} {A2 : Option Addr} {c2 : Nat} {xs : List Value} (hown : w.ownsRow lo 78 4 v ts.length xs) (hp : OwnP w lo xs.toArray ts ts.length gs)
    (ht : TxS w lo g A2 t.text) (hne : ∀ i (hi : i < ts.length), 0 < ts[i].text.length → 0 < t.text.length → gs i ≠ g)
    (hown' : w'.ownsRow lo 78 4 v' (ts.length + 1) (xs ++ [.int .i64 t.kind, .int .i64 t.pos, .int .i64 t.n, .slice A2 t.text.length c2])) (hg : w.grownBy w' v.ownBlock) : TRow w' lo v' (ts ++ [t]) (fun i => if i = ts.length then g else gs i) := by
  have hkeep : ∀ g' t', Blk w g' 5 t' → w'.heap[g']? = w.heap[g']? := fun g' t' hb => row_apartS hown hb (by decide) hg
  have hp' := hp.keepT hkeep
  have ht' := ht.keep (w' := w') (fun t' hb => hkeep _ _ hb)
  have hxl : xs.length = ts.length * 4 := hown.1
  refine ⟨_, by rw [List.length_append]; exact hown', fun i hi _ => ?_, fun i j hi hj _ _ hij ti tj => ?_⟩
  · rcases Nat.lt_or_ge i ts.length with h1 | h1
    · obtain ⟨e0, e1, e2, v3, e3, A, c, ev, h4⟩ := hp'.1 i h1 h1
      rw [List.getElem_append_left h1]
      have g0 : ∀ (j : Nat) (u : Value), xs.toArray[j]? = some u → (xs ++ [Value.int .i64 t.kind, .int .i64 t.pos, .int .i64 t.n, .slice A2 t.text.length c2]).toArray[j]? = some u := fun j u hu => by
        simp only [List.getElem?_toArray] at hu ⊢
        rw [List.getElem?_append_left (List.getElem?_eq_some_iff.1 hu).1]
        exact hu
      have hne2 : i ≠ ts.length := by omega
      exact ⟨g0 _ _ e0, g0 _ _ e1, g0 _ _ e2, v3, g0 _ _ e3, A, c, ev, by
        show _ → A = some ⟨(if i = ts.length then g else gs i), 0, none⟩ ∧ lo ≤ (if i = ts.length then g else gs i) ∧ ∃ tc, Blk w' (if i = ts.length then g else gs i) 5 tc ∧ _
        rw [if_neg hne2]; exact h4⟩
    · obtain rfl : i = ts.length := by simp at hi; omega
      have e : (ts ++ [t])[ts.length] = t := by simp
      rw [e]
      have g1 : ∀ j : Nat, (xs ++ [Value.int .i64 t.kind, .int .i64 t.pos, .int .i64 t.n, .slice A2 t.text.length c2]).toArray[ts.length * 4 + j]? = [Value.int .i64 t.kind, .int .i64 t.pos, .int .i64 t.n, .slice A2 t.text.length c2][j]? := fun j => by
        simp only [List.getElem?_toArray]
        rw [List.getElem?_append_right (by omega)]
        congr 1
        omega
      refine ⟨g1 0, g1 1, g1 2, _, g1 3, A2, c2, rfl, ?_⟩
      show _ → A2 = some ⟨(if ts.length = ts.length then g else gs ts.length), 0, none⟩ ∧ lo ≤ (if ts.length = ts.length then g else gs ts.length) ∧ ∃ tc, Blk w' (if ts.length = ts.length then g else gs ts.length) 5 tc ∧ _
      rw [if_pos rfl]
      exact ht'
  · show (if i = ts.length then g else gs i) ≠ (if j = ts.length then g else gs j)
    rcases Nat.lt_or_ge i ts.length with h1 | h1 <;> rcases Nat.lt_or_ge j ts.length with h2 | h2
    · rw [List.getElem_append_left h1] at ti
      rw [List.getElem_append_left h2] at tj
      rw [if_neg (by omega), if_neg (by omega)]
      exact hp.2 i j h1 h2 h1 h2 hij ti tj
    · obtain rfl : j = ts.length := by simp at hj; omega
      rw [List.getElem_append_left h1] at ti
      rw [if_neg (by omega), if_pos rfl]
      exact hne i h1 ti (by simpa using tj)
    · obtain rfl : i = ts.length := by simp at hi; omega
      rw [List.getElem_append_left h2] at tj
      rw [if_pos rfl, if_neg (by omega)]
      exact fun e => hne j h2 tj (by simpa using ti) e.symm
    · simp at hi hj; omega
/-- tokens of the call's own -/
def OwnTx (w : World) (lo : Nat) (A : Option Addr) (ts : List Tok) (gs : Nat → Nat) : Prop := 0 < ts.length → ∃ g, A = some ⟨g, 0, none⟩ ∧ OwnT w lo g ts gs
theorem TRow.own {w : World} {lo : Nat} {A : Option Addr} {c : Nat} {ts : List Tok} {gs : Nat → Nat} (h : TRow w lo (.slice A ts.length c) ts gs) : OwnTx w lo A ts gs := by
  obtain ⟨xs, h1, h2⟩ := h
  intro hn
  rcases h1.2 with ⟨_, h0⟩ | ⟨g, cap, cur, hv, hlo, hb, _, _, _, htk⟩
  · omega
  · injection hv with a1 a2 a3
    refine ⟨g, a1, cur, hb, hlo, fun i hi hik => ?_, h2.2⟩
    obtain ⟨e0, e1, e2, v3, e3, h4⟩ := h2.1 i hi hik
    have hg : ∀ (j : Nat) (u : Value), xs.toArray[j]? = some u → cur[j]? = some u := fun j u hu => by
      simp only [List.getElem?_toArray] at hu
      rw [← htk, List.getElem?_take] at hu
      split at hu
      · simpa using hu
      · cases hu
    exact ⟨hg _ _ e0, hg _ _ e1, hg _ _ e2, v3, hg _ _ e3, h4⟩
theorem OwnTx.nil (w : World) (lo : Nat) (A : Option Addr) (gs : Nat → Nat) : OwnTx w lo A [] gs := fun h => by simp at h
end Go.Proofs.Ytmejbmfopdfbjaa
