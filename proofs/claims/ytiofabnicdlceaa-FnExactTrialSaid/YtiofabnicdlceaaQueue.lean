/-
  A row of numbers that loses its first and grows behind: where it lies; appending; a copy of a row of numbers.
-/
import Derived.Test.YtiofabnicdlceaaSetIns
import Derived.Test.YtiofabnicdlceaaIntRow
import Derived.Deep.Upon
namespace Go.Proofs.Ytiofabnicdlceaa
open Go.RowKit
set_option linter.unusedVariables false

def puts (cs : Array Value) : Nat → List Value → Array Value
  | _, [] => cs
  | o, v :: r => puts (cs.setIfInBounds o v) (o + 1) r
theorem puts_size : ∀ (vs : List Value) (cs : Array Value) (o : Nat), (puts cs o vs).size = cs.size
  | [], _, _ => rfl
  | v :: r, cs, o => by rw [puts, puts_size r]; simp
theorem puts_get : ∀ (vs : List Value) (cs : Array Value) (o j : Nat), o + vs.length ≤ cs.size → (puts cs o vs)[j]? = if o ≤ j ∧ j < o + vs.length then vs[j - o]? else cs[j]?
  | [], cs, o, j, _ => by rw [if_neg (by simp)]; rfl
  | v :: r, cs, o, j, h => by
    rw [puts, puts_get r _ _ _ (by simp at h ⊢; omega)]
    by_cases h1 : j = o
    · subst h1
      rw [if_neg (by omega), if_pos (by simp), Array.getElem?_setIfInBounds_self_of_lt (by simp at h; omega), Nat.sub_self]
      rfl
    · by_cases h2 : o + 1 ≤ j ∧ j < o + 1 + r.length
      · rw [if_pos h2, if_pos (by simp; omega), show j - o = (j - (o + 1)) + 1 by omega, List.getElem?_cons_succ]
      · rw [if_neg h2, if_neg (by simp at h2 ⊢; omega), Array.getElem?_setIfInBounds_ne (by omega)]
theorem Blk.puts_ : ∀ (vs : List Value) {w : World} {g : Nat} {t : TypeId} {cs : Array Value} (o : Nat), Blk w g t cs → Blk (w.setCells g o vs) g t (puts cs o vs)
  | [], _, _, _, _, _, h => h
  | v :: r, w, g, t, cs, o, h => Blk.puts_ r (o + 1) (h.set_ o v)
theorem Apart.setCells {S : Nat → Prop} {g : Nat} (hs : S g) : ∀ (vs : List Value) {a b : World} (o : Nat), Apart S a b → Apart S a (b.setCells g o vs)
  | [], _, _, _, h => h
  | v :: r, _, _, o, h => Apart.setCells hs r (o + 1) (h.setCell (p := ⟨g, o, none⟩) hs v)

/-- numbers that lie somewhere in a block of the call's own, or none -/
def QRow (w : World) (lo : Nat) (v : Value) (l : List Int) : Prop :=
  (v = .slice none 0 0 ∧ l = []) ∨ ∃ g off cap cs, v = .slice (some ⟨g, off, none⟩) l.length cap ∧ lo ≤ g ∧ Blk w g 3 cs ∧ l.length ≤ cap ∧ off + cap ≤ cs.size ∧ cap ≤ maxLen ∧ ∀ j (h : j < l.length), cs[off + j]? = some (.int .i64 l[j])
theorem QRow.nil (w : World) (lo : Nat) : QRow w lo (.slice none 0 0) [] := .inl ⟨rfl, rfl⟩
theorem QRow.form {w : World} {lo : Nat} {v : Value} {l : List Int} (h : QRow w lo v l) : ∃ A c, v = .slice A l.length c := by
  rcases h with ⟨rfl, rfl⟩ | ⟨g, off, cap, cs, rfl, _⟩
  · exact ⟨none, 0, rfl⟩
  · exact ⟨_, _, rfl⟩
theorem QRow.apart {S : Nat → Prop} {w w' : World} {lo : Nat} {v : Value} {l : List Int} (h : QRow w lo v l) (ha : Apart S w w') (hn : ∀ k, At v k → ¬ S k) : QRow w' lo v l := by
  rcases h with h | ⟨g, off, cap, cs, e, hg, hb, h⟩
  · exact .inl h
  · exact .inr ⟨g, off, cap, cs, e, hg, hb.apart ha (hn g ⟨_, _, _, e, rfl⟩), h⟩
theorem QRow.below {w w' : World} {lo : Nat} {v : Value} {l : List Int} (h : QRow w lo v l) (hb : Below w.heap.size w w') : QRow w' lo v l :=
  h.apart (S := fun _ => False) (.of_below hb) (fun _ _ h => h)
theorem QRow.at_lt {w : World} {lo : Nat} {v : Value} {l : List Int} (h : QRow w lo v l) {k : Nat} (hk : At v k) : lo ≤ k ∧ k < w.heap.size ∧ ∃ cs, Blk w k 3 cs := by
  rcases h with ⟨rfl, _⟩ | ⟨g, off, cap, cs, rfl, hg, hb, _⟩
  · exact (At.nil hk).elim
  · rw [hk.some_]
    exact ⟨hg, hb.lt, cs, hb⟩
theorem QRow.of_irow {w : World} {lo : Nat} {v : Value} {l : List Int} (h : IRow w lo v l) : QRow w lo v l := by
  rcases h.2 with ⟨hv, h0⟩ | ⟨g', cap, cur, hv, hb, hh, h1, h2, h3, h4⟩
  · exact .inl ⟨hv, List.eq_nil_of_length_eq_zero h0⟩
  · refine .inr ⟨g', 0, cap, cur, hv, hb, hh, h1, by omega, h2, fun i hi => ?_⟩
    have h5 : (vi l)[i]? = some (.int .i64 l[i]) := by rw [vi_get, List.getElem?_eq_getElem hi]; rfl
    rw [← h4, List.getElem?_take_of_lt (by omega)] at h5
    rw [Nat.zero_add]
    simpa using h5
/-- the first cell of one that is not empty, and what is left when it is gone -/
theorem QRow.cons {w : World} {lo : Nat} {v : Value} {x : Int} {l : List Int} (h : QRow w lo v (x :: l)) : ∃ g off cap, v = .slice (some ⟨g, off, none⟩) (l.length + 1) cap ∧ l.length + 1 ≤ cap ∧ w.cell? ⟨g, off, none⟩ = some (.int .i64 x) ∧
    (cap = 1 → QRow w lo (.slice (some ⟨g, off, none⟩) l.length 0) l) ∧ QRow w lo (.slice (some ⟨g, off + 1, none⟩) l.length (cap - 1)) l := by
  rcases h with ⟨_, h0⟩ | ⟨g, off, cap, cs, rfl, hg, hb, h1, h2, h3, h4⟩
  · cases h0
  · simp only [List.length_cons] at h1 h4
    refine ⟨g, off, cap, rfl, h1, ?_, fun hc => .inr ⟨g, off, 0, cs, rfl, hg, hb, by omega, by omega, by omega, fun j hj => by omega⟩, .inr ⟨g, off + 1, cap - 1, cs, rfl, hg, hb, by omega, by omega, by omega, fun j hj => ?_⟩⟩
    · rw [hb.cell]
      have := h4 0 (by omega)
      simpa using this
    · have := h4 (j + 1) (by omega)
      rw [show off + 1 + j = off + (j + 1) by omega, this]
      rfl
theorem ilSrc {w : World} {L B : Nat} {A : Option Addr} {l : List Int} (h : IL w L B A l) (c : Nat) : Src Try.prog 1 23 (.slice A l.length c) l.length (vi l) w := by
  cases A with
  | none =>
    cases l with
    | nil => exact Src.ofNil w Try.underlying23 c
    | cons x r => obtain ⟨_, e, _⟩ := h.2 (by simp); cases e
  | some ad =>
    refine Src.ofSlice w Try.underlying23 ad l.length c (vi l) (by rw [vi_len]; omega) (fun j u hj => ?_) (one_vi l)
    have hjl : j < l.length := by
      rcases Nat.lt_or_ge j l.length with h1 | h1
      · exact h1
      · rw [List.getElem?_eq_none (by rw [vi_len]; exact h1)] at hj; cases hj
    obtain ⟨ad', e, _, _, hc⟩ := h.2 (by omega)
    cases e
    rw [vi_get, List.getElem?_eq_getElem hjl] at hj
    rw [hc j hjl]
    simpa using hj
/-- appending a row of numbers -/
theorem QRow.app {w : World} {lo : Nat} {v : Value} {l ks : List Int} {L B : Nat} {KA : Option Addr} (h : QRow w lo v l) (hlo : lo ≤ w.heap.size) (kc : Nat) (hk : IL w L B KA ks) (hsz : l.length + ks.length ≤ 100000000000) (ty : TypeId) :
    ∃ v' w', (Builtin.append_ #[23, 23] ty #[v, .slice KA ks.length kc]).run Try.prog w = .ok v' w' ∧ QRow w' lo v' (l ++ ks) ∧ Apart (At v) w w' ∧ Near w v v' := by
  obtain ⟨i0, hi, hz0, hz1, hz2⟩ := info_parts infoI
  have hsrc := ilSrc hk kc
  -- a new row
  have grows : ∀ (A : Option Addr) (n cap : Nat), n = l.length → v = .slice A n cap → (Builtin.firstCells i0.size n (.slice A n cap)).run Try.prog w.drew = .ok (vi l).toArray w.drew → cap < n + ks.length →
      ∃ v' w', (Builtin.append_ #[23, 23] ty #[v, .slice KA ks.length kc]).run Try.prog w = .ok v' w' ∧ QRow w' lo v' (l ++ ks) ∧ Apart (At v) w w' ∧ Near w v v' := by
    rintro A n cap hn rfl hold hr
    have hrun := run_append_grow_src w 23 23 ty 3 i0 _ Try.underlying23 hi hz0 A n cap (vi l) hold _ ks.length (vi ks) (by rw [hz1]; exact hsrc) hr (by omega) (by rw [hz2]; exact growslice_fits hr (by omega))
    have hge := grownCap_ge w (n + ks.length) cap 3
    have hle := grownCap_le_maxLen w (n + ks.length) cap 3 (by unfold maxLen; omega)
    refine ⟨_, _, hrun, .inr ⟨w.heap.size, 0, _, _, by rw [List.length_append, hn], hlo, (Blk.new w.drew _ _ : Blk _ w.heap.size _ _), by rw [List.length_append]; omega, ?_, hle, fun j hj => ?_⟩, ((Apart.refl _ w).drew).alloc _, Near.fresh (Nat.le_refl _)⟩
    · simp [size_zeroCells, Value.cells, vi_len]
      omega
    · rw [Nat.zero_add]
      have e : (vi l ++ vi ks)[j]? = some (.int .i64 (l ++ ks)[j]) := by
        rw [show vi l ++ vi ks = vi (l ++ ks) by simp [vi], vi_get, List.getElem?_eq_getElem hj]; rfl
      rw [Array.getElem?_append_left (by simp [vi_len]; simp at hj; omega)]
      simpa using e
  rcases h with ⟨rfl, rfl⟩ | ⟨g, off, cap, cs, rfl, hg, hb, h1, h2, h3, h4⟩
  · cases ks with
    | nil => exact ⟨_, _, run_append_nothing w 23 23 ty 3 i0 Try.underlying23 hi none 0 0 (Nat.le_refl _) _ (by rw [hz1]; exact hsrc), .inl ⟨rfl, rfl⟩, Apart.refl _ _, fun k hk => .inl hk⟩
    | cons x r => exact grows none 0 0 rfl rfl (run_firstCells_none w.drew i0.size 0 0 0) (by simp)
  · by_cases hr : l.length + ks.length ≤ cap
    · have hrun := run_append_room_src w 23 23 ty 3 i0 Try.underlying23 hi g off l.length cap _ ks.length (vi ks) (by rw [hz1]; exact hsrc) hr
        (fun j hj => by rw [vi_len] at hj; rw [hb.cell, hz1, Array.getElem?_eq_getElem (by omega)]; rfl) (fun j hj => hb.frozen _)
      rw [hz1, Nat.mul_one] at hrun
      refine ⟨_, _, hrun, .inr ⟨g, off, cap, _, by rw [List.length_append], hg, hb.puts_ (vi ks) (off + l.length), by rw [List.length_append]; exact hr, by rw [puts_size]; exact h2, h3, fun j hj => ?_⟩, (Apart.refl _ w).setCells ⟨_, _, _, rfl, rfl⟩ _ _, fun k hk => .inl ⟨_, _, _, rfl, hk.some_.symm⟩⟩
      rw [puts_get _ _ _ _ (by rw [vi_len]; omega)]
      rw [List.length_append] at hj
      by_cases hjl : j < l.length
      · rw [if_neg (by omega), h4 j hjl, List.getElem_append_left hjl]
      · rw [if_pos (by rw [vi_len]; omega), vi_get, show off + j - (off + l.length) = j - l.length by omega, List.getElem?_eq_getElem (by omega), List.getElem_append_right (by omega)]
        rfl
    · refine grows (some ⟨g, off, none⟩) l.length cap rfl rfl ?_ (by omega)
      rw [hz1]
      refine run_firstCells_some w.drew 1 l.length ⟨g, off, none⟩ l.length cap (vi l) (by rw [vi_len]; omega) (fun j u hj => ?_)
      have hjl : j < l.length := by
        rcases Nat.lt_or_ge j l.length with h1 | h1
        · exact h1
        · rw [List.getElem?_eq_none (by rw [vi_len]; exact h1)] at hj; cases hj
      rw [vi_get, List.getElem?_eq_getElem hjl] at hj
      have e : ((⟨g, off, none⟩ : Addr).add j) = ⟨g, off + j, none⟩ := by unfold Addr.add; split <;> simp_all
      show w.cell? _ = _
      rw [e, hb.cell, h4 j hjl]
      simpa using hj

set_option maxRecDepth 100000 in
set_option maxHeartbeats 2000000 in
/-- slices.Clone of numbers -/
theorem cloneI_c (l : List Int) (A : Option Addr) (c L B : Nat) (w : World) (hB : B ≤ w.heap.size) (hl : l.length ≤ 100000000) (h : IL w L B A l) :
    Calls Try.prog 104 #[.slice A l.length c] w fun r w' => ∃ v', r = .returned v' ∧ IRow w' w.heap.size v' l ∧ Below w.heap.size w w' := by
  obtain ⟨i0, hi, hz0, hz1, hz2⟩ := info_parts infoI
  have qn : ∀ (w : World) (a : Option Addr) (n c n' c' : Nat), (binOp .eql 23 (.slice a n c) (.slice none n' c')).run Try.prog w = .ok (.bool a.isNone) w := fun w a n c n' c' => Lib.run_eql_slice_nil w _ _ a n c n' c' Try.underlying23
  cases A with
  | none =>
    have h0 : l = [] := by
      cases l with
      | nil => rfl
      | cons x r => obtain ⟨ad, e, _⟩ := h.2 (by simp); cases e
    subst h0
    go_enter Try.func104, Try.ntmps104
    go_wp2
    go_ret
    exact ⟨_, rfl, IRow.nil _ _, Below.refl _ _⟩
  | some ad =>
    have hb0 : Below w.heap.size w (w.alloc (.cells #[] 3)) := (Below.refl _ _).alloc (Nat.le_refl _) _
    have hR := h.below (hb0.mono hB)
    have hcs : ∀ j u, (vi l)[j]? = some u → (w.alloc (.cells #[] 3)).cell? (ad.add j) = some u := fun j u hj => by
      have hjl : j < l.length := by
        rcases Nat.lt_or_ge j l.length with h1 | h1
        · exact h1
        · rw [List.getElem?_eq_none (by rw [vi_len]; exact h1)] at hj; cases hj
      obtain ⟨ad', e, _, _, hc⟩ := hR.2 (by omega)
      cases e
      rw [vi_get, List.getElem?_eq_getElem hjl] at hj
      rw [hc j hjl]
      simpa using hj
    have hO : (w.alloc (.cells #[] 3)).ownsRow w.heap.size 3 1 (.slice (some ⟨w.heap.size, 0, none⟩) 0 0) 0 [] :=
      ⟨rfl, .inr ⟨w.heap.size, 0, #[], rfl, Nat.le_refl _, Blk.new w _ _, Nat.le_refl _, Nat.zero_le _, rfl, rfl⟩⟩
    have HO := Lib.hid hO
    have Hcs := Lib.hid hcs
    have h1c := one_vi l
    have hll := vi_len l
    clear hO hR h hcs
    obtain ⟨xs, hxs⟩ : ∃ xs, xs = vi l := ⟨_, rfl⟩
    rw [← hxs] at Hcs h1c hll
    have Hxs := Lib.hid hxs
    clear hxs
    go_enter Try.func104, Try.ntmps104
    go_wp2_with (at_builtin; refine wpList_append_own _ rfl (.tmp 5) (.tmp 6) 23 rfl w.heap.size 3 i0 _ 1 8 Try.underlying23 hi hz0 hz1 hz2 rfl (by omega) _ _ _ rfl HO.out ad l.length c xs rfl (by omega) Hcs.out h1c (by unfold maxLen; omega) (by omega) (by simp) ?_; intro v2 w2 hown2 hg2 _)
    go_ret
    rw [Nat.zero_add, List.nil_append] at hown2
    have hbn : Below w.heap.size w w2 := hb0.grown hg2 (by simp) (fun g hg => by
      have h3 : (Value.slice (some ⟨w.heap.size, 0, none⟩) 0 0).ownBlock = some g := hg
      simp [Value.ownBlock] at h3
      omega)
    exact ⟨v2, rfl, by unfold IRow; rw [← Hxs.out]; exact hown2, hbn⟩
end Go.Proofs.Ytiofabnicdlceaa
