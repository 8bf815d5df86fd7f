/-
  reachable, over a queue
-/
import Derived.Test.YtiofabnicdlceaaSetIns
import Derived.Test.YtiofabnicdlceaaIntRow
import Derived.Deep.Upon
import Derived.Test.YtiofabnicdlceaaReach
namespace Go.Proofs.Ytiofabnicdlceaa
open Go.RowKit
set_option linter.unusedVariables false

def puts (cs : Array Value) : Nat → List Value → Array Value
  | _, [] => cs
  | o, v :: r => puts (cs.setIfInBounds o v) (o + 1) r
theorem puts_size : ∀ (vs : List Value) (cs : Array Value) (o : Nat), (puts cs o vs).size = cs.size
  | [], _, _ => rfl
  | v :: r, cs, o => by rw [puts, puts_size r]; simp
theorem puts_get : ∀ (vs : List Value) (cs : Array Value) (o j : Nat), o + vs.length ≤ cs.size → (puts cs o vs)[j]? = if o ≤ j ∧ j < o + vs.length then vs[j - o]? else cs[j]?
  | [], cs, o, j, _ => by rw [if_neg (by simp)]; rfl
  | v :: r, cs, o, j, h => by
    rw [puts, puts_get r _ _ _ (by simp at h ⊢; omega)]
    by_cases h1 : j = o
    · subst h1
      rw [if_neg (by omega), if_pos (by simp), Array.getElem?_setIfInBounds_self_of_lt (by simp at h; omega), Nat.sub_self]
      rfl
    · by_cases h2 : o + 1 ≤ j ∧ j < o + 1 + r.length
      · rw [if_pos h2, if_pos (by simp; omega), show j - o = (j - (o + 1)) + 1 by omega, List.getElem?_cons_succ]
      · rw [if_neg h2, if_neg (by simp at h2 ⊢; omega), Array.getElem?_setIfInBounds_ne (by omega)]
theorem Blk.puts_ : ∀ (vs : List Value) {w : World} {g : Nat} {t : TypeId} {cs : Array Value} (o : Nat), Blk w g t cs → Blk (w.setCells g o vs) g t (puts cs o vs)
  | [], _, _, _, _, _, h => h
  | v :: r, w, g, t, cs, o, h => Blk.puts_ r (o + 1) (h.set_ o v)
theorem Apart.setCells {S : Nat → Prop} {g : Nat} (hs : S g) : ∀ (vs : List Value) {a b : World} (o : Nat), Apart S a b → Apart S a (b.setCells g o vs)
  | [], _, _, _, h => h
  | v :: r, _, _, o, h => Apart.setCells hs r (o + 1) (h.setCell (p := ⟨g, o, none⟩) hs v)

/-- numbers that lie somewhere in a block of the call's own, or none -/
def QRow (w : World) (lo : Nat) (v : Value) (l : List Int) : Prop :=
  (v = .slice none 0 0 ∧ l = []) ∨ ∃ g off cap cs, v = .slice (some ⟨g, off, none⟩) l.length cap ∧ lo ≤ g ∧ Blk w g 3 cs ∧ l.length ≤ cap ∧ off + cap ≤ cs.size ∧ cap ≤ maxLen ∧ ∀ j (h : j < l.length), cs[off + j]? = some (.int .i64 l[j])
theorem QRow.nil (w : World) (lo : Nat) : QRow w lo (.slice none 0 0) [] := .inl ⟨rfl, rfl⟩
theorem QRow.form {w : World} {lo : Nat} {v : Value} {l : List Int} (h : QRow w lo v l) : ∃ A c, v = .slice A l.length c := by
  rcases h with ⟨rfl, rfl⟩ | ⟨g, off, cap, cs, rfl, _⟩
  · exact ⟨none, 0, rfl⟩
  · exact ⟨_, _, rfl⟩
theorem QRow.apart {S : Nat → Prop} {w w' : World} {lo : Nat} {v : Value} {l : List Int} (h : QRow w lo v l) (ha : Apart S w w') (hn : ∀ k, At v k → ¬ S k) : QRow w' lo v l := by
  rcases h with h | ⟨g, off, cap, cs, e, hg, hb, h⟩
  · exact .inl h
  · exact .inr ⟨g, off, cap, cs, e, hg, hb.apart ha (hn g ⟨_, _, _, e, rfl⟩), h⟩
theorem QRow.below {w w' : World} {lo : Nat} {v : Value} {l : List Int} (h : QRow w lo v l) (hb : Below w.heap.size w w') : QRow w' lo v l :=
  h.apart (S := fun _ => False) (.of_below hb) (fun _ _ h => h)
theorem QRow.at_lt {w : World} {lo : Nat} {v : Value} {l : List Int} (h : QRow w lo v l) {k : Nat} (hk : At v k) : lo ≤ k ∧ k < w.heap.size ∧ ∃ cs, Blk w k 3 cs := by
  rcases h with ⟨rfl, _⟩ | ⟨g, off, cap, cs, rfl, hg, hb, _⟩
  · exact (At.nil hk).elim
  · rw [hk.some_]
    exact ⟨hg, hb.lt, cs, hb⟩
theorem QRow.of_irow {w : World} {lo : Nat} {v : Value} {l : List Int} (h : IRow w lo v l) : QRow w lo v l := by
  rcases h.2 with ⟨hv, h0⟩ | ⟨g', cap, cur, hv, hb, hh, h1, h2, h3, h4⟩
  · exact .inl ⟨hv, List.eq_nil_of_length_eq_zero h0⟩
  · refine .inr ⟨g', 0, cap, cur, hv, hb, hh, h1, by omega, h2, fun i hi => ?_⟩
    have h5 : (vi l)[i]? = some (.int .i64 l[i]) := by rw [vi_get, List.getElem?_eq_getElem hi]; rfl
    rw [← h4, List.getElem?_take_of_lt (by omega)] at h5
    rw [Nat.zero_add]
    simpa using h5
/-- the first cell of one that is not empty, and what is left when it is gone -/
theorem QRow.cons {w : World} {lo : Nat} {v : Value} {x : Int} {l : List Int} (h : QRow w lo v (x :: l)) : ∃ g off cap, v = .slice (some ⟨g, off, none⟩) (l.length + 1) cap ∧ l.length + 1 ≤ cap ∧ w.cell? ⟨g, off, none⟩ = some (.int .i64 x) ∧
    (cap = 1 → QRow w lo (.slice (some ⟨g, off, none⟩) l.length 0) l) ∧ QRow w lo (.slice (some ⟨g, off + 1, none⟩) l.length (cap - 1)) l := by
  rcases h with ⟨_, h0⟩ | ⟨g, off, cap, cs, rfl, hg, hb, h1, h2, h3, h4⟩
  · cases h0
  · simp only [List.length_cons] at h1 h4
    refine ⟨g, off, cap, rfl, h1, ?_, fun hc => .inr ⟨g, off, 0, cs, rfl, hg, hb, by omega, by omega, by omega, fun j hj => by omega⟩, .inr ⟨g, off + 1, cap - 1, cs, rfl, hg, hb, by omega, by omega, by omega, fun j hj => ?_⟩⟩
    · rw [hb.cell]
      have := h4 0 (by omega)
      simpa using this
    · have := h4 (j + 1) (by omega)
      rw [show off + 1 + j = off + (j + 1) by omega, this]
      rfl
theorem ilSrc {w : World} {L B : Nat} {A : Option Addr} {l : List Int} (h : IL w L B A l) (c : Nat) : Src Try.prog 1 23 (.slice A l.length c) l.length (vi l) w := by
  cases A with
  | none =>
    cases l with
    | nil => exact Src.ofNil w Try.underlying23 c
    | cons x r => obtain ⟨_, e, _⟩ := h.2 (by simp); cases e
  | some ad =>
    refine Src.ofSlice w Try.underlying23 ad l.length c (vi l) (by rw [vi_len]; omega) (fun j u hj => ?_) (one_vi l)
    have hjl : j < l.length := by
      rcases Nat.lt_or_ge j l.length with h1 | h1
      · exact h1
      · rw [List.getElem?_eq_none (by rw [vi_len]; exact h1)] at hj; cases hj
    obtain ⟨ad', e, _, _, hc⟩ := h.2 (by omega)
    cases e
    rw [vi_get, List.getElem?_eq_getElem hjl] at hj
    rw [hc j hjl]
    simpa using hj
/-- appending a row of numbers -/
theorem QRow.app {w : World} {lo : Nat} {v : Value} {l ks : List Int} {L B : Nat} {KA : Option Addr} (h : QRow w lo v l) (hlo : lo ≤ w.heap.size) (kc : Nat) (hk : IL w L B KA ks) (hsz : l.length + ks.length ≤ 100000000000) (ty : TypeId) :
    ∃ v' w', (Builtin.append_ #[23, 23] ty #[v, .slice KA ks.length kc]).run Try.prog w = .ok v' w' ∧ QRow w' lo v' (l ++ ks) ∧ Apart (At v) w w' ∧ Near w v v' := by
  obtain ⟨i0, hi, hz0, hz1, hz2⟩ := info_parts infoI
  have hsrc := ilSrc hk kc
  -- a new row
  have grows : ∀ (A : Option Addr) (n cap : Nat), n = l.length → v = .slice A n cap → (Builtin.firstCells i0.size n (.slice A n cap)).run Try.prog w.drew = .ok (vi l).toArray w.drew → cap < n + ks.length →
      ∃ v' w', (Builtin.append_ #[23, 23] ty #[v, .slice KA ks.length kc]).run Try.prog w = .ok v' w' ∧ QRow w' lo v' (l ++ ks) ∧ Apart (At v) w w' ∧ Near w v v' := by
    rintro A n cap hn rfl hold hr
    have hrun := run_append_grow_src w 23 23 ty 3 i0 _ Try.underlying23 hi hz0 A n cap (vi l) hold _ ks.length (vi ks) (by rw [hz1]; exact hsrc) hr (by omega) (by rw [hz2]; exact growslice_fits hr (by omega))
    have hge := grownCap_ge w (n + ks.length) cap 3
    have hle := grownCap_le_maxLen w (n + ks.length) cap 3 (by unfold maxLen; omega)
    refine ⟨_, _, hrun, .inr ⟨w.heap.size, 0, _, _, by rw [List.length_append, hn], hlo, (Blk.new w.drew _ _ : Blk _ w.heap.size _ _), by rw [List.length_append]; omega, ?_, hle, fun j hj => ?_⟩, ((Apart.refl _ w).drew).alloc _, Near.fresh (Nat.le_refl _)⟩
    · simp [size_zeroCells, Value.cells, vi_len]
      omega
    · rw [Nat.zero_add]
      have e : (vi l ++ vi ks)[j]? = some (.int .i64 (l ++ ks)[j]) := by
        rw [show vi l ++ vi ks = vi (l ++ ks) by simp [vi], vi_get, List.getElem?_eq_getElem hj]; rfl
      rw [Array.getElem?_append_left (by simp [vi_len]; simp at hj; omega)]
      simpa using e
  rcases h with ⟨rfl, rfl⟩ | ⟨g, off, cap, cs, rfl, hg, hb, h1, h2, h3, h4⟩
  · cases ks with
    | nil => exact ⟨_, _, run_append_nothing w 23 23 ty 3 i0 Try.underlying23 hi none 0 0 (Nat.le_refl _) _ (by rw [hz1]; exact hsrc), .inl ⟨rfl, rfl⟩, Apart.refl _ _, fun k hk => .inl hk⟩
    | cons x r => exact grows none 0 0 rfl rfl (run_firstCells_none w.drew i0.size 0 0 0) (by simp)
  · by_cases hr : l.length + ks.length ≤ cap
    · have hrun := run_append_room_src w 23 23 ty 3 i0 Try.underlying23 hi g off l.length cap _ ks.length (vi ks) (by rw [hz1]; exact hsrc) hr
        (fun j hj => by rw [vi_len] at hj; rw [hb.cell, hz1, Array.getElem?_eq_getElem (by omega)]; rfl) (fun j hj => hb.frozen _)
      rw [hz1, Nat.mul_one] at hrun
      refine ⟨_, _, hrun, .inr ⟨g, off, cap, _, by rw [List.length_append], hg, hb.puts_ (vi ks) (off + l.length), by rw [List.length_append]; exact hr, by rw [puts_size]; exact h2, h3, fun j hj => ?_⟩, (Apart.refl _ w).setCells ⟨_, _, _, rfl, rfl⟩ _ _, fun k hk => .inl ⟨_, _, _, rfl, hk.some_.symm⟩⟩
      rw [puts_get _ _ _ _ (by rw [vi_len]; omega)]
      rw [List.length_append] at hj
      by_cases hjl : j < l.length
      · rw [if_neg (by omega), h4 j hjl, List.getElem_append_left hjl]
      · rw [if_pos (by rw [vi_len]; omega), vi_get, show off + j - (off + l.length) = j - l.length by omega, List.getElem?_eq_getElem (by omega), List.getElem_append_right (by omega)]
        rfl
    · refine grows (some ⟨g, off, none⟩) l.length cap rfl rfl ?_ (by omega)
      rw [hz1]
      refine run_firstCells_some w.drew 1 l.length ⟨g, off, none⟩ l.length cap (vi l) (by rw [vi_len]; omega) (fun j u hj => ?_)
      have hjl : j < l.length := by
        rcases Nat.lt_or_ge j l.length with h1 | h1
        · exact h1
        · rw [List.getElem?_eq_none (by rw [vi_len]; exact h1)] at hj; cases hj
      rw [vi_get, List.getElem?_eq_getElem hjl] at hj
      have e : ((⟨g, off, none⟩ : Addr).add j) = ⟨g, off + j, none⟩ := by unfold Addr.add; split <;> simp_all
      show w.cell? _ = _
      rw [e, hb.cell, h4 j hjl]
      simpa using hj

set_option maxRecDepth 100000 in
set_option maxHeartbeats 2000000 in
/-- slices.Clone of numbers -/
theorem cloneI_c (l : List Int) (A : Option Addr) (c L B : Nat) (w : World) (hB : B ≤ w.heap.size) (hl : l.length ≤ 100000000) (h : IL w L B A l) :
    Calls Try.prog 104 #[.slice A l.length c] w fun r w' => ∃ v', r = .returned v' ∧ IRow w' w.heap.size v' l ∧ Below w.heap.size w w' := by
  obtain ⟨i0, hi, hz0, hz1, hz2⟩ := info_parts infoI
  have qn : ∀ (w : World) (a : Option Addr) (n c n' c' : Nat), (binOp .eql 23 (.slice a n c) (.slice none n' c')).run Try.prog w = .ok (.bool a.isNone) w := fun w a n c n' c' => Lib.run_eql_slice_nil w _ _ a n c n' c' Try.underlying23
  cases A with
  | none =>
    have h0 : l = [] := by
      cases l with
      | nil => rfl
      | cons x r => obtain ⟨ad, e, _⟩ := h.2 (by simp); cases e
    subst h0
    go_enter Try.func104, Try.ntmps104
    go_wp2
    go_ret
    exact ⟨_, rfl, IRow.nil _ _, Below.refl _ _⟩
  | some ad =>
    have hb0 : Below w.heap.size w (w.alloc (.cells #[] 3)) := (Below.refl _ _).alloc (Nat.le_refl _) _
    have hR := h.below (hb0.mono hB)
    have hcs : ∀ j u, (vi l)[j]? = some u → (w.alloc (.cells #[] 3)).cell? (ad.add j) = some u := fun j u hj => by
      have hjl : j < l.length := by
        rcases Nat.lt_or_ge j l.length with h1 | h1
        · exact h1
        · rw [List.getElem?_eq_none (by rw [vi_len]; exact h1)] at hj; cases hj
      obtain ⟨ad', e, _, _, hc⟩ := hR.2 (by omega)
      cases e
      rw [vi_get, List.getElem?_eq_getElem hjl] at hj
      rw [hc j hjl]
      simpa using hj
    have hO : (w.alloc (.cells #[] 3)).ownsRow w.heap.size 3 1 (.slice (some ⟨w.heap.size, 0, none⟩) 0 0) 0 [] :=
      ⟨rfl, .inr ⟨w.heap.size, 0, #[], rfl, Nat.le_refl _, Blk.new w _ _, Nat.le_refl _, Nat.zero_le _, rfl, rfl⟩⟩
    have HO := Lib.hid hO
    have Hcs := Lib.hid hcs
    have h1c := one_vi l
    have hll := vi_len l
    clear hO hR h hcs
    obtain ⟨xs, hxs⟩ : ∃ xs, xs = vi l := ⟨_, rfl⟩
    rw [← hxs] at Hcs h1c hll
    have Hxs := Lib.hid hxs
    clear hxs
    go_enter Try.func104, Try.ntmps104
    go_wp2_with (at_builtin; refine wpList_append_own _ rfl (.tmp 5) (.tmp 6) 23 rfl w.heap.size 3 i0 _ 1 8 Try.underlying23 hi hz0 hz1 hz2 rfl (by omega) _ _ _ rfl HO.out ad l.length c xs rfl (by omega) Hcs.out h1c (by unfold maxLen; omega) (by omega) (by simp) ?_; intro v2 w2 hown2 hg2 _)
    go_ret
    rw [Nat.zero_add, List.nil_append] at hown2
    have hbn : Below w.heap.size w w2 := hb0.grown hg2 (by simp) (fun g hg => by
      have h3 : (Value.slice (some ⟨w.heap.size, 0, none⟩) 0 0).ownBlock = some g := hg
      simp [Value.ownBlock] at h3
      omega)
    exact ⟨v2, rfl, by unfold IRow; rw [← Hxs.out]; exact hown2, hbn⟩
end Go.Proofs.Ytiofabnicdlceaa

namespace Go.Proofs.Ytiofabnicdlceaa
open Go.RowKit
set_option linter.unusedVariables false
set_option linter.unusedSimpArgs false

theorem SetV.lo_le {w : World} {lo lo' : Nat} {v : Value} {l : List Int} (h : SetV w lo v l) (hl : lo' ≤ lo) : SetV w lo' v l := by
  rcases h with h | ⟨g, cs, e, hg, h⟩
  · exact .inl h
  · exact .inr ⟨g, cs, e, Nat.le_trans hl hg, h⟩
/-- the length of a slice -/
def lenS : Value → Nat
  | .slice _ n _ => n
  | _ => 0
/-- how long the slice in a cell is -/
def lenAt (w : World) (b : Nat) : Nat := match w.cell? ⟨b, 0, none⟩ with
  | some v => lenS v
  | none => 0
theorem lenAt_eq {w : World} {b n c : Nat} {A : Option Addr} {t : TypeId} (h : Blk w b t #[.slice A n c]) : lenAt w b = n := by
  unfold lenAt
  rw [h.cel 0 rfl]
  rfl

set_option maxRecDepth 100000 in
set_option maxHeartbeats 8000000 in
theorem reachable_c (S : List Sl) (F : List Int) (A FA : Option Addr) (c fc L B LF BF : Nat) (x1 x2 x3 : Value) (hx1 : x1.cells = #[x1]) (hx2 : x2.cells = #[x2]) (hx3 : x3.cells = #[x3]) (w : World) (hsz : slsSz S ≤ 1048576) (hS16 : S.length ≤ 16) (hS : InS S)
    (hB : B ≤ w.heap.size) (hBF : BF ≤ w.heap.size) (h : SlL w L B A S) (hF : IL w LF BF FA F) (hFl : F.length ≤ 1048576) (hFin : ∀ x ∈ F, 0 ≤ x ∧ x < (S.length : Int)) :
    Calls Try.prog 77 #[.agg #[.slice A S.length c, x1, x2, x3], .slice FA F.length fc] w fun e w' => ∃ v, e = .returned v ∧ SetV w' w.heap.size v (reachL S F) ∧ Below w.heap.size w w' := by
  have hb2 : Below w.heap.size w ((w.alloc (.cells #[.slice A S.length c, x1, x2, x3] 66)).alloc (.cells #[.slice none 0 0] 64)) := ((Below.refl _ _).alloc (Nat.le_refl _) _).alloc (by simp) _
  have HKr := Lib.hid ((Blk.new w 66 #[.slice A S.length c, x1, x2, x3]).alloc (.cells #[.slice none 0 0] 64))
  have HKs : Hid (Blk ((w.alloc (.cells #[.slice A S.length c, x1, x2, x3] 66)).alloc (.cells #[.slice none 0 0] 64)) (w.heap.size + 1) 64 #[.slice none 0 0]) := Lib.hid (by
    have := Blk.new (w.alloc (.cells #[.slice A S.length c, x1, x2, x3] 66)) 64 #[.slice none 0 0]
    rwa [World.size_alloc] at this)
  have Hb2 := Lib.hid hb2
  have H := Lib.hid h
  have HF := Lib.hid hF
  have HS := Lib.hid hS
  have Hsz := Lib.hid hsz
  have Hst := Lib.hid (Bre.start hFin)
  clear h hF hS hsz hb2 hFin
  go_enter Try.func77, Try.ntmps77
  go_wp2_with fail
  generalize hW : ((w.alloc (.cells #[.slice A S.length c, x1, x2, x3] 66)).alloc (.cells #[.slice none 0 0] 64)) = W
  rw [hW] at HKr HKs Hb2
  have hWs : w.heap.size + 1 + 1 = W.heap.size := by rw [← hW]; simp
  clear hW
  obtain ⟨rB, hrB⟩ : ∃ r, r = w.heap.size + 1 := ⟨_, rfl⟩
  rw [← hrB] at HKs
  rw [← hrB]
  have HWs := Lib.hid (And.intro hrB hWs)
  have Hcl := Lib.hid (cloneI_c F FA fc LF BF W (by omega) (by omega) (HF.out.below (Hb2.out.mono hBF)))
  clear hrB hWs
  go_wp2_with fail
  refine Hcl.out.mono ?_
  rintro e w1 ⟨v0, rfl, hi, hb1⟩
  have HKr1 := Lib.hid (HKr.out.below hb1 HKr.out.lt)
  have HKs1 := Lib.hid (HKs.out.below hb1 HKs.out.lt)
  have Hb1 := Lib.hid (Hb2.out.trans (hb1.mono Hb2.out.size))
  have Hq1 := Lib.hid (QRow.of_irow (hi.lo_le (show w.heap.size ≤ W.heap.size by have := HWs.out; omega)))
  have Hn0 : Hid (∀ k, At v0 k → ¬ At (.slice none 0 0) k) := Lib.hid (fun k _ h => h.nil)
  clear hi hb1 Hcl HKr HKs Hb2
  obtain ⟨A0, c0, e0⟩ := Hq1.out.form
  subst e0
  go_wp2_with fail
  go_loopw [6] (fun x wr => ∃ (R X : List Int) (v : Value) (SA : Option Addr) (sc : Nat), x = v ∧ Hid (QRow wr w.heap.size v X) ∧ Hid (Bre S F R X) ∧ Hid (SetV wr w.heap.size (.slice SA R.length sc) R) ∧ Hid (Blk wr rB 64 #[.slice SA R.length sc]) ∧ Hid (Blk wr w.heap.size 66 #[.slice A S.length c, x1, x2, x3]) ∧ Hid (∀ k, At v k → ¬ At (.slice SA R.length sc) k) ∧ Hid (X.length ≤ F.length + R.length * 1048576) ∧ Hid (Below w.heap.size w wr)) (fun x wr => (17 - lenAt wr rB) * 2000000 + lenS x)
  case atStart => exact ⟨[], F, _, none, 0, rfl, Hq1, Hst, Lib.hid (SetV.nil _ _), HKs1, HKr1, Hn0, Lib.hid (by simp), Hb1⟩
  case round =>
    obtain ⟨R, X, v, SA, sc, rfl, hq, hbre, hset, hkS, hkR, hap, hXl, hbw⟩ := hrel
    have hR16 : R.length ≤ 16 := by have := hbre.out.few; omega
    have hlR := lenAt_eq hkS.out
    cases X with
    | nil =>
      obtain ⟨QA, qc, rfl⟩ := hq.out.form
      have E := Lib.hid hbre.out.fin
      have s0 := hkS.out.cel 0 (v := .slice SA R.length sc) rfl
      clear hq hbre hkS hkR hap hXl hlR
      simp only [List.length_nil]
      go_wp2
      go_ret
      rw [← E.out]
      exact ⟨_, rfl, hset.out, hbw.out⟩
    | cons x X =>
      obtain ⟨g, off, cap, rfl, hcap, d0, hone, hrest⟩ := hq.out.cons
      have hin := hbre.out.inX x (by simp)
      obtain ⟨n, rfl⟩ : ∃ n : Nat, x = (n : Int) := ⟨x.toNat, by omega⟩
      have hnS : n < S.length := by omega
      have Hadd := Lib.hid (setAdd2_c R (.slice SA R.length sc) w.heap.size n wr rB 0 64 #[.slice SA R.length sc] (by omega) hbre.out.sorted hset.out hbw.out.size hkS.out rfl (by decide))
      by_cases hc1 : cap = 1
      · subst hc1
        obtain rfl : X = [] := List.eq_nil_of_length_eq_zero (by omega)
        have hq2 := hone rfl
        have hat : ∀ k, At (.slice (some ⟨g, off, none⟩) 0 0) k → At (.slice (some ⟨g, off, none⟩) (([] : List Int).length + 1) 1) k := fun k hk => ⟨_, _, _, rfl, hk.some_.symm⟩
        clear hone hrest
        simp only [List.length_nil] at hq2
        have Hq2 : Hid (QRow wr w.heap.size (.slice (some ⟨g, off, none⟩) 0 0) ([] : List Int)) := Lib.hid hq2
        have Hap2 : Hid (∀ k, At (.slice (some ⟨g, off, none⟩) 0 0) k → k < wr.heap.size ∧ k ≠ rB ∧ ¬ At (.slice SA R.length sc) k) := Lib.hid (fun k hk => by
          obtain ⟨_, h1, cs, h2⟩ := hq2.at_lt hk
          exact ⟨h1, (hkS.out.ne_ h2 (by decide)).symm, hap.out k (hat k hk)⟩)
        have Hnr : Hid (w.heap.size < rB ∧ ∀ k, At (.slice SA R.length sc) k → w.heap.size ≤ k ∧ k ≠ w.heap.size) := Lib.hid ⟨by have := HWs.out; omega, fun k hk => by
          obtain ⟨h0, h1, cs, h2⟩ := hset.out.at_lt hk
          exact ⟨h0, (hkR.out.ne_ h2 (by decide)).symm⟩⟩
        clear hq2 hat hq hap hkS hset hin
        go_wp2_with fail
        refine Hadd.out.mono ?_
        rintro e w2 ⟨rfl, v', hs2, hk2, ha2, hn2⟩
        obtain ⟨SA2, sc2, rfl⟩ := hs2.form
        have hq2 := Hq2.out.apart ha2 (fun k hk => by
          have := Hap2.out k hk
          rintro (h | h)
          · exact this.2.1 h
          · exact this.2.2 h)
        have hkR2 := hkR.out.apart ha2 (by
          have := Hnr.out
          rintro (h | h)
          · omega
          · exact (this.2 _ h).2 rfl)
        have hbw2 : Below w.heap.size w w2 := hbw.out.trans (ha2.below hbw.out.size (fun k hk => by
          have := Hnr.out
          rintro (h | h)
          · omega
          · have := (this.2 _ h).1; omega))
        have hap3 : ∀ k, At (.slice (some ⟨g, off, none⟩) 0 0) k → ¬ At (.slice SA2 (insI R n).length sc2) k := fun k hk h => by
          have h1 := Hap2.out k hk
          rcases hn2 k h with h2 | h2
          · exact h1.2.2 h2
          · omega
        have Hk2 : Hid (Blk w2 rB 64 #[.slice SA2 (insI R n).length sc2]) := Lib.hid hk2
        have Hs2 := Lib.hid hs2
        have HkR2 := Lib.hid hkR2
        have Hbw2 := Lib.hid hbw2
        have Hq3 := Lib.hid hq2
        have Hap3 := Lib.hid hap3
        clear hk2 hs2 hkR2 hbw2 hq2 hap3 ha2 hn2 Hq2 Hap2 Hnr Hadd hkR hbw
        cases hh : hasI R n
        · have Hb3 : Hid (Bre S F (insI R n) (([] : List Int) ++ kidsOf S n)) := Lib.hid (by have := hbre.out.add HS.out; rwa [Int.toNat_natCast] at this)
          have hl3 : (insI R n).length = R.length + 1 := insI_new R n ((hasI_not R n).1 hh)
          have hfz : S[n].fs.length ≤ 1048576 := by
            have h1 := sum_get slSz hnS
            have h2 : S[n].fs.length ≤ slSz S[n] := by unfold slSz fsSz; omega
            have h3 := Hsz.out
            unfold slsSz at h3
            omega
          have hkl := refsTo_le S[n].fs S[n].fs.length
          have hkid := kidsOf_get hnS
          obtain ⟨ad, rfl, _, hbk, hatS⟩ := (H.out.below (Hbw2.out.mono hB)).2 (by omega)
          obtain ⟨y0, y1, y2, y3, ⟨e0, e1, e2, e3⟩, rfl, rfl, rfl, KA, kc, rfl, hKf⟩ := hatS n hnS
          have Hkc := Lib.hid (slotKids_c S[n] KA kc L B w2 (Nat.le_trans hB Hbw2.out.size) hfz hKf)
          rw [← hkid] at Hkc hkl
          obtain ⟨sl, hsl⟩ : ∃ s, s = S[n] := ⟨_, rfl⟩
          rw [← hsl] at e0 e1 e2 e3 Hkc hkl hfz
          obtain ⟨K, hK⟩ : ∃ k, k = kidsOf S n := ⟨_, rfl⟩
          rw [← hK] at Hkc hkl Hb3
          obtain ⟨lv, gn, ct, fs⟩ := sl
          dsimp only at e0 e1 e2 e3 Hkc hkl hfz
          obtain ⟨fl, hfl⟩ : ∃ m, m = fs.length := ⟨_, rfl⟩
          rw [← hfl] at e3 Hkc hkl hfz
          have p0 := HkR2.out.cel 0 (v := .slice (some ad) S.length c) rfl
          have hXl2 := hXl.out
          simp only [List.length_cons, List.length_nil] at hXl2
          clear hatS hKf hsl hK hkid hfl hbre hh
          go_wp2_with fail
          refine Hkc.out.mono ?_
          rintro e w3 ⟨KB, kb, rfl, hko, hb3⟩
          obtain ⟨v3, w4, hrun, hq4, ha4, hn4⟩ := (Hq3.out.below hb3).app (Nat.le_trans Hbw2.out.size hb3.size) kb (hko.ilg (by unfold maxLen; omega)) (by first | omega | (simp only [List.length_nil]; omega)) 23
          have hq3l : ∀ k, At (.slice (some ⟨g, off, none⟩) 0 0) k → w.heap.size ≤ k ∧ k ≠ rB ∧ k ≠ w.heap.size ∧ k < w2.heap.size := fun k hk => by
            obtain ⟨h0, h1, cs, h2⟩ := Hq3.out.at_lt hk
            exact ⟨h0, (Hk2.out.ne_ h2 (by decide)).symm, (HkR2.out.ne_ h2 (by decide)).symm, h1⟩
          have hs4 : SetV w4 w.heap.size (.slice SA2 (insI R n).length sc2) (insI R n) := (Hs2.out.below hb3).apart ha4 (fun k hk h => Hap3.out k h hk)
          have hk4 := (Hk2.out.below hb3 Hk2.out.lt).apart ha4 (fun h => (hq3l rB h).2.1 rfl)
          have hkR4 := (HkR2.out.below hb3 HkR2.out.lt).apart ha4 (fun h => (hq3l w.heap.size h).2.2.1 rfl)
          have hbw4 : Below w.heap.size w w4 := (Hbw2.out.trans (hb3.mono Hbw2.out.size)).trans (ha4.below (Nat.le_trans Hbw2.out.size hb3.size) (fun k hk h => by have := (hq3l k h).1; omega))
          have hap4 : ∀ k, At v3 k → ¬ At (.slice SA2 (insI R n).length sc2) k := fun k hk h => by
            rcases hn4 k hk with h2 | h2
            · exact Hap3.out k h2 h
            · have := (Hs2.out.at_lt h).2.1
              have := hb3.size
              omega
          obtain ⟨Y, hY⟩ : ∃ y, y = ([] : List Int) ++ K := ⟨_, rfl⟩
          rw [← hY] at hq4 Hb3
          have hYl : Y.length = (([] : List Int)).length + K.length := by rw [hY, List.length_append]
          clear hY
          obtain ⟨QA, qc, rfl⟩ := hq4.form
          have Hrun := Lib.hid hrun
          have Hq4 := Lib.hid hq4
          have Hs4 := Lib.hid hs4
          have Hk4 := Lib.hid hk4
          have HkR4 := Lib.hid hkR4
          have Hbw4 := Lib.hid hbw4
          have Hap4 := Lib.hid hap4
          have hlR4 := lenAt_eq hk4
          have hXl4 : Hid (Y.length ≤ F.length + (insI R n).length * 1048576) := Lib.hid (by rw [hl3, hYl]; first | omega | (simp only [List.length_nil]; omega))
          have hXK : Y.length < 2000000 + 1 + (([] : List Int)).length := by rw [hYl]; first | omega | (simp only [List.length_nil]; omega)
          clear hrun hq4 hs4 hk4 hkR4 hbw4 hap4 hq3l hko hb3 ha4 hn4 hYl Hkc Hq3 Hs2 Hk2 HkR2 Hbw2 Hap3 hXl
          go_wp2_with (at_builtin; refine Lib.wpList_append_run _ rfl _ _ _ _ rfl _ _ rfl rfl _ _ Hrun.out ?_)
          go_roundw
          case rel => exact ⟨insI R n, Y, _, SA2, sc2, rfl, Hq4, Hb3, Hs4, Hk4, HkR4, Hap4, hXl4, Hbw4⟩
          case measure =>
            rw [hlR4, hlR, hl3]
            simp only [lenS] at hXK ⊢
            first | omega | (simp only [List.length_nil] at hXK ⊢; omega)
        · have Hb3 : Hid (Bre S F (insI R n) ([] : List Int)) := Lib.hid (by rw [insI_has R n hbre.out.sorted ((hasI_mem R n).1 hh)]; exact hbre.out.old ((hasI_mem R n).1 hh))
          have hl3 : (insI R n).length = R.length := by rw [insI_has R n hbre.out.sorted ((hasI_mem R n).1 hh)]
          have hlR2 := lenAt_eq Hk2.out
          have hXl2 : Hid ((([] : List Int)).length ≤ F.length + (insI R n).length * 1048576) := Lib.hid (by have := hXl.out; simp only [List.length_cons, List.length_nil] at this ⊢; omega)
          clear hh hbre hXl
          go_wp2
          go_roundw
          case rel => exact ⟨insI R n, ([] : List Int), (.slice (some ⟨g, off, none⟩) 0 0), SA2, sc2, rfl, Hq3, Hb3, Hs2, Hk2, HkR2, Hap3, hXl2, Hbw2⟩
          case measure =>
            rw [hlR2, hlR, hl3]
            simp only [lenS, List.length_nil]
            omega

      · have hq2 := hrest
        have hat : ∀ k, At (.slice (some ⟨g, off + 1, none⟩) X.length (cap - 1)) k → At (.slice (some ⟨g, off, none⟩) (X.length + 1) cap) k := fun k hk => ⟨_, _, _, rfl, hk.some_.symm⟩
        clear hone hrest
        have Hq2 : Hid (QRow wr w.heap.size (.slice (some ⟨g, off + 1, none⟩) X.length (cap - 1)) X) := Lib.hid hq2
        have Hap2 : Hid (∀ k, At (.slice (some ⟨g, off + 1, none⟩) X.length (cap - 1)) k → k < wr.heap.size ∧ k ≠ rB ∧ ¬ At (.slice SA R.length sc) k) := Lib.hid (fun k hk => by
          obtain ⟨_, h1, cs, h2⟩ := hq2.at_lt hk
          exact ⟨h1, (hkS.out.ne_ h2 (by decide)).symm, hap.out k (hat k hk)⟩)
        have Hnr : Hid (w.heap.size < rB ∧ ∀ k, At (.slice SA R.length sc) k → w.heap.size ≤ k ∧ k ≠ w.heap.size) := Lib.hid ⟨by have := HWs.out; omega, fun k hk => by
          obtain ⟨h0, h1, cs, h2⟩ := hset.out.at_lt hk
          exact ⟨h0, (hkR.out.ne_ h2 (by decide)).symm⟩⟩
        clear hq2 hat hq hap hkS hset hin
        go_wp2_with fail
        refine Hadd.out.mono ?_
        rintro e w2 ⟨rfl, v', hs2, hk2, ha2, hn2⟩
        obtain ⟨SA2, sc2, rfl⟩ := hs2.form
        have hq2 := Hq2.out.apart ha2 (fun k hk => by
          have := Hap2.out k hk
          rintro (h | h)
          · exact this.2.1 h
          · exact this.2.2 h)
        have hkR2 := hkR.out.apart ha2 (by
          have := Hnr.out
          rintro (h | h)
          · omega
          · exact (this.2 _ h).2 rfl)
        have hbw2 : Below w.heap.size w w2 := hbw.out.trans (ha2.below hbw.out.size (fun k hk => by
          have := Hnr.out
          rintro (h | h)
          · omega
          · have := (this.2 _ h).1; omega))
        have hap3 : ∀ k, At (.slice (some ⟨g, off + 1, none⟩) X.length (cap - 1)) k → ¬ At (.slice SA2 (insI R n).length sc2) k := fun k hk h => by
          have h1 := Hap2.out k hk
          rcases hn2 k h with h2 | h2
          · exact h1.2.2 h2
          · omega
        have Hk2 : Hid (Blk w2 rB 64 #[.slice SA2 (insI R n).length sc2]) := Lib.hid hk2
        have Hs2 := Lib.hid hs2
        have HkR2 := Lib.hid hkR2
        have Hbw2 := Lib.hid hbw2
        have Hq3 := Lib.hid hq2
        have Hap3 := Lib.hid hap3
        clear hk2 hs2 hkR2 hbw2 hq2 hap3 ha2 hn2 Hq2 Hap2 Hnr Hadd hkR hbw
        cases hh : hasI R n
        · have Hb3 : Hid (Bre S F (insI R n) (X ++ kidsOf S n)) := Lib.hid (by have := hbre.out.add HS.out; rwa [Int.toNat_natCast] at this)
          have hl3 : (insI R n).length = R.length + 1 := insI_new R n ((hasI_not R n).1 hh)
          have hfz : S[n].fs.length ≤ 1048576 := by
            have h1 := sum_get slSz hnS
            have h2 : S[n].fs.length ≤ slSz S[n] := by unfold slSz fsSz; omega
            have h3 := Hsz.out
            unfold slsSz at h3
            omega
          have hkl := refsTo_le S[n].fs S[n].fs.length
          have hkid := kidsOf_get hnS
          obtain ⟨ad, rfl, _, hbk, hatS⟩ := (H.out.below (Hbw2.out.mono hB)).2 (by omega)
          obtain ⟨y0, y1, y2, y3, ⟨e0, e1, e2, e3⟩, rfl, rfl, rfl, KA, kc, rfl, hKf⟩ := hatS n hnS
          have Hkc := Lib.hid (slotKids_c S[n] KA kc L B w2 (Nat.le_trans hB Hbw2.out.size) hfz hKf)
          rw [← hkid] at Hkc hkl
          obtain ⟨sl, hsl⟩ : ∃ s, s = S[n] := ⟨_, rfl⟩
          rw [← hsl] at e0 e1 e2 e3 Hkc hkl hfz
          obtain ⟨K, hK⟩ : ∃ k, k = kidsOf S n := ⟨_, rfl⟩
          rw [← hK] at Hkc hkl Hb3
          obtain ⟨lv, gn, ct, fs⟩ := sl
          dsimp only at e0 e1 e2 e3 Hkc hkl hfz
          obtain ⟨fl, hfl⟩ : ∃ m, m = fs.length := ⟨_, rfl⟩
          rw [← hfl] at e3 Hkc hkl hfz
          have p0 := HkR2.out.cel 0 (v := .slice (some ad) S.length c) rfl
          have hXl2 := hXl.out
          simp only [List.length_cons, List.length_nil] at hXl2
          clear hatS hKf hsl hK hkid hfl hbre hh
          go_wp2_with fail
          refine Hkc.out.mono ?_
          rintro e w3 ⟨KB, kb, rfl, hko, hb3⟩
          obtain ⟨v3, w4, hrun, hq4, ha4, hn4⟩ := (Hq3.out.below hb3).app (Nat.le_trans Hbw2.out.size hb3.size) kb (hko.ilg (by unfold maxLen; omega)) (by first | omega | (simp only [List.length_nil]; omega)) 23
          have hq3l : ∀ k, At (.slice (some ⟨g, off + 1, none⟩) X.length (cap - 1)) k → w.heap.size ≤ k ∧ k ≠ rB ∧ k ≠ w.heap.size ∧ k < w2.heap.size := fun k hk => by
            obtain ⟨h0, h1, cs, h2⟩ := Hq3.out.at_lt hk
            exact ⟨h0, (Hk2.out.ne_ h2 (by decide)).symm, (HkR2.out.ne_ h2 (by decide)).symm, h1⟩
          have hs4 : SetV w4 w.heap.size (.slice SA2 (insI R n).length sc2) (insI R n) := (Hs2.out.below hb3).apart ha4 (fun k hk h => Hap3.out k h hk)
          have hk4 := (Hk2.out.below hb3 Hk2.out.lt).apart ha4 (fun h => (hq3l rB h).2.1 rfl)
          have hkR4 := (HkR2.out.below hb3 HkR2.out.lt).apart ha4 (fun h => (hq3l w.heap.size h).2.2.1 rfl)
          have hbw4 : Below w.heap.size w w4 := (Hbw2.out.trans (hb3.mono Hbw2.out.size)).trans (ha4.below (Nat.le_trans Hbw2.out.size hb3.size) (fun k hk h => by have := (hq3l k h).1; omega))
          have hap4 : ∀ k, At v3 k → ¬ At (.slice SA2 (insI R n).length sc2) k := fun k hk h => by
            rcases hn4 k hk with h2 | h2
            · exact Hap3.out k h2 h
            · have := (Hs2.out.at_lt h).2.1
              have := hb3.size
              omega
          obtain ⟨Y, hY⟩ : ∃ y, y = X ++ K := ⟨_, rfl⟩
          rw [← hY] at hq4 Hb3
          have hYl : Y.length = (X).length + K.length := by rw [hY, List.length_append]
          clear hY
          obtain ⟨QA, qc, rfl⟩ := hq4.form
          have Hrun := Lib.hid hrun
          have Hq4 := Lib.hid hq4
          have Hs4 := Lib.hid hs4
          have Hk4 := Lib.hid hk4
          have HkR4 := Lib.hid hkR4
          have Hbw4 := Lib.hid hbw4
          have Hap4 := Lib.hid hap4
          have hlR4 := lenAt_eq hk4
          have hXl4 : Hid (Y.length ≤ F.length + (insI R n).length * 1048576) := Lib.hid (by rw [hl3, hYl]; first | omega | (simp only [List.length_nil]; omega))
          have hXK : Y.length < 2000000 + 1 + (X).length := by rw [hYl]; first | omega | (simp only [List.length_nil]; omega)
          clear hrun hq4 hs4 hk4 hkR4 hbw4 hap4 hq3l hko hb3 ha4 hn4 hYl Hkc Hq3 Hs2 Hk2 HkR2 Hbw2 Hap3 hXl
          go_wp2_with (at_builtin; refine Lib.wpList_append_run _ rfl _ _ _ _ rfl _ _ rfl rfl _ _ Hrun.out ?_)
          go_roundw
          case rel => exact ⟨insI R n, Y, _, SA2, sc2, rfl, Hq4, Hb3, Hs4, Hk4, HkR4, Hap4, hXl4, Hbw4⟩
          case measure =>
            rw [hlR4, hlR, hl3]
            simp only [lenS] at hXK ⊢
            first | omega | (simp only [List.length_nil] at hXK ⊢; omega)
        · have Hb3 : Hid (Bre S F (insI R n) X) := Lib.hid (by rw [insI_has R n hbre.out.sorted ((hasI_mem R n).1 hh)]; exact hbre.out.old ((hasI_mem R n).1 hh))
          have hl3 : (insI R n).length = R.length := by rw [insI_has R n hbre.out.sorted ((hasI_mem R n).1 hh)]
          have hlR2 := lenAt_eq Hk2.out
          have hXl2 : Hid ((X).length ≤ F.length + (insI R n).length * 1048576) := Lib.hid (by have := hXl.out; simp only [List.length_cons, List.length_nil] at this ⊢; omega)
          clear hh hbre hXl
          go_wp2
          go_roundw
          case rel => exact ⟨insI R n, X, (.slice (some ⟨g, off + 1, none⟩) X.length (cap - 1)), SA2, sc2, rfl, Hq3, Hb3, Hs2, Hk2, HkR2, Hap3, hXl2, Hbw2⟩
          case measure =>
            rw [hlR2, hlR, hl3]
            simp only [lenS, List.length_nil]
            omega

end Go.Proofs.Ytiofabnicdlceaa
