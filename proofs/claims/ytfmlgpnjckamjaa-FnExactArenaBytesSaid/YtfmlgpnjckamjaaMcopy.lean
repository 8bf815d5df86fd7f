/-
  Clones of slots and fields.
-/
import Derived.Test.YtfmlgpnjckamjaaMrow
import Derived.Test.YtfmlgpnjckamjaaMarn
import Derived.Test.YtfmlgpnjckamjaaMown
import Derived.Test.YtfmlgpnjckamjaaMset
namespace Go.Proofs.Ytfmlgpnjckamjaa
open Go.RowKit
set_option linter.unusedVariables false
set_option linter.unusedSimpArgs false

theorem add_more (a : Addr) (m r : Nat) (hr : 0 < r) : a.add (m + r) = ⟨(a.add m).block, (a.add m).off + r, none⟩ := by
  unfold Addr.add
  split <;> split <;> simp_all <;> omega
theorem opt_eq {a b : Value} {o : Option Value} (h : o = some a) (k : o = some b) : a = b := by rw [h] at k; injection k
/-- the cells of a row of four -/
theorem Row4.vals {α : Type} {V : Value → Value → Value → Value → α → Prop} {w : World} {L B : Nat} {ad : Addr} {l : List α} (h : Row4 V w L B (some ad) l) (h1 : ∀ v0 v1 v2 v3 x, V v0 v1 v2 v3 x → v0.oneCell' = true ∧ v1.oneCell' = true ∧ v2.oneCell' = true ∧ v3.oneCell' = true) :
    ∃ xs : List Value, xs.length = l.length * 4 ∧ (∀ j u, xs[j]? = some u → w.cell? (ad.add j) = some u) ∧ (∀ u ∈ xs, u.oneCell' = true) ∧
      ∀ k (hk : k < l.length), ∃ v0 v1 v2 v3, xs[k * 4]? = some v0 ∧ xs[k * 4 + 1]? = some v1 ∧ xs[k * 4 + 2]? = some v2 ∧ xs[k * 4 + 3]? = some v3 ∧ V v0 v1 v2 v3 l[k] := by
  have row : ∀ k (hk : k < l.length), ∃ v0 v1 v2 v3, (w.cell? (ad.add (k * 4)) = some v0 ∧ w.cell? (ad.add (k * 4 + 1)) = some v1 ∧ w.cell? (ad.add (k * 4 + 2)) = some v2 ∧ w.cell? (ad.add (k * 4 + 3)) = some v3) ∧ V v0 v1 v2 v3 l[k] := by
    intro k hk
    obtain ⟨ad', e, _, _, hs⟩ := h.2 (by omega)
    injection e with e
    subst e
    obtain ⟨v0, v1, v2, v3, ⟨c0, c1, c2, c3⟩, hv⟩ := hs k hk
    exact ⟨v0, v1, v2, v3, ⟨c0, by rw [add_more _ _ _ (by omega)]; exact c1, by rw [add_more _ _ _ (by omega)]; exact c2, by rw [add_more _ _ _ (by omega)]; exact c3⟩, hv⟩
  have each : ∀ j, j < l.length * 4 → ∃ v : Value, w.cell? (ad.add j) = some v ∧ v.oneCell' = true := by
    intro j hj
    obtain ⟨v0, v1, v2, v3, ⟨c0, c1, c2, c3⟩, hv⟩ := row (j / 4) (by omega)
    obtain ⟨o0, o1, o2, o3⟩ := h1 _ _ _ _ _ hv
    have hc : j = j / 4 * 4 ∨ j = j / 4 * 4 + 1 ∨ j = j / 4 * 4 + 2 ∨ j = j / 4 * 4 + 3 := by omega
    rcases hc with e | e | e | e
    · exact ⟨v0, by rw [e]; exact c0, o0⟩
    · exact ⟨v1, by rw [e]; exact c1, o1⟩
    · exact ⟨v2, by rw [e]; exact c2, o2⟩
    · exact ⟨v3, by rw [e]; exact c3, o3⟩
  let f : Fin (l.length * 4) → Value := fun i => Classical.choose (each i.1 i.2)
  have hfl : (List.ofFn f).length = l.length * 4 := by simp
  have hget : ∀ j (hj : j < l.length * 4), (List.ofFn f)[j]? = some (f ⟨j, hj⟩) := fun j hj => by
    rw [List.getElem?_eq_getElem (by rw [hfl]; exact hj)]
    simp
  have hcell : ∀ j u, (List.ofFn f)[j]? = some u → w.cell? (ad.add j) = some u := fun j u hj => by
    have hjl : j < l.length * 4 := by rw [← hfl]; exact (List.getElem?_eq_some_iff.1 hj).1
    rw [hget j hjl] at hj
    injection hj with hj
    rw [← hj]
    exact (Classical.choose_spec (each j hjl)).1
  refine ⟨List.ofFn f, hfl, hcell, fun u hu => ?_, fun k hk => ?_⟩
  · rw [List.mem_ofFn] at hu
    obtain ⟨i, rfl⟩ := hu
    exact (Classical.choose_spec (each i.1 i.2)).2
  · obtain ⟨v0, v1, v2, v3, ⟨c0, c1, c2, c3⟩, hv⟩ := row k hk
    have e : ∀ j v, j < l.length * 4 → w.cell? (ad.add j) = some v → (List.ofFn f)[j]? = some v := fun j v hj hc => by
      have h2 := hcell j _ (hget j hj)
      rw [hget j hj, opt_eq h2 hc]
    exact ⟨v0, v1, v2, v3, e _ _ (by omega) c0, e _ _ (by omega) c1, e _ _ (by omega) c2, e _ _ (by omega) c3, hv⟩

set_option maxRecDepth 100000 in
set_option maxHeartbeats 2000000 in
theorem cloneSl_c (l : List Sl) (A : Option Addr) (c L B : Nat) (w : World) (hB : B ≤ w.heap.size) (hl : l.length ≤ 1050000) (h : SlL w L B A l) :
    Calls Try.prog 107 #[.slice A l.length c] w fun r w' => ∃ v' xs, r = .returned v' ∧ w'.ownsRow w.heap.size 90 4 v' l.length xs ∧ xs.length = l.length * 4 ∧
      (∀ k (hk : k < l.length), ∃ v0 v1 v2 v3, xs[k * 4]? = some v0 ∧ xs[k * 4 + 1]? = some v1 ∧ xs[k * 4 + 2]? = some v2 ∧ xs[k * 4 + 3]? = some v3 ∧ SlV w L B v0 v1 v2 v3 l[k]) ∧ Below w.heap.size w w' := by
  obtain ⟨i0, hi, hz0, hz1, hz2⟩ := info_parts infoSl
  have qn : ∀ (w : World) (a : Option Addr) (n c n' c' : Nat), (binOp .eql 30 (.slice a n c) (.slice none n' c')).run Try.prog w = .ok (.bool a.isNone) w := fun w a n c n' c' => Lib.run_eql_slice_nil w _ _ a n c n' c' Try.underlying30
  cases A with
  | none =>
    have h0 : l = [] := by
      cases l with
      | nil => rfl
      | cons x r => obtain ⟨ad, e, _⟩ := h.2 (by simp); cases e
    subst h0
    go_enter Try.func107, Try.ntmps107
    go_wp2
    go_ret
    exact ⟨_, [], rfl, World.ownsRow_nil _ _ _ _, rfl, fun k hk => absurd hk (by simp), Below.refl _ _⟩
  | some ad =>
    have hb0 : Below w.heap.size w (w.alloc (.cells #[] 90)) := (Below.refl _ _).alloc (Nat.le_refl _) _
    obtain ⟨xs, hxl, hcs0, h1c, hall⟩ := Row4.vals h (by rintro v0 v1 v2 v3 x ⟨rfl, rfl, rfl, A', c', rfl, -⟩; exact ⟨rfl, rfl, rfl, rfl⟩)
    have hR := fun j u (hj : xs[j]? = some u) => hcs0 j u hj
    have hcs : ∀ j u, xs[j]? = some u → (w.alloc (.cells #[] 90)).cell? (ad.add j) = some u := fun j u hj => by
      have hjl : j < l.length * 4 := by rw [← hxl]; exact (List.getElem?_eq_some_iff.1 hj).1
      obtain ⟨ad', e, _, hb, _⟩ := h.2 (by omega)
      injection e with e
      subst e
      have := hb0.cell (p := ad.add j) (by rw [block_of_add]; omega)
      rw [this]
      exact hcs0 j u hj
    have hO : (w.alloc (.cells #[] 90)).ownsRow w.heap.size 90 4 (.slice (some ⟨w.heap.size, 0, none⟩) 0 0) 0 [] :=
      ⟨rfl, .inr ⟨w.heap.size, 0, #[], rfl, Nat.le_refl _, Blk.new w _ _, Nat.le_refl _, Nat.zero_le _, rfl, rfl⟩⟩
    have HO := Lib.hid hO
    have Hcs := Lib.hid hcs
    have Hall := Lib.hid hall
    have Hxl := Lib.hid hxl
    have h4 : xs.length = l.length * 4 := hxl
    clear hO hR h hcs hcs0 hall hxl
    go_enter Try.func107, Try.ntmps107
    go_wp2_with (at_builtin; refine wpList_append_own _ rfl (.tmp 5) (.tmp 6) 30 rfl w.heap.size 90 i0 _ 4 48 Try.underlying30 hi hz0 hz1 hz2 rfl (by omega) _ _ _ rfl HO.out ad l.length c xs rfl (by omega) Hcs.out h1c (by unfold maxLen; omega) (by omega) (by simp) ?_; intro v2 w2 hown2 hg2 _)
    go_ret
    rw [Nat.zero_add, List.nil_append] at hown2
    have hbn : Below w.heap.size w w2 := hb0.grown hg2 (by simp) (fun g hg => by
      have h3 : (Value.slice (some ⟨w.heap.size, 0, none⟩) 0 0).ownBlock = some g := hg
      simp [Value.ownBlock] at h3
      omega)
    exact ⟨v2, xs, rfl, hown2, Hxl.out, Hall.out, hbn⟩

set_option maxRecDepth 100000 in
set_option maxHeartbeats 2000000 in
theorem cloneFd_c (l : List Fd) (A : Option Addr) (c L B : Nat) (w : World) (hB : B ≤ w.heap.size) (hl : l.length ≤ 1050000) (h : FdL w L B A l) :
    Calls Try.prog 109 #[.slice A l.length c] w fun r w' => ∃ v' xs, r = .returned v' ∧ w'.ownsRow w.heap.size 92 4 v' l.length xs ∧ xs.length = l.length * 4 ∧
      (∀ k (hk : k < l.length), ∃ v0 v1 v2 v3, xs[k * 4]? = some v0 ∧ xs[k * 4 + 1]? = some v1 ∧ xs[k * 4 + 2]? = some v2 ∧ xs[k * 4 + 3]? = some v3 ∧ FdV w L B v0 v1 v2 v3 l[k]) ∧ Below w.heap.size w w' := by
  obtain ⟨i0, hi, hz0, hz1, hz2⟩ := info_parts infoFd
  have qn : ∀ (w : World) (a : Option Addr) (n c n' c' : Nat), (binOp .eql 88 (.slice a n c) (.slice none n' c')).run Try.prog w = .ok (.bool a.isNone) w := fun w a n c n' c' => Lib.run_eql_slice_nil w _ _ a n c n' c' Try.underlying88
  cases A with
  | none =>
    have h0 : l = [] := by
      cases l with
      | nil => rfl
      | cons x r => obtain ⟨ad, e, _⟩ := h.2 (by simp); cases e
    subst h0
    go_enter Try.func109, Try.ntmps109
    go_wp2
    go_ret
    exact ⟨_, [], rfl, World.ownsRow_nil _ _ _ _, rfl, fun k hk => absurd hk (by simp), Below.refl _ _⟩
  | some ad =>
    have hb0 : Below w.heap.size w (w.alloc (.cells #[] 92)) := (Below.refl _ _).alloc (Nat.le_refl _) _
    obtain ⟨xs, hxl, hcs0, h1c, hall⟩ := Row4.vals h (by rintro v0 v1 v2 v3 x ⟨A', c', rfl, -, -, rfl, rfl, rfl⟩; exact ⟨rfl, rfl, rfl, rfl⟩)
    have hR := fun j u (hj : xs[j]? = some u) => hcs0 j u hj
    have hcs : ∀ j u, xs[j]? = some u → (w.alloc (.cells #[] 92)).cell? (ad.add j) = some u := fun j u hj => by
      have hjl : j < l.length * 4 := by rw [← hxl]; exact (List.getElem?_eq_some_iff.1 hj).1
      obtain ⟨ad', e, _, hb, _⟩ := h.2 (by omega)
      injection e with e
      subst e
      have := hb0.cell (p := ad.add j) (by rw [block_of_add]; omega)
      rw [this]
      exact hcs0 j u hj
    have hO : (w.alloc (.cells #[] 92)).ownsRow w.heap.size 92 4 (.slice (some ⟨w.heap.size, 0, none⟩) 0 0) 0 [] :=
      ⟨rfl, .inr ⟨w.heap.size, 0, #[], rfl, Nat.le_refl _, Blk.new w _ _, Nat.le_refl _, Nat.zero_le _, rfl, rfl⟩⟩
    have HO := Lib.hid hO
    have Hcs := Lib.hid hcs
    have Hall := Lib.hid hall
    have Hxl := Lib.hid hxl
    have h4 : xs.length = l.length * 4 := hxl
    clear hO hR h hcs hcs0 hall hxl
    go_enter Try.func109, Try.ntmps109
    go_wp2_with (at_builtin; refine wpList_append_own _ rfl (.tmp 5) (.tmp 6) 88 rfl w.heap.size 92 i0 _ 4 48 Try.underlying88 hi hz0 hz1 hz2 rfl (by omega) _ _ _ rfl HO.out ad l.length c xs rfl (by omega) Hcs.out h1c (by unfold maxLen; omega) (by omega) (by simp) ?_; intro v2 w2 hown2 hg2 _)
    go_ret
    rw [Nat.zero_add, List.nil_append] at hown2
    have hbn : Below w.heap.size w w2 := hb0.grown hg2 (by simp) (fun g hg => by
      have h3 : (Value.slice (some ⟨w.heap.size, 0, none⟩) 0 0).ownBlock = some g := hg
      simp [Value.ownBlock] at h3
      omega)
    exact ⟨v2, xs, rfl, hown2, Hxl.out, Hall.out, hbn⟩
end Go.Proofs.Ytfmlgpnjckamjaa

namespace Go.Proofs.Ytfmlgpnjckamjaa
open Go.RowKit
set_option linter.unusedVariables false
set_option linter.unusedSimpArgs false

theorem infoU8_ : (Try.prog.info? 5).map (fun i => (i.zero, i.size, i.bytes)) = some (some (.int .u8 0), 1, 1) := by kernel_rfl
set_option maxRecDepth 100000 in
set_option maxHeartbeats 2000000 in
theorem bytesCloneB_c (l : List UInt8) (A : Option Addr) (c B : Nat) (w : World) (hB : B ≤ w.heap.size) (hl : l.length ≤ 1050000) (h : RB w B A l) :
    Calls Try.prog 87 #[.slice A l.length c] w fun r w' => ∃ A' c' g, r = .returned (.slice A' l.length c') ∧ ArnM.BkB w' w.heap.size A' g l ∧ Below w.heap.size w w' := by
  obtain ⟨i0, hi, hz0, hz1, hz2⟩ := info_parts infoU8_
  have qn : ∀ (w : World) (a : Option Addr) (n c n' c' : Nat), (binOp .eql 27 (.slice a n c) (.slice none n' c')).run Try.prog w = .ok (.bool a.isNone) w := fun w a n c n' c' => Lib.run_eql_slice_nil w _ _ a n c n' c' Try.underlying27
  cases A with
  | none =>
    have h0 : l = [] := by
      cases l with
      | nil => rfl
      | cons x r => obtain ⟨ad, e, _⟩ := h.2 (by simp); cases e
    subst h0
    go_enter Try.func87, Try.ntmps87
    go_wp2
    go_ret
    exact ⟨none, 0, 0, rfl, fun hn => by simp at hn, Below.refl _ _⟩
  | some ad =>
    have hb0 : Below w.heap.size w (w.alloc (.cells #[] 5)) := (Below.refl _ _).alloc (Nat.le_refl _) _
    have hR := h.below (hb0.mono hB)
    have hO : (w.alloc (.cells #[] 5)).ownsRow w.heap.size 5 1 (.slice (some ⟨w.heap.size, 0, none⟩) 0 0) 0 [] :=
      ⟨rfl, .inr ⟨w.heap.size, 0, #[], rfl, Nat.le_refl _, Blk.new w _ _, Nat.le_refl _, Nat.zero_le _, rfl, rfl⟩⟩
    have hcs : ∀ j u, (vb l)[j]? = some u → (w.alloc (.cells #[] 5)).cell? (ad.add j) = some u := fun j u hj => by
      have hjl : j < l.length := by rw [← vb_len l]; exact (List.getElem?_eq_some_iff.1 hj).1
      obtain ⟨ad', e, _, hc⟩ := hR.2 (by omega)
      injection e with e
      subst e
      have := hc j u hj
      simpa using this
    have HO := Lib.hid hO
    have Hcs := Lib.hid hcs
    clear hO hR h hcs
    go_enter Try.func87, Try.ntmps87
    go_wp2_with (at_builtin; refine wpList_append_own _ rfl (.tmp 5) (.tmp 6) 27 rfl w.heap.size 5 i0 _ 1 1 Try.underlying27 hi hz0 hz1 hz2 rfl (by omega) _ _ _ rfl HO.out ad l.length c (vb l) rfl (by rw [vb_len, Nat.mul_one]) Hcs.out (fun u hu => by obtain ⟨b, _, rfl⟩ := List.mem_map.1 hu; rfl) (by unfold maxLen; omega) (by omega) (by simp) ?_; intro v2 w2 hown2 hg2 _)
    go_ret
    rw [Nat.zero_add, List.nil_append] at hown2
    have hbn : Below w.heap.size w w2 := hb0.grown hg2 (by simp) (fun g hg => by
      have h3 : (Value.slice (some ⟨w.heap.size, 0, none⟩) 0 0).ownBlock = some g := hg
      simp [Value.ownBlock] at h3
      omega)
    rcases hown2.2 with ⟨h1, h0⟩ | ⟨g2, cap2, cur2, hv2, hge, hbk, _, _, _, htk⟩
    · exact ⟨none, 0, 0, by rw [h1, h0]; rfl, fun hn => by omega, hbn⟩
    · refine ⟨_, _, g2, by rw [hv2]; rfl, fun _ => ⟨rfl, hge, cur2, hbk, fun j hj => ?_⟩, hbn⟩
      have hu : (vb l)[j]? = some (.int .u8 l[j].toNat) := by rw [vb_get, List.getElem?_eq_getElem hj]; rfl
      rw [← htk, List.getElem?_take] at hu
      split at hu
      · simpa using hu
      · cases hu
end Go.Proofs.Ytfmlgpnjckamjaa

namespace Go.Proofs.Ytfmlgpnjckamjaa
open Go.RowKit
set_option linter.unusedVariables false
set_option linter.unusedSimpArgs false
namespace ArnM

/-- field i of the first copy: its name lies where it was -/
def RawF (w : World) (L B : Nat) (cs : Array Value) (i : Nat) (f : Fd) : Prop :=
  ∃ A c, cs[i * 4]? = some (.slice A f.name.length c) ∧ NmB w L B A f.name ∧ f.name.length ≤ maxLen ∧ cs[i * 4 + 1]? = some (.int .i64 f.k) ∧ cs[i * 4 + 2]? = some (.int .i64 f.n) ∧ cs[i * 4 + 3]? = some (.int .i64 f.g)
/-- the first m names are copied; all new blocks lie from s on and in the world -/
structure CpF (w : World) (s f L B : Nat) (l : List Fd) (nb : Nat → Nat) (m : Nat) : Prop where
  row : 0 < l.length → ∃ cs, Blk w f 92 cs ∧ ∀ i (h : i < l.length), (i < m → FdAt w s cs i (nb i) l[i]) ∧ (m ≤ i → RawF w L B cs i l[i])
  lt : ∀ i (h : i < l.length), i < m → 0 < l[i].name.length → nb i < w.heap.size
  one : ∀ i j (hi : i < l.length) (hj : j < l.length), i < m → j < m → i ≠ j → 0 < l[i].name.length → 0 < l[j].name.length → nb i ≠ nb j
def upd (nb : Nat → Nat) (m g : Nat) : Nat → Nat := fun i => if i = m then g else nb i
theorem upd_self (nb : Nat → Nat) (m g : Nat) : upd nb m g m = g := by simp [upd]
theorem upd_ne {nb : Nat → Nat} {m g i : Nat} (h : i ≠ m) : upd nb m g i = nb i := by simp [upd, h]
theorem CpF.step {w w1 : World} {s f L B m g c : Nat} {l : List Fd} {nb : Nat → Nat} {A : Option Addr} (h : CpF w s f L B l nb m) (hm : m < l.length) (hfs : f < s) (hsw : s ≤ w.heap.size) (hBw : B ≤ f) (hb : Below w.heap.size w w1) (hB : BkB w1 w.heap.size A g l[m].name) (hg : 0 < l[m].name.length → g < w1.heap.size) :
    CpF (w1.setCell ⟨f, m * 4, none⟩ (.slice A l[m].name.length c)) s f L B l (upd nb m g) (m + 1) := by
  have hset : Apart (fun b => b = f) w1 (w1.setCell ⟨f, m * 4, none⟩ (.slice A l[m].name.length c)) := (Apart.refl (fun b => b = f) w1).setCell (p := ⟨f, m * 4, none⟩) rfl _
  have hap : Apart (fun _ => False) w w1 := ⟨hb.os, hb.tape, hb.output, hb.size, fun k hk _ => hb.block k hk⟩
  have hgw : 0 < l[m].name.length → w.heap.size ≤ g := fun h0 => (hB h0).2.1
  refine ⟨fun h0 => ?_, fun i hi hi1 hn => ?_, fun i j hi hj hi1 hj1 hij hn1 hn2 => ?_⟩
  · obtain ⟨cs, hK, hat⟩ := h.row h0
    have hK1 := hK.apart hap (fun h => h)
    refine ⟨_, hK1.set_ (m * 4) _, fun i hi => ⟨fun hi1 => ?_, fun hi1 => ?_⟩⟩
    · by_cases e : i = m
      · subst e
        rw [upd_self]
        obtain ⟨_, _, c0, _, _, c1, c2, c3⟩ := (hat i hi).2 (Nat.le_refl _)
        have hs := some_lt c0
        refine ⟨A, c, Array.getElem?_setIfInBounds_self_of_lt hs, ?_, ?_, ?_, ?_⟩
        · exact (show BkB w1 s A g l[i].name from fun h0 => by obtain ⟨x1, x2, x3⟩ := hB h0; exact ⟨x1, Nat.le_trans hsw x2, x3⟩).apart hset (fun h0 e => by have := hgw h0; omega)
        · rw [Array.getElem?_setIfInBounds_ne (by omega)]; exact c1
        · rw [Array.getElem?_setIfInBounds_ne (by omega)]; exact c2
        · rw [Array.getElem?_setIfInBounds_ne (by omega)]; exact c3
      · rw [upd_ne e]
        have hf := (hat i hi).1 (by omega)
        have hlo : 0 < l[i].name.length → s ≤ nb i := fun h0 => by
          obtain ⟨_, _, _, hb', _⟩ := hf
          exact (hb' h0).2.1
        refine ((hf.apart hap (fun _ h => h)).apart hset (fun h0 e => by have := hlo h0; omega)).cells (fun j hj => ?_)
        rw [Array.getElem?_setIfInBounds_ne (by omega)]
    · obtain ⟨A', c', c0, hN, hl, c1, c2, c3⟩ := (hat i hi).2 (by omega)
      refine ⟨A', c', ?_, ?_, hl, ?_, ?_, ?_⟩
      · rw [Array.getElem?_setIfInBounds_ne (by omega)]; exact c0
      · refine hN.keep (fun p h1 h2 => ?_)
        have h3 : (w1.setCell ⟨f, m * 4, none⟩ (.slice A l[m].name.length c)).heap[p.block]? = w.heap[p.block]? := (hset.block p.block (by have := hb.size; omega) (by omega)).trans (hb.block p.block (by omega))
        unfold World.cell?
        rw [h3]
      · rw [Array.getElem?_setIfInBounds_ne (by omega)]; exact c1
      · rw [Array.getElem?_setIfInBounds_ne (by omega)]; exact c2
      · rw [Array.getElem?_setIfInBounds_ne (by omega)]; exact c3
  · rw [World.size_setCell]
    by_cases e : i = m
    · subst e; rw [upd_self]; exact hg hn
    · rw [upd_ne e]
      have := h.lt i hi (by omega) hn
      have := hb.size
      omega
  · by_cases e : i = m
    · subst e
      rw [upd_self, upd_ne (fun e => hij e.symm)]
      have := h.lt j hj (by omega) hn2
      have := hgw hn1
      omega
    · by_cases e2 : j = m
      · subst e2
        rw [upd_self, upd_ne e]
        have := h.lt i hi (by omega) hn1
        have := hgw hn2
        omega
      · rw [upd_ne e, upd_ne e2]
        exact h.one i j hi hj (by omega) (by omega) hij hn1 hn2
/-- the copy when it is done -/
theorem CpF.fin {w : World} {s f L B : Nat} {l : List Fd} {nb : Nat → Nat} (h : CpF w s f L B l nb l.length) (hfs : f < s) {A : Option Addr} (hA : 0 < l.length → A = some ⟨f, 0, none⟩) {lo : Nat} (hlo : lo ≤ f) : OwnFs w lo A l f nb := by
  refine ⟨fun h0 => ?_, fun i j hi hj hij h1 h2 => h.one i j hi hj hi hj hij h1 h2, fun i hi h0 e => ?_⟩
  · obtain ⟨cs, hK, hat⟩ := h.row h0
    refine ⟨hA h0, hlo, cs, hK, fun i hi => ?_⟩
    obtain ⟨A', c', c0, hB, c1⟩ := (hat i hi).1 hi
    exact ⟨A', c', c0, fun h0 => by obtain ⟨x1, x2, x3⟩ := hB h0; exact ⟨x1, by omega, x3⟩, c1⟩
  · obtain ⟨cs, hK, hat⟩ := h.row (by omega)
    obtain ⟨A', c', c0, hB, c1⟩ := (hat i hi).1 hi
    have := (hB h0).2.1
    omega
end ArnM
end Go.Proofs.Ytfmlgpnjckamjaa

namespace Go.Proofs.Ytfmlgpnjckamjaa
open Go.RowKit
set_option linter.unusedVariables false
set_option linter.unusedSimpArgs false
namespace ArnM

/-- slot i of the first copy: its fields lie where they were -/
def RawS (w : World) (L B : Nat) (cs : Array Value) (i : Nat) (s : Sl) : Prop :=
  cs[i * 4]? = some (.bool s.live) ∧ cs[i * 4 + 1]? = some (.int .i64 s.gen) ∧ cs[i * 4 + 2]? = some (.int .i64 s.count) ∧ ∃ A c, cs[i * 4 + 3]? = some (.slice A s.fs.length c) ∧ FdL w L B A s.fs
/-- the first m slots are copied; all new blocks lie from s on and in the world -/
structure CpS (w : World) (s g L B : Nat) (l : List Sl) (fb : Nat → Nat) (nb : Nat → Nat → Nat) (m : Nat) : Prop where
  row : 0 < l.length → ∃ cs, Blk w g 90 cs ∧ ∀ i (h : i < l.length), (i < m → SlAt w s cs i (fb i) (nb i) l[i]) ∧ (m ≤ i → RawS w L B cs i l[i])
  lt : ∀ i (h : i < l.length), i < m → ∀ b, blOf l[i] (fb i) (nb i) b → s ≤ b ∧ b < w.heap.size
  one : ∀ i j (hi : i < l.length) (hj : j < l.length), i < m → j < m → i ≠ j → ∀ b, blOf l[i] (fb i) (nb i) b → ¬ blOf l[j] (fb j) (nb j) b
def upd2 (nb : Nat → Nat → Nat) (m : Nat) (n : Nat → Nat) : Nat → Nat → Nat := fun i => if i = m then n else nb i
theorem upd2_self (nb : Nat → Nat → Nat) (m : Nat) (n : Nat → Nat) : upd2 nb m n m = n := by simp [upd2]
theorem upd2_ne {nb : Nat → Nat → Nat} {m : Nat} {n : Nat → Nat} {i : Nat} (h : i ≠ m) : upd2 nb m n i = nb i := by simp [upd2, h]
theorem OwnFs.lo_le {w : World} {lo lo' g : Nat} {nb : Nat → Nat} {A : Option Addr} {l : List Fd} (h : OwnFs w lo A l g nb) (hl : lo' ≤ lo) : OwnFs w lo' A l g nb :=
  ⟨fun h0 => by
    obtain ⟨h1, h2, cs, h3, h4⟩ := h.row h0
    exact ⟨h1, by omega, cs, h3, fun i hi => by
      obtain ⟨A', c', c0, hB, c1⟩ := h4 i hi
      exact ⟨A', c', c0, fun h0 => by obtain ⟨x1, x2, x3⟩ := hB h0; exact ⟨x1, by omega, x3⟩, c1⟩⟩, h.one, h.ne⟩
theorem OwnFs.lo_bl {w : World} {lo f : Nat} {n : Nat → Nat} {A : Option Addr} {s : Sl} (h : OwnFs w lo A s.fs f n) {b : Nat} (hb : blOf s f n b) : lo ≤ b := by
  rcases hb with ⟨h0, e⟩ | ⟨i, hi, h0, e⟩
  · rw [e]; exact (h.row h0).2.1
  · obtain ⟨_, _, cs, _, h4⟩ := h.row (by omega)
    obtain ⟨A', c', c0, hB, c1⟩ := h4 i hi
    rw [e]; exact (hB h0).2.1
theorem CpS.step {w w1 : World} {s g L B m f c : Nat} {l : List Sl} {fb : Nat → Nat} {nb : Nat → Nat → Nat} {n : Nat → Nat} {A : Option Addr} (h : CpS w s g L B l fb nb m) (hm : m < l.length) (hgs : g < s) (hsw : s ≤ w.heap.size) (hBg : B ≤ g) (hb : Below w.heap.size w w1) (hF : OwnFs w1 w.heap.size A l[m].fs f n) (hlt : ∀ b, blOf l[m] f n b → b < w1.heap.size) :
    CpS (w1.setCell ⟨g, m * 4 + 3, none⟩ (.slice A l[m].fs.length c)) s g L B l (upd fb m f) (upd2 nb m n) (m + 1) := by
  have hset : Apart (fun b => b = g) w1 (w1.setCell ⟨g, m * 4 + 3, none⟩ (.slice A l[m].fs.length c)) := (Apart.refl (fun b => b = g) w1).setCell (p := ⟨g, m * 4 + 3, none⟩) rfl _
  have hap : Apart (fun _ => False) w w1 := ⟨hb.os, hb.tape, hb.output, hb.size, fun k hk _ => hb.block k hk⟩
  have hbm : ∀ b, blOf l[m] f n b → w.heap.size ≤ b := fun b hb => hF.lo_bl hb
  refine ⟨fun h0 => ?_, fun i hi hi1 b hb1 => ?_, fun i j hi hj hi1 hj1 hij b h1 h2 => ?_⟩
  · obtain ⟨cs, hK, hat⟩ := h.row h0
    have hK1 := hK.apart hap (fun h => h)
    refine ⟨_, hK1.set_ (m * 4 + 3) _, fun i hi => ⟨fun hi1 => ?_, fun hi1 => ?_⟩⟩
    · by_cases e : i = m
      · subst e
        rw [upd_self, upd2_self]
        obtain ⟨c0, c1, c2, _, _, c3, _⟩ := (hat i hi).2 (Nat.le_refl _)
        have hs := some_lt c3
        refine ⟨?_, ?_, ?_, A, c, Array.getElem?_setIfInBounds_self_of_lt hs, ?_⟩
        · rw [Array.getElem?_setIfInBounds_ne (by omega)]; exact c0
        · rw [Array.getElem?_setIfInBounds_ne (by omega)]; exact c1
        · rw [Array.getElem?_setIfInBounds_ne (by omega)]; exact c2
        · exact (hF.lo_le hsw).apart_ hset (fun b hb e => by have := hbm b hb; omega)
      · rw [upd_ne e, upd2_ne e]
        have hl := h.lt i hi (by omega)
        refine ((((hat i hi).1 (by omega)).apart hap (fun _ _ h => h)).apart hset (fun b hb e => by have := (hl b hb).1; omega)).cells (fun j hj => ?_)
        rw [Array.getElem?_setIfInBounds_ne (by omega)]
    · obtain ⟨c0, c1, c2, A', c', c3, hN⟩ := (hat i hi).2 (by omega)
      refine ⟨?_, ?_, ?_, A', c', ?_, ?_⟩
      · rw [Array.getElem?_setIfInBounds_ne (by omega)]; exact c0
      · rw [Array.getElem?_setIfInBounds_ne (by omega)]; exact c1
      · rw [Array.getElem?_setIfInBounds_ne (by omega)]; exact c2
      · rw [Array.getElem?_setIfInBounds_ne (by omega)]; exact c3
      · refine hN.keep (fun p h1 h2 => ?_)
        have h3 : (w1.setCell ⟨g, m * 4 + 3, none⟩ (.slice A l[m].fs.length c)).heap[p.block]? = w.heap[p.block]? := (hset.block p.block (by have := hb.size; omega) (by omega)).trans (hb.block p.block (by omega))
        unfold World.cell?
        rw [h3]
  · rw [World.size_setCell]
    by_cases e : i = m
    · subst e; rw [upd_self, upd2_self] at hb1; exact ⟨Nat.le_trans hsw (hbm b hb1), hlt b hb1⟩
    · rw [upd_ne e, upd2_ne e] at hb1
      have := h.lt i hi (by omega) b hb1
      have := hb.size
      omega
  · by_cases e : i = m
    · subst e
      rw [upd_self, upd2_self] at h1
      rw [upd_ne (fun e => hij e.symm), upd2_ne (fun e => hij e.symm)] at h2
      have := h.lt j hj (by omega) b h2
      have := hbm b h1
      omega
    · by_cases e2 : j = m
      · subst e2
        rw [upd_self, upd2_self] at h2
        rw [upd_ne e, upd2_ne e] at h1
        have := h.lt i hi (by omega) b h1
        have := hbm b h2
        omega
      · rw [upd_ne e, upd2_ne e] at h1
        rw [upd_ne e2, upd2_ne e2] at h2
        exact h.one i j hi hj (by omega) (by omega) hij b h1 h2
/-- the copy when it is done -/
theorem CpS.fin {w : World} {s g L B : Nat} {l : List Sl} {fb : Nat → Nat} {nb : Nat → Nat → Nat} (h : CpS w s g L B l fb nb l.length) (hgs : g < s) {A : Option Addr} (hA : 0 < l.length → A = some ⟨g, 0, none⟩) {lo : Nat} (hlo : lo ≤ g) : OwnSls w lo A l g fb nb := by
  refine ⟨fun h0 => ?_, fun i j hi hj hij b h1 h2 => h.one i j hi hj hi hj hij b h1 h2, fun i hi b hb e => ?_⟩
  · obtain ⟨cs, hK, hat⟩ := h.row h0
    refine ⟨hA h0, hlo, cs, hK, fun i hi => ?_⟩
    obtain ⟨c0, c1, c2, A', c', c3, hF⟩ := (hat i hi).1 hi
    exact ⟨c0, c1, c2, A', c', c3, hF.lo_le (by omega)⟩
  · have := (h.lt i hi hi b hb).1
    omega
end ArnM
end Go.Proofs.Ytfmlgpnjckamjaa

namespace Go.Proofs.Ytfmlgpnjckamjaa
open Go.RowKit
set_option linter.unusedVariables false
set_option linter.unusedSimpArgs false

set_option maxRecDepth 100000 in
set_option maxHeartbeats 2000000 in
/-- slices.Clone of numbers -/
theorem cloneI_c (l : List Int) (A : Option Addr) (c L B : Nat) (w : World) (hB : B ≤ w.heap.size) (hl : l.length ≤ 100000000) (h : IL w L B A l) :
    Calls Try.prog 108 #[.slice A l.length c] w fun r w' => ∃ v', r = .returned v' ∧ IRow w' w.heap.size v' l ∧ Below w.heap.size w w' := by
  obtain ⟨i0, hi, hz0, hz1, hz2⟩ := info_parts infoI
  have qn : ∀ (w : World) (a : Option Addr) (n c n' c' : Nat), (binOp .eql 23 (.slice a n c) (.slice none n' c')).run Try.prog w = .ok (.bool a.isNone) w := fun w a n c n' c' => Lib.run_eql_slice_nil w _ _ a n c n' c' Try.underlying23
  cases A with
  | none =>
    have h0 : l = [] := by
      cases l with
      | nil => rfl
      | cons x r => obtain ⟨ad, e, _⟩ := h.2 (by simp); cases e
    subst h0
    go_enter Try.func108, Try.ntmps108
    go_wp2
    go_ret
    exact ⟨_, rfl, IRow.nil _ _, Below.refl _ _⟩
  | some ad =>
    have hb0 : Below w.heap.size w (w.alloc (.cells #[] 3)) := (Below.refl _ _).alloc (Nat.le_refl _) _
    have hR := h.below (hb0.mono hB)
    have hcs : ∀ j u, (vi l)[j]? = some u → (w.alloc (.cells #[] 3)).cell? (ad.add j) = some u := fun j u hj => by
      have hjl : j < l.length := by
        rcases Nat.lt_or_ge j l.length with h1 | h1
        · exact h1
        · rw [List.getElem?_eq_none (by rw [vi_len]; exact h1)] at hj; cases hj
      obtain ⟨ad', e, _, _, hc⟩ := hR.2 (by omega)
      cases e
      rw [vi_get, List.getElem?_eq_getElem hjl] at hj
      rw [hc j hjl]
      simpa using hj
    have hO : (w.alloc (.cells #[] 3)).ownsRow w.heap.size 3 1 (.slice (some ⟨w.heap.size, 0, none⟩) 0 0) 0 [] :=
      ⟨rfl, .inr ⟨w.heap.size, 0, #[], rfl, Nat.le_refl _, Blk.new w _ _, Nat.le_refl _, Nat.zero_le _, rfl, rfl⟩⟩
    have HO := Lib.hid hO
    have Hcs := Lib.hid hcs
    have h1c := one_vi l
    have hll := vi_len l
    clear hO hR h hcs
    obtain ⟨xs, hxs⟩ : ∃ xs, xs = vi l := ⟨_, rfl⟩
    rw [← hxs] at Hcs h1c hll
    have Hxs := Lib.hid hxs
    clear hxs
    go_enter Try.func108, Try.ntmps108
    go_wp2_with (at_builtin; refine wpList_append_own _ rfl (.tmp 5) (.tmp 6) 23 rfl w.heap.size 3 i0 _ 1 8 Try.underlying23 hi hz0 hz1 hz2 rfl (by omega) _ _ _ rfl HO.out ad l.length c xs rfl (by omega) Hcs.out h1c (by unfold maxLen; omega) (by omega) (by simp) ?_; intro v2 w2 hown2 hg2 _)
    go_ret
    rw [Nat.zero_add, List.nil_append] at hown2
    have hbn : Below w.heap.size w w2 := hb0.grown hg2 (by simp) (fun g hg => by
      have h3 : (Value.slice (some ⟨w.heap.size, 0, none⟩) 0 0).ownBlock = some g := hg
      simp [Value.ownBlock] at h3
      omega)
    exact ⟨v2, rfl, by unfold IRow; rw [← Hxs.out]; exact hown2, hbn⟩
end Go.Proofs.Ytfmlgpnjckamjaa

namespace Go.Proofs.Ytfmlgpnjckamjaa
open Go.RowKit
set_option linter.unusedVariables false
namespace ArnM

/-- a clone of slots: their fields lie where they were -/
def StS (w : World) (lo L B : Nat) (A : Option Addr) (g : Nat) (l : List Sl) : Prop :=
  B ≤ w.heap.size ∧ (0 < l.length → A = some ⟨g, 0, none⟩ ∧ lo ≤ g ∧ g < w.heap.size ∧ ∃ cs, Blk w g 90 cs ∧ ∀ i (h : i < l.length), RawS w L B cs i l[i])
/-- a clone of fields: their names lie where they were -/
def StF (w : World) (lo L B : Nat) (A : Option Addr) (g : Nat) (l : List Fd) : Prop :=
  B ≤ w.heap.size ∧ (0 < l.length → A = some ⟨g, 0, none⟩ ∧ lo ≤ g ∧ g < w.heap.size ∧ ∃ cs, Blk w g 92 cs ∧ ∀ i (h : i < l.length), RawF w L B cs i l[i])
theorem RawS.below {w w' : World} {L B i : Nat} {cs : Array Value} {s : Sl} (h : RawS w L B cs i s) (hb : Below B w w') : RawS w' L B cs i s := by
  obtain ⟨c0, c1, c2, A, c, c3, hF⟩ := h
  exact ⟨c0, c1, c2, A, c, c3, hF.below hb⟩
theorem RawF.below {w w' : World} {L B i : Nat} {cs : Array Value} {f : Fd} (h : RawF w L B cs i f) (hb : Below B w w') : RawF w' L B cs i f := by
  obtain ⟨A, c, c0, hN, hl, c1, c2, c3⟩ := h
  exact ⟨A, c, c0, hN.keep (fun _ _ hp => hb.cell hp), hl, c1, c2, c3⟩
theorem StS.below {w w' : World} {lo L B g : Nat} {A : Option Addr} {l : List Sl} (h : StS w lo L B A g l) (hb : Below w.heap.size w w') : StS w' lo L B A g l := ⟨Nat.le_trans h.1 hb.size, fun h0 => by
  obtain ⟨e, hl, hg, cs, hK, hR⟩ := h.2 h0
  exact ⟨e, hl, Nat.lt_of_lt_of_le hg hb.size, cs, hK.below hb hg, fun i hi => (hR i hi).below (hb.mono h.1)⟩⟩
theorem StS.lo_le {w : World} {lo lo' L B g : Nat} {A : Option Addr} {l : List Sl} (h : StS w lo L B A g l) (hl : lo' ≤ lo) : StS w lo' L B A g l := ⟨h.1, fun h0 => by
  obtain ⟨e, hg, h2⟩ := h.2 h0
  exact ⟨e, Nat.le_trans hl hg, h2⟩⟩
theorem StS.far {w : World} {lo L B g gb : Nat} {A : Option Addr} {l : List Sl} {t : TypeId} {bs : Array Value} (h : StS w lo L B A g l) (hb : Blk w gb t bs) (hne : t ≠ 90) (hBg : B ≤ gb) (i : Nat) (v : Value) : StS (w.setCell ⟨gb, i, none⟩ v) lo L B A g l := ⟨by rw [World.size_setCell]; exact h.1, fun h0 => by
  obtain ⟨e, hl, hg, cs, hK, hR⟩ := h.2 h0
  exact ⟨e, hl, by rw [World.size_setCell]; exact hg, cs, hK.far (p := ⟨gb, i, none⟩) (hK.ne_ hb (Ne.symm hne)) v, fun j hj => (hR j hj).below ((Below.refl B w).setCell (p := ⟨gb, i, none⟩) hBg v)⟩⟩
theorem own_take {xs : List Value} {cur : Array Value} {n i : Nat} {v : Value} (h4 : cur.toList.take n = xs) (hi : i < n) (h : xs[i]? = some v) : cur[i]? = some v := by
  rw [← h4, List.getElem?_take_of_lt hi] at h
  simpa using h
/-- from slices.Clone of slots -/
theorem StS.of {w w' : World} {L B : Nat} {v : Value} {xs : List Value} {l : List Sl} (hown : w'.ownsRow w.heap.size 90 4 v l.length xs)
    (hall : ∀ k (hk : k < l.length), ∃ v0 v1 v2 v3, xs[k * 4]? = some v0 ∧ xs[k * 4 + 1]? = some v1 ∧ xs[k * 4 + 2]? = some v2 ∧ xs[k * 4 + 3]? = some v3 ∧ SlV w L B v0 v1 v2 v3 l[k]) (hb : Below w.heap.size w w') (hB : B ≤ w.heap.size) :
    ∃ A c g, v = .slice A l.length c ∧ StS w' w.heap.size L B A g l := by
  rcases hown.2 with ⟨hv, h0⟩ | ⟨g, cap, cur, hv, hlo, hh, h1, h2, h3, h4⟩
  · exact ⟨none, 0, 0, by rw [h0]; exact hv, Nat.le_trans hB hb.size, fun hn => by omega⟩
  · refine ⟨_, _, g, hv, Nat.le_trans hB hb.size, fun hn => ⟨rfl, hlo, Blk.lt hh, cur, hh, fun i hi => ?_⟩⟩
    obtain ⟨v0, v1, v2, v3, e0, e1, e2, e3, rfl, rfl, rfl, A, c, rfl, hF⟩ := hall i hi
    exact ⟨own_take h4 (by omega) e0, own_take h4 (by omega) e1, own_take h4 (by omega) e2, A, c, own_take h4 (by omega) e3, hF.below (hb.mono hB)⟩
/-- from slices.Clone of fields -/
theorem StF.of {w w' : World} {L B : Nat} {v : Value} {xs : List Value} {l : List Fd} (hown : w'.ownsRow w.heap.size 92 4 v l.length xs)
    (hall : ∀ k (hk : k < l.length), ∃ v0 v1 v2 v3, xs[k * 4]? = some v0 ∧ xs[k * 4 + 1]? = some v1 ∧ xs[k * 4 + 2]? = some v2 ∧ xs[k * 4 + 3]? = some v3 ∧ FdV w L B v0 v1 v2 v3 l[k]) (hb : Below w.heap.size w w') (hB : B ≤ w.heap.size) :
    ∃ A c g, v = .slice A l.length c ∧ StF w' w.heap.size L B A g l := by
  rcases hown.2 with ⟨hv, h0⟩ | ⟨g, cap, cur, hv, hlo, hh, h1, h2, h3, h4⟩
  · exact ⟨none, 0, 0, by rw [h0]; exact hv, Nat.le_trans hB hb.size, fun hn => by omega⟩
  · refine ⟨_, _, g, hv, Nat.le_trans hB hb.size, fun hn => ⟨rfl, hlo, Blk.lt hh, cur, hh, fun i hi => ?_⟩⟩
    obtain ⟨v0, v1, v2, v3, e0, e1, e2, e3, A, c, rfl, hN, hm, rfl, rfl, rfl⟩ := hall i hi
    exact ⟨A, c, own_take h4 (by omega) e0, hN.keep (fun _ _ hp => (hb.mono hB).cell hp), hm, own_take h4 (by omega) e1, own_take h4 (by omega) e2, own_take h4 (by omega) e3⟩
/-- from slices.Clone of numbers -/
theorem BkI.of {w : World} {lo : Nat} {v : Value} {l : List Int} (h : IRow w lo v l) : ∃ A c g, v = .slice A l.length c ∧ BkI w lo A g l ∧ (0 < l.length → g < w.heap.size) := by
  rcases h.2 with ⟨hv, h0⟩ | ⟨g, cap, cur, hv, hlo, hh, h1, h2, h3, h4⟩
  · exact ⟨none, 0, 0, by rw [h0]; exact hv, fun hn => by omega, fun hn => by omega⟩
  · refine ⟨_, _, g, hv, fun hn => ⟨rfl, hlo, cur, hh, fun j hj => ?_⟩, fun _ => Blk.lt hh⟩
    exact own_take h4 (by omega) (by rw [vi_get, List.getElem?_eq_getElem hj]; rfl)
theorem BkI.below {w w' : World} {lo g : Nat} {A : Option Addr} {l : List Int} (h : BkI w lo A g l) (hb : Below w.heap.size w w') : BkI w' lo A g l := fun h0 => by
  obtain ⟨e, hl, cs, hK, hc⟩ := h h0
  exact ⟨e, hl, cs, hK.below hb hK.lt, hc⟩
theorem BkI.lo_le {w : World} {lo lo' g : Nat} {A : Option Addr} {l : List Int} (h : BkI w lo A g l) (hl : lo' ≤ lo) : BkI w lo' A g l := fun h0 => by
  obtain ⟨e, h1, h2⟩ := h h0
  exact ⟨e, Nat.le_trans hl h1, h2⟩
theorem BkI.far {w : World} {lo g gb : Nat} {A : Option Addr} {l : List Int} {t : TypeId} {bs : Array Value} (h : BkI w lo A g l) (hb : Blk w gb t bs) (hne : t ≠ 3) (i : Nat) (v : Value) : BkI (w.setCell ⟨gb, i, none⟩ v) lo A g l := fun h0 => by
  obtain ⟨e, hl, cs, hK, hc⟩ := h h0
  exact ⟨e, hl, cs, hK.far (p := ⟨gb, i, none⟩) (hK.ne_ hb (Ne.symm hne)) v, hc⟩
/-- the copies' beginnings -/
theorem CpS.start {w : World} {lo L B g s : Nat} {A : Option Addr} {l : List Sl} (h : StS w lo L B A g l) (fb : Nat → Nat) (nb : Nat → Nat → Nat) : CpS w s g L B l fb nb 0 :=
  ⟨fun h0 => by obtain ⟨_, _, _, cs, hK, hR⟩ := h.2 h0; exact ⟨cs, hK, fun i hi => ⟨fun h => by omega, fun _ => hR i hi⟩⟩, fun i hi h => by omega, fun i j hi hj h => by omega⟩
theorem CpF.start {w : World} {lo L B g s : Nat} {A : Option Addr} {l : List Fd} (h : StF w lo L B A g l) (nb : Nat → Nat) : CpF w s g L B l nb 0 :=
  ⟨fun h0 => by obtain ⟨_, _, _, cs, hK, hR⟩ := h.2 h0; exact ⟨cs, hK, fun i hi => ⟨fun h => by omega, fun _ => hR i hi⟩⟩, fun i hi h => by omega, fun i j hi hj h => by omega⟩
end ArnM
end Go.Proofs.Ytfmlgpnjckamjaa
