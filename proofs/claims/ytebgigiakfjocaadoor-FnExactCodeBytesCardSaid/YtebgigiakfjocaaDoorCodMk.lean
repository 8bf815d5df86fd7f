/-
  Marks that are written all over a copy: what lies outside stays, and so do the shapes; blocks that are new.
-/
import Derived.Test.YtebgigiakfjocaaDoorUnitTo
namespace Go.Proofs.YtebgigiakfjocaaDoor
open Go.RowKit
set_option linter.unusedVariables false
namespace CodM

/-- a cell's number, byte or bool has been overwritten by one of its kind, or nothing -/
def MkC (a b : Option Value) : Prop := b = a ∨ (∃ x y : Int, a = some (.int .i64 x) ∧ b = some (.int .i64 y)) ∨ (∃ x y : UInt8, a = some (.int .u8 x.toNat) ∧ b = some (.int .u8 y.toNat)) ∨ (∃ x y : Bool, a = some (.bool x) ∧ b = some (.bool y))
theorem MkC.slice {a b : Option Value} {A : Option Addr} {n c : Nat} (h : MkC a b) (ha : a = some (.slice A n c)) : b = some (.slice A n c) := by
  rcases h with rfl | ⟨x, y, rfl, rfl⟩ | ⟨x, y, rfl, rfl⟩ | ⟨x, y, rfl, rfl⟩
  · exact ha
  · cases ha
  · cases ha
  · cases ha
theorem MkC.i64 {a b : Option Value} {x : Int} (h : MkC a b) (ha : a = some (.int .i64 x)) : ∃ y, b = some (.int .i64 y) := by
  rcases h with rfl | ⟨x', y, rfl, rfl⟩ | ⟨x', y, rfl, rfl⟩ | ⟨x', y, rfl, rfl⟩
  · exact ⟨x, ha⟩
  · exact ⟨y, rfl⟩
  · injection ha with e; injection e with e _; cases e
  · cases ha
theorem MkC.u8 {a b : Option Value} {x : UInt8} (h : MkC a b) (ha : a = some (.int .u8 x.toNat)) : ∃ y : UInt8, b = some (.int .u8 y.toNat) := by
  rcases h with rfl | ⟨x', y, rfl, rfl⟩ | ⟨x', y, rfl, rfl⟩ | ⟨x', y, rfl, rfl⟩
  · exact ⟨x, ha⟩
  · injection ha with e; injection e with e _; cases e
  · exact ⟨y, rfl⟩
  · cases ha
theorem MkC.bool {a b : Option Value} {x : Bool} (h : MkC a b) (ha : a = some (.bool x)) : ∃ y : Bool, b = some (.bool y) := by
  rcases h with rfl | ⟨x', y, rfl, rfl⟩ | ⟨x', y, rfl, rfl⟩ | ⟨x', y, rfl, rfl⟩
  · exact ⟨x, ha⟩
  · cases ha
  · cases ha
  · exact ⟨y, rfl⟩
theorem MkC.trans {a b c : Option Value} (h : MkC a b) (k : MkC b c) : MkC a c := by
  rcases h with rfl | ⟨x, y, rfl, rfl⟩ | ⟨x, y, rfl, rfl⟩ | ⟨x, y, rfl, rfl⟩
  · exact k
  · obtain ⟨z, hz⟩ := k.i64 rfl
    exact .inr (.inl ⟨x, z, rfl, hz⟩)
  · obtain ⟨z, hz⟩ := k.u8 rfl
    exact .inr (.inr (.inl ⟨x, z, rfl, hz⟩))
  · obtain ⟨z, hz⟩ := k.bool rfl
    exact .inr (.inr (.inr ⟨x, z, rfl, hz⟩))
theorem MkC.u8_ (x : UInt8) (n : Nat) : MkC (some (.int .u8 x.toNat)) (some (.int .u8 ((n % 256 : Nat) : Int))) :=
  .inr (.inr (.inl ⟨x, UInt8.ofNat n, rfl, by simp⟩))
theorem MkC.i64_ (x y : Int) : MkC (some (.int .i64 x)) (some (.int .i64 y)) := .inr (.inl ⟨x, y, rfl, rfl⟩)
theorem MkC.bool_ (x y : Bool) : MkC (some (.bool x)) (some (.bool y)) := .inr (.inr (.inr ⟨x, y, rfl, rfl⟩))

/-- marks in the blocks from L to B, and nowhere else -/
structure Mk (L B : Nat) (w w' : World) : Prop where
  os : w'.os = w.os
  tape : w'.tape = w.tape
  output : w'.output = w.output
  size : w'.heap.size = w.heap.size
  block : ∀ k, (k < L ∨ B ≤ k) → w'.heap[k]? = w.heap[k]?
  frozen : ∀ p, w'.frozen? p = w.frozen? p
  cell : ∀ p, MkC (w.cell? p) (w'.cell? p)
/-- no block from L to B is frozen -/
def Thaw (L B : Nat) (w : World) : Prop := ∀ k, L ≤ k → k < B → ∃ cs t, w.heap[k]? = some (.cells cs t)
section
variable {L B : Nat} {w w' w2 : World}
theorem Mk.refl (L B : Nat) (w : World) : Mk L B w w := ⟨rfl, rfl, rfl, rfl, fun _ _ => rfl, fun _ => rfl, fun _ => .inl rfl⟩
theorem Mk.trans (h : Mk L B w w') (k : Mk L B w' w2) : Mk L B w w2 :=
  ⟨k.os.trans h.os, k.tape.trans h.tape, k.output.trans h.output, k.size.trans h.size, fun i hi => (k.block i hi).trans (h.block i hi), fun p => (k.frozen p).trans (h.frozen p), fun p => (h.cell p).trans (k.cell p)⟩
theorem Mk.below (h : Mk L B w w') : Below L w w' := ⟨h.os, h.tape, h.output, by rw [h.size]; exact Nat.le_refl _, fun k hk => h.block k (.inl hk)⟩
theorem cell_set {p : Addr} {x v : Value} (h : w.cell? p = some x) (q : Addr) : (w.setCell p v).cell? q = w.cell? q ∨ ((w.setCell p v).cell? q = some v ∧ w.cell? q = some x) := by
  unfold World.cell? at h
  cases hb : w.heap[p.block]? with
  | none => rw [hb] at h; cases h
  | some o =>
    rw [hb] at h
    cases o with
    | cells c t fz =>
      simp only at h
      cases hs : p.spot with
      | some sp => rw [hs] at h; cases h
      | none =>
        rw [hs] at h
        simp only [Option.isSome_none, Bool.false_eq_true, if_false] at h
        by_cases hq : q.block = p.block
        · have e : (w.setCell p v).heap[q.block]? = some (.cells (c.setIfInBounds p.off v) t fz) := by
            unfold World.setCell
            rw [hq, Array.getElem?_modify, hb]
            simp [hs]
          unfold World.cell?
          rw [e, hq, hb]
          cases hsq : q.spot with
          | some sp => left; rfl
          | none =>
            simp only [Option.isSome_none, Bool.false_eq_true, if_false]
            by_cases ho : q.off = p.off
            · right
              rw [ho]
              have hlt : p.off < c.size := (Array.getElem?_eq_some_iff.1 h).1
              exact ⟨by simp [hlt], h⟩
            · left
              rw [Array.getElem?_setIfInBounds, if_neg (fun e => ho e.symm)]
        · left
          exact World.cell?_of_block (Below.heap_setCell w p v q.block hq)
    | _ => cases h
theorem frozen_set (p : Addr) (v : Value) (q : Addr) : (w.setCell p v).frozen? q = w.frozen? q := by
  unfold World.frozen?
  by_cases hq : q.block = p.block
  · unfold World.setCell
    rw [hq]
    simp only [Array.getElem?_modify]
    cases hb : w.heap[p.block]? with
    | none => simp
    | some o => cases o <;> simp
  · rw [Below.heap_setCell w p v q.block hq]
theorem Mk.set_ {p : Addr} {x v : Value} (hL : L ≤ p.block) (hB : p.block < B) (h : w.cell? p = some x) (hk : MkC (some x) (some v)) : Mk L B w (w.setCell p v) :=
  ⟨rfl, rfl, rfl, by rw [World.size_setCell], fun k hk' => Below.heap_setCell w p v k (by omega), fun q => frozen_set p v q, fun q => by
    rcases cell_set (v := v) h q with e | ⟨e1, e2⟩
    · exact .inl e
    · rw [e1, e2]; exact hk⟩
theorem thaw_frozen (h : Thaw L B w) {p : Addr} (hL : L ≤ p.block) (hB : p.block < B) : w.frozen? p = false := by
  obtain ⟨cs, t, e⟩ := h p.block hL hB
  unfold World.frozen?
  rw [e]
  simp
theorem Thaw.set_ (h : Thaw L B w) (p : Addr) (v : Value) : Thaw L B (w.setCell p v) := fun k hk hB => by
  obtain ⟨cs, t, e⟩ := h k hk hB
  by_cases hp : p.block = k
  · subst hp
    refine ⟨(if p.spot.isSome then cs else cs.setIfInBounds p.off v), t, ?_⟩
    unfold World.setCell
    rw [Array.getElem?_modify]
    simp [e]
  · exact ⟨cs, t, (Below.heap_setCell w p v k (fun e => hp e.symm)).trans e⟩
end

/-- bytes that have been marked are bytes, as many -/
theorem NmB.mk_ {L B : Nat} {w w' : World} {A : Option Addr} {l : List UInt8} (h : NmB w L B A l) (hm : Mk L B w w') : ∃ l' : List UInt8, l'.length = l.length ∧ NmB w' L B A l' := by
  by_cases hn : 0 < l.length
  · obtain ⟨ad, eA, hb, hc⟩ := h.1.2 hn
    obtain ⟨ad', eA', hL⟩ := h.2 hn
    have each : ∀ k, k < l.length → ∃ y : UInt8, w'.cell? (ad.add k) = some (.int .u8 y.toNat) := fun k hk => by
      have h1 := hc k (.int .u8 l[k].toNat) (by rw [vb_get, List.getElem?_eq_getElem hk]; rfl)
      exact (hm.cell (ad.add k)).u8 h1
    let f : Fin l.length → UInt8 := fun i => Classical.choose (each i.1 i.2)
    have hfl : (List.ofFn f).length = l.length := by simp
    refine ⟨List.ofFn f, hfl, ⟨by rw [vb_len, Nat.mul_one], fun _ => ⟨ad, eA, hb, fun k u hu => ?_⟩⟩, fun _ => ⟨ad', eA', hL⟩⟩
    have hk : k < l.length := by rw [← hfl, ← vb_len]; exact (List.getElem?_eq_some_iff.1 hu).1
    rw [vb_get, List.getElem?_eq_getElem (by rw [hfl]; exact hk)] at hu
    have e : (List.ofFn f)[k]'(by rw [hfl]; exact hk) = f ⟨k, hk⟩ := by simp
    rw [e] at hu
    injection hu with hu
    rw [← hu]
    exact Classical.choose_spec (each k hk)
  · have h0 : l = [] := by cases l with | nil => rfl | cons x r => simp at hn
    subst h0
    exact ⟨[], rfl, ⟨h.1.1, fun hp => by simp at hp⟩, h.2⟩

/-- a row of things of 3 cells, marked -/
theorem row_mk3 {α : Type} {V V' : Value → Value → Value → α → Prop} {R : α → α → Prop} {L B : Nat} {w w' : World} {A : Option Addr} {l : List α} (h : Row3 V w L B A l) (hm : Mk L B w w')
    (hV : ∀ v0 v1 v2 x, V v0 v1 v2 x → ∀ u0 u1 u2, MkC (some v0) (some u0) → MkC (some v1) (some u1) → MkC (some v2) (some u2) → ∃ y, V' u0 u1 u2 y ∧ R x y)
    (hsome : ∀ v b, MkC (some v) b → ∃ u, b = some u) :
    ∃ l' : List α, ∃ hl : l'.length = l.length, Row3 V' w' L B A l' ∧ ∀ i (hi : i < l.length), R l[i] (l'[i]'(by omega)) := by
  by_cases hn : 0 < l.length
  · obtain ⟨ad, eA, hL, hB, hs⟩ := h.2 hn
    have each : ∀ i (hi : i < l.length), ∃ y, (∃ u0 u1 u2, C3 w' (ad.add (i * 3)) u0 u1 u2 ∧ V' u0 u1 u2 y) ∧ R l[i] y := fun i hi => by
      obtain ⟨v0, v1, v2, ⟨c0, c1, c2⟩, hv⟩ := hs i hi
      have m0 := hm.cell (ad.add (i * 3))
      have m1 := hm.cell ⟨(ad.add (i * 3)).block, (ad.add (i * 3)).off + 1, none⟩
      have m2 := hm.cell ⟨(ad.add (i * 3)).block, (ad.add (i * 3)).off + 2, none⟩
      rw [c0] at m0
      rw [c1] at m1
      rw [c2] at m2
      obtain ⟨u0, e0⟩ := hsome _ _ m0
      obtain ⟨u1, e1⟩ := hsome _ _ m1
      obtain ⟨u2, e2⟩ := hsome _ _ m2
      rw [e0] at m0
      rw [e1] at m1
      rw [e2] at m2
      obtain ⟨y, hy, hr⟩ := hV v0 v1 v2 _ hv u0 u1 u2 m0 m1 m2
      exact ⟨y, ⟨u0, u1, u2, ⟨e0, e1, e2⟩, hy⟩, hr⟩
    let f : Fin l.length → α := fun i => Classical.choose (each i.1 i.2)
    have hfl : (List.ofFn f).length = l.length := by simp
    refine ⟨List.ofFn f, hfl, ⟨by rw [hfl]; exact h.1, fun _ => ⟨ad, eA, hL, hB, fun i hi => ?_⟩⟩, fun i hi => ?_⟩
    · have hi' : i < l.length := by rw [← hfl]; exact hi
      have hs := (Classical.choose_spec (each i hi')).1
      have e : (List.ofFn f)[i] = f ⟨i, hi'⟩ := by simp
      rw [e]
      exact hs
    · have e : (List.ofFn f)[i]'(by rw [hfl]; exact hi) = f ⟨i, hi⟩ := by simp
      rw [e]
      exact (Classical.choose_spec (each i hi)).2
  · have h0 : l = [] := List.eq_nil_of_length_eq_zero (by omega)
    subst h0
    exact ⟨[], rfl, Row3.none_ _ _ _ _ _, fun i hi => absurd hi (by simp)⟩
/-- a row of things of 5 cells, marked -/
theorem row_mk5 {α : Type} {V V' : Value → Value → Value → Value → Value → α → Prop} {R : α → α → Prop} {L B : Nat} {w w' : World} {A : Option Addr} {l : List α} (h : Row5 V w L B A l) (hm : Mk L B w w')
    (hV : ∀ v0 v1 v2 v3 v4 x, V v0 v1 v2 v3 v4 x → ∀ u0 u1 u2 u3 u4, MkC (some v0) (some u0) → MkC (some v1) (some u1) → MkC (some v2) (some u2) → MkC (some v3) (some u3) → MkC (some v4) (some u4) → ∃ y, V' u0 u1 u2 u3 u4 y ∧ R x y)
    (hsome : ∀ v b, MkC (some v) b → ∃ u, b = some u) :
    ∃ l' : List α, ∃ hl : l'.length = l.length, Row5 V' w' L B A l' ∧ ∀ i (hi : i < l.length), R l[i] (l'[i]'(by omega)) := by
  by_cases hn : 0 < l.length
  · obtain ⟨ad, eA, hL, hB, hs⟩ := h.2 hn
    have each : ∀ i (hi : i < l.length), ∃ y, (∃ u0 u1 u2 u3 u4, C5 w' (ad.add (i * 5)) u0 u1 u2 u3 u4 ∧ V' u0 u1 u2 u3 u4 y) ∧ R l[i] y := fun i hi => by
      obtain ⟨v0, v1, v2, v3, v4, ⟨c0, c1, c2, c3, c4⟩, hv⟩ := hs i hi
      have m0 := hm.cell (ad.add (i * 5))
      have m1 := hm.cell ⟨(ad.add (i * 5)).block, (ad.add (i * 5)).off + 1, none⟩
      have m2 := hm.cell ⟨(ad.add (i * 5)).block, (ad.add (i * 5)).off + 2, none⟩
      have m3 := hm.cell ⟨(ad.add (i * 5)).block, (ad.add (i * 5)).off + 3, none⟩
      have m4 := hm.cell ⟨(ad.add (i * 5)).block, (ad.add (i * 5)).off + 4, none⟩
      rw [c0] at m0
      rw [c1] at m1
      rw [c2] at m2
      rw [c3] at m3
      rw [c4] at m4
      obtain ⟨u0, e0⟩ := hsome _ _ m0
      obtain ⟨u1, e1⟩ := hsome _ _ m1
      obtain ⟨u2, e2⟩ := hsome _ _ m2
      obtain ⟨u3, e3⟩ := hsome _ _ m3
      obtain ⟨u4, e4⟩ := hsome _ _ m4
      rw [e0] at m0
      rw [e1] at m1
      rw [e2] at m2
      rw [e3] at m3
      rw [e4] at m4
      obtain ⟨y, hy, hr⟩ := hV v0 v1 v2 v3 v4 _ hv u0 u1 u2 u3 u4 m0 m1 m2 m3 m4
      exact ⟨y, ⟨u0, u1, u2, u3, u4, ⟨e0, e1, e2, e3, e4⟩, hy⟩, hr⟩
    let f : Fin l.length → α := fun i => Classical.choose (each i.1 i.2)
    have hfl : (List.ofFn f).length = l.length := by simp
    refine ⟨List.ofFn f, hfl, ⟨by rw [hfl]; exact h.1, fun _ => ⟨ad, eA, hL, hB, fun i hi => ?_⟩⟩, fun i hi => ?_⟩
    · have hi' : i < l.length := by rw [← hfl]; exact hi
      have hs := (Classical.choose_spec (each i hi')).1
      have e : (List.ofFn f)[i] = f ⟨i, hi'⟩ := by simp
      rw [e]
      exact hs
    · have e : (List.ofFn f)[i]'(by rw [hfl]; exact hi) = f ⟨i, hi⟩ := by simp
      rw [e]
      exact (Classical.choose_spec (each i hi)).2
  · have h0 : l = [] := List.eq_nil_of_length_eq_zero (by omega)
    subst h0
    exact ⟨[], rfl, Row5.none_ _ _ _ _ _, fun i hi => absurd hi (by simp)⟩
theorem mk_some (v : Value) (b : Option Value) (h : MkC (some v) b) : ∃ u, b = some u := by
  rcases h with rfl | ⟨x, y, e, rfl⟩ | ⟨x, y, e, rfl⟩ | ⟨x, y, e, rfl⟩
  · exact ⟨v, rfl⟩
  · exact ⟨_, rfl⟩
  · exact ⟨_, rfl⟩
  · exact ⟨_, rfl⟩

set_option maxHeartbeats 1000000 in
theorem markByteS_m (l : List UInt8) (A : Option Addr) (c L B k : Nat) (w : World) (hl : l.length ≤ 4294967296) (hk : k ≤ 1099511627776) (hT : Thaw L B w) (h : NmB w L B A l) :
    Calls Tryd.prog 16 #[.slice A l.length c, .int .i64 (k : Int)] w fun r w' => r = .returned (.int .i64 ((k + l.length : Nat) : Int)) ∧ Mk L B w w' ∧ Thaw L B w' := by
  go_enter Tryd.func16, Tryd.ntmps16
  go_wp2
  go_loopw [1, 5] (fun s i wr => ∃ (m : Nat), m ≤ l.length ∧ i = .int .i64 m ∧ s = .int .i64 ((k + m : Nat) : Int) ∧ Mk L B w wr ∧ Thaw L B wr) (fun _ i _ => l.length - (intOf i).toNat)
  case atStart => exact ⟨0, Nat.zero_le _, rfl, rfl, Mk.refl _ _ _, hT⟩
  case round =>
    obtain ⟨m, hm, rfl, rfl, hmk, hTr⟩ := hrel
    by_cases hlt : m < l.length
    · obtain ⟨l', hl', hR'⟩ := NmB.mk_ h hmk
      obtain ⟨ad, rfl, hb, hc0⟩ := hR'.1.at_ (k := m) (by omega)
      obtain ⟨ad', e, hL⟩ := hR'.2 (by omega)
      injection e with e
      subst e
      have hLm : L ≤ (ad.add m).block := by rw [block_of_add]; exact hL
      have hBm : (ad.add m).block < B := by rw [block_of_add]; exact hb
      have hf0 := thaw_frozen hTr hLm hBm
      have hst := fun n => Mk.set_ hLm hBm hc0 (MkC.u8_ (l'[m]'(by omega)) n)
      have Hst := Lib.hid hst
      clear hst hR'
      go_wp2
      go_roundw
      case rel =>
        refine ⟨m + 1, by omega, by go_num, by go_num, ?_, hTr.set_ _ _⟩
        have e9 : (((k : Int) + (m : Int)) % 256) = (((k + m) % 256 : Nat) : Int) := by omega
        rw [e9]
        exact hmk.trans (Hst.out (k + m))
      case measure => simp [intOf]; omega
    · go_wp2
      go_ret
      have : m = l.length := by omega
      subst this
      exact ⟨rfl, hmk, hTr⟩

/-- all blocks from lo on are cells, none frozen -/
def New (lo : Nat) (w : World) : Prop := ∀ k, lo ≤ k → k < w.heap.size → ∃ cs t, w.heap[k]? = some (.cells cs t)
theorem New.refl (w : World) : New w.heap.size w := fun k h1 h2 => by omega
theorem New.alloc {lo : Nat} {w : World} (h : New lo w) (cs : Array Value) (t : TypeId) : New lo (w.alloc (.cells cs t)) := fun k h1 h2 => by
  by_cases hk : k < w.heap.size
  · obtain ⟨cs', t', e⟩ := h k h1 hk
    exact ⟨cs', t', (((Below.refl w.heap.size w).alloc (Nat.le_refl _) (.cells cs t)).block k hk).trans e⟩
  · rw [World.size_alloc] at h2
    obtain rfl : k = w.heap.size := by omega
    exact ⟨cs, t, Blk.new w t cs⟩
theorem New.set_ {lo : Nat} {w : World} (h : New lo w) (p : Addr) (v : Value) : New lo (w.setCell p v) := fun k h1 h2 => by
  rw [World.size_setCell] at h2
  obtain ⟨cs, t, e⟩ := h k h1 h2
  by_cases hp : p.block = k
  · subst hp
    refine ⟨(if p.spot.isSome then cs else cs.setIfInBounds p.off v), t, ?_⟩
    unfold World.setCell
    rw [Array.getElem?_modify]
    simp [e]
  · exact ⟨cs, t, (Below.heap_setCell w p v k (fun e => hp e.symm)).trans e⟩
theorem New.join {lo : Nat} {w w' : World} (h : New lo w) (hb : Below w.heap.size w w') (h' : New w.heap.size w') : New lo w' := fun k h1 h2 => by
  by_cases hk : k < w.heap.size
  · obtain ⟨cs, t, e⟩ := h k h1 hk
    exact ⟨cs, t, (hb.block k hk).trans e⟩
  · exact h' k (by omega) h2
theorem toByteS_n (l : List UInt8) (A : Option Addr) (c B : Nat) (w : World) (hl : l.length ≤ 4294967296) (hB : B ≤ w.heap.size) (h : RB w B A l) :
    Calls Tryd.prog 35 #[.slice A l.length c] w fun e w' => ∃ g, e = .returned (.slice (some ⟨g, 0, none⟩) l.length l.length) ∧ Blk w' g 5 (vb l).toArray ∧ w.heap.size ≤ g ∧ g < w'.heap.size ∧ Below w.heap.size w w' ∧ New w.heap.size w' := by
  refine (toByteS_c0 l A c w hl (h.more hB)).mono ?_
  rintro e w' ⟨rfl, hb, hs, hbl⟩
  refine ⟨w.heap.size, rfl, hb, Nat.le_refl _, by omega, hbl, fun k h1 h2 => ?_⟩
  obtain rfl : k = w.heap.size := by omega
  exact ⟨_, _, hb⟩

end CodM
end Go.Proofs.YtebgigiakfjocaaDoor
