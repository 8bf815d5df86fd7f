/-
  Codes: marks, and copies that are new.
-/
import Derived.Test.YtddjcjjnpidhiaaGreatDoorMcode
namespace Go.Proofs.YtddjcjjnpidhiaaGreatDoor
open Go.RowKit
set_option linter.unusedVariables false
namespace CodM

/-- a cell's number, byte or bool has been overwritten by one of its kind, or nothing -/
def MkC (a b : Option Value) : Prop := b = a ∨ (∃ x y : Int, a = some (.int .i64 x) ∧ b = some (.int .i64 y)) ∨ (∃ x y : UInt8, a = some (.int .u8 x.toNat) ∧ b = some (.int .u8 y.toNat)) ∨ (∃ x y : Bool, a = some (.bool x) ∧ b = some (.bool y))
theorem MkC.slice {a b : Option Value} {A : Option Addr} {n c : Nat} (h : MkC a b) (ha : a = some (.slice A n c)) : b = some (.slice A n c) := by
  rcases h with rfl | ⟨x, y, rfl, rfl⟩ | ⟨x, y, rfl, rfl⟩ | ⟨x, y, rfl, rfl⟩
  · exact ha
  · cases ha
  · cases ha
  · cases ha
theorem MkC.i64 {a b : Option Value} {x : Int} (h : MkC a b) (ha : a = some (.int .i64 x)) : ∃ y, b = some (.int .i64 y) := by
  rcases h with rfl | ⟨x', y, rfl, rfl⟩ | ⟨x', y, rfl, rfl⟩ | ⟨x', y, rfl, rfl⟩
  · exact ⟨x, ha⟩
  · exact ⟨y, rfl⟩
  · injection ha with e; injection e with e _; cases e
  · cases ha
theorem MkC.u8 {a b : Option Value} {x : UInt8} (h : MkC a b) (ha : a = some (.int .u8 x.toNat)) : ∃ y : UInt8, b = some (.int .u8 y.toNat) := by
  rcases h with rfl | ⟨x', y, rfl, rfl⟩ | ⟨x', y, rfl, rfl⟩ | ⟨x', y, rfl, rfl⟩
  · exact ⟨x, ha⟩
  · injection ha with e; injection e with e _; cases e
  · exact ⟨y, rfl⟩
  · cases ha
theorem MkC.bool {a b : Option Value} {x : Bool} (h : MkC a b) (ha : a = some (.bool x)) : ∃ y : Bool, b = some (.bool y) := by
  rcases h with rfl | ⟨x', y, rfl, rfl⟩ | ⟨x', y, rfl, rfl⟩ | ⟨x', y, rfl, rfl⟩
  · exact ⟨x, ha⟩
  · cases ha
  · cases ha
  · exact ⟨y, rfl⟩
theorem MkC.trans {a b c : Option Value} (h : MkC a b) (k : MkC b c) : MkC a c := by
  rcases h with rfl | ⟨x, y, rfl, rfl⟩ | ⟨x, y, rfl, rfl⟩ | ⟨x, y, rfl, rfl⟩
  · exact k
  · obtain ⟨z, hz⟩ := k.i64 rfl
    exact .inr (.inl ⟨x, z, rfl, hz⟩)
  · obtain ⟨z, hz⟩ := k.u8 rfl
    exact .inr (.inr (.inl ⟨x, z, rfl, hz⟩))
  · obtain ⟨z, hz⟩ := k.bool rfl
    exact .inr (.inr (.inr ⟨x, z, rfl, hz⟩))
theorem MkC.u8_ (x : UInt8) (n : Nat) : MkC (some (.int .u8 x.toNat)) (some (.int .u8 ((n % 256 : Nat) : Int))) :=
  .inr (.inr (.inl ⟨x, UInt8.ofNat n, rfl, by simp⟩))
theorem MkC.i64_ (x y : Int) : MkC (some (.int .i64 x)) (some (.int .i64 y)) := .inr (.inl ⟨x, y, rfl, rfl⟩)
theorem MkC.bool_ (x y : Bool) : MkC (some (.bool x)) (some (.bool y)) := .inr (.inr (.inr ⟨x, y, rfl, rfl⟩))

/-- marks in the blocks from L to B, and nowhere else -/
structure Mk (L B : Nat) (w w' : World) : Prop where
  os : w'.os = w.os
  tape : w'.tape = w.tape
  output : w'.output = w.output
  size : w'.heap.size = w.heap.size
  block : ∀ k, (k < L ∨ B ≤ k) → w'.heap[k]? = w.heap[k]?
  frozen : ∀ p, w'.frozen? p = w.frozen? p
  cell : ∀ p, MkC (w.cell? p) (w'.cell? p)
/-- no block from L to B is frozen -/
def Thaw (L B : Nat) (w : World) : Prop := ∀ k, L ≤ k → k < B → ∃ cs t, w.heap[k]? = some (.cells cs t)
section
variable {L B : Nat} {w w' w2 : World}
theorem Mk.refl (L B : Nat) (w : World) : Mk L B w w := ⟨rfl, rfl, rfl, rfl, fun _ _ => rfl, fun _ => rfl, fun _ => .inl rfl⟩
theorem Mk.trans (h : Mk L B w w') (k : Mk L B w' w2) : Mk L B w w2 :=
  ⟨k.os.trans h.os, k.tape.trans h.tape, k.output.trans h.output, k.size.trans h.size, fun i hi => (k.block i hi).trans (h.block i hi), fun p => (k.frozen p).trans (h.frozen p), fun p => (h.cell p).trans (k.cell p)⟩
theorem Mk.below (h : Mk L B w w') : Below L w w' := ⟨h.os, h.tape, h.output, by rw [h.size]; exact Nat.le_refl _, fun k hk => h.block k (.inl hk)⟩
theorem cell_set {p : Addr} {x v : Value} (h : w.cell? p = some x) (q : Addr) : (w.setCell p v).cell? q = w.cell? q ∨ ((w.setCell p v).cell? q = some v ∧ w.cell? q = some x) := by
  unfold World.cell? at h
  cases hb : w.heap[p.block]? with
  | none => rw [hb] at h; cases h
  | some o =>
    rw [hb] at h
    cases o with
    | cells c t fz =>
      simp only at h
      cases hs : p.spot with
      | some sp => rw [hs] at h; cases h
      | none =>
        rw [hs] at h
        simp only [Option.isSome_none, Bool.false_eq_true, if_false] at h
        by_cases hq : q.block = p.block
        · have e : (w.setCell p v).heap[q.block]? = some (.cells (c.setIfInBounds p.off v) t fz) := by
            unfold World.setCell
            rw [hq, Array.getElem?_modify, hb]
            simp [hs]
          unfold World.cell?
          rw [e, hq, hb]
          cases hsq : q.spot with
          | some sp => left; rfl
          | none =>
            simp only [Option.isSome_none, Bool.false_eq_true, if_false]
            by_cases ho : q.off = p.off
            · right
              rw [ho]
              have hlt : p.off < c.size := (Array.getElem?_eq_some_iff.1 h).1
              exact ⟨by simp [hlt], h⟩
            · left
              rw [Array.getElem?_setIfInBounds, if_neg (fun e => ho e.symm)]
        · left
          exact World.cell?_of_block (Below.heap_setCell w p v q.block hq)
    | _ => cases h
theorem frozen_set (p : Addr) (v : Value) (q : Addr) : (w.setCell p v).frozen? q = w.frozen? q := by
  unfold World.frozen?
  by_cases hq : q.block = p.block
  · unfold World.setCell
    rw [hq]
    simp only [Array.getElem?_modify]
    cases hb : w.heap[p.block]? with
    | none => simp
    | some o => cases o <;> simp
  · rw [Below.heap_setCell w p v q.block hq]
theorem Mk.set_ {p : Addr} {x v : Value} (hL : L ≤ p.block) (hB : p.block < B) (h : w.cell? p = some x) (hk : MkC (some x) (some v)) : Mk L B w (w.setCell p v) :=
  ⟨rfl, rfl, rfl, by rw [World.size_setCell], fun k hk' => Below.heap_setCell w p v k (by omega), fun q => frozen_set p v q, fun q => by
    rcases cell_set (v := v) h q with e | ⟨e1, e2⟩
    · exact .inl e
    · rw [e1, e2]; exact hk⟩
theorem thaw_frozen (h : Thaw L B w) {p : Addr} (hL : L ≤ p.block) (hB : p.block < B) : w.frozen? p = false := by
  obtain ⟨cs, t, e⟩ := h p.block hL hB
  unfold World.frozen?
  rw [e]
  simp
theorem Thaw.set_ (h : Thaw L B w) (p : Addr) (v : Value) : Thaw L B (w.setCell p v) := fun k hk hB => by
  obtain ⟨cs, t, e⟩ := h k hk hB
  by_cases hp : p.block = k
  · subst hp
    refine ⟨(if p.spot.isSome then cs else cs.setIfInBounds p.off v), t, ?_⟩
    unfold World.setCell
    rw [Array.getElem?_modify]
    simp [e]
  · exact ⟨cs, t, (Below.heap_setCell w p v k (fun e => hp e.symm)).trans e⟩
end

/-- bytes that have been marked are bytes, as many -/
theorem NmB.mk_ {L B : Nat} {w w' : World} {A : Option Addr} {l : List UInt8} (h : NmB w L B A l) (hm : Mk L B w w') : ∃ l' : List UInt8, l'.length = l.length ∧ NmB w' L B A l' := by
  by_cases hn : 0 < l.length
  · obtain ⟨ad, eA, hb, hc⟩ := h.1.2 hn
    obtain ⟨ad', eA', hL⟩ := h.2 hn
    have each : ∀ k, k < l.length → ∃ y : UInt8, w'.cell? (ad.add k) = some (.int .u8 y.toNat) := fun k hk => by
      have h1 := hc k (.int .u8 l[k].toNat) (by rw [vb_get, List.getElem?_eq_getElem hk]; rfl)
      exact (hm.cell (ad.add k)).u8 h1
    let f : Fin l.length → UInt8 := fun i => Classical.choose (each i.1 i.2)
    have hfl : (List.ofFn f).length = l.length := by simp
    refine ⟨List.ofFn f, hfl, ⟨by rw [vb_len, Nat.mul_one], fun _ => ⟨ad, eA, hb, fun k u hu => ?_⟩⟩, fun _ => ⟨ad', eA', hL⟩⟩
    have hk : k < l.length := by rw [← hfl, ← vb_len]; exact (List.getElem?_eq_some_iff.1 hu).1
    rw [vb_get, List.getElem?_eq_getElem (by rw [hfl]; exact hk)] at hu
    have e : (List.ofFn f)[k]'(by rw [hfl]; exact hk) = f ⟨k, hk⟩ := by simp
    rw [e] at hu
    injection hu with hu
    rw [← hu]
    exact Classical.choose_spec (each k hk)
  · have h0 : l = [] := by cases l with | nil => rfl | cons x r => simp at hn
    subst h0
    exact ⟨[], rfl, ⟨h.1.1, fun hp => by simp at hp⟩, h.2⟩

/-- a row of things of 3 cells, marked -/
theorem row_mk3 {α : Type} {V V' : Value → Value → Value → α → Prop} {R : α → α → Prop} {L B : Nat} {w w' : World} {A : Option Addr} {l : List α} (h : Row3 V w L B A l) (hm : Mk L B w w')
    (hV : ∀ v0 v1 v2 x, V v0 v1 v2 x → ∀ u0 u1 u2, MkC (some v0) (some u0) → MkC (some v1) (some u1) → MkC (some v2) (some u2) → ∃ y, V' u0 u1 u2 y ∧ R x y)
    (hsome : ∀ v b, MkC (some v) b → ∃ u, b = some u) :
    ∃ l' : List α, ∃ hl : l'.length = l.length, Row3 V' w' L B A l' ∧ ∀ i (hi : i < l.length), R l[i] (l'[i]'(by omega)) := by
  by_cases hn : 0 < l.length
  · obtain ⟨ad, eA, hL, hB, hs⟩ := h.2 hn
    have each : ∀ i (hi : i < l.length), ∃ y, (∃ u0 u1 u2, C3 w' (ad.add (i * 3)) u0 u1 u2 ∧ V' u0 u1 u2 y) ∧ R l[i] y := fun i hi => by
      obtain ⟨v0, v1, v2, ⟨c0, c1, c2⟩, hv⟩ := hs i hi
      have m0 := hm.cell (ad.add (i * 3))
      have m1 := hm.cell ⟨(ad.add (i * 3)).block, (ad.add (i * 3)).off + 1, none⟩
      have m2 := hm.cell ⟨(ad.add (i * 3)).block, (ad.add (i * 3)).off + 2, none⟩
      rw [c0] at m0
      rw [c1] at m1
      rw [c2] at m2
      obtain ⟨u0, e0⟩ := hsome _ _ m0
      obtain ⟨u1, e1⟩ := hsome _ _ m1
      obtain ⟨u2, e2⟩ := hsome _ _ m2
      rw [e0] at m0
      rw [e1] at m1
      rw [e2] at m2
      obtain ⟨y, hy, hr⟩ := hV v0 v1 v2 _ hv u0 u1 u2 m0 m1 m2
      exact ⟨y, ⟨u0, u1, u2, ⟨e0, e1, e2⟩, hy⟩, hr⟩
    let f : Fin l.length → α := fun i => Classical.choose (each i.1 i.2)
    have hfl : (List.ofFn f).length = l.length := by simp
    refine ⟨List.ofFn f, hfl, ⟨by rw [hfl]; exact h.1, fun _ => ⟨ad, eA, hL, hB, fun i hi => ?_⟩⟩, fun i hi => ?_⟩
    · have hi' : i < l.length := by rw [← hfl]; exact hi
      have hs := (Classical.choose_spec (each i hi')).1
      have e : (List.ofFn f)[i] = f ⟨i, hi'⟩ := by simp
      rw [e]
      exact hs
    · have e : (List.ofFn f)[i]'(by rw [hfl]; exact hi) = f ⟨i, hi⟩ := by simp
      rw [e]
      exact (Classical.choose_spec (each i hi)).2
  · have h0 : l = [] := List.eq_nil_of_length_eq_zero (by omega)
    subst h0
    exact ⟨[], rfl, Row3.none_ _ _ _ _ _, fun i hi => absurd hi (by simp)⟩
/-- a row of things of 5 cells, marked -/
theorem row_mk5 {α : Type} {V V' : Value → Value → Value → Value → Value → α → Prop} {R : α → α → Prop} {L B : Nat} {w w' : World} {A : Option Addr} {l : List α} (h : Row5 V w L B A l) (hm : Mk L B w w')
    (hV : ∀ v0 v1 v2 v3 v4 x, V v0 v1 v2 v3 v4 x → ∀ u0 u1 u2 u3 u4, MkC (some v0) (some u0) → MkC (some v1) (some u1) → MkC (some v2) (some u2) → MkC (some v3) (some u3) → MkC (some v4) (some u4) → ∃ y, V' u0 u1 u2 u3 u4 y ∧ R x y)
    (hsome : ∀ v b, MkC (some v) b → ∃ u, b = some u) :
    ∃ l' : List α, ∃ hl : l'.length = l.length, Row5 V' w' L B A l' ∧ ∀ i (hi : i < l.length), R l[i] (l'[i]'(by omega)) := by
  by_cases hn : 0 < l.length
  · obtain ⟨ad, eA, hL, hB, hs⟩ := h.2 hn
    have each : ∀ i (hi : i < l.length), ∃ y, (∃ u0 u1 u2 u3 u4, C5 w' (ad.add (i * 5)) u0 u1 u2 u3 u4 ∧ V' u0 u1 u2 u3 u4 y) ∧ R l[i] y := fun i hi => by
      obtain ⟨v0, v1, v2, v3, v4, ⟨c0, c1, c2, c3, c4⟩, hv⟩ := hs i hi
      have m0 := hm.cell (ad.add (i * 5))
      have m1 := hm.cell ⟨(ad.add (i * 5)).block, (ad.add (i * 5)).off + 1, none⟩
      have m2 := hm.cell ⟨(ad.add (i * 5)).block, (ad.add (i * 5)).off + 2, none⟩
      have m3 := hm.cell ⟨(ad.add (i * 5)).block, (ad.add (i * 5)).off + 3, none⟩
      have m4 := hm.cell ⟨(ad.add (i * 5)).block, (ad.add (i * 5)).off + 4, none⟩
      rw [c0] at m0
      rw [c1] at m1
      rw [c2] at m2
      rw [c3] at m3
      rw [c4] at m4
      obtain ⟨u0, e0⟩ := hsome _ _ m0
      obtain ⟨u1, e1⟩ := hsome _ _ m1
      obtain ⟨u2, e2⟩ := hsome _ _ m2
      obtain ⟨u3, e3⟩ := hsome _ _ m3
      obtain ⟨u4, e4⟩ := hsome _ _ m4
      rw [e0] at m0
      rw [e1] at m1
      rw [e2] at m2
      rw [e3] at m3
      rw [e4] at m4
      obtain ⟨y, hy, hr⟩ := hV v0 v1 v2 v3 v4 _ hv u0 u1 u2 u3 u4 m0 m1 m2 m3 m4
      exact ⟨y, ⟨u0, u1, u2, u3, u4, ⟨e0, e1, e2, e3, e4⟩, hy⟩, hr⟩
    let f : Fin l.length → α := fun i => Classical.choose (each i.1 i.2)
    have hfl : (List.ofFn f).length = l.length := by simp
    refine ⟨List.ofFn f, hfl, ⟨by rw [hfl]; exact h.1, fun _ => ⟨ad, eA, hL, hB, fun i hi => ?_⟩⟩, fun i hi => ?_⟩
    · have hi' : i < l.length := by rw [← hfl]; exact hi
      have hs := (Classical.choose_spec (each i hi')).1
      have e : (List.ofFn f)[i] = f ⟨i, hi'⟩ := by simp
      rw [e]
      exact hs
    · have e : (List.ofFn f)[i]'(by rw [hfl]; exact hi) = f ⟨i, hi⟩ := by simp
      rw [e]
      exact (Classical.choose_spec (each i hi)).2
  · have h0 : l = [] := List.eq_nil_of_length_eq_zero (by omega)
    subst h0
    exact ⟨[], rfl, Row5.none_ _ _ _ _ _, fun i hi => absurd hi (by simp)⟩
theorem mk_some (v : Value) (b : Option Value) (h : MkC (some v) b) : ∃ u, b = some u := by
  rcases h with rfl | ⟨x, y, e, rfl⟩ | ⟨x, y, e, rfl⟩ | ⟨x, y, e, rfl⟩
  · exact ⟨v, rfl⟩
  · exact ⟨_, rfl⟩
  · exact ⟨_, rfl⟩
  · exact ⟨_, rfl⟩

set_option maxHeartbeats 1000000 in
theorem markByteS_m (l : List UInt8) (A : Option Addr) (c L B k : Nat) (w : World) (hl : l.length ≤ 4294967296) (hk : k ≤ 1099511627776) (hT : Thaw L B w) (h : NmB w L B A l) :
    Calls Tryz.prog 51 #[.slice A l.length c, .int .i64 (k : Int)] w fun r w' => r = .returned (.int .i64 ((k + l.length : Nat) : Int)) ∧ Mk L B w w' ∧ Thaw L B w' := by
  go_enter Tryz.func51, Tryz.ntmps51
  go_wp2
  go_loopw [1, 5] (fun s i wr => ∃ (m : Nat), m ≤ l.length ∧ i = .int .i64 m ∧ s = .int .i64 ((k + m : Nat) : Int) ∧ Mk L B w wr ∧ Thaw L B wr) (fun _ i _ => l.length - (intOf i).toNat)
  case atStart => exact ⟨0, Nat.zero_le _, rfl, rfl, Mk.refl _ _ _, hT⟩
  case round =>
    obtain ⟨m, hm, rfl, rfl, hmk, hTr⟩ := hrel
    by_cases hlt : m < l.length
    · obtain ⟨l', hl', hR'⟩ := NmB.mk_ h hmk
      obtain ⟨ad, rfl, hb, hc0⟩ := hR'.1.at_ (k := m) (by omega)
      obtain ⟨ad', e, hL⟩ := hR'.2 (by omega)
      injection e with e
      subst e
      have hLm : L ≤ (ad.add m).block := by rw [block_of_add]; exact hL
      have hBm : (ad.add m).block < B := by rw [block_of_add]; exact hb
      have hf0 := thaw_frozen hTr hLm hBm
      have hst := fun n => Mk.set_ hLm hBm hc0 (MkC.u8_ (l'[m]'(by omega)) n)
      have Hst := Lib.hid hst
      clear hst hR'
      go_wp2
      go_roundw
      case rel =>
        refine ⟨m + 1, by omega, by go_num, by go_num, ?_, hTr.set_ _ _⟩
        have e9 : (((k : Int) + (m : Int)) % 256) = (((k + m) % 256 : Nat) : Int) := by omega
        rw [e9]
        exact hmk.trans (Hst.out (k + m))
      case measure => simp [intOf]; omega
    · go_wp2
      go_ret
      have : m = l.length := by omega
      subst this
      exact ⟨rfl, hmk, hTr⟩

/-- all blocks from lo on are cells, none frozen -/
def New (lo : Nat) (w : World) : Prop := ∀ k, lo ≤ k → k < w.heap.size → ∃ cs t, w.heap[k]? = some (.cells cs t)
theorem New.refl (w : World) : New w.heap.size w := fun k h1 h2 => by omega
theorem New.alloc {lo : Nat} {w : World} (h : New lo w) (cs : Array Value) (t : TypeId) : New lo (w.alloc (.cells cs t)) := fun k h1 h2 => by
  by_cases hk : k < w.heap.size
  · obtain ⟨cs', t', e⟩ := h k h1 hk
    exact ⟨cs', t', (((Below.refl w.heap.size w).alloc (Nat.le_refl _) (.cells cs t)).block k hk).trans e⟩
  · rw [World.size_alloc] at h2
    obtain rfl : k = w.heap.size := by omega
    exact ⟨cs, t, Blk.new w t cs⟩
theorem New.set_ {lo : Nat} {w : World} (h : New lo w) (p : Addr) (v : Value) : New lo (w.setCell p v) := fun k h1 h2 => by
  rw [World.size_setCell] at h2
  obtain ⟨cs, t, e⟩ := h k h1 h2
  by_cases hp : p.block = k
  · subst hp
    refine ⟨(if p.spot.isSome then cs else cs.setIfInBounds p.off v), t, ?_⟩
    unfold World.setCell
    rw [Array.getElem?_modify]
    simp [e]
  · exact ⟨cs, t, (Below.heap_setCell w p v k (fun e => hp e.symm)).trans e⟩
theorem New.join {lo : Nat} {w w' : World} (h : New lo w) (hb : Below w.heap.size w w') (h' : New w.heap.size w') : New lo w' := fun k h1 h2 => by
  by_cases hk : k < w.heap.size
  · obtain ⟨cs, t, e⟩ := h k h1 hk
    exact ⟨cs, t, (hb.block k hk).trans e⟩
  · exact h' k (by omega) h2
theorem toByteS_n (l : List UInt8) (A : Option Addr) (c B : Nat) (w : World) (hl : l.length ≤ 4294967296) (hB : B ≤ w.heap.size) (h : RB w B A l) :
    Calls Tryz.prog 37 #[.slice A l.length c] w fun e w' => ∃ g, e = .returned (.slice (some ⟨g, 0, none⟩) l.length l.length) ∧ Blk w' g 5 (vb l).toArray ∧ w.heap.size ≤ g ∧ g < w'.heap.size ∧ Below w.heap.size w w' ∧ New w.heap.size w' := by
  refine (toByteS_c0 l A c w hl (h.more hB)).mono ?_
  rintro e w' ⟨rfl, hb, hs, hbl⟩
  refine ⟨w.heap.size, rfl, hb, Nat.le_refl _, by omega, hbl, fun k h1 h2 => ?_⟩
  obtain rfl : k = w.heap.size := by omega
  exact ⟨_, _, hb⟩

end CodM
end Go.Proofs.YtddjcjjnpidhiaaGreatDoor

namespace Go.Proofs.YtddjcjjnpidhiaaGreatDoor
open Go.RowKit
set_option linter.unusedVariables false
namespace CodM
open Cod

set_option maxHeartbeats 2000000 in
theorem toIns_n (f : In) (v0 v1 v2 v3 v4 : Value) (L B : Nat) (w : World) (hB : B ≤ w.heap.size) (hl : inSz f ≤ 1048576) (hv : InV w L B v0 v1 v2 v3 v4 f) :
    Calls Tryz.prog 123 #[.agg #[v0, v1, v2, v3, v4]] w fun e w' => ∃ g, e = .returned (.agg #[.int .i64 f.op, .int .i64 f.a, .int .i64 f.b, .int .i64 f.c, .slice (some ⟨g, 0, none⟩) f.name.length f.name.length]) ∧
      Blk w' g 5 (vb f.name).toArray ∧ w.heap.size ≤ g ∧ g < w'.heap.size ∧ Below w.heap.size w w' ∧ New w.heap.size w' := by
  obtain ⟨rfl, rfl, rfl, rfl, A, c, rfl, hR, hm⟩ := hv
  obtain ⟨op, a, b, c2, l⟩ := f
  unfold inSz at hl
  dsimp only at *
  have hb0 : Below w.heap.size w (((w.alloc (.cells #[.int .i64 op, .int .i64 a, .int .i64 b, .int .i64 c2, .slice A l.length c] 166)).alloc (.cells #[.int .i64 0, .int .i64 0, .int .i64 0, .int .i64 0, .slice none 0 0] 90)).alloc (.cells #[.int .i64 op, .int .i64 a, .int .i64 b, .int .i64 c2, .slice none 0 0] 90)) := (((Below.refl _ _).alloc (Nat.le_refl _) _).alloc (by simp) _).alloc (by simp; omega) _
  go_enter Tryz.func123, Tryz.ntmps123
  go_wp2_with fail
  refine (toByteS_n l A c B _ (by omega) (by simp; omega) (((hR.1.alloc hB _).alloc (by simp; omega) _).alloc (by simp; omega) _)).mono ?_
  rintro e w1 ⟨g1, rfl, hB1, hg1, hs1, hb1, hn1⟩
  have hnw1 := New.join ((((New.refl w).alloc _ _).alloc _ _).alloc _ _) hb1 hn1
  have K3 : Blk w1 (w.heap.size + 1 + 1) 90 #[.int .i64 op, .int .i64 a, .int .i64 b, .int .i64 c2, .slice none 0 0] :=
    Blk.below (by have := Blk.new ((w.alloc (.cells #[.int .i64 op, .int .i64 a, .int .i64 b, .int .i64 c2, .slice A l.length c] 166)).alloc (.cells #[.int .i64 0, .int .i64 0, .int .i64 0, .int .i64 0, .slice none 0 0] 90)) 90 #[.int .i64 op, .int .i64 a, .int .i64 b, .int .i64 c2, .slice none 0 0]; simpa using this) hb1 (by simp)
  have K2 : Blk w1 (w.heap.size + 1) 90 #[.int .i64 0, .int .i64 0, .int .i64 0, .int .i64 0, .slice none 0 0] :=
    Blk.below ((by have := Blk.new (w.alloc (.cells #[.int .i64 op, .int .i64 a, .int .i64 b, .int .i64 c2, .slice A l.length c] 166)) 90 #[.int .i64 0, .int .i64 0, .int .i64 0, .int .i64 0, .slice none 0 0]; simpa using this : Blk ((w.alloc (.cells #[.int .i64 op, .int .i64 a, .int .i64 b, .int .i64 c2, .slice A l.length c] 166)).alloc (.cells #[.int .i64 0, .int .i64 0, .int .i64 0, .int .i64 0, .slice none 0 0] 90)) (w.heap.size + 1) 90 _).alloc _) hb1 (by simp)
  have hg1' : w.heap.size + 1 + 1 + 1 ≤ g1 := by simpa using hg1
  have hbw : Below w.heap.size w w1 := hb0.trans (hb1.mono (by simp; omega))
  have n0 := K3.cel 0 rfl
  have n1 := K3.cel 1 rfl
  have n2 := K3.cel 2 rfl
  have n3 := K3.cel 3 rfl
  have n4 := K3.cel 4 rfl
  have m0 := K2.cel 0 rfl
  have m1 := K2.cel 1 rfl
  have m2 := K2.cel 2 rfl
  have m3 := K2.cel 3 rfl
  have m4 := K2.cel 4 rfl
  have x4 : w1.frozen? ⟨w.heap.size + 1 + 1, 4, none⟩ = false := K3.frozen 4
  have y0 : w1.frozen? ⟨w.heap.size + 1, 0, none⟩ = false := K2.frozen 0
  have y1 : w1.frozen? ⟨w.heap.size + 1, 1, none⟩ = false := K2.frozen 1
  have y2 : w1.frozen? ⟨w.heap.size + 1, 2, none⟩ = false := K2.frozen 2
  have y3 : w1.frozen? ⟨w.heap.size + 1, 3, none⟩ = false := K2.frozen 3
  have y4 : w1.frozen? ⟨w.heap.size + 1, 4, none⟩ = false := K2.frozen 4
  have hs2 : w.heap.size + 1 + 1 < w1.heap.size := K3.lt
  clear hb1 hg1 hb0 K3 K2
  go_wp2_with fail
  refine bodyPost_ret (v := .agg #[.int .i64 op, .int .i64 a, .int .i64 b, .int .i64 c2, .slice (some ⟨g1, 0, none⟩) l.length l.length]) (by simp [results, Tryz.results123, go_sem, m0, m1, m2, m3, m4]) rfl
    ⟨g1, rfl, ?_, by omega, by simp; omega, ?_, ?_⟩
  · exact (((((hB1.far (by simp; omega) _).far (by simp; omega) _).far (by simp; omega) _).far (by simp; omega) _).far (by simp; omega) _).far (by simp; omega) _
  · exact (((((hbw.setCell (by simp; omega) _).setCell (by simp) _).setCell (by simp) _).setCell (by simp) _).setCell (by simp) _).setCell (by simp) _
  · repeat (with_reducible first | exact hnw1 | apply New.set_)

set_option maxHeartbeats 2000000 in
theorem toInsS_n (l : List In) (A : Option Addr) (c L B : Nat) (w : World) (hB : B ≤ w.heap.size) (hl : insSz l ≤ 1048576) (h : InL w L B A l) :
    Calls Tryz.prog 106 #[.slice A l.length c] w fun r w' => ∃ g, r = .returned (.slice (some ⟨g, 0, none⟩) l.length l.length) ∧ g < w'.heap.size ∧ w.heap.size ≤ g ∧ InL w' w.heap.size w'.heap.size (some ⟨g, 0, none⟩) l ∧ Below w.heap.size w w' ∧ New w.heap.size w' := by
  obtain ⟨i0, hi, hz0, hz1, hz2⟩ := info_parts infoIns
  have hlen : l.length ≤ 1048576 := by unfold insSz at hl; omega
  have hmk : ∀ u : World, (Instr.makeSlice 61 (.int .i64 (l.length : Int)) (.int .i64 (l.length : Int))).run Tryz.prog u =
      .ok (.slice (some ⟨u.heap.size, 0, none⟩) l.length l.length) (u.alloc (.cells (madeCells #[.int .i64 0, .int .i64 0, .int .i64 0, .int .i64 0, .slice none 0 0] (l.length * 5)) 90)) := fun u => by
    have h := run_make (P := Tryz.prog) u 61 90 i0 (.agg #[.int .i64 0, .int .i64 0, .int .i64 0, .int .i64 0, .slice none 0 0]) Tryz.underlying61 hi hz0 .i64 .i64 (l.length : Int) (l.length : Int) (by omega) (Int.le_refl _) (by rw [hz2]; omega) (by omega)
    rw [Int.toNat_natCast] at h
    simpa [hz1, Value.cells] using h
  clear hi hz0 hz1 hz2
  go_enter Tryz.func106, Tryz.ntmps106
  go_wp2
  go_loopw [4] (fun i wr => ∃ (k : Nat) (cs : Array Value), k ≤ l.length ∧ i = .int .i64 k ∧ cs.size = l.length * 5 ∧ Blk wr w.heap.size 90 cs ∧ RowP5 (InV wr (w.heap.size + 1) wr.heap.size) cs l k ∧ Below w.heap.size w wr ∧ New w.heap.size wr) (fun i _ => l.length - (intOf i).toNat)
  case atStart => exact ⟨0, _, Nat.zero_le _, rfl, by simp [madeCells], Blk.new _ _ _, fun i _ hk => by omega, (Below.refl _ _).alloc (Nat.le_refl _) _, (New.refl w).alloc _ _⟩
  case round =>
    obtain ⟨k, cs, hk, rfl, hcs, hblk, hown, hbl, hnw⟩ := hrel
    have Hcs := Lib.hid hcs
    have Hown := Lib.hid hown
    clear hcs hown
    by_cases hlt : k < l.length
    · obtain ⟨ad, rfl, _, hb, hat⟩ := (h.below (hbl.mono hB)).2 (by omega)
      obtain ⟨v0, v1, v2, v3, v4, ⟨c0, c1, c2, c3, c4⟩, hv⟩ := hat k hlt
      have hsz1 : inSz l[k] ≤ 1048576 := by have := sum_get inSz hlt; unfold insSz at hl; omega
      have hc := toIns_n l[k] v0 v1 v2 v3 v4 L B wr (Nat.le_trans hB hbl.size) hsz1 hv
      have Hc := Lib.hid hc
      clear hc hat
      go_wp2_with fail
      refine Hc.out.mono ?_
      rintro e w1 ⟨g1, rfl, hB1, hg1, hs1, hb1, hn1⟩
      have hnw1 := hnw.join hb1 hn1
      have hmn : l[k].name.length ≤ maxLen := by unfold maxLen; unfold inSz at hsz1; omega
      have hu : InV w1 (w.heap.size + 1) w1.heap.size (.int .i64 l[k].op) (.int .i64 l[k].a) (.int .i64 l[k].b) (.int .i64 l[k].c) (.slice (some ⟨g1, 0, none⟩) l[k].name.length l[k].name.length) l[k] :=
        ⟨rfl, rfl, rfl, rfl, _, _, rfl, ⟨RB.of_blk hB1 hs1, fun _ => ⟨_, rfl, by show w.heap.size + 1 ≤ g1; have := hblk.lt; omega⟩⟩, hmn⟩
      have hblk1 := hblk.below hb1 hblk.lt
      have hsz := Hcs.out
      obtain ⟨x0, e0⟩ : ∃ v, cs[k * 5]? = some v := ⟨_, Array.getElem?_eq_getElem (by omega)⟩
      obtain ⟨x1, e1⟩ : ∃ v, cs[k * 5 + 1]? = some v := ⟨_, Array.getElem?_eq_getElem (by omega)⟩
      obtain ⟨x2, e2⟩ : ∃ v, cs[k * 5 + 2]? = some v := ⟨_, Array.getElem?_eq_getElem (by omega)⟩
      obtain ⟨x3, e3⟩ : ∃ v, cs[k * 5 + 3]? = some v := ⟨_, Array.getElem?_eq_getElem (by omega)⟩
      obtain ⟨x4, e4⟩ : ∃ v, cs[k * 5 + 4]? = some v := ⟨_, Array.getElem?_eq_getElem (by omega)⟩
      have q0 : w1.cell? ⟨w.heap.size, k * 5, none⟩ = some x0 := by rw [hblk1.cell]; exact e0
      have q1 : w1.cell? ⟨w.heap.size, k * 5 + 1, none⟩ = some x1 := by rw [hblk1.cell]; exact e1
      have q2 : w1.cell? ⟨w.heap.size, k * 5 + 2, none⟩ = some x2 := by rw [hblk1.cell]; exact e2
      have q3 : w1.cell? ⟨w.heap.size, k * 5 + 3, none⟩ = some x3 := by rw [hblk1.cell]; exact e3
      have q4 : w1.cell? ⟨w.heap.size, k * 5 + 4, none⟩ = some x4 := by rw [hblk1.cell]; exact e4
      have z0 : w1.frozen? ⟨w.heap.size, k * 5, none⟩ = false := hblk1.frozen _
      have z1 : w1.frozen? ⟨w.heap.size, k * 5 + 1, none⟩ = false := hblk1.frozen _
      have z2 : w1.frozen? ⟨w.heap.size, k * 5 + 2, none⟩ = false := hblk1.frozen _
      have z3 : w1.frozen? ⟨w.heap.size, k * 5 + 3, none⟩ = false := hblk1.frozen _
      have z4 : w1.frozen? ⟨w.heap.size, k * 5 + 4, none⟩ = false := hblk1.frozen _
      have hlt1 := hblk.lt
      have hbl1 := hbl.trans (hb1.mono hbl.size)
      have hfin := (Hown.out.mono (V' := InV w1 (w.heap.size + 1) w1.heap.size) (fun _ _ _ _ _ _ hv => (InV.keep hv (fun _ _ hp => hb1.cell hp)).more (Nat.le_refl _) hb1.size)).step hlt (by omega) hu
      have hfin2 := hfin.mono (V' := InV (((((w1.setCell ⟨w.heap.size, k * 5, none⟩ (.int .i64 l[k].op)).setCell ⟨w.heap.size, k * 5 + 1, none⟩ (.int .i64 l[k].a)).setCell ⟨w.heap.size, k * 5 + 2, none⟩ (.int .i64 l[k].b)).setCell ⟨w.heap.size, k * 5 + 3, none⟩ (.int .i64 l[k].c)).setCell ⟨w.heap.size, k * 5 + 4, none⟩ (.slice (some ⟨g1, 0, none⟩) l[k].name.length l[k].name.length)) (w.heap.size + 1) w1.heap.size)
        (fun _ _ _ _ _ _ hv => InV.keep hv (fun p hp _ => by
          rw [World.cell?_setCell_other _ _ _ _ (fun e => by subst e; simp at hp; omega), World.cell?_setCell_other _ _ _ _ (fun e => by subst e; simp at hp; omega), World.cell?_setCell_other _ _ _ _ (fun e => by subst e; simp at hp; omega), World.cell?_setCell_other _ _ _ _ (fun e => by subst e; simp at hp; omega), World.cell?_setCell_other _ _ _ _ (fun e => by subst e; simp at hp; omega)]))
      have Hfin := Lib.hid hfin2
      clear hsz e0 e1 e2 e3 e4 hfin hfin2 hu
      go_wp2
      go_roundw
      case rel =>
        exact ⟨k + 1, _, by omega, by go_num, by rw [pt5_size]; exact Hcs.out, hblk1.pt5 (k * 5) _ _ _ _ _ , by simpa only [World.size_setCell] using Hfin.out, ((((hbl1.setCell (by simp) _).setCell (by simp) _).setCell (by simp) _).setCell (by simp) _).setCell (by simp) _, (((((hnw1.set_ _ _).set_ _ _).set_ _ _).set_ _ _).set_ _ _)⟩
      case measure => simp [intOf]; omega
    · go_wp2
      go_ret
      have : k = l.length := by omega
      subst this
      exact ⟨_, rfl, hblk.lt, Nat.le_refl _, Hown.out.row (by unfold maxLen; omega) hblk (Nat.le_refl _) |>.more (Nat.le_refl _) (Nat.le_refl _) (fun _ _ _ _ _ _ hv => InV.more hv (by omega) (Nat.le_refl _)), hbl, hnw⟩

set_option maxHeartbeats 2000000 in
theorem toUnit_n (f : Un) (v0 v1 v2 : Value) (L B : Nat) (w : World) (hB : B ≤ w.heap.size) (hl : unSz f ≤ 1048576) (hv : UnV w L B v0 v1 v2 f) :
    Calls Tryz.prog 87 #[.agg #[v0, v1, v2]] w fun e w' => ∃ g, e = .returned (.agg #[.int .i64 f.params, .int .i64 f.regs, .slice (some ⟨g, 0, none⟩) f.l.length f.l.length]) ∧
      InL w' w.heap.size w'.heap.size (some ⟨g, 0, none⟩) f.l ∧ Below w.heap.size w w' ∧ New w.heap.size w' := by
  obtain ⟨rfl, rfl, A, c, rfl, hx⟩ := hv
  obtain ⟨pm, rg, l⟩ := f
  unfold unSz at hl
  dsimp only at *
  have hb0 : Below w.heap.size w (((w.alloc (.cells #[.int .i64 pm, .int .i64 rg, .slice A l.length c] 124)).alloc (.cells #[.int .i64 0, .int .i64 0, .slice none 0 0] 63)).alloc (.cells #[.int .i64 pm, .int .i64 rg, .slice none 0 0] 63)) := (((Below.refl _ _).alloc (Nat.le_refl _) _).alloc (by simp) _).alloc (by simp; omega) _
  go_enter Tryz.func87, Tryz.ntmps87
  go_wp2_with fail
  refine (toInsS_n l A c L B _ (by simp; omega) hl (hx.below (hb0.mono hB))).mono ?_
  rintro e w1 ⟨g1, rfl, hs1, hg1, hx1, hb1, hn1⟩
  have hnw1 := New.join ((((New.refl w).alloc _ _).alloc _ _).alloc _ _) hb1 hn1
  have K3 : Blk w1 (w.heap.size + 1 + 1) 63 #[.int .i64 pm, .int .i64 rg, .slice none 0 0] :=
    Blk.below (by have := Blk.new ((w.alloc (.cells #[.int .i64 pm, .int .i64 rg, .slice A l.length c] 124)).alloc (.cells #[.int .i64 0, .int .i64 0, .slice none 0 0] 63)) 63 #[.int .i64 pm, .int .i64 rg, .slice none 0 0]; simpa using this) hb1 (by simp)
  have K2 : Blk w1 (w.heap.size + 1) 63 #[.int .i64 0, .int .i64 0, .slice none 0 0] :=
    Blk.below ((by have := Blk.new (w.alloc (.cells #[.int .i64 pm, .int .i64 rg, .slice A l.length c] 124)) 63 #[.int .i64 0, .int .i64 0, .slice none 0 0]; simpa using this : Blk ((w.alloc (.cells #[.int .i64 pm, .int .i64 rg, .slice A l.length c] 124)).alloc (.cells #[.int .i64 0, .int .i64 0, .slice none 0 0] 63)) (w.heap.size + 1) 63 _).alloc _) hb1 (by simp)
  have hg1' : w.heap.size + 1 + 1 + 1 ≤ g1 := by simpa using hg1
  have hbw : Below w.heap.size w w1 := hb0.trans (hb1.mono (by simp; omega))
  have n0 := K3.cel 0 rfl
  have n1 := K3.cel 1 rfl
  have n2 := K3.cel 2 rfl
  have m0 := K2.cel 0 rfl
  have m1 := K2.cel 1 rfl
  have m2 := K2.cel 2 rfl
  have x2 : w1.frozen? ⟨w.heap.size + 1 + 1, 2, none⟩ = false := K3.frozen 2
  have y0 : w1.frozen? ⟨w.heap.size + 1, 0, none⟩ = false := K2.frozen 0
  have y1 : w1.frozen? ⟨w.heap.size + 1, 1, none⟩ = false := K2.frozen 1
  have y2 : w1.frozen? ⟨w.heap.size + 1, 2, none⟩ = false := K2.frozen 2
  have hs2 : w.heap.size + 1 + 1 < w1.heap.size := K3.lt
  have hx2 : InL w1 (w.heap.size + 1 + 1 + 1) w1.heap.size (some ⟨g1, 0, none⟩) l := by simpa using hx1
  clear hb1 hg1 hx1 hx hb0 K3 K2
  go_wp2_with fail
  refine bodyPost_ret (v := .agg #[.int .i64 pm, .int .i64 rg, .slice (some ⟨g1, 0, none⟩) l.length l.length]) (by simp [results, Tryz.results87, go_sem, m0, m1, m2]) rfl
    ⟨g1, rfl, ?_, ?_, ?_⟩
  · refine (hx2.keep (fun p hp _ => ?_)).more (by omega) (by simp)
    rw [World.cell?_setCell_other _ _ _ _ (fun e => by subst e; simp at hp; omega), World.cell?_setCell_other _ _ _ _ (fun e => by subst e; simp at hp; omega), World.cell?_setCell_other _ _ _ _ (fun e => by subst e; simp at hp; omega), World.cell?_setCell_other _ _ _ _ (fun e => by subst e; simp at hp; omega)]
  · exact (((hbw.setCell (by simp; omega) _).setCell (by simp) _).setCell (by simp) _).setCell (by simp) _
  · repeat (with_reducible first | exact hnw1 | apply New.set_)
end CodM
end Go.Proofs.YtddjcjjnpidhiaaGreatDoor

namespace Go.Proofs.YtddjcjjnpidhiaaGreatDoor
open Go.RowKit
set_option linter.unusedVariables false
namespace CodM
open Cod

theorem infoUnit : (Tryz.prog.info? 63).map (fun i => (i.zero, i.size, i.bytes)) = some (some (.agg #[.int .i64 0, .int .i64 0, .slice none 0 0]), 3, 40) := by kernel_rfl
set_option maxHeartbeats 2000000 in
theorem toUnitS_n (l : List Un) (A : Option Addr) (c L B : Nat) (w : World) (hB : B ≤ w.heap.size) (hl : unsSz l ≤ 1048576) (h : UnL w L B A l) :
    Calls Tryz.prog 63 #[.slice A l.length c] w fun r w' => ∃ g, r = .returned (.slice (some ⟨g, 0, none⟩) l.length l.length) ∧ g < w'.heap.size ∧ w.heap.size ≤ g ∧ UnL w' w.heap.size w'.heap.size (some ⟨g, 0, none⟩) l ∧ Below w.heap.size w w' ∧ New w.heap.size w' := by
  obtain ⟨i0, hi, hz0, hz1, hz2⟩ := info_parts infoUnit
  have hlen : l.length ≤ 1048576 := by unfold unsSz at hl; omega
  have hmk : ∀ u : World, (Instr.makeSlice 35 (.int .i64 (l.length : Int)) (.int .i64 (l.length : Int))).run Tryz.prog u =
      .ok (.slice (some ⟨u.heap.size, 0, none⟩) l.length l.length) (u.alloc (.cells (madeCells #[.int .i64 0, .int .i64 0, .slice none 0 0] (l.length * 3)) 63)) := fun u => by
    have h := run_make (P := Tryz.prog) u 35 63 i0 (.agg #[.int .i64 0, .int .i64 0, .slice none 0 0]) Tryz.underlying35 hi hz0 .i64 .i64 (l.length : Int) (l.length : Int) (by omega) (Int.le_refl _) (by rw [hz2]; omega) (by omega)
    rw [Int.toNat_natCast] at h
    simpa [hz1, Value.cells] using h
  clear hi hz0 hz1 hz2
  go_enter Tryz.func63, Tryz.ntmps63
  go_wp2
  go_loopw [4] (fun i wr => ∃ (k : Nat) (cs : Array Value), k ≤ l.length ∧ i = .int .i64 k ∧ cs.size = l.length * 3 ∧ Blk wr w.heap.size 63 cs ∧ RowP3 (UnV wr (w.heap.size + 1) wr.heap.size) cs l k ∧ Below w.heap.size w wr ∧ New w.heap.size wr) (fun i _ => l.length - (intOf i).toNat)
  case atStart => exact ⟨0, _, Nat.zero_le _, rfl, by simp [madeCells], Blk.new _ _ _, fun i _ hk => by omega, (Below.refl _ _).alloc (Nat.le_refl _) _, (New.refl w).alloc _ _⟩
  case round =>
    obtain ⟨k, cs, hk, rfl, hcs, hblk, hown, hbl, hnw⟩ := hrel
    have Hcs := Lib.hid hcs
    have Hown := Lib.hid hown
    clear hcs hown
    by_cases hlt : k < l.length
    · obtain ⟨ad, rfl, _, hb, hat⟩ := (h.below (hbl.mono hB)).2 (by omega)
      obtain ⟨v0, v1, v2, ⟨c0, c1, c2⟩, hv⟩ := hat k hlt
      have hsz1 : unSz l[k] ≤ 1048576 := by have := sum_get unSz hlt; unfold unsSz at hl; omega
      have hc := toUnit_n l[k] v0 v1 v2 L B wr (Nat.le_trans hB hbl.size) hsz1 hv
      have Hc := Lib.hid hc
      clear hc hat
      go_wp2_with fail
      refine Hc.out.mono ?_
      rintro e w1 ⟨g1, rfl, hF1, hb1, hn1⟩
      have hnw1 := hnw.join hb1 hn1
      have hu : UnV w1 (w.heap.size + 1) w1.heap.size (.int .i64 l[k].params) (.int .i64 l[k].regs) (.slice (some ⟨g1, 0, none⟩) l[k].l.length l[k].l.length) l[k] :=
        ⟨rfl, rfl, _, _, rfl, hF1.more (by have := hblk.lt; omega) (Nat.le_refl _)⟩
      have hblk1 := hblk.below hb1 hblk.lt
      have hsz := Hcs.out
      obtain ⟨x0, e0⟩ : ∃ v, cs[k * 3]? = some v := ⟨_, Array.getElem?_eq_getElem (by omega)⟩
      obtain ⟨x1, e1⟩ : ∃ v, cs[k * 3 + 1]? = some v := ⟨_, Array.getElem?_eq_getElem (by omega)⟩
      obtain ⟨x2, e2⟩ : ∃ v, cs[k * 3 + 2]? = some v := ⟨_, Array.getElem?_eq_getElem (by omega)⟩
      have q0 : w1.cell? ⟨w.heap.size, k * 3, none⟩ = some x0 := by rw [hblk1.cell]; exact e0
      have q1 : w1.cell? ⟨w.heap.size, k * 3 + 1, none⟩ = some x1 := by rw [hblk1.cell]; exact e1
      have q2 : w1.cell? ⟨w.heap.size, k * 3 + 2, none⟩ = some x2 := by rw [hblk1.cell]; exact e2
      have z0 : w1.frozen? ⟨w.heap.size, k * 3, none⟩ = false := hblk1.frozen _
      have z1 : w1.frozen? ⟨w.heap.size, k * 3 + 1, none⟩ = false := hblk1.frozen _
      have z2 : w1.frozen? ⟨w.heap.size, k * 3 + 2, none⟩ = false := hblk1.frozen _
      have hlt1 := hblk.lt
      have hbl1 := hbl.trans (hb1.mono hbl.size)
      have hfin := (Hown.out.mono (V' := UnV w1 (w.heap.size + 1) w1.heap.size) (fun _ _ _ _ hv => (UnV.keep hv (fun _ _ hp => hb1.cell hp)).more (Nat.le_refl _) hb1.size)).step hlt (by omega) hu
      have hfin2 := hfin.mono (V' := UnV (((w1.setCell ⟨w.heap.size, k * 3, none⟩ (.int .i64 l[k].params)).setCell ⟨w.heap.size, k * 3 + 1, none⟩ (.int .i64 l[k].regs)).setCell ⟨w.heap.size, k * 3 + 2, none⟩ (.slice (some ⟨g1, 0, none⟩) l[k].l.length l[k].l.length)) (w.heap.size + 1) w1.heap.size)
        (fun _ _ _ _ hv => UnV.keep hv (fun p hp _ => by
          rw [World.cell?_setCell_other _ _ _ _ (fun e => by subst e; simp at hp; omega), World.cell?_setCell_other _ _ _ _ (fun e => by subst e; simp at hp; omega), World.cell?_setCell_other _ _ _ _ (fun e => by subst e; simp at hp; omega)]))
      have Hfin := Lib.hid hfin2
      clear hsz e0 e1 e2 hfin hfin2 hu
      go_wp2
      go_roundw
      case rel =>
        exact ⟨k + 1, _, by omega, by go_num, by rw [pt3_size]; exact Hcs.out, hblk1.pt3 (k * 3) _ _ _ , by simpa only [World.size_setCell] using Hfin.out, ((hbl1.setCell (by simp) _).setCell (by simp) _).setCell (by simp) _, (((hnw1.set_ _ _).set_ _ _).set_ _ _)⟩
      case measure => simp [intOf]; omega
    · go_wp2
      go_ret
      have : k = l.length := by omega
      subst this
      exact ⟨_, rfl, hblk.lt, Nat.le_refl _, Hown.out.row (by unfold maxLen; omega) hblk (Nat.le_refl _) |>.more (Nat.le_refl _) (Nat.le_refl _) (fun _ _ _ _ hv => UnV.more hv (by omega) (Nat.le_refl _)), hbl, hnw⟩

set_option maxHeartbeats 2000000 in
theorem toCode_n (l : List Un) (A : Option Addr) (c : Nat) (L B : Nat) (w : World) (hB : B ≤ w.heap.size) (hl : unsSz l ≤ 1048576) (hx : UnL w L B A l) :
    Calls Tryz.prog 34 #[.agg #[.slice A l.length c]] w fun e w' => ∃ g, e = .returned (.agg #[.slice (some ⟨g, 0, none⟩) l.length l.length]) ∧
      UnL w' w.heap.size w'.heap.size (some ⟨g, 0, none⟩) l ∧ Below w.heap.size w w' ∧ New w.heap.size w' := by
  skip
  have hb0 : Below w.heap.size w (((w.alloc (.cells #[.slice A l.length c] 24)).alloc (.cells #[.slice none 0 0] 37)).alloc (.cells #[.slice none 0 0] 37)) := (((Below.refl _ _).alloc (Nat.le_refl _) _).alloc (by simp) _).alloc (by simp; omega) _
  go_enter Tryz.func34, Tryz.ntmps34
  go_wp2_with fail
  refine (toUnitS_n l A c L B _ (by simp; omega) hl (hx.below (hb0.mono hB))).mono ?_
  rintro e w1 ⟨g1, rfl, hs1, hg1, hx1, hb1, hn1⟩
  have hnw1 := New.join ((((New.refl w).alloc _ _).alloc _ _).alloc _ _) hb1 hn1
  have K3 : Blk w1 (w.heap.size + 1 + 1) 37 #[.slice none 0 0] :=
    Blk.below (by have := Blk.new ((w.alloc (.cells #[.slice A l.length c] 24)).alloc (.cells #[.slice none 0 0] 37)) 37 #[.slice none 0 0]; simpa using this) hb1 (by simp)
  have K2 : Blk w1 (w.heap.size + 1) 37 #[.slice none 0 0] :=
    Blk.below ((by have := Blk.new (w.alloc (.cells #[.slice A l.length c] 24)) 37 #[.slice none 0 0]; simpa using this : Blk ((w.alloc (.cells #[.slice A l.length c] 24)).alloc (.cells #[.slice none 0 0] 37)) (w.heap.size + 1) 37 _).alloc _) hb1 (by simp)
  have hg1' : w.heap.size + 1 + 1 + 1 ≤ g1 := by simpa using hg1
  have hbw : Below w.heap.size w w1 := hb0.trans (hb1.mono (by simp; omega))
  have n0 := K3.cel 0 rfl
  have m0 := K2.cel 0 rfl
  have x0 : w1.frozen? ⟨w.heap.size + 1 + 1, 0, none⟩ = false := K3.frozen 0
  have y0 : w1.frozen? ⟨w.heap.size + 1, 0, none⟩ = false := K2.frozen 0
  have hs2 : w.heap.size + 1 + 1 < w1.heap.size := K3.lt
  have hx2 : UnL w1 (w.heap.size + 1 + 1 + 1) w1.heap.size (some ⟨g1, 0, none⟩) l := by simpa using hx1
  clear hb1 hg1 hx1 hx hb0 K3 K2
  go_wp2_with fail
  refine bodyPost_ret (v := .agg #[.slice (some ⟨g1, 0, none⟩) l.length l.length]) (by simp [results, Tryz.results34, go_sem, m0]) rfl
    ⟨g1, rfl, ?_, ?_, ?_⟩
  · refine (hx2.keep (fun p hp _ => ?_)).more (by omega) (by simp)
    rw [World.cell?_setCell_other _ _ _ _ (fun e => by subst e; simp at hp; omega), World.cell?_setCell_other _ _ _ _ (fun e => by subst e; simp at hp; omega)]
  · exact (hbw.setCell (by simp; omega) _).setCell (by simp) _
  · repeat (with_reducible first | exact hnw1 | apply New.set_)
end CodM
end Go.Proofs.YtddjcjjnpidhiaaGreatDoor
