/-
  Orders, units and codes in memory; nothing of the program but its sizes.
-/
import Derived.Test.YtebgigiakfjocaaDoorArn
namespace Go.Proofs.YtebgigiakfjocaaDoor
open Go.RowKit
set_option linter.unusedVariables false

theorem Blk.tri {w : World} {g : Nat} {t : TypeId} {a b c : Value} (h : Blk w g t #[a, b, c]) : w.cell? ⟨g, 0, none⟩ = some a ∧ w.cell? ⟨g, 1, none⟩ = some b ∧ w.cell? ⟨g, 2, none⟩ = some c :=
  ⟨h.cel 0 rfl, h.cel 1 rfl, h.cel 2 rfl⟩
theorem Blk.uno {w : World} {g : Nat} {t : TypeId} {a : Value} (h : Blk w g t #[a]) : w.cell? ⟨g, 0, none⟩ = some a ∧ True :=
  ⟨h.cel 0 rfl, trivial⟩
theorem blwC (w : World) (o : Obj) : Below w.heap.size w (w.alloc o) := (Below.refl _ _).alloc (Nat.le_refl _) o
structure In where
  op : Int
  a : Int
  b : Int
  c : Int
  name : List UInt8
structure Un where
  params : Int
  regs : Int
  l : List In

/-- 3 cells from p on -/
def C3 (w : World) (p : Addr) (v0 v1 v2 : Value) : Prop :=
  w.cell? p = some v0 ∧ w.cell? ⟨p.block, p.off + 1, none⟩ = some v1 ∧ w.cell? ⟨p.block, p.off + 2, none⟩ = some v2
theorem C3.keep {w w' : World} {p : Addr} {v0 v1 v2 : Value} (h : C3 w p v0 v1 v2) (hk : ∀ q : Addr, q.block = p.block → w'.cell? q = w.cell? q) : C3 w' p v0 v1 v2 :=
  ⟨(hk p rfl).trans h.1, (hk ⟨p.block, p.off + 1, none⟩ rfl).trans h.2.1, (hk ⟨p.block, p.off + 2, none⟩ rfl).trans h.2.2⟩
section
variable {α : Type}
def Row3 (V : Value → Value → Value → α → Prop) (w : World) (L B : Nat) (A : Option Addr) (l : List α) : Prop :=
  l.length ≤ maxLen ∧ (0 < l.length → ∃ ad, A = some ad ∧ L ≤ ad.block ∧ ad.block < B ∧ ∀ k (h : k < l.length), ∃ v0 v1 v2, C3 w (ad.add (k * 3)) v0 v1 v2 ∧ V v0 v1 v2 l[k])
theorem Row3.keep {V V' : Value → Value → Value → α → Prop} {w w' : World} {L B : Nat} {A : Option Addr} {l : List α} (h : Row3 V w L B A l) (hk : ∀ p : Addr, L ≤ p.block → p.block < B → w'.cell? p = w.cell? p)
    (hV : ∀ v0 v1 v2 x, V v0 v1 v2 x → V' v0 v1 v2 x) : Row3 V' w' L B A l := by
  refine ⟨h.1, fun hn => ?_⟩
  obtain ⟨ad, eA, hL, hB, hs⟩ := h.2 hn
  refine ⟨ad, eA, hL, hB, fun j hj => ?_⟩
  obtain ⟨u0, u1, u2, h4, hv⟩ := hs j hj
  exact ⟨u0, u1, u2, h4.keep (fun q hq => hk q (by rw [hq, block_of_add]; exact hL) (by rw [hq, block_of_add]; exact hB)), hV _ _ _ _ hv⟩
theorem Row3.more {V V' : Value → Value → Value → α → Prop} {w : World} {L B L' B' : Nat} {A : Option Addr} {l : List α} (h : Row3 V w L B A l) (hL : L' ≤ L) (hB : B ≤ B')
    (hV : ∀ v0 v1 v2 x, V v0 v1 v2 x → V' v0 v1 v2 x) : Row3 V' w L' B' A l := by
  refine ⟨h.1, fun hn => ?_⟩
  obtain ⟨ad, eA, hL', hB', hs⟩ := h.2 hn
  refine ⟨ad, eA, by omega, by omega, fun j hj => ?_⟩
  obtain ⟨u0, u1, u2, h4, hv⟩ := hs j hj
  exact ⟨u0, u1, u2, h4, hV _ _ _ _ hv⟩
theorem Row3.none_ (V : Value → Value → Value → α → Prop) (w : World) (L B : Nat) (A : Option Addr) : Row3 V w L B A [] := ⟨Nat.zero_le _, fun h => absurd h (by simp)⟩
/-- the first k of a row's cells -/
def RowP3 (V : Value → Value → Value → α → Prop) (cs : Array Value) (l : List α) (k : Nat) : Prop :=
  ∀ i (h : i < l.length), i < k → ∃ u0 u1 u2, cs[i * 3]? = some u0 ∧ cs[i * 3 + 1]? = some u1 ∧ cs[i * 3 + 2]? = some u2 ∧ V u0 u1 u2 l[i]
theorem RowP3.mono {V V' : Value → Value → Value → α → Prop} {cs : Array Value} {l : List α} {k : Nat} (h : RowP3 V cs l k) (hV : ∀ v0 v1 v2 x, V v0 v1 v2 x → V' v0 v1 v2 x) : RowP3 V' cs l k := fun i hi hk => by
  obtain ⟨u0, u1, u2, c0, c1, c2, hv⟩ := h i hi hk
  exact ⟨u0, u1, u2, c0, c1, c2, hV _ _ _ _ hv⟩
def pt3 (cs : Array Value) (k : Nat) (a b c : Value) : Array Value := ((cs.setIfInBounds k a).setIfInBounds (k + 1) b).setIfInBounds (k + 2) c
theorem pt3_size (cs : Array Value) (k : Nat) (a b c : Value) : (pt3 cs k a b c).size = cs.size := by simp [pt3]
theorem pt3_at {cs : Array Value} {k : Nat} {a b c : Value} (h : k + 2 < cs.size) : (pt3 cs k a b c)[k]? = some a ∧ (pt3 cs k a b c)[k + 1]? = some b ∧ (pt3 cs k a b c)[k + 2]? = some c := by
  unfold pt3
  refine ⟨?_, ?_, ?_⟩
  · rw [Array.getElem?_setIfInBounds_ne (by omega), Array.getElem?_setIfInBounds_ne (by omega), Array.getElem?_setIfInBounds_self_of_lt (by omega)]
  · rw [Array.getElem?_setIfInBounds_ne (by omega), Array.getElem?_setIfInBounds_self_of_lt (by simp; omega)]
  · rw [Array.getElem?_setIfInBounds_self_of_lt (by simp; omega)]
theorem pt3_ne {cs : Array Value} {k j : Nat} {a b c : Value} (h : j < k ∨ k + 2 < j) : (pt3 cs k a b c)[j]? = cs[j]? := by
  unfold pt3
  rw [Array.getElem?_setIfInBounds_ne (by omega), Array.getElem?_setIfInBounds_ne (by omega), Array.getElem?_setIfInBounds_ne (by omega)]
theorem Blk.pt3 {w : World} {g : Nat} {t : TypeId} {cs : Array Value} (h : Blk w g t cs) (k : Nat) (a b c : Value) :
    Blk (((w.setCell ⟨g, k, none⟩ a).setCell ⟨g, k + 1, none⟩ b).setCell ⟨g, k + 2, none⟩ c) g t (YtebgigiakfjocaaDoor.pt3 cs k a b c) :=
  ((h.set_ k a).set_ (k + 1) b).set_ (k + 2) c
theorem RowP3.step {V : Value → Value → Value → α → Prop} {cs : Array Value} {l : List α} {k : Nat} (h : RowP3 V cs l k) (hk : k < l.length) (hcs : l.length * 3 ≤ cs.size) {u0 u1 u2 : Value} (hv : V u0 u1 u2 l[k]) :
    RowP3 V (pt3 cs (k * 3) u0 u1 u2) l (k + 1) := by
  intro i hi hik
  by_cases e : i = k
  · subst e
    obtain ⟨a0, a1, a2⟩ := pt3_at (cs := cs) (k := i * 3) (a := u0) (b := u1) (c := u2) (by omega)
    exact ⟨u0, u1, u2, a0, a1, a2, hv⟩
  · obtain ⟨x0, x1, x2, c0, c1, c2, hx⟩ := h i hi (by omega)
    refine ⟨x0, x1, x2, ?_, ?_, ?_, hx⟩
    · rw [pt3_ne (by omega)]; exact c0
    · rw [pt3_ne (by omega)]; exact c1
    · rw [pt3_ne (by omega)]; exact c2
theorem RowP3.row {V : Value → Value → Value → α → Prop} {w : World} {L g : Nat} {t : TypeId} {cs : Array Value} {l : List α} (h : RowP3 V cs l l.length) (hm : l.length ≤ maxLen) (hb : Blk w g t cs) (hL : L ≤ g) : Row3 V w L w.heap.size (some ⟨g, 0, none⟩) l := by
  refine ⟨hm, fun _ => ⟨_, rfl, hL, hb.lt, fun k hk => ?_⟩⟩
  obtain ⟨u0, u1, u2, c0, c1, c2, hv⟩ := h k hk hk
  refine ⟨u0, u1, u2, ?_, hv⟩
  rw [add_zero_]
  exact ⟨hb.cel _ c0, hb.cel _ c1, hb.cel _ c2⟩
end

/-- 5 cells from p on -/
def C5 (w : World) (p : Addr) (v0 v1 v2 v3 v4 : Value) : Prop :=
  w.cell? p = some v0 ∧ w.cell? ⟨p.block, p.off + 1, none⟩ = some v1 ∧ w.cell? ⟨p.block, p.off + 2, none⟩ = some v2 ∧ w.cell? ⟨p.block, p.off + 3, none⟩ = some v3 ∧ w.cell? ⟨p.block, p.off + 4, none⟩ = some v4
theorem C5.keep {w w' : World} {p : Addr} {v0 v1 v2 v3 v4 : Value} (h : C5 w p v0 v1 v2 v3 v4) (hk : ∀ q : Addr, q.block = p.block → w'.cell? q = w.cell? q) : C5 w' p v0 v1 v2 v3 v4 :=
  ⟨(hk p rfl).trans h.1, (hk ⟨p.block, p.off + 1, none⟩ rfl).trans h.2.1, (hk ⟨p.block, p.off + 2, none⟩ rfl).trans h.2.2.1, (hk ⟨p.block, p.off + 3, none⟩ rfl).trans h.2.2.2.1, (hk ⟨p.block, p.off + 4, none⟩ rfl).trans h.2.2.2.2⟩
section
variable {α : Type}
def Row5 (V : Value → Value → Value → Value → Value → α → Prop) (w : World) (L B : Nat) (A : Option Addr) (l : List α) : Prop :=
  l.length ≤ maxLen ∧ (0 < l.length → ∃ ad, A = some ad ∧ L ≤ ad.block ∧ ad.block < B ∧ ∀ k (h : k < l.length), ∃ v0 v1 v2 v3 v4, C5 w (ad.add (k * 5)) v0 v1 v2 v3 v4 ∧ V v0 v1 v2 v3 v4 l[k])
theorem Row5.keep {V V' : Value → Value → Value → Value → Value → α → Prop} {w w' : World} {L B : Nat} {A : Option Addr} {l : List α} (h : Row5 V w L B A l) (hk : ∀ p : Addr, L ≤ p.block → p.block < B → w'.cell? p = w.cell? p)
    (hV : ∀ v0 v1 v2 v3 v4 x, V v0 v1 v2 v3 v4 x → V' v0 v1 v2 v3 v4 x) : Row5 V' w' L B A l := by
  refine ⟨h.1, fun hn => ?_⟩
  obtain ⟨ad, eA, hL, hB, hs⟩ := h.2 hn
  refine ⟨ad, eA, hL, hB, fun j hj => ?_⟩
  obtain ⟨u0, u1, u2, u3, u4, h4, hv⟩ := hs j hj
  exact ⟨u0, u1, u2, u3, u4, h4.keep (fun q hq => hk q (by rw [hq, block_of_add]; exact hL) (by rw [hq, block_of_add]; exact hB)), hV _ _ _ _ _ _ hv⟩
theorem Row5.more {V V' : Value → Value → Value → Value → Value → α → Prop} {w : World} {L B L' B' : Nat} {A : Option Addr} {l : List α} (h : Row5 V w L B A l) (hL : L' ≤ L) (hB : B ≤ B')
    (hV : ∀ v0 v1 v2 v3 v4 x, V v0 v1 v2 v3 v4 x → V' v0 v1 v2 v3 v4 x) : Row5 V' w L' B' A l := by
  refine ⟨h.1, fun hn => ?_⟩
  obtain ⟨ad, eA, hL', hB', hs⟩ := h.2 hn
  refine ⟨ad, eA, by omega, by omega, fun j hj => ?_⟩
  obtain ⟨u0, u1, u2, u3, u4, h4, hv⟩ := hs j hj
  exact ⟨u0, u1, u2, u3, u4, h4, hV _ _ _ _ _ _ hv⟩
theorem Row5.none_ (V : Value → Value → Value → Value → Value → α → Prop) (w : World) (L B : Nat) (A : Option Addr) : Row5 V w L B A [] := ⟨Nat.zero_le _, fun h => absurd h (by simp)⟩
/-- the first k of a row's cells -/
def RowP5 (V : Value → Value → Value → Value → Value → α → Prop) (cs : Array Value) (l : List α) (k : Nat) : Prop :=
  ∀ i (h : i < l.length), i < k → ∃ u0 u1 u2 u3 u4, cs[i * 5]? = some u0 ∧ cs[i * 5 + 1]? = some u1 ∧ cs[i * 5 + 2]? = some u2 ∧ cs[i * 5 + 3]? = some u3 ∧ cs[i * 5 + 4]? = some u4 ∧ V u0 u1 u2 u3 u4 l[i]
theorem RowP5.mono {V V' : Value → Value → Value → Value → Value → α → Prop} {cs : Array Value} {l : List α} {k : Nat} (h : RowP5 V cs l k) (hV : ∀ v0 v1 v2 v3 v4 x, V v0 v1 v2 v3 v4 x → V' v0 v1 v2 v3 v4 x) : RowP5 V' cs l k := fun i hi hk => by
  obtain ⟨u0, u1, u2, u3, u4, c0, c1, c2, c3, c4, hv⟩ := h i hi hk
  exact ⟨u0, u1, u2, u3, u4, c0, c1, c2, c3, c4, hV _ _ _ _ _ _ hv⟩
def pt5 (cs : Array Value) (k : Nat) (a b c d e : Value) : Array Value := ((((cs.setIfInBounds k a).setIfInBounds (k + 1) b).setIfInBounds (k + 2) c).setIfInBounds (k + 3) d).setIfInBounds (k + 4) e
theorem pt5_size (cs : Array Value) (k : Nat) (a b c d e : Value) : (pt5 cs k a b c d e).size = cs.size := by simp [pt5]
theorem pt5_at {cs : Array Value} {k : Nat} {a b c d e : Value} (h : k + 4 < cs.size) : (pt5 cs k a b c d e)[k]? = some a ∧ (pt5 cs k a b c d e)[k + 1]? = some b ∧ (pt5 cs k a b c d e)[k + 2]? = some c ∧ (pt5 cs k a b c d e)[k + 3]? = some d ∧ (pt5 cs k a b c d e)[k + 4]? = some e := by
  unfold pt5
  refine ⟨?_, ?_, ?_, ?_, ?_⟩
  · rw [Array.getElem?_setIfInBounds_ne (by omega), Array.getElem?_setIfInBounds_ne (by omega), Array.getElem?_setIfInBounds_ne (by omega), Array.getElem?_setIfInBounds_ne (by omega), Array.getElem?_setIfInBounds_self_of_lt (by omega)]
  · rw [Array.getElem?_setIfInBounds_ne (by omega), Array.getElem?_setIfInBounds_ne (by omega), Array.getElem?_setIfInBounds_ne (by omega), Array.getElem?_setIfInBounds_self_of_lt (by simp; omega)]
  · rw [Array.getElem?_setIfInBounds_ne (by omega), Array.getElem?_setIfInBounds_ne (by omega), Array.getElem?_setIfInBounds_self_of_lt (by simp; omega)]
  · rw [Array.getElem?_setIfInBounds_ne (by omega), Array.getElem?_setIfInBounds_self_of_lt (by simp; omega)]
  · rw [Array.getElem?_setIfInBounds_self_of_lt (by simp; omega)]
theorem pt5_ne {cs : Array Value} {k j : Nat} {a b c d e : Value} (h : j < k ∨ k + 4 < j) : (pt5 cs k a b c d e)[j]? = cs[j]? := by
  unfold pt5
  rw [Array.getElem?_setIfInBounds_ne (by omega), Array.getElem?_setIfInBounds_ne (by omega), Array.getElem?_setIfInBounds_ne (by omega), Array.getElem?_setIfInBounds_ne (by omega), Array.getElem?_setIfInBounds_ne (by omega)]
theorem Blk.pt5 {w : World} {g : Nat} {t : TypeId} {cs : Array Value} (h : Blk w g t cs) (k : Nat) (a b c d e : Value) :
    Blk (((((w.setCell ⟨g, k, none⟩ a).setCell ⟨g, k + 1, none⟩ b).setCell ⟨g, k + 2, none⟩ c).setCell ⟨g, k + 3, none⟩ d).setCell ⟨g, k + 4, none⟩ e) g t (YtebgigiakfjocaaDoor.pt5 cs k a b c d e) :=
  ((((h.set_ k a).set_ (k + 1) b).set_ (k + 2) c).set_ (k + 3) d).set_ (k + 4) e
theorem RowP5.step {V : Value → Value → Value → Value → Value → α → Prop} {cs : Array Value} {l : List α} {k : Nat} (h : RowP5 V cs l k) (hk : k < l.length) (hcs : l.length * 5 ≤ cs.size) {u0 u1 u2 u3 u4 : Value} (hv : V u0 u1 u2 u3 u4 l[k]) :
    RowP5 V (pt5 cs (k * 5) u0 u1 u2 u3 u4) l (k + 1) := by
  intro i hi hik
  by_cases e : i = k
  · subst e
    obtain ⟨a0, a1, a2, a3, a4⟩ := pt5_at (cs := cs) (k := i * 5) (a := u0) (b := u1) (c := u2) (d := u3) (e := u4) (by omega)
    exact ⟨u0, u1, u2, u3, u4, a0, a1, a2, a3, a4, hv⟩
  · obtain ⟨x0, x1, x2, x3, x4, c0, c1, c2, c3, c4, hx⟩ := h i hi (by omega)
    refine ⟨x0, x1, x2, x3, x4, ?_, ?_, ?_, ?_, ?_, hx⟩
    · rw [pt5_ne (by omega)]; exact c0
    · rw [pt5_ne (by omega)]; exact c1
    · rw [pt5_ne (by omega)]; exact c2
    · rw [pt5_ne (by omega)]; exact c3
    · rw [pt5_ne (by omega)]; exact c4
theorem RowP5.row {V : Value → Value → Value → Value → Value → α → Prop} {w : World} {L g : Nat} {t : TypeId} {cs : Array Value} {l : List α} (h : RowP5 V cs l l.length) (hm : l.length ≤ maxLen) (hb : Blk w g t cs) (hL : L ≤ g) : Row5 V w L w.heap.size (some ⟨g, 0, none⟩) l := by
  refine ⟨hm, fun _ => ⟨_, rfl, hL, hb.lt, fun k hk => ?_⟩⟩
  obtain ⟨u0, u1, u2, u3, u4, c0, c1, c2, c3, c4, hv⟩ := h k hk hk
  refine ⟨u0, u1, u2, u3, u4, ?_, hv⟩
  rw [add_zero_]
  exact ⟨hb.cel _ c0, hb.cel _ c1, hb.cel _ c2, hb.cel _ c3, hb.cel _ c4⟩
end

/-- an order -/
def InV (w : World) (L B : Nat) (v0 v1 v2 v3 v4 : Value) (f : In) : Prop :=
  v0 = .int .i64 f.op ∧ v1 = .int .i64 f.a ∧ v2 = .int .i64 f.b ∧ v3 = .int .i64 f.c ∧ ∃ (A : Option Addr) (c : Nat), v4 = .slice A f.name.length c ∧ NmB w L B A f.name ∧ f.name.length ≤ maxLen
def InL (w : World) (L B : Nat) (A : Option Addr) (l : List In) : Prop := Row5 (InV w L B) w L B A l
/-- a unit -/
def UnV (w : World) (L B : Nat) (v0 v1 v2 : Value) (s : Un) : Prop :=
  v0 = .int .i64 s.params ∧ v1 = .int .i64 s.regs ∧ ∃ (A : Option Addr) (c : Nat), v2 = .slice A s.l.length c ∧ InL w L B A s.l
def UnL (w : World) (L B : Nat) (A : Option Addr) (l : List Un) : Prop := Row3 (UnV w L B) w L B A l

section
variable {w w' : World} {L B L' B' : Nat} {A : Option Addr} {v0 v1 v2 v3 v4 : Value}
theorem InV.keep {f : In} (h : InV w L B v0 v1 v2 v3 v4 f) (hk : ∀ p : Addr, L ≤ p.block → p.block < B → w'.cell? p = w.cell? p) : InV w' L B v0 v1 v2 v3 v4 f := by
  obtain ⟨e0, e1, e2, e3, A, c, e, hN, hm⟩ := h; exact ⟨e0, e1, e2, e3, A, c, e, hN.keep hk, hm⟩
theorem InV.more {f : In} (h : InV w L B v0 v1 v2 v3 v4 f) (hL : L' ≤ L) (hB : B ≤ B') : InV w L' B' v0 v1 v2 v3 v4 f := by
  obtain ⟨e0, e1, e2, e3, A, c, e, hN, hm⟩ := h; exact ⟨e0, e1, e2, e3, A, c, e, hN.more hL hB, hm⟩
theorem InL.keep {l : List In} (h : InL w L B A l) (hk : ∀ p : Addr, L ≤ p.block → p.block < B → w'.cell? p = w.cell? p) : InL w' L B A l := Row5.keep h hk fun _ _ _ _ _ _ hv => InV.keep hv hk
theorem InL.more {l : List In} (h : InL w L B A l) (hL : L' ≤ L) (hB : B ≤ B') : InL w L' B' A l := Row5.more h hL hB fun _ _ _ _ _ _ hv => InV.more hv hL hB
theorem InL.below {l : List In} (h : InL w L B A l) (hb : Below B w w') : InL w' L B A l := h.keep fun _ _ hp => hb.cell hp
theorem UnV.keep {f : Un} (h : UnV w L B v0 v1 v2 f) (hk : ∀ p : Addr, L ≤ p.block → p.block < B → w'.cell? p = w.cell? p) : UnV w' L B v0 v1 v2 f := by
  obtain ⟨e0, e1, A, c, e3, hN⟩ := h; exact ⟨e0, e1, A, c, e3, hN.keep hk⟩
theorem UnV.more {f : Un} (h : UnV w L B v0 v1 v2 f) (hL : L' ≤ L) (hB : B ≤ B') : UnV w L' B' v0 v1 v2 f := by
  obtain ⟨e0, e1, A, c, e3, hN⟩ := h; exact ⟨e0, e1, A, c, e3, hN.more hL hB⟩
theorem UnL.keep {l : List Un} (h : UnL w L B A l) (hk : ∀ p : Addr, L ≤ p.block → p.block < B → w'.cell? p = w.cell? p) : UnL w' L B A l := Row3.keep h hk fun _ _ _ _ hv => UnV.keep hv hk
theorem UnL.more {l : List Un} (h : UnL w L B A l) (hL : L' ≤ L) (hB : B ≤ B') : UnL w L' B' A l := Row3.more h hL hB fun _ _ _ _ hv => UnV.more hv hL hB
theorem UnL.below {l : List Un} (h : UnL w L B A l) (hb : Below B w w') : UnL w' L B A l := h.keep fun _ _ hp => hb.cell hp
end

def inSz (f : In) : Nat := f.name.length
def insSz (l : List In) : Nat := l.length + (l.map inSz).sum
def unSz (s : Un) : Nat := insSz s.l
def unsSz (l : List Un) : Nat := l.length + (l.map unSz).sum
end Go.Proofs.YtebgigiakfjocaaDoor
