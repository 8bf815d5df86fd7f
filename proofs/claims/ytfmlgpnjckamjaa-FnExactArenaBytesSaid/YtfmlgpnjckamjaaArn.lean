/-
  Values, fields, slots and numbers in memory; nothing of the program but its sizes.
-/
import Derived.Test.YtfmlgpnjckamjaaBytes
import Derived.IntWalk
import Derived.Outline
import Derived.StillTailTactics
import Derived.Deep.QuietTactic
import Derived.BigQuiet
namespace Go.Proofs.Ytfmlgpnjckamjaa
open Go.RowKit
set_option linter.unusedVariables false

theorem Blk.cel {w : World} {g : Nat} {t : TypeId} {cs : Array Value} (h : Blk w g t cs) (i : Nat) {v : Value} (hv : cs[i]? = some v) : w.cell? ⟨g, i, none⟩ = some v := by rw [h.cell]; exact hv
theorem blw_drewN {B : Nat} {a w : World} (h : Below B a w) (m : Nat) : Below B a (w.drewN m) := ⟨h.os, h.tape, h.output, h.size, h.block⟩

structure Fd where
  name : List UInt8
  k : Int
  n : Int
  g : Int
structure Sl where
  live : Bool
  gen : Int
  count : Int
  fs : List Fd
structure Ar where
  slots : List Sl
  queue : List Int
  purple : List Int

/-- bytes that lie in blocks from L on -/
def NmB (w : World) (L B : Nat) (A : Option Addr) (l : List UInt8) : Prop := RB w B A l ∧ (0 < l.length → ∃ ad, A = some ad ∧ L ≤ ad.block)
theorem NmB.keep {w w' : World} {L B : Nat} {A : Option Addr} {l : List UInt8} (h : NmB w L B A l) (hk : ∀ p : Addr, L ≤ p.block → p.block < B → w'.cell? p = w.cell? p) : NmB w' L B A l := by
  refine ⟨⟨h.1.1, fun hn => ?_⟩, h.2⟩
  obtain ⟨ad, e, hb, hc⟩ := h.1.2 hn
  obtain ⟨ad', e', hL⟩ := h.2 hn
  rw [e] at e'
  cases e'
  exact ⟨ad, e, hb, fun j u hu => (hk _ (by rw [block_of_add]; exact hL) (by rw [block_of_add]; exact hb)).trans (hc j u hu)⟩
theorem NmB.more {w : World} {L B L' B' : Nat} {A : Option Addr} {l : List UInt8} (h : NmB w L B A l) (hL : L' ≤ L) (hB : B ≤ B') : NmB w L' B' A l :=
  ⟨h.1.more hB, fun hn => by obtain ⟨ad, e, hl⟩ := h.2 hn; exact ⟨ad, e, by omega⟩⟩

/-- four cells from p on -/
def C4 (w : World) (p : Addr) (v0 v1 v2 v3 : Value) : Prop :=
  w.cell? p = some v0 ∧ w.cell? ⟨p.block, p.off + 1, none⟩ = some v1 ∧ w.cell? ⟨p.block, p.off + 2, none⟩ = some v2 ∧ w.cell? ⟨p.block, p.off + 3, none⟩ = some v3
theorem C4.keep {w w' : World} {p : Addr} {v0 v1 v2 v3 : Value} (h : C4 w p v0 v1 v2 v3) (hk : ∀ q : Addr, q.block = p.block → w'.cell? q = w.cell? q) : C4 w' p v0 v1 v2 v3 :=
  ⟨(hk p rfl).trans h.1, (hk ⟨p.block, p.off + 1, none⟩ rfl).trans h.2.1, (hk ⟨p.block, p.off + 2, none⟩ rfl).trans h.2.2.1, (hk ⟨p.block, p.off + 3, none⟩ rfl).trans h.2.2.2⟩

section
variable {α : Type}
/-- a slice of things of four cells -/
def Row4 (V : Value → Value → Value → Value → α → Prop) (w : World) (L B : Nat) (A : Option Addr) (l : List α) : Prop :=
  l.length ≤ maxLen ∧ (0 < l.length → ∃ ad, A = some ad ∧ L ≤ ad.block ∧ ad.block < B ∧ ∀ k (h : k < l.length), ∃ v0 v1 v2 v3, C4 w (ad.add (k * 4)) v0 v1 v2 v3 ∧ V v0 v1 v2 v3 l[k])
theorem Row4.keep {V V' : Value → Value → Value → Value → α → Prop} {w w' : World} {L B : Nat} {A : Option Addr} {l : List α} (h : Row4 V w L B A l) (hk : ∀ p : Addr, L ≤ p.block → p.block < B → w'.cell? p = w.cell? p)
    (hV : ∀ v0 v1 v2 v3 x, V v0 v1 v2 v3 x → V' v0 v1 v2 v3 x) : Row4 V' w' L B A l := by
  refine ⟨h.1, fun hn => ?_⟩
  obtain ⟨ad, eA, hL, hB, hs⟩ := h.2 hn
  refine ⟨ad, eA, hL, hB, fun j hj => ?_⟩
  obtain ⟨u0, u1, u2, u3, h4, hv⟩ := hs j hj
  exact ⟨u0, u1, u2, u3, h4.keep (fun q hq => hk q (by rw [hq, block_of_add]; exact hL) (by rw [hq, block_of_add]; exact hB)), hV _ _ _ _ _ hv⟩
theorem Row4.more {V V' : Value → Value → Value → Value → α → Prop} {w : World} {L B L' B' : Nat} {A : Option Addr} {l : List α} (h : Row4 V w L B A l) (hL : L' ≤ L) (hB : B ≤ B')
    (hV : ∀ v0 v1 v2 v3 x, V v0 v1 v2 v3 x → V' v0 v1 v2 v3 x) : Row4 V' w L' B' A l := by
  refine ⟨h.1, fun hn => ?_⟩
  obtain ⟨ad, eA, hL', hB', hs⟩ := h.2 hn
  refine ⟨ad, eA, by omega, by omega, fun j hj => ?_⟩
  obtain ⟨u0, u1, u2, u3, h4, hv⟩ := hs j hj
  exact ⟨u0, u1, u2, u3, h4, hV _ _ _ _ _ hv⟩
theorem Row4.none_ (V : Value → Value → Value → Value → α → Prop) (w : World) (L B : Nat) (A : Option Addr) : Row4 V w L B A [] := ⟨Nat.zero_le _, fun h => absurd h (by simp)⟩

/-- the first k of a row's cells -/
def RowP (V : Value → Value → Value → Value → α → Prop) (cs : Array Value) (l : List α) (k : Nat) : Prop :=
  ∀ i (h : i < l.length), i < k → ∃ u0 u1 u2 u3, cs[i * 4]? = some u0 ∧ cs[i * 4 + 1]? = some u1 ∧ cs[i * 4 + 2]? = some u2 ∧ cs[i * 4 + 3]? = some u3 ∧ V u0 u1 u2 u3 l[i]
theorem RowP.mono {V V' : Value → Value → Value → Value → α → Prop} {cs : Array Value} {l : List α} {k : Nat} (h : RowP V cs l k) (hV : ∀ v0 v1 v2 v3 x, V v0 v1 v2 v3 x → V' v0 v1 v2 v3 x) : RowP V' cs l k := fun i hi hk => by
  obtain ⟨u0, u1, u2, u3, c0, c1, c2, c3, hv⟩ := h i hi hk
  exact ⟨u0, u1, u2, u3, c0, c1, c2, c3, hV _ _ _ _ _ hv⟩

def pt4 (cs : Array Value) (k : Nat) (a b c d : Value) : Array Value := (((cs.setIfInBounds k a).setIfInBounds (k + 1) b).setIfInBounds (k + 2) c).setIfInBounds (k + 3) d
theorem pt4_size (cs : Array Value) (k : Nat) (a b c d : Value) : (pt4 cs k a b c d).size = cs.size := by simp [pt4]
theorem pt4_at {cs : Array Value} {k : Nat} {a b c d : Value} (h : k + 3 < cs.size) : (pt4 cs k a b c d)[k]? = some a ∧ (pt4 cs k a b c d)[k + 1]? = some b ∧ (pt4 cs k a b c d)[k + 2]? = some c ∧ (pt4 cs k a b c d)[k + 3]? = some d := by
  unfold pt4
  refine ⟨?_, ?_, ?_, ?_⟩
  · rw [Array.getElem?_setIfInBounds_ne (by omega), Array.getElem?_setIfInBounds_ne (by omega), Array.getElem?_setIfInBounds_ne (by omega), Array.getElem?_setIfInBounds_self_of_lt (by omega)]
  · rw [Array.getElem?_setIfInBounds_ne (by omega), Array.getElem?_setIfInBounds_ne (by omega), Array.getElem?_setIfInBounds_self_of_lt (by simp; omega)]
  · rw [Array.getElem?_setIfInBounds_ne (by omega), Array.getElem?_setIfInBounds_self_of_lt (by simp; omega)]
  · rw [Array.getElem?_setIfInBounds_self_of_lt (by simp; omega)]
theorem pt4_ne {cs : Array Value} {k j : Nat} {a b c d : Value} (h : j < k ∨ k + 3 < j) : (pt4 cs k a b c d)[j]? = cs[j]? := by
  unfold pt4
  rw [Array.getElem?_setIfInBounds_ne (by omega), Array.getElem?_setIfInBounds_ne (by omega), Array.getElem?_setIfInBounds_ne (by omega), Array.getElem?_setIfInBounds_ne (by omega)]
theorem Blk.pt4 {w : World} {g : Nat} {t : TypeId} {cs : Array Value} (h : Blk w g t cs) (k : Nat) (a b c d : Value) :
    Blk ((((w.setCell ⟨g, k, none⟩ a).setCell ⟨g, k + 1, none⟩ b).setCell ⟨g, k + 2, none⟩ c).setCell ⟨g, k + 3, none⟩ d) g t (Ytfmlgpnjckamjaa.pt4 cs k a b c d) :=
  (((h.set_ k a).set_ (k + 1) b).set_ (k + 2) c).set_ (k + 3) d
theorem RowP.step {V : Value → Value → Value → Value → α → Prop} {cs : Array Value} {l : List α} {k : Nat} (h : RowP V cs l k) (hk : k < l.length) (hcs : l.length * 4 ≤ cs.size) {u0 u1 u2 u3 : Value} (hv : V u0 u1 u2 u3 l[k]) :
    RowP V (pt4 cs (k * 4) u0 u1 u2 u3) l (k + 1) := by
  intro i hi hik
  by_cases e : i = k
  · subst e
    obtain ⟨a0, a1, a2, a3⟩ := pt4_at (cs := cs) (k := i * 4) (a := u0) (b := u1) (c := u2) (d := u3) (by omega)
    exact ⟨u0, u1, u2, u3, a0, a1, a2, a3, hv⟩
  · obtain ⟨x0, x1, x2, x3, c0, c1, c2, c3, hx⟩ := h i hi (by omega)
    refine ⟨x0, x1, x2, x3, ?_, ?_, ?_, ?_, hx⟩
    · rw [pt4_ne (by omega)]; exact c0
    · rw [pt4_ne (by omega)]; exact c1
    · rw [pt4_ne (by omega)]; exact c2
    · rw [pt4_ne (by omega)]; exact c3
theorem add_zero_ (g j : Nat) : (Addr.add ⟨g, 0, none⟩ j) = ⟨g, j, none⟩ := by unfold Addr.add; split <;> simp_all
theorem RowP.row {V : Value → Value → Value → Value → α → Prop} {w : World} {L g : Nat} {t : TypeId} {cs : Array Value} {l : List α} (h : RowP V cs l l.length) (hm : l.length ≤ maxLen) (hb : Blk w g t cs) (hL : L ≤ g) : Row4 V w L w.heap.size (some ⟨g, 0, none⟩) l := by
  refine ⟨hm, fun _ => ⟨_, rfl, hL, hb.lt, fun k hk => ?_⟩⟩
  obtain ⟨u0, u1, u2, u3, c0, c1, c2, c3, hv⟩ := h k hk hk
  refine ⟨u0, u1, u2, u3, ?_, hv⟩
  rw [add_zero_]
  exact ⟨hb.cel _ c0, hb.cel _ c1, hb.cel _ c2, hb.cel _ c3⟩
end

/-- a field -/
def FdV (w : World) (L B : Nat) (v0 v1 v2 v3 : Value) (f : Fd) : Prop :=
  ∃ (A : Option Addr) (c : Nat), v0 = .slice A f.name.length c ∧ NmB w L B A f.name ∧ f.name.length ≤ maxLen ∧ v1 = .int .i64 f.k ∧ v2 = .int .i64 f.n ∧ v3 = .int .i64 f.g
def FdL (w : World) (L B : Nat) (A : Option Addr) (l : List Fd) : Prop := Row4 (FdV w L B) w L B A l
/-- a slot -/
def SlV (w : World) (L B : Nat) (v0 v1 v2 v3 : Value) (s : Sl) : Prop :=
  v0 = .bool s.live ∧ v1 = .int .i64 s.gen ∧ v2 = .int .i64 s.count ∧ ∃ (A : Option Addr) (c : Nat), v3 = .slice A s.fs.length c ∧ FdL w L B A s.fs
def SlL (w : World) (L B : Nat) (A : Option Addr) (l : List Sl) : Prop := Row4 (SlV w L B) w L B A l
/-- numbers -/
def IL (w : World) (L B : Nat) (A : Option Addr) (l : List Int) : Prop :=
  l.length ≤ maxLen ∧ (0 < l.length → ∃ ad, A = some ad ∧ L ≤ ad.block ∧ ad.block < B ∧ ∀ k (h : k < l.length), w.cell? (ad.add k) = some (.int .i64 l[k]))
/-- an arena's three rows -/
def ArL (w : World) (L B : Nat) (A0 A1 A2 : Option Addr) (a : Ar) : Prop := SlL w L B A0 a.slots ∧ IL w L B A1 a.queue ∧ IL w L B A2 a.purple

section
variable {w w' : World} {L B L' B' : Nat} {A : Option Addr} {v0 v1 v2 v3 : Value}
theorem FdV.keep {f : Fd} (h : FdV w L B v0 v1 v2 v3 f) (hk : ∀ p : Addr, L ≤ p.block → p.block < B → w'.cell? p = w.cell? p) : FdV w' L B v0 v1 v2 v3 f := by
  obtain ⟨A, c, e0, hN, hm, e⟩ := h; exact ⟨A, c, e0, hN.keep hk, hm, e⟩
theorem FdV.more {f : Fd} (h : FdV w L B v0 v1 v2 v3 f) (hL : L' ≤ L) (hB : B ≤ B') : FdV w L' B' v0 v1 v2 v3 f := by
  obtain ⟨A, c, e0, hN, hm, e⟩ := h; exact ⟨A, c, e0, hN.more hL hB, hm, e⟩
theorem FdL.keep {l : List Fd} (h : FdL w L B A l) (hk : ∀ p : Addr, L ≤ p.block → p.block < B → w'.cell? p = w.cell? p) : FdL w' L B A l := Row4.keep h hk fun _ _ _ _ _ hv => FdV.keep hv hk
theorem FdL.more {l : List Fd} (h : FdL w L B A l) (hL : L' ≤ L) (hB : B ≤ B') : FdL w L' B' A l := Row4.more h hL hB fun _ _ _ _ _ hv => FdV.more hv hL hB
theorem FdL.below {l : List Fd} (h : FdL w L B A l) (hb : Below B w w') : FdL w' L B A l := h.keep fun _ _ hp => hb.cell hp
theorem SlV.keep {f : Sl} (h : SlV w L B v0 v1 v2 v3 f) (hk : ∀ p : Addr, L ≤ p.block → p.block < B → w'.cell? p = w.cell? p) : SlV w' L B v0 v1 v2 v3 f := by
  obtain ⟨e0, e1, e2, A, c, e3, hN⟩ := h; exact ⟨e0, e1, e2, A, c, e3, hN.keep hk⟩
theorem SlV.more {f : Sl} (h : SlV w L B v0 v1 v2 v3 f) (hL : L' ≤ L) (hB : B ≤ B') : SlV w L' B' v0 v1 v2 v3 f := by
  obtain ⟨e0, e1, e2, A, c, e3, hN⟩ := h; exact ⟨e0, e1, e2, A, c, e3, hN.more hL hB⟩
theorem SlL.keep {l : List Sl} (h : SlL w L B A l) (hk : ∀ p : Addr, L ≤ p.block → p.block < B → w'.cell? p = w.cell? p) : SlL w' L B A l := Row4.keep h hk fun _ _ _ _ _ hv => SlV.keep hv hk
theorem SlL.more {l : List Sl} (h : SlL w L B A l) (hL : L' ≤ L) (hB : B ≤ B') : SlL w L' B' A l := Row4.more h hL hB fun _ _ _ _ _ hv => SlV.more hv hL hB
theorem SlL.below {l : List Sl} (h : SlL w L B A l) (hb : Below B w w') : SlL w' L B A l := h.keep fun _ _ hp => hb.cell hp
theorem IL.keep {l : List Int} (h : IL w L B A l) (hk : ∀ p : Addr, L ≤ p.block → p.block < B → w'.cell? p = w.cell? p) : IL w' L B A l :=
  ⟨h.1, fun hn => by
    obtain ⟨ad, e, hL, hB, hc⟩ := h.2 hn
    exact ⟨ad, e, hL, hB, fun j hj => (hk _ (by rw [block_of_add]; exact hL) (by rw [block_of_add]; exact hB)).trans (hc j hj)⟩⟩
theorem IL.more {l : List Int} (h : IL w L B A l) (hL : L' ≤ L) (hB : B ≤ B') : IL w L' B' A l :=
  ⟨h.1, fun hn => by obtain ⟨ad, e, hl, hb, hc⟩ := h.2 hn; exact ⟨ad, e, by omega, by omega, hc⟩⟩
theorem IL.below {l : List Int} (h : IL w L B A l) (hb : Below B w w') : IL w' L B A l := h.keep fun _ _ hp => hb.cell hp
theorem IL.drewN {l : List Int} (h : IL w L B A l) (m : Nat) : IL (w.drewN m) L B A l := h
theorem IL.none_ (w : World) (L B : Nat) (A : Option Addr) : IL w L B A [] := ⟨Nat.zero_le _, fun h => absurd h (by simp)⟩
variable {A0 A1 A2 : Option Addr} {a : Ar}
theorem ArL.keep (h : ArL w L B A0 A1 A2 a) (hk : ∀ p : Addr, L ≤ p.block → p.block < B → w'.cell? p = w.cell? p) : ArL w' L B A0 A1 A2 a := ⟨h.1.keep hk, h.2.1.keep hk, h.2.2.keep hk⟩
theorem ArL.more (h : ArL w L B A0 A1 A2 a) (hL : L' ≤ L) (hB : B ≤ B') : ArL w L' B' A0 A1 A2 a := ⟨h.1.more hL hB, h.2.1.more hL hB, h.2.2.more hL hB⟩
theorem ArL.below (h : ArL w L B A0 A1 A2 a) (hb : Below B w w') : ArL w' L B A0 A1 A2 a := h.keep fun _ _ hp => hb.cell hp
end

-- sums
section
variable {α : Type}
/-- what the first k are worth -/
def sumIn (f : α → Nat) (l : List α) (k : Nat) : Nat := ((l.take k).map f).sum
theorem sumIn_step (f : α → Nat) {l : List α} {k : Nat} (hk : k < l.length) : sumIn f l (k + 1) = sumIn f l k + f l[k] := by
  unfold sumIn
  rw [List.take_succ_eq_append_getElem hk, List.map_append, List.sum_append]
  simp
theorem sumIn_all (f : α → Nat) (l : List α) : sumIn f l l.length = (l.map f).sum := by unfold sumIn; rw [List.take_length]
theorem sum_get (f : α → Nat) : ∀ {l : List α} {k : Nat} (hk : k < l.length), f l[k] ≤ (l.map f).sum
  | [], k, hk => by simp at hk
  | e :: r, 0, hk => by simp
  | e :: r, k + 1, hk => by
    have := sum_get f (l := r) (k := k) (by simpa using hk)
    simp only [List.map_cons, List.sum_cons, List.getElem_cons_succ]
    omega
end
def fdSz (f : Fd) : Nat := f.name.length
def fsSz (l : List Fd) : Nat := l.length + (l.map fdSz).sum
def slSz (s : Sl) : Nat := fsSz s.fs
def slsSz (l : List Sl) : Nat := l.length + (l.map slSz).sum
def arSz (a : Ar) : Nat := slsSz a.slots + a.queue.length + a.purple.length

/-- what is left of a budget -/
def lft (left : Int) (n : Nat) : Int := if left - n < 0 then -1 else left - n
theorem lft_cases (left : Int) (n : Nat) : (left - n < 0 ∧ lft left n = -1) ∨ (0 ≤ left - n ∧ lft left n = left - n) := by
  unfold lft; by_cases h : left - n < 0
  · exact Or.inl ⟨h, if_pos h⟩
  · exact Or.inr ⟨by omega, if_neg h⟩
/-- what a size tells: below nothing, or what is left -/
def SzA (n : Nat) (left : Int) (w : World) (e : Ending) (w' : World) : Prop :=
  ∃ r : Int, e = .returned (.int .i64 r) ∧ -1 ≤ r ∧ r ≤ left ∧ (0 ≤ r → (n : Int) + r ≤ left) ∧ Below w.heap.size w w'
end Go.Proofs.Ytfmlgpnjckamjaa
