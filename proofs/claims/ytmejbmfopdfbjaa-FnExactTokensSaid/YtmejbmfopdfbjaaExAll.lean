/-
  Expressions: size, copy, likeness.
-/
import Derived.Test.YtmejbmfopdfbjaaData
import Derived.Test.YtmejbmfopdfbjaaBase
import Derived.Outline
import Derived.StillTailTactics
import Derived.Deep.QuietTactic
import Derived.BigQuiet
namespace Go.Proofs.Ytmejbmfopdfbjaa
open Go.RowKit
set_option linter.unusedVariables false

/-- what a size tells: below nothing, or what is left -/
def SzP (n : Nat) (left : Int) (w : World) (e : Ending) (w' : World) : Prop :=
  ∃ r : Int, e = .returned (.int .i64 r) ∧ -1 ≤ r ∧ r ≤ left ∧ (0 ≤ r → (n : Int) + r ≤ left) ∧ Below w.heap.size w w'

def SzEx (e : Ex) : Prop := ∀ (v0 v1 v2 v3 : Value) (left : Int) (w : World) (L B : Nat), ExV w L B v0 v1 v2 v3 e → B ≤ w.heap.size → 0 ≤ left → left ≤ 1048576 →
  Calls Try.prog 82 #[.agg #[v0, v1, v2, v3], .int .i64 left] w (SzP (exSz e) left w)

set_option maxHeartbeats 1000000 in
theorem szExS_of (l : List Ex) (ih : ∀ e ∈ l, SzEx e) (A : Option Addr) (c L B : Nat) (left : Int) (w : World) (hB : B ≤ w.heap.size) (h0 : 0 ≤ left) (h1 : left ≤ 1048576) (h : ExL w L B A l) :
    Calls Try.prog 105 #[.slice A l.length c, .int .i64 left] w (SzP (exsSz l) left w) := by
  have hn := h.1
  unfold maxLen at hn
  have Ih := Lib.hid ih
  clear ih
  by_cases hlt : left - l.length < 0
  · go_enter Try.func105, Try.ntmps105
    go_wp2
    go_ret
    exact ⟨-1, rfl, by omega, by omega, by omega, Below.refl _ _⟩
  have hge : 0 ≤ left - l.length := by omega
  clear hlt
  have htot := exsSz_all l
  have Htot := Lib.hid htot
  clear htot
  go_enter Try.func105, Try.ntmps105
  go_wp2
  go_loopw [1, 5] (fun s i wr => ∃ (k : Nat) (r : Int), k ≤ l.length ∧ i = .int .i64 k ∧ s = .int .i64 r ∧ 0 ≤ r ∧ (l.length : Int) + exsIn l k + r ≤ left ∧ Below w.heap.size w wr) (fun _ i _ => l.length - (intOf i).toNat)
  case atStart => exact ⟨0, left - l.length, Nat.zero_le _, rfl, rfl, by omega, by simp [exsIn]; omega, Below.refl _ _⟩
  case round =>
    obtain ⟨k, r, hk, rfl, rfl, hr0, hr1, hbl⟩ := hrel
    by_cases hlt : k < l.length
    · obtain ⟨ad, rfl, _, hb, hat⟩ := (h.below (hbl.mono hB)).2 (by omega)
      obtain ⟨v0, v1, v2, v3, ⟨c0, c1, c2, c3⟩, hv⟩ := hat k hlt
      have hst := exsIn_step hlt
      have hr2 : r ≤ 1048576 := by omega
      have hc := Ih.out l[k] (List.getElem_mem hlt) v0 v1 v2 v3 r wr L B hv (Nat.le_trans hB hbl.size) hr0 hr2
      have Hc := Lib.hid hc
      clear hc
      go_wp2_with fail
      refine Hc.out.mono ?_
      rintro e w1 ⟨r1, rfl, q1, q2, q3, hb1⟩
      have hbn := hbl.trans (hb1.mono hbl.size)
      by_cases hr : r1 < 0
      · clear hst q3
        go_wp2
        go_ret
        exact ⟨-1, rfl, by omega, by omega, by omega, hbn⟩
      · have hr' : 0 ≤ r1 := by omega
        have q4 := q3 hr'
        have hst' : (exsIn l (k + 1) : Int) ≤ exsIn l k + exSz l[k] := by omega
        clear hst q3 hr
        go_wp2
        go_roundw
        case rel => exact ⟨k + 1, r1, by omega, by go_num, rfl, by omega, by omega, hbn⟩
        case measure => simp [intOf]; omega
    · go_wp2
      go_ret
      have : k = l.length := by omega
      subst this
      exact ⟨r, rfl, by omega, by omega, fun _ => by have := Htot.out; omega, hbl⟩

set_option maxHeartbeats 1000000 in
theorem szEx_c (e : Ex) : SzEx e := by
  refine Ex.ind (P := SzEx) ?_ e
  intro k n name args ih v0 v1 v2 v3 left w L B hv hB h0 h1
  obtain ⟨A, c, A', c', rfl, rfl, rfl, rfl, hR, hm, hx⟩ := hv.open_
  unfold maxLen at hm
  rw [exSz_mk]
  have hs := szByteS_c A name.length c left (w.alloc (.cells #[.int .i64 k, .int .i64 n, .slice A name.length c, .slice A' args.length c'] 93)) hm h0 h1
  have hx' := hx.below ((Below.refl B w).alloc hB (.cells #[.int .i64 k, .int .i64 n, .slice A name.length c, .slice A' args.length c'] 93))
  have hbl : Below w.heap.size w (w.alloc (.cells #[.int .i64 k, .int .i64 n, .slice A name.length c, .slice A' args.length c'] 93)) := (Below.refl _ _).alloc (Nat.le_refl _) _
  rcases sub_cases left name.length with ⟨hlt, he⟩ | ⟨hge, he⟩
  · rw [he] at hs
    have Hs := Lib.hid hs
    clear he hs ih
    go_enter Try.func82, Try.ntmps82
    go_wp2_with fail
    refine Hs.out.mono ?_
    rintro e w' ⟨rfl, rfl⟩
    go_wp2
    go_ret
    exact ⟨-1, rfl, by omega, by omega, by omega, hbl⟩
  · rw [he] at hs
    have Hs := Lib.hid hs
    have hc := szExS_of args ih A' c' L B (left - name.length) _ (by simp; omega) hge (by omega) hx'
    have Hc := Lib.hid hc
    clear he hs ih hc
    go_enter Try.func82, Try.ntmps82
    go_wp2_with fail
    refine Hs.out.mono ?_
    rintro e w' ⟨rfl, rfl⟩
    go_wp2_with fail
    refine Hc.out.mono ?_
    rintro e w1 ⟨r1, rfl, q1, q2, q3, hb1⟩
    have hbn := hbl.trans (hb1.mono hbl.size)
    by_cases hr : r1 < 0
    · clear q3
      go_wp2
      go_ret
      exact ⟨-1, rfl, by omega, by omega, by omega, hbn⟩
    · have hr' : 0 ≤ r1 := by omega
      have q4 := q3 hr'
      clear q3 hr
      go_wp2
      go_ret
      exact ⟨r1, rfl, by omega, by omega, fun _ => by omega, hbn⟩
theorem szExS_c (l : List Ex) (A : Option Addr) (c L B : Nat) (left : Int) (w : World) (hB : B ≤ w.heap.size) (h0 : 0 ≤ left) (h1 : left ≤ 1048576) (h : ExL w L B A l) :
    Calls Try.prog 105 #[.slice A l.length c, .int .i64 left] w (SzP (exsSz l) left w) :=
  szExS_of l (fun e _ => szEx_c e) A c L B left w hB h0 h1 h
end Go.Proofs.Ytmejbmfopdfbjaa

namespace Go.Proofs.Ytmejbmfopdfbjaa
open Go.RowKit

def put4 (cs : Array Value) (k : Nat) (a b c d : Value) : Array Value := (((cs.setIfInBounds k a).setIfInBounds (k + 1) b).setIfInBounds (k + 2) c).setIfInBounds (k + 3) d
theorem put4_size (cs : Array Value) (k : Nat) (a b c d : Value) : (put4 cs k a b c d).size = cs.size := by simp [put4]
theorem put4_at {cs : Array Value} {k : Nat} {a b c d : Value} (h : k + 3 < cs.size) : (put4 cs k a b c d)[k]? = some a ∧ (put4 cs k a b c d)[k + 1]? = some b ∧ (put4 cs k a b c d)[k + 2]? = some c ∧ (put4 cs k a b c d)[k + 3]? = some d := by
  unfold put4
  refine ⟨?_, ?_, ?_, ?_⟩
  · rw [Array.getElem?_setIfInBounds_ne (by omega), Array.getElem?_setIfInBounds_ne (by omega), Array.getElem?_setIfInBounds_ne (by omega), Array.getElem?_setIfInBounds_self_of_lt (by omega)]
  · rw [Array.getElem?_setIfInBounds_ne (by omega), Array.getElem?_setIfInBounds_ne (by omega), Array.getElem?_setIfInBounds_self_of_lt (by simp; omega)]
  · rw [Array.getElem?_setIfInBounds_ne (by omega), Array.getElem?_setIfInBounds_self_of_lt (by simp; omega)]
  · rw [Array.getElem?_setIfInBounds_self_of_lt (by simp; omega)]
theorem put4_ne {cs : Array Value} {k j : Nat} {a b c d : Value} (h : j < k ∨ k + 3 < j) : (put4 cs k a b c d)[j]? = cs[j]? := by
  unfold put4
  rw [Array.getElem?_setIfInBounds_ne (by omega), Array.getElem?_setIfInBounds_ne (by omega), Array.getElem?_setIfInBounds_ne (by omega), Array.getElem?_setIfInBounds_ne (by omega)]
theorem Blk.put4 {w : World} {g : Nat} {t : TypeId} {cs : Array Value} (h : Blk w g t cs) (k : Nat) (a b c d : Value) :
    Blk ((((w.setCell ⟨g, k, none⟩ a).setCell ⟨g, k + 1, none⟩ b).setCell ⟨g, k + 2, none⟩ c).setCell ⟨g, k + 3, none⟩ d) g t (Ytmejbmfopdfbjaa.put4 cs k a b c d) :=
  (((h.set_ k a).set_ (k + 1) b).set_ (k + 2) c).set_ (k + 3) d

end Go.Proofs.Ytmejbmfopdfbjaa

namespace Go.Proofs.Ytmejbmfopdfbjaa
open Go.RowKit
set_option linter.unusedVariables false

def ToEx (e : Ex) : Prop := ∀ (v0 v1 v2 v3 : Value) (w : World) (L B : Nat), ExV w L B v0 v1 v2 v3 e → B ≤ w.heap.size → exSz e ≤ 1048576 →
  Calls Try.prog 87 #[.agg #[v0, v1, v2, v3]] w fun r w' => ∃ u0 u1 u2 u3, r = .returned (.agg #[u0, u1, u2, u3]) ∧ ExV w' w.heap.size w'.heap.size u0 u1 u2 u3 e ∧ Below w.heap.size w w'

theorem infoEx : (Try.prog.info? 73).map (fun i => (i.zero, i.size, i.bytes)) = some (some (.agg #[.int .i64 0, .int .i64 0, .slice none 0 0, .slice none 0 0]), 4, 64) := by kernel_rfl

theorem ExV.low {w : World} {L B : Nat} {u0 u1 u2 u3 : Value} {e : Ex} (h : ExV w L B u0 u1 u2 u3 e) {p : Addr} (hp : p.block < L) (v : Value) : ExV (w.setCell p v) L B u0 u1 u2 u3 e :=
  ExV.keep (fun q hq _ => World.cell?_setCell_other w p q v (fun e => by subst e; omega)) e _ _ _ _ h

theorem ExL.low {w : World} {L B : Nat} {A : Option Addr} {l : List Ex} (h : ExL w L B A l) {p : Addr} (hp : p.block < L) (v : Value) : ExL (w.setCell p v) L B A l :=
  h.keep fun q hq _ => World.cell?_setCell_other w p q v (fun e => by subst e; omega)
theorem RBL.low {w : World} {L B : Nat} {A : Option Addr} {l : List UInt8} (h : RBL w L B A l) {p : Addr} (hp : p.block < L) (v : Value) : RBL (w.setCell p v) L B A l :=
  h.keep fun q hq _ => World.cell?_setCell_other w p q v (fun e => by subst e; omega)

/-- the first k of a row's cells -/
def ExsP (w : World) (L : Nat) (cs : Array Value) (l : List Ex) (k : Nat) : Prop :=
  ∀ i (h : i < l.length), i < k → ∃ u0 u1 u2 u3, cs[i * 4]? = some u0 ∧ cs[i * 4 + 1]? = some u1 ∧ cs[i * 4 + 2]? = some u2 ∧ cs[i * 4 + 3]? = some u3 ∧ ExV w L w.heap.size u0 u1 u2 u3 l[i]
theorem ExsP.keep {w w' : World} {L k : Nat} {cs : Array Value} {l : List Ex} (h : ExsP w L cs l k) (hb : Below w.heap.size w w') : ExsP w' L cs l k := fun i hi hk => by
  obtain ⟨u0, u1, u2, u3, c0, c1, c2, c3, hv⟩ := h i hi hk
  exact ⟨u0, u1, u2, u3, c0, c1, c2, c3, ExV.more (Nat.le_refl _) hb.size _ _ _ _ _ (hv.below hb)⟩
theorem ExsP.low {w : World} {L k : Nat} {cs : Array Value} {l : List Ex} (h : ExsP w L cs l k) {p : Addr} (hp : p.block < L) (v : Value) : ExsP (w.setCell p v) L cs l k := fun i hi hk => by
  obtain ⟨u0, u1, u2, u3, c0, c1, c2, c3, hv⟩ := h i hi hk
  exact ⟨u0, u1, u2, u3, c0, c1, c2, c3, by rw [World.size_setCell]; exact hv.low hp v⟩
theorem ExsP.step {w : World} {L k : Nat} {cs : Array Value} {l : List Ex} (h : ExsP w L cs l k) (hk : k < l.length) (hcs : l.length * 4 ≤ cs.size) {u0 u1 u2 u3 : Value} (hv : ExV w L w.heap.size u0 u1 u2 u3 l[k]) :
    ExsP w L (put4 cs (k * 4) u0 u1 u2 u3) l (k + 1) := by
  intro i hi hik
  by_cases e : i = k
  · subst e
    obtain ⟨a0, a1, a2, a3⟩ := put4_at (cs := cs) (k := i * 4) (a := u0) (b := u1) (c := u2) (d := u3) (by omega)
    exact ⟨u0, u1, u2, u3, a0, a1, a2, a3, hv⟩
  · obtain ⟨x0, x1, x2, x3, c0, c1, c2, c3, hx⟩ := h i hi (by omega)
    refine ⟨x0, x1, x2, x3, ?_, ?_, ?_, ?_, hx⟩
    · rw [put4_ne (by omega)]; exact c0
    · rw [put4_ne (by omega)]; exact c1
    · rw [put4_ne (by omega)]; exact c2
    · rw [put4_ne (by omega)]; exact c3
theorem ExsP.exl {w : World} {L g : Nat} {t : TypeId} {cs : Array Value} {l : List Ex} (h : ExsP w L cs l l.length) (hm : l.length ≤ maxLen) (hb : Blk w g t cs) (hL : g ≤ L) : ExL w g w.heap.size (some ⟨g, 0, none⟩) l := by
  refine ⟨hm, fun _ => ⟨_, rfl, Nat.le_refl _, hb.lt, fun k hk => ?_⟩⟩
  obtain ⟨u0, u1, u2, u3, c0, c1, c2, c3, hv⟩ := h k hk hk
  have e : (Addr.add ⟨g, 0, none⟩ (k * 4)) = ⟨g, k * 4, none⟩ := by unfold Addr.add; split <;> simp_all
  refine ⟨u0, u1, u2, u3, ?_, ExV.more hL (Nat.le_refl _) _ _ _ _ _ hv⟩
  rw [e]
  exact ⟨by rw [hb.cell]; exact c0, by show w.cell? ⟨g, k * 4 + 1, none⟩ = _; rw [hb.cell]; exact c1, by show w.cell? ⟨g, k * 4 + 2, none⟩ = _; rw [hb.cell]; exact c2, by show w.cell? ⟨g, k * 4 + 3, none⟩ = _; rw [hb.cell]; exact c3⟩

set_option maxHeartbeats 2000000 in
theorem toExS_of (l : List Ex) (ih : ∀ e ∈ l, ToEx e) (A : Option Addr) (c L B : Nat) (w : World) (hB : B ≤ w.heap.size) (hl : exsSz l ≤ 1048576) (h : ExL w L B A l) :
    Calls Try.prog 109 #[.slice A l.length c] w fun r w' => ∃ g, r = .returned (.slice (some ⟨g, 0, none⟩) l.length l.length) ∧ g < w'.heap.size ∧ w.heap.size ≤ g ∧ ExL w' w.heap.size w'.heap.size (some ⟨g, 0, none⟩) l ∧ Below w.heap.size w w' := by
  obtain ⟨i0, hi, hz0, hz1, hz2⟩ := info_parts infoEx
  have hlen := exsSz_len l
  have hmk : ∀ u : World, (Instr.makeSlice 71 (.int .i64 (l.length : Int)) (.int .i64 (l.length : Int))).run Try.prog u =
      .ok (.slice (some ⟨u.heap.size, 0, none⟩) l.length l.length) (u.alloc (.cells (madeCells #[.int .i64 0, .int .i64 0, .slice none 0 0, .slice none 0 0] (l.length * 4)) 73)) := fun u => by
    have h := run_make (P := Try.prog) u 71 73 i0 (.agg #[.int .i64 0, .int .i64 0, .slice none 0 0, .slice none 0 0]) Try.underlying71 hi hz0 .i64 .i64 (l.length : Int) (l.length : Int) (by omega) (Int.le_refl _) (by rw [hz2]; omega) (by omega)
    rw [Int.toNat_natCast] at h
    simpa [hz1, Value.cells] using h
  have Ih := Lib.hid ih
  clear hi hz0 hz1 hz2 ih
  go_enter Try.func109, Try.ntmps109
  go_wp2
  go_loopw [4] (fun i wr => ∃ (k : Nat) (cs : Array Value), k ≤ l.length ∧ i = .int .i64 k ∧ cs.size = l.length * 4 ∧ Blk wr w.heap.size 73 cs ∧ ExsP wr (w.heap.size + 1) cs l k ∧ Below w.heap.size w wr) (fun i _ => l.length - (intOf i).toNat)
  case atStart => exact ⟨0, _, Nat.zero_le _, rfl, by simp [madeCells], Blk.new _ _ _, fun i _ hk => by omega, (Below.refl _ _).alloc (Nat.le_refl _) _⟩
  case round =>
    obtain ⟨k, cs, hk, rfl, hcs, hblk, hown, hbl⟩ := hrel
    have Hcs := Lib.hid hcs
    clear hcs
    by_cases hlt : k < l.length
    · obtain ⟨ad, rfl, _, hb, hat⟩ := (h.below (hbl.mono hB)).2 (by omega)
      obtain ⟨v0, v1, v2, v3, ⟨c0, c1, c2, c3⟩, hv⟩ := hat k hlt
      have hsz1 := exsSz_get hlt
      have hc := Ih.out l[k] (List.getElem_mem hlt) v0 v1 v2 v3 wr L B hv (Nat.le_trans hB hbl.size) (by omega)
      have Hc := Lib.hid hc
      clear hc
      go_wp2_with fail
      refine Hc.out.mono ?_
      rintro e w1 ⟨u0, u1, u2, u3, rfl, hu, hb1⟩
      obtain ⟨xk, xn, xA, xa, xc, xA', xa', xc', rfl, rfl, rfl, rfl⟩ := hu.shape
      have hblk1 := hblk.below hb1 hblk.lt
      have hsz := Hcs.out
      obtain ⟨x0, e0⟩ : ∃ v, cs[k * 4]? = some v := ⟨_, Array.getElem?_eq_getElem (by omega)⟩
      obtain ⟨x1, e1⟩ : ∃ v, cs[k * 4 + 1]? = some v := ⟨_, Array.getElem?_eq_getElem (by omega)⟩
      obtain ⟨x2, e2⟩ : ∃ v, cs[k * 4 + 2]? = some v := ⟨_, Array.getElem?_eq_getElem (by omega)⟩
      obtain ⟨x3, e3⟩ : ∃ v, cs[k * 4 + 3]? = some v := ⟨_, Array.getElem?_eq_getElem (by omega)⟩
      have q0 : w1.cell? ⟨w.heap.size, k * 4, none⟩ = some x0 := by rw [hblk1.cell]; exact e0
      have q1 : w1.cell? ⟨w.heap.size, k * 4 + 1, none⟩ = some x1 := by rw [hblk1.cell]; exact e1
      have q2 : w1.cell? ⟨w.heap.size, k * 4 + 2, none⟩ = some x2 := by rw [hblk1.cell]; exact e2
      have q3 : w1.cell? ⟨w.heap.size, k * 4 + 3, none⟩ = some x3 := by rw [hblk1.cell]; exact e3
      have z0 : w1.frozen? ⟨w.heap.size, k * 4, none⟩ = false := hblk1.frozen _
      have z1 : w1.frozen? ⟨w.heap.size, k * 4 + 1, none⟩ = false := hblk1.frozen _
      have z2 : w1.frozen? ⟨w.heap.size, k * 4 + 2, none⟩ = false := hblk1.frozen _
      have z3 : w1.frozen? ⟨w.heap.size, k * 4 + 3, none⟩ = false := hblk1.frozen _
      have hlt1 := hblk.lt
      have hbl1 := hbl.trans (hb1.mono hbl.size)
      have hfin := (hown.keep hb1).step hlt (by omega) (ExV.more (by omega) (Nat.le_refl _) _ _ _ _ _ hu)
      have Hfin := Lib.hid hfin
      clear hsz e0 e1 e2 e3 hfin
      go_wp2
      go_roundw
      case rel =>
        exact ⟨k + 1, _, by omega, by go_num, by rw [put4_size]; exact Hcs.out, hblk1.put4 (k * 4) _ _ _ _, (((Hfin.out.low (by simp) _).low (by simp) _).low (by simp) _).low (by simp) _, (((hbl1.setCell (by simp) _).setCell (by simp) _).setCell (by simp) _).setCell (by simp) _⟩
      case measure => simp [intOf]; omega
    · go_wp2
      go_ret
      have : k = l.length := by omega
      subst this
      exact ⟨_, rfl, hblk.lt, Nat.le_refl _, hown.exl (by unfold maxLen; omega) hblk (by omega), hbl⟩


set_option maxHeartbeats 2000000 in
theorem toEx_c (e : Ex) : ToEx e := by
  refine Ex.ind (P := ToEx) ?_ e
  intro k n name args ih v0 v1 v2 v3 w L B hv hB hsz
  obtain ⟨A, c, A', c', rfl, rfl, rfl, rfl, hR, hm, hx⟩ := hv.open_
  rw [exSz_mk] at hsz
  have hb0 : Below w.heap.size w (((w.alloc (.cells #[.int .i64 k, .int .i64 n, .slice A name.length c, .slice A' args.length c'] 93)).alloc (.cells #[.int .i64 0, .int .i64 0, .slice none 0 0, .slice none 0 0] 73)).alloc (.cells #[.int .i64 k, .int .i64 n, .slice none 0 0, .slice none 0 0] 73)) := (((Below.refl _ _).alloc (Nat.le_refl _) _).alloc (by simp) _).alloc (by simp; omega) _
  have hR0 := (hR.below (hb0.mono hB)).1
  have hx0 := hx.below (hb0.mono hB)
  have Ih := Lib.hid ih
  clear ih hv
  go_enter Try.func87, Try.ntmps87
  go_wp2_with fail
  refine (toByteS_c name A c B _ (by omega) (by simp; omega) hR0).mono ?_
  rintro e w1 ⟨g1, rfl, hB1, hg1, hs1, hb1⟩
  have K2 : Blk w1 (w.heap.size + 1 + 1) 73 #[.int .i64 k, .int .i64 n, .slice none 0 0, .slice none 0 0] :=
    Blk.below (by have := Blk.new ((w.alloc (.cells #[.int .i64 k, .int .i64 n, .slice A name.length c, .slice A' args.length c'] 93)).alloc (.cells #[.int .i64 0, .int .i64 0, .slice none 0 0, .slice none 0 0] 73)) 73 #[.int .i64 k, .int .i64 n, .slice none 0 0, .slice none 0 0]; simpa using this) hb1 (by simp)
  have K1 : Blk w1 (w.heap.size + 1) 73 #[.int .i64 0, .int .i64 0, .slice none 0 0, .slice none 0 0] :=
    Blk.below ((by have := Blk.new (w.alloc (.cells #[.int .i64 k, .int .i64 n, .slice A name.length c, .slice A' args.length c'] 93)) 73 #[.int .i64 0, .int .i64 0, .slice none 0 0, .slice none 0 0]; simpa using this : Blk ((w.alloc (.cells #[.int .i64 k, .int .i64 n, .slice A name.length c, .slice A' args.length c'] 93)).alloc (.cells #[.int .i64 0, .int .i64 0, .slice none 0 0, .slice none 0 0] 73)) (w.heap.size + 1) 73 _).alloc _) hb1 (by simp)
  have K0 : Blk w1 w.heap.size 93 #[.int .i64 k, .int .i64 n, .slice A name.length c, .slice A' args.length c'] :=
    Blk.below (((Blk.new w 93 _).alloc _).alloc _) hb1 (by simp; omega)
  have hg1' : w.heap.size + 1 + 1 + 1 ≤ g1 := by simpa using hg1
  have hbw : Below w.heap.size w w1 := hb0.trans (hb1.mono (by simp; omega))
  have hx1 := hx0.below (hb1.mono (by simp; omega))
  have a3 := K0.cell_of 3 rfl
  have n2 := K2.cell_of 2 rfl
  have z2 : w1.frozen? ⟨w.heap.size + 1 + 1, 2, none⟩ = false := K2.frozen 2
  have hs1' := hs1
  clear hb1 hg1 hR hR0 hx hx0 hb0
  go_wp2_with fail
  have hx2 : ExL (w1.setCell ⟨w.heap.size + 1 + 1, 2, none⟩ (.slice (some ⟨g1, 0, none⟩) name.length name.length)) L B A' args :=
    hx1.keep fun p _ hp => World.cell?_setCell_other w1 _ p _ (fun e => by subst e; simp at hp; omega)
  refine (toExS_of args Ih.out A' c' L B _ (by simp; have := hbw.size; omega) (by omega) hx2).mono ?_
  rintro e w2 ⟨g2, rfl, hg2, hg2', hv2, hb2⟩
  rw [World.size_setCell] at hb2 hv2 hg2'
  have K2' := (K2.set_ 2 (.slice (some ⟨g1, 0, none⟩) name.length name.length)).below hb2 K2.lt
  have K1' := (K1.far (p := ⟨w.heap.size + 1 + 1, 2, none⟩) (by simp) (.slice (some ⟨g1, 0, none⟩) name.length name.length)).below hb2 K1.lt
  have hB1' := (hB1.far (p := ⟨w.heap.size + 1 + 1, 2, none⟩) (by simp; omega) (.slice (some ⟨g1, 0, none⟩) name.length name.length)).below hb2 hB1.lt
  have hbw2 : Below w.heap.size w w2 := (hbw.setCell (p := ⟨w.heap.size + 1 + 1, 2, none⟩) (by simp; omega) _).trans (hb2.mono hbw.size)
  have m0 := K1'.cell_of 0 rfl
  have m1 := K1'.cell_of 1 rfl
  have m2 := K1'.cell_of 2 rfl
  have m3 := K1'.cell_of 3 rfl
  have p0 := K2'.cell_of 0 rfl
  have p1 := K2'.cell_of 1 rfl
  have p2 := K2'.cell_of 2 rfl
  have p3 := K2'.cell_of 3 rfl
  have y0 : w2.frozen? ⟨w.heap.size + 1, 0, none⟩ = false := K1'.frozen 0
  have y1 : w2.frozen? ⟨w.heap.size + 1, 1, none⟩ = false := K1'.frozen 1
  have y2 : w2.frozen? ⟨w.heap.size + 1, 2, none⟩ = false := K1'.frozen 2
  have y3 : w2.frozen? ⟨w.heap.size + 1, 3, none⟩ = false := K1'.frozen 3
  have y4 : w2.frozen? ⟨w.heap.size + 1 + 1, 3, none⟩ = false := K2'.frozen 3
  have hlt1 : g1 < w1.heap.size := hs1
  clear hb2 a3 n2 z2 hx1 hx2 K0 K1 K2
  go_wp2_with fail
  refine bodyPost_ret (v := .agg #[.int .i64 k, .int .i64 n, .slice (some ⟨g1, 0, none⟩) name.length name.length, .slice (some ⟨g2, 0, none⟩) args.length args.length]) (by simp [results, Try.results87, go_sem, m0, m1, m2, m3]) rfl ?_
  have hw1 := hbw.size
  have hx3 := ((((hv2.low (p := ⟨w.heap.size + 1 + 1, 3, none⟩) (by simp; omega) (.slice (some ⟨g2, 0, none⟩) args.length args.length)).low (p := ⟨w.heap.size + 1, 0, none⟩) (by simp; omega) (.int .i64 k)).low (p := ⟨w.heap.size + 1, 1, none⟩) (by simp; omega) (.int .i64 n)).low (p := ⟨w.heap.size + 1, 2, none⟩) (by simp; omega) (.slice (some ⟨g1, 0, none⟩) name.length name.length)).low (p := ⟨w.heap.size + 1, 3, none⟩) (by simp; omega) (.slice (some ⟨g2, 0, none⟩) args.length args.length)
  have hr3 := ((((hB1'.far (p := ⟨w.heap.size + 1 + 1, 3, none⟩) (by simp; omega) (.slice (some ⟨g2, 0, none⟩) args.length args.length)).far (p := ⟨w.heap.size + 1, 0, none⟩) (by simp; omega) (.int .i64 k)).far (p := ⟨w.heap.size + 1, 1, none⟩) (by simp; omega) (.int .i64 n)).far (p := ⟨w.heap.size + 1, 2, none⟩) (by simp; omega) (.slice (some ⟨g1, 0, none⟩) name.length name.length)).far (p := ⟨w.heap.size + 1, 3, none⟩) (by simp; omega) (.slice (some ⟨g2, 0, none⟩) args.length args.length)
  refine ⟨_, _, _, _, rfl, ExV.mk_ ⟨RB.of_blk hr3 hr3.lt, fun _ => ⟨_, rfl, by show w.heap.size ≤ g1; omega⟩⟩ hm (hx3.more hw1 (by simp)), ?_⟩
  exact ((((hbw2.setCell (by simp; omega) _).setCell (by simp) _).setCell (by simp) _).setCell (by simp) _).setCell (by simp) _
end Go.Proofs.Ytmejbmfopdfbjaa

namespace Go.Proofs.Ytmejbmfopdfbjaa
open Go.RowKit
set_option linter.unusedVariables false

theorem below_drewN {B : Nat} {a w : World} (h : Below B a w) (m : Nat) : Below B a (w.drewN m) := ⟨h.os, h.tape, h.output, h.size, h.block⟩

def EqEx (e : Ex) : Prop := ∀ (v0 v1 v2 v3 u0 u1 u2 u3 : Value) (w : World) (L B L' B' : Nat), ExV w L B v0 v1 v2 v3 e → ExV w L' B' u0 u1 u2 u3 e → B ≤ w.heap.size → B' ≤ w.heap.size → exSz e ≤ 1048576 →
  Calls Try.prog 94 #[.agg #[v0, v1, v2, v3], .agg #[u0, u1, u2, u3]] w fun r w' => r = .returned (.bool true) ∧ Below w.heap.size w w'

set_option maxRecDepth 100000 in
set_option maxHeartbeats 1000000 in
theorem eqExS_of (l : List Ex) (ih : ∀ e ∈ l, EqEx e) (A A' : Option Addr) (c c' L B L' B' : Nat) (w : World) (hB : B ≤ w.heap.size) (hB' : B' ≤ w.heap.size) (hl : exsSz l ≤ 1048576) (h : ExL w L B A l) (h' : ExL w L' B' A' l) :
    Calls Try.prog 113 #[.slice A l.length c, .slice A' l.length c'] w fun r w' => r = .returned (.bool true) ∧ Below w.heap.size w w' := by
  have hlen := exsSz_len l
  have Ih := Lib.hid ih
  clear ih
  go_enter Try.func113, Try.ntmps113
  go_wp2
  go_loopw [5] (fun i wr => ∃ (k : Nat), k ≤ l.length ∧ i = .int .i64 k ∧ Below w.heap.size w wr) (fun i _ => l.length - (intOf i).toNat)
  case atStart => exact ⟨0, Nat.zero_le _, rfl, Below.refl _ _⟩
  case round =>
    obtain ⟨k, hk, rfl, hbl⟩ := hrel
    by_cases hlt : k < l.length
    · obtain ⟨ad, rfl, _, hb, hat⟩ := (h.below (hbl.mono hB)).2 (by omega)
      obtain ⟨v0, v1, v2, v3, ⟨c0, c1, c2, c3⟩, hv⟩ := hat k hlt
      obtain ⟨ad', rfl, _, hb', hat'⟩ := (h'.below (hbl.mono hB')).2 (by omega)
      obtain ⟨u0, u1, u2, u3, ⟨d0, d1, d2, d3⟩, hu⟩ := hat' k hlt
      have hsz1 := exsSz_get hlt
      have hc := Ih.out l[k] (List.getElem_mem hlt) v0 v1 v2 v3 u0 u1 u2 u3 wr.drew L B L' B' (ExV.keep (w := wr) (w' := wr.drew) (fun _ _ _ => rfl) _ _ _ _ _ hv) (ExV.keep (w := wr) (w' := wr.drew) (fun _ _ _ => rfl) _ _ _ _ _ hu) (Nat.le_trans hB hbl.size) (Nat.le_trans hB' hbl.size) (by omega)
      have Hc := Lib.hid hc
      clear hc hat hat'
      go_wp2
      go_still_tail 8, (by kernel_rfl)
      change wpList _ _ _ _ _ wr.drew
      go_wp2_with fail
      refine Hc.out.mono ?_
      rintro e w1 ⟨rfl, hb1⟩
      go_wp2
      go_roundw
      case rel => exact ⟨k + 1, by omega, by go_num, hbl.drew.trans (hb1.mono hbl.size)⟩
      case measure => simp [intOf]; omega
    · go_wp2
      go_ret
      exact ⟨rfl, hbl⟩

set_option maxHeartbeats 1000000 in
theorem eqEx_c (e : Ex) : EqEx e := by
  refine Ex.ind (P := EqEx) ?_ e
  intro k n name args ih v0 v1 v2 v3 u0 u1 u2 u3 w L B L' B' hv hu hB hB' hsz
  obtain ⟨A, c, A', c', rfl, rfl, rfl, rfl, hR, hm, hx⟩ := hv.open_
  obtain ⟨D, d, D', d', rfl, rfl, rfl, rfl, hS, _, hy⟩ := hu.open_
  rw [exSz_mk] at hsz
  have hb0 : Below w.heap.size w ((w.alloc (.cells #[.int .i64 k, .int .i64 n, .slice A name.length c, .slice A' args.length c'] 73)).alloc (.cells #[.int .i64 k, .int .i64 n, .slice D name.length d, .slice D' args.length d'] 73)) :=
    ((Below.refl _ _).alloc (Nat.le_refl _) _).alloc (by simp) _
  have hR0 := (hR.below (hb0.mono hB)).1
  have hS0 := (hS.below (hb0.mono hB')).1
  have hx0 := hx.below (hb0.mono hB)
  have hy0 := hy.below (hb0.mono hB')
  have a3 := (Below.refl w.heap.size w)
  have Ih := Lib.hid ih
  clear ih hv hu a3
  go_enter Try.func94, Try.ntmps94
  go_wp2_with fail
  refine (eqByteS_c name A D c d B B' _ (by omega) hR0 hS0).mono ?_
  rintro e w1 ⟨rfl, m, rfl⟩
  go_wp2_with fail
  refine (eqExS_of args Ih.out A' D' c' d' L B L' B' (World.drewN _ m) (by simp; omega) (by simp; omega) (by omega) (hx0.keep (w' := World.drewN _ m) fun _ _ _ => rfl) (hy0.keep (w' := World.drewN _ m) fun _ _ _ => rfl)).mono ?_
  rintro e w2 ⟨rfl, hb2⟩
  go_wp2
  go_ret
  exact ⟨rfl, (below_drewN hb0 m).trans (hb2.mono (below_drewN hb0 m).size)⟩
theorem eqExS_c (l : List Ex) (A A' : Option Addr) (c c' L B L' B' : Nat) (w : World) (hB : B ≤ w.heap.size) (hB' : B' ≤ w.heap.size) (hl : exsSz l ≤ 1048576) (h : ExL w L B A l) (h' : ExL w L' B' A' l) :
    Calls Try.prog 113 #[.slice A l.length c, .slice A' l.length c'] w fun r w' => r = .returned (.bool true) ∧ Below w.heap.size w w' :=
  eqExS_of l (fun e _ => eqEx_c e) A A' c c' L B L' B' w hB hB' hl h h'
end Go.Proofs.Ytmejbmfopdfbjaa
