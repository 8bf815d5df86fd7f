/-
  The laws' own copy of statements.
-/
import Derived.Test.YtofnkhejpkfokaaSt
import Derived.Test.YtofnkhejpkfokaaExTo
import Derived.Test.YtofnkhejpkfokaaPutL
namespace Go.Proofs.Ytofnkhejpkfokaa
open Go.RowKit
set_option linter.unusedVariables false

def ToSt (s : St) : Prop := ∀ (vs : List Value) (w : World) (L B : Nat), StV w L B vs s → B ≤ w.heap.size → stSz s ≤ 1048576 →
  Calls Try.prog 110 #[.agg vs.toArray] w fun r w' => ∃ us, r = .returned (.agg us.toArray) ∧ StV w' w.heap.size w'.heap.size us s ∧ Below w.heap.size w w'

theorem infoSt : (Try.prog.info? 90).map (fun i => (i.zero, i.size, i.bytes)) = some (some (.agg #[.int .i64 0, .slice none 0 0, .int .i64 0, .int .i64 0, .slice none 0 0, .slice none 0 0, .int .i64 0, .int .i64 0, .slice none 0 0, .slice none 0 0, .slice none 0 0, .slice none 0 0]), 12, 208) := by kernel_rfl

theorem StV.low {w : World} {L B : Nat} {us : List Value} {s : St} (h : StV w L B us s) {p : Addr} (hp : p.block < L) (v : Value) : StV (w.setCell p v) L B us s :=
  StV.keep (fun q hq _ => World.cell?_setCell_other w p q v (fun e => by subst e; omega)) s _ h
theorem StL.low {w : World} {L B : Nat} {A : Option Addr} {l : List St} (h : StL w L B A l) {p : Addr} (hp : p.block < L) (v : Value) : StL (w.setCell p v) L B A l :=
  h.keep fun q hq _ => World.cell?_setCell_other w p q v (fun e => by subst e; omega)
theorem StV.len {w : World} {L B : Nat} {us : List Value} {s : St} (h : StV w L B us s) : us.length = 12 := by
  obtain ⟨x1, x2, x3, x4, x5, x6, x7, x8, x9, x10, x11, x12, x13, x14, x15, x16, x17, x18, x19, x20, x21, x22, x23, x24, x25, x26, rfl⟩ := h.shape
  rfl

/-- the first k of a row's cells -/
def StsP (w : World) (L : Nat) (cs : Array Value) (l : List St) (k : Nat) : Prop :=
  ∀ i (h : i < l.length), i < k → ∃ us, (∀ (j : Nat) (v : Value), us[j]? = some v → cs[i * 12 + j]? = some v) ∧ StV w L w.heap.size us l[i]
theorem StsP.keep {w w' : World} {L k : Nat} {cs : Array Value} {l : List St} (h : StsP w L cs l k) (hb : Below w.heap.size w w') : StsP w' L cs l k := fun i hi hk => by
  obtain ⟨us, c, hv⟩ := h i hi hk
  exact ⟨us, c, StV.more (Nat.le_refl _) hb.size _ _ (hv.below hb)⟩
theorem StsP.low {w : World} {L k : Nat} {cs : Array Value} {l : List St} (h : StsP w L cs l k) {p : Addr} (hp : p.block < L) (v : Value) : StsP (w.setCell p v) L cs l k := fun i hi hk => by
  obtain ⟨us, c, hv⟩ := h i hi hk
  exact ⟨us, c, by rw [World.size_setCell]; exact hv.low hp v⟩
theorem StsP.step {w : World} {L k : Nat} {cs : Array Value} {l : List St} (h : StsP w L cs l k) (hk : k < l.length) (hcs : l.length * 12 ≤ cs.size) {us : List Value} (hv : StV w L w.heap.size us l[k]) :
    StsP w L (putL cs (k * 12) us) l (k + 1) := by
  have hlen := hv.len
  intro i hi hik
  by_cases e : i = k
  · subst e
    exact ⟨us, fun j v hj => putL_at us cs _ _ _ (by omega) hj, hv⟩
  · obtain ⟨xs, c, hx⟩ := h i hi (by omega)
    refine ⟨xs, fun j v hj => ?_, hx⟩
    have hj' : j < 12 := by
      have := hx.len
      have h2 := (List.getElem?_eq_some_iff.1 hj).1
      omega
    rw [putL_ne us cs _ _ (by omega)]
    exact c j v hj
theorem StsP.stl {w : World} {L g : Nat} {t : TypeId} {cs : Array Value} {l : List St} (h : StsP w L cs l l.length) (hm : l.length ≤ maxLen) (hb : Blk w g t cs) (hL : g ≤ L) : StL w g w.heap.size (some ⟨g, 0, none⟩) l := by
  refine ⟨hm, fun _ => ⟨_, rfl, Nat.le_refl _, hb.lt, fun k hk => ?_⟩⟩
  obtain ⟨us, c, hv⟩ := h k hk hk
  have e : (Addr.add ⟨g, 0, none⟩ (k * 12)) = ⟨g, k * 12, none⟩ := by unfold Addr.add; split <;> simp_all
  refine ⟨us, ?_, StV.more hL (Nat.le_refl _) _ _ hv⟩
  rw [e]
  intro j v hj
  have := c j v hj
  by_cases h0 : j = 0
  · subst h0; rw [if_pos rfl, hb.cell]; exact this
  · rw [if_neg h0]; show w.cell? ⟨g, k * 12 + j, none⟩ = _; rw [hb.cell]; exact this

set_option maxRecDepth 100000 in
set_option maxHeartbeats 4000000 in
theorem toStS_of (l : List St) (ih : ∀ s ∈ l, ToSt s) (A : Option Addr) (c L B : Nat) (w : World) (hB : B ≤ w.heap.size) (hl : stsSz l ≤ 1048576) (h : StL w L B A l) :
    Calls Try.prog 78 #[.slice A l.length c] w fun r w' => ∃ g, r = .returned (.slice (some ⟨g, 0, none⟩) l.length l.length) ∧ g < w'.heap.size ∧ w.heap.size ≤ g ∧ StL w' w.heap.size w'.heap.size (some ⟨g, 0, none⟩) l ∧ Below w.heap.size w w' := by
  obtain ⟨i0, hi, hz0, hz1, hz2⟩ := info_parts infoSt
  have hlen := stsSz_len l
  have hmk : ∀ u : World, (Instr.makeSlice 47 (.int .i64 (l.length : Int)) (.int .i64 (l.length : Int))).run Try.prog u =
      .ok (.slice (some ⟨u.heap.size, 0, none⟩) l.length l.length) (u.alloc (.cells (madeCells #[.int .i64 0, .slice none 0 0, .int .i64 0, .int .i64 0, .slice none 0 0, .slice none 0 0, .int .i64 0, .int .i64 0, .slice none 0 0, .slice none 0 0, .slice none 0 0, .slice none 0 0] (l.length * 12)) 90)) := fun u => by
    have h := run_make (P := Try.prog) u 47 90 i0 (.agg #[.int .i64 0, .slice none 0 0, .int .i64 0, .int .i64 0, .slice none 0 0, .slice none 0 0, .int .i64 0, .int .i64 0, .slice none 0 0, .slice none 0 0, .slice none 0 0, .slice none 0 0]) Try.underlying47 hi hz0 .i64 .i64 (l.length : Int) (l.length : Int) (by omega) (Int.le_refl _) (by rw [hz2]; omega) (by omega)
    rw [Int.toNat_natCast] at h
    simpa [hz1, Value.cells] using h
  have Ih := Lib.hid ih
  clear hi hz0 hz1 hz2 ih
  go_enter Try.func78, Try.ntmps78
  go_wp2
  go_loopw [4] (fun i wr => ∃ (k : Nat) (cs : Array Value), k ≤ l.length ∧ i = .int .i64 k ∧ cs.size = l.length * 12 ∧ Blk wr w.heap.size 90 cs ∧ StsP wr (w.heap.size + 1) cs l k ∧ Below w.heap.size w wr) (fun i _ => l.length - (intOf i).toNat)
  case atStart => exact ⟨0, _, Nat.zero_le _, rfl, by simp [madeCells], Blk.new _ _ _, fun i _ hk => by omega, (Below.refl _ _).alloc (Nat.le_refl _) _⟩
  case round =>
    obtain ⟨k, cs, hk, rfl, hcs, hblk, hown, hbl⟩ := hrel
    have Hcs := Lib.hid hcs
    clear hcs
    by_cases hlt : k < l.length
    · obtain ⟨ad, rfl, _, hb, hat⟩ := (h.below (hbl.mono hB)).2 (by omega)
      obtain ⟨vs, hvs, hv⟩ := hat k hlt
      obtain ⟨x1, x2, x3, x4, x5, x6, x7, x8, x9, x10, x11, x12, x13, x14, x15, x16, x17, x18, x19, x20, x21, x22, x23, x24, x25, x26, rfl⟩ := hv.shape
      have c0 := hvs 0 _ rfl
      have c1 := hvs 1 _ rfl
      have c2 := hvs 2 _ rfl
      have c3 := hvs 3 _ rfl
      have c4 := hvs 4 _ rfl
      have c5 := hvs 5 _ rfl
      have c6 := hvs 6 _ rfl
      have c7 := hvs 7 _ rfl
      have c8 := hvs 8 _ rfl
      have c9 := hvs 9 _ rfl
      have c10 := hvs 10 _ rfl
      have c11 := hvs 11 _ rfl
      simp only [if_true, Nat.reduceEqDiff, if_false] at c0 c1 c2 c3 c4 c5 c6 c7 c8 c9 c10 c11
      have hsz1 := stsSz_get hlt
      have hc := Ih.out l[k] (List.getElem_mem hlt) _ wr L B hv (Nat.le_trans hB hbl.size) (by omega)
      have Hc := Lib.hid hc
      clear hc hvs hat
      go_wp2_with fail
      refine Hc.out.mono ?_
      rintro e w1 ⟨us, rfl, hu, hb1⟩
      clear c0 c1 c2 c3 c4 c5 c6 c7 c8 c9 c10 c11 hv Hc
      obtain ⟨y1, y2, y3, y4, y5, y6, y7, y8, y9, y10, y11, y12, y13, y14, y15, y16, y17, y18, y19, y20, y21, y22, y23, y24, y25, y26, rfl⟩ := hu.shape
      have hblk1 := hblk.below hb1 hblk.lt
      have hsz := Hcs.out
      obtain ⟨o0, e0⟩ : ∃ v, cs[k * 12]? = some v := ⟨_, Array.getElem?_eq_getElem (by omega)⟩
      have q0 : w1.cell? ⟨w.heap.size, k * 12, none⟩ = some o0 := by rw [hblk1.cell]; exact e0
      have z0 : w1.frozen? ⟨w.heap.size, k * 12, none⟩ = false := hblk1.frozen _
      obtain ⟨o1, e1⟩ : ∃ v, cs[k * 12 + 1]? = some v := ⟨_, Array.getElem?_eq_getElem (by omega)⟩
      have q1 : w1.cell? ⟨w.heap.size, k * 12 + 1, none⟩ = some o1 := by rw [hblk1.cell]; exact e1
      have z1 : w1.frozen? ⟨w.heap.size, k * 12 + 1, none⟩ = false := hblk1.frozen _
      obtain ⟨o2, e2⟩ : ∃ v, cs[k * 12 + 2]? = some v := ⟨_, Array.getElem?_eq_getElem (by omega)⟩
      have q2 : w1.cell? ⟨w.heap.size, k * 12 + 2, none⟩ = some o2 := by rw [hblk1.cell]; exact e2
      have z2 : w1.frozen? ⟨w.heap.size, k * 12 + 2, none⟩ = false := hblk1.frozen _
      obtain ⟨o3, e3⟩ : ∃ v, cs[k * 12 + 3]? = some v := ⟨_, Array.getElem?_eq_getElem (by omega)⟩
      have q3 : w1.cell? ⟨w.heap.size, k * 12 + 3, none⟩ = some o3 := by rw [hblk1.cell]; exact e3
      have z3 : w1.frozen? ⟨w.heap.size, k * 12 + 3, none⟩ = false := hblk1.frozen _
      obtain ⟨o4, e4⟩ : ∃ v, cs[k * 12 + 4]? = some v := ⟨_, Array.getElem?_eq_getElem (by omega)⟩
      have q4 : w1.cell? ⟨w.heap.size, k * 12 + 4, none⟩ = some o4 := by rw [hblk1.cell]; exact e4
      have z4 : w1.frozen? ⟨w.heap.size, k * 12 + 4, none⟩ = false := hblk1.frozen _
      obtain ⟨o5, e5⟩ : ∃ v, cs[k * 12 + 5]? = some v := ⟨_, Array.getElem?_eq_getElem (by omega)⟩
      have q5 : w1.cell? ⟨w.heap.size, k * 12 + 5, none⟩ = some o5 := by rw [hblk1.cell]; exact e5
      have z5 : w1.frozen? ⟨w.heap.size, k * 12 + 5, none⟩ = false := hblk1.frozen _
      obtain ⟨o6, e6⟩ : ∃ v, cs[k * 12 + 6]? = some v := ⟨_, Array.getElem?_eq_getElem (by omega)⟩
      have q6 : w1.cell? ⟨w.heap.size, k * 12 + 6, none⟩ = some o6 := by rw [hblk1.cell]; exact e6
      have z6 : w1.frozen? ⟨w.heap.size, k * 12 + 6, none⟩ = false := hblk1.frozen _
      obtain ⟨o7, e7⟩ : ∃ v, cs[k * 12 + 7]? = some v := ⟨_, Array.getElem?_eq_getElem (by omega)⟩
      have q7 : w1.cell? ⟨w.heap.size, k * 12 + 7, none⟩ = some o7 := by rw [hblk1.cell]; exact e7
      have z7 : w1.frozen? ⟨w.heap.size, k * 12 + 7, none⟩ = false := hblk1.frozen _
      obtain ⟨o8, e8⟩ : ∃ v, cs[k * 12 + 8]? = some v := ⟨_, Array.getElem?_eq_getElem (by omega)⟩
      have q8 : w1.cell? ⟨w.heap.size, k * 12 + 8, none⟩ = some o8 := by rw [hblk1.cell]; exact e8
      have z8 : w1.frozen? ⟨w.heap.size, k * 12 + 8, none⟩ = false := hblk1.frozen _
      obtain ⟨o9, e9⟩ : ∃ v, cs[k * 12 + 9]? = some v := ⟨_, Array.getElem?_eq_getElem (by omega)⟩
      have q9 : w1.cell? ⟨w.heap.size, k * 12 + 9, none⟩ = some o9 := by rw [hblk1.cell]; exact e9
      have z9 : w1.frozen? ⟨w.heap.size, k * 12 + 9, none⟩ = false := hblk1.frozen _
      obtain ⟨o10, e10⟩ : ∃ v, cs[k * 12 + 10]? = some v := ⟨_, Array.getElem?_eq_getElem (by omega)⟩
      have q10 : w1.cell? ⟨w.heap.size, k * 12 + 10, none⟩ = some o10 := by rw [hblk1.cell]; exact e10
      have z10 : w1.frozen? ⟨w.heap.size, k * 12 + 10, none⟩ = false := hblk1.frozen _
      obtain ⟨o11, e11⟩ : ∃ v, cs[k * 12 + 11]? = some v := ⟨_, Array.getElem?_eq_getElem (by omega)⟩
      have q11 : w1.cell? ⟨w.heap.size, k * 12 + 11, none⟩ = some o11 := by rw [hblk1.cell]; exact e11
      have z11 : w1.frozen? ⟨w.heap.size, k * 12 + 11, none⟩ = false := hblk1.frozen _
      have hlt1 := hblk.lt
      have hbl1 := hbl.trans (hb1.mono hbl.size)
      have hfin := (hown.keep hb1).step hlt (by omega) (StV.more (by omega) (Nat.le_refl _) _ _ hu)
      have Hfin := Lib.hid hfin
      clear hsz e0 e1 e2 e3 e4 e5 e6 e7 e8 e9 e10 e11 hfin
      go_wp2
      go_roundw
      case rel =>
        have e12 : ((((((((((((w1.setCell ⟨w.heap.size, k * 12, none⟩ (.int .i64 y1)).setCell ⟨w.heap.size, k * 12 + 1, none⟩ (.slice y2 y3 y4)).setCell ⟨w.heap.size, k * 12 + 2, none⟩ (.int .i64 y5)).setCell ⟨w.heap.size, k * 12 + 3, none⟩ (.int .i64 y6)).setCell ⟨w.heap.size, k * 12 + 4, none⟩ (.slice y7 y8 y9)).setCell ⟨w.heap.size, k * 12 + 5, none⟩ (.slice y10 y11 y12)).setCell ⟨w.heap.size, k * 12 + 6, none⟩ (.int .i64 y13)).setCell ⟨w.heap.size, k * 12 + 7, none⟩ (.int .i64 y14)).setCell ⟨w.heap.size, k * 12 + 8, none⟩ (.slice y15 y16 y17)).setCell ⟨w.heap.size, k * 12 + 9, none⟩ (.slice y18 y19 y20)).setCell ⟨w.heap.size, k * 12 + 10, none⟩ (.slice y21 y22 y23)).setCell ⟨w.heap.size, k * 12 + 11, none⟩ (.slice y24 y25 y26)) = setL w1 w.heap.size (k * 12) [.int .i64 y1, .slice y2 y3 y4, .int .i64 y5, .int .i64 y6, .slice y7 y8 y9, .slice y10 y11 y12, .int .i64 y13, .int .i64 y14, .slice y15 y16 y17, .slice y18 y19 y20, .slice y21 y22 y23, .slice y24 y25 y26] := rfl
        rw [e12]
        exact ⟨k + 1, putL cs (k * 12) [.int .i64 y1, .slice y2 y3 y4, .int .i64 y5, .int .i64 y6, .slice y7 y8 y9, .slice y10 y11 y12, .int .i64 y13, .int .i64 y14, .slice y15 y16 y17, .slice y18 y19 y20, .slice y21 y22 y23, .slice y24 y25 y26], by omega, by go_num, by rw [putL_size]; exact Hcs.out, hblk1.putL _ (k * 12), setL_ind (P := fun u => StsP u (w.heap.size + 1) (putL cs (k * 12) [.int .i64 y1, .slice y2 y3 y4, .int .i64 y5, .int .i64 y6, .slice y7 y8 y9, .slice y10 y11 y12, .int .i64 y13, .int .i64 y14, .slice y15 y16 y17, .slice y18 y19 y20, .slice y21 y22 y23, .slice y24 y25 y26]) l (k + 1)) (fun u j v hu => StsP.low hu (by simp) v) _ (k * 12) Hfin.out, setL_below _ (k * 12) hbl1 (Nat.le_refl _)⟩
      case measure => simp [intOf]; omega
    · go_wp2
      go_ret
      have : k = l.length := by omega
      subst this
      exact ⟨_, rfl, hblk.lt, Nat.le_refl _, hown.stl (by unfold maxLen; omega) hblk (by omega), hbl⟩
end Go.Proofs.Ytofnkhejpkfokaa
