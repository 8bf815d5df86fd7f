/-
  Tokens that a call made itself: one row, a block for each text, all apart; the laws' copy makes such.
-/
import Derived.Test.YtfcgjhjmphdffaaDoorTokEq
namespace Go.Proofs.YtfcgjhjmphdffaaDoor
open Go.RowKit

/-- a text that lies in a block of its own, gi, or is empty -/
def Txt (w : World) (lo : Nat) (v : Value) (l : List UInt8) (gi : Nat) : Prop :=
  ∃ (A : Option Addr) (c : Nat), v = .slice A l.length c ∧ (0 < l.length → A = some ⟨gi, 0, none⟩ ∧ lo ≤ gi ∧ ∃ tc : Array Value, Blk w gi 5 tc ∧ ∀ (j : Nat) (u : Value), (vb l)[j]? = some u → tc[j]? = some u)

theorem Txt.keep {w w' : World} {lo gi B : Nat} {v : Value} {l : List UInt8} (h : Txt w lo v l gi) (hb : Below B w w') (hB : w.heap.size ≤ B) : Txt w' lo v l gi := by
  obtain ⟨A, c, e, h1⟩ := h
  refine ⟨A, c, e, fun hn => ?_⟩
  obtain ⟨eA, hlo, tc, hB', ht⟩ := h1 hn
  exact ⟨eA, hlo, tc, hB'.below hb (Nat.lt_of_lt_of_le hB'.lt hB), ht⟩
theorem Txt.rb {w : World} {lo gi : Nat} {A : Option Addr} {n c : Nat} {l : List UInt8} (h : Txt w lo (.slice A n c) l gi) : n = l.length ∧ RB w w.heap.size A l := by
  obtain ⟨A', c', e, h1⟩ := h
  cases e
  refine ⟨rfl, by simp [vb], fun hn => ?_⟩
  obtain ⟨eA, hlo, tc, hB', ht⟩ := h1 hn
  refine ⟨_, eA, hB'.lt, fun j u hu => ?_⟩
  rw [show (Addr.add ⟨gi, 0, none⟩ j) = ⟨gi, j, none⟩ by unfold Addr.add; split <;> simp_all]
  rw [hB'.cell]; exact ht j u hu

/-- the first k tokens of a row's cells -/
def OwnP (w : World) (lo : Nat) (cs : Array Value) (ts : List Tok) (k : Nat) (gs : Nat → Nat) : Prop :=
  (∀ i (h : i < ts.length), i < k → cs[i * 4]? = some (.int .i64 ts[i].kind) ∧ cs[i * 4 + 1]? = some (.int .i64 ts[i].pos) ∧ cs[i * 4 + 2]? = some (.int .i64 ts[i].n) ∧
    ∃ v, cs[i * 4 + 3]? = some v ∧ Txt w lo v ts[i].text (gs i)) ∧
  (∀ i j (hi : i < ts.length) (hj : j < ts.length), i < k → j < k → i ≠ j → 0 < ts[i].text.length → 0 < ts[j].text.length → gs i ≠ gs j)

/-- tokens of the call's own in block g -/
def OwnT (w : World) (lo g : Nat) (ts : List Tok) (gs : Nat → Nat) : Prop :=
  ∃ cs : Array Value, Blk w g 36 cs ∧ lo ≤ g ∧ OwnP w lo cs ts ts.length gs

theorem OwnP.keep {w w' : World} {lo k B : Nat} {cs : Array Value} {ts : List Tok} {gs : Nat → Nat} (h : OwnP w lo cs ts k gs) (hb : Below B w w') (hB : w.heap.size ≤ B) : OwnP w' lo cs ts k gs :=
  ⟨fun i hi hk => by
    obtain ⟨h0, h1, h2, v, h3, h4⟩ := h.1 i hi hk
    exact ⟨h0, h1, h2, v, h3, h4.keep hb hB⟩, h.2⟩
theorem OwnT.keep {w w' : World} {lo g B : Nat} {ts : List Tok} {gs : Nat → Nat} (h : OwnT w lo g ts gs) (hb : Below B w w') (hB : w.heap.size ≤ B) : OwnT w' lo g ts gs := by
  obtain ⟨cs, h1, h2, h3⟩ := h
  exact ⟨cs, h1.below hb (Nat.lt_of_lt_of_le h1.lt hB), h2, h3.keep hb hB⟩
theorem OwnT.rt {w : World} {lo g : Nat} {ts : List Tok} {gs : Nat → Nat} (h : OwnT w lo g ts gs) (hm : ∀ t ∈ ts, t.text.length ≤ maxLen) : RT w w.heap.size (some ⟨g, 0, none⟩) ts := by
  obtain ⟨cs, hb, _, hp⟩ := h
  intro hn
  refine ⟨_, rfl, hb.lt, fun i hi => ?_⟩
  obtain ⟨h0, h1, h2, v, h3, h4⟩ := hp.1 i hi hi
  have e : (Addr.add ⟨g, 0, none⟩ (i * 4)) = ⟨g, i * 4, none⟩ := by unfold Addr.add; split <;> simp_all
  rw [e]
  obtain ⟨A, c, rfl, hx⟩ := h4
  have h4' : Txt w lo (.slice A ts[i].text.length c) ts[i].text (gs i) := ⟨A, c, rfl, hx⟩
  refine ⟨A, c, by rw [hb.cell]; exact h0, ?_, ?_, ?_, h4'.rb.2, hm _ (List.getElem_mem hi)⟩
  · show w.cell? ⟨g, i * 4 + 1, none⟩ = _
    rw [hb.cell]; exact h1
  · show w.cell? ⟨g, i * 4 + 2, none⟩ = _
    rw [hb.cell]; exact h2
  · show w.cell? ⟨g, i * 4 + 3, none⟩ = _
    rw [hb.cell]; exact h3

set_option maxHeartbeats 1000000 in
theorem toToken_c (k p m : Int) (l : List UInt8) (A : Option Addr) (c B : Nat) (w : World) (hB : B ≤ w.heap.size) (hl : l.length ≤ 4294967296) (h : RB w B A l) :
    Calls Tryd.prog 17 #[.agg #[.int .i64 k, .int .i64 p, .int .i64 m, .slice A l.length c]] w fun e w' => ∃ g, e = .returned (.agg #[.int .i64 k, .int .i64 p, .int .i64 m, .slice (some ⟨g, 0, none⟩) l.length l.length]) ∧
      Blk w' g 5 (vb l).toArray ∧ w.heap.size ≤ g ∧ g < w'.heap.size ∧ Below w.heap.size w w' := by
  go_enter Tryd.func17, Tryd.ntmps17
  go_wp2_with fail
  refine (toByteS_c l A c B _ hl (by simp; omega) (((h.alloc hB _).alloc (by simp; omega) _).alloc (by simp; omega) _)).mono ?_
  rintro e w1 ⟨g1, rfl, hB1, hg1, hs1, hb1⟩
  have K3 : Blk w1 (w.heap.size + 1 + 1) 36 #[.int .i64 k, .int .i64 p, .int .i64 m, .slice none 0 0] :=
    Blk.below (by have := Blk.new ((w.alloc (.cells #[.int .i64 k, .int .i64 p, .int .i64 m, .slice A l.length c] 35)).alloc (.cells #[.int .i64 0, .int .i64 0, .int .i64 0, .slice none 0 0] 36)) 36 #[.int .i64 k, .int .i64 p, .int .i64 m, .slice none 0 0]; simpa using this) hb1 (by simp)
  have K2 : Blk w1 (w.heap.size + 1) 36 #[.int .i64 0, .int .i64 0, .int .i64 0, .slice none 0 0] :=
    Blk.below ((by have := Blk.new (w.alloc (.cells #[.int .i64 k, .int .i64 p, .int .i64 m, .slice A l.length c] 35)) 36 #[.int .i64 0, .int .i64 0, .int .i64 0, .slice none 0 0]; simpa using this : Blk ((w.alloc (.cells #[.int .i64 k, .int .i64 p, .int .i64 m, .slice A l.length c] 35)).alloc (.cells #[.int .i64 0, .int .i64 0, .int .i64 0, .slice none 0 0] 36)) (w.heap.size + 1) 36 _).alloc _) hb1 (by simp)
  have n0 : w1.cell? ⟨w.heap.size + 1 + 1, 0, none⟩ = some (.int .i64 k) := by rw [K3.cell]; rfl
  have n1 : w1.cell? ⟨w.heap.size + 1 + 1, 1, none⟩ = some (.int .i64 p) := by rw [K3.cell]; rfl
  have n2 : w1.cell? ⟨w.heap.size + 1 + 1, 2, none⟩ = some (.int .i64 m) := by rw [K3.cell]; rfl
  have n3 : w1.cell? ⟨w.heap.size + 1 + 1, 3, none⟩ = some (.slice none 0 0) := by rw [K3.cell]; rfl
  have m0 : w1.cell? ⟨w.heap.size + 1, 0, none⟩ = some (.int .i64 0) := by rw [K2.cell]; rfl
  have m1 : w1.cell? ⟨w.heap.size + 1, 1, none⟩ = some (.int .i64 0) := by rw [K2.cell]; rfl
  have m2 : w1.cell? ⟨w.heap.size + 1, 2, none⟩ = some (.int .i64 0) := by rw [K2.cell]; rfl
  have m3 : w1.cell? ⟨w.heap.size + 1, 3, none⟩ = some (.slice none 0 0) := by rw [K2.cell]; rfl
  have fz3 : w1.frozen? ⟨w.heap.size + 1 + 1, 3, none⟩ = false := K3.frozen 3
  have fy0 : w1.frozen? ⟨w.heap.size + 1, 0, none⟩ = false := K2.frozen 0
  have fy1 : w1.frozen? ⟨w.heap.size + 1, 1, none⟩ = false := K2.frozen 1
  have fy2 : w1.frozen? ⟨w.heap.size + 1, 2, none⟩ = false := K2.frozen 2
  have fy3 : w1.frozen? ⟨w.heap.size + 1, 3, none⟩ = false := K2.frozen 3
  have hg1' : w.heap.size + 1 + 1 + 1 ≤ g1 := by simpa using hg1
  have hbw : Below w.heap.size w w1 := ((((Below.refl _ _).alloc (Nat.le_refl _) _).alloc (by simp) _).alloc (by simp; omega) _).trans (hb1.mono (by simp; omega))
  clear hb1 hg1
  go_wp2_with fail
  refine bodyPost_ret (v := .agg #[.int .i64 k, .int .i64 p, .int .i64 m, .slice (some ⟨g1, 0, none⟩) l.length l.length]) (by simp [results, Tryd.results17, go_sem, m0, m1, m2, m3]) rfl
    ⟨g1, rfl, ?_, by omega, by simpa using hs1, ?_⟩
  · exact ((((hB1.far (by simp; omega) _).far (by simp; omega) _).far (by simp; omega) _).far (by simp; omega) _).far (by simp; omega) _
  · exact ((((hbw.setCell (by simp; omega) _).setCell (by simp) _).setCell (by simp) _).setCell (by simp) _).setCell (by simp) _

theorem Txt.low {w : World} {lo gi : Nat} {v : Value} {l : List UInt8} (h : Txt w lo v l gi) {p : Addr} (hp : p.block < lo) (u : Value) : Txt (w.setCell p u) lo v l gi := by
  obtain ⟨A, c, e, h1⟩ := h
  refine ⟨A, c, e, fun hn => ?_⟩
  obtain ⟨eA, hlo, tc, hB', ht⟩ := h1 hn
  exact ⟨eA, hlo, tc, hB'.far (by omega) u, ht⟩
theorem OwnP.low {w : World} {lo k : Nat} {cs : Array Value} {ts : List Tok} {gs : Nat → Nat} (h : OwnP w lo cs ts k gs) {p : Addr} (hp : p.block < lo) (u : Value) : OwnP (w.setCell p u) lo cs ts k gs :=
  ⟨fun i hi hk => by
    obtain ⟨h0, h1, h2, v, h3, h4⟩ := h.1 i hi hk
    exact ⟨h0, h1, h2, v, h3, h4.low hp u⟩, h.2⟩
theorem Txt.less {w : World} {lo lo' gi : Nat} {v : Value} {l : List UInt8} (h : Txt w lo v l gi) (hl : lo' ≤ lo) : Txt w lo' v l gi := by
  obtain ⟨A, c, e, h1⟩ := h
  refine ⟨A, c, e, fun hn => ?_⟩
  obtain ⟨eA, hlo, h2⟩ := h1 hn
  exact ⟨eA, by omega, h2⟩
theorem OwnP.less {w : World} {lo lo' k : Nat} {cs : Array Value} {ts : List Tok} {gs : Nat → Nat} (h : OwnP w lo cs ts k gs) (hl : lo' ≤ lo) : OwnP w lo' cs ts k gs :=
  ⟨fun i hi hk => by
    obtain ⟨h0, h1, h2, v, h3, h4⟩ := h.1 i hi hk
    exact ⟨h0, h1, h2, v, h3, h4.less hl⟩, h.2⟩

def put4 (cs : Array Value) (k : Nat) (a b c d : Value) : Array Value := (((cs.setIfInBounds k a).setIfInBounds (k + 1) b).setIfInBounds (k + 2) c).setIfInBounds (k + 3) d
theorem put4_size (cs : Array Value) (k : Nat) (a b c d : Value) : (put4 cs k a b c d).size = cs.size := by simp [put4]
theorem put4_at {cs : Array Value} {k : Nat} {a b c d : Value} (h : k + 3 < cs.size) : (put4 cs k a b c d)[k]? = some a ∧ (put4 cs k a b c d)[k + 1]? = some b ∧ (put4 cs k a b c d)[k + 2]? = some c ∧ (put4 cs k a b c d)[k + 3]? = some d := by
  unfold put4
  refine ⟨?_, ?_, ?_, ?_⟩
  · rw [Array.getElem?_setIfInBounds_ne (by omega), Array.getElem?_setIfInBounds_ne (by omega), Array.getElem?_setIfInBounds_ne (by omega), Array.getElem?_setIfInBounds_self_of_lt (by omega)]
  · rw [Array.getElem?_setIfInBounds_ne (by omega), Array.getElem?_setIfInBounds_ne (by omega), Array.getElem?_setIfInBounds_self_of_lt (by simp; omega)]
  · rw [Array.getElem?_setIfInBounds_ne (by omega), Array.getElem?_setIfInBounds_self_of_lt (by simp; omega)]
  · rw [Array.getElem?_setIfInBounds_self_of_lt (by simp; omega)]
theorem put4_ne {cs : Array Value} {k j : Nat} {a b c d : Value} (h : j < k ∨ k + 3 < j) : (put4 cs k a b c d)[j]? = cs[j]? := by
  unfold put4
  rw [Array.getElem?_setIfInBounds_ne (by omega), Array.getElem?_setIfInBounds_ne (by omega), Array.getElem?_setIfInBounds_ne (by omega), Array.getElem?_setIfInBounds_ne (by omega)]
theorem Blk.put4 {w : World} {g : Nat} {t : TypeId} {cs : Array Value} (h : Blk w g t cs) (k : Nat) (a b c d : Value) :
    Blk ((((w.setCell ⟨g, k, none⟩ a).setCell ⟨g, k + 1, none⟩ b).setCell ⟨g, k + 2, none⟩ c).setCell ⟨g, k + 3, none⟩ d) g t (YtfcgjhjmphdffaaDoor.put4 cs k a b c d) :=
  (((h.set_ k a).set_ (k + 1) b).set_ (k + 2) c).set_ (k + 3) d

theorem OwnP.step {w : World} {lo k g1 : Nat} {cs : Array Value} {ts : List Tok} {gs : Nat → Nat} (h : OwnP w lo cs ts k gs) (hk : k < ts.length) (hcs : ts.length * 4 ≤ cs.size) (hg : ∀ i (h : i < ts.length), i < k → 0 < ts[i].text.length → gs i ≠ g1) {v : Value} (hv : Txt w lo v ts[k].text g1) :
    OwnP w lo (YtfcgjhjmphdffaaDoor.put4 cs (k * 4) (.int .i64 ts[k].kind) (.int .i64 ts[k].pos) (.int .i64 ts[k].n) v) ts (k + 1) (fun i => if i = k then g1 else gs i) := by
  constructor
  · intro i hi hik
    by_cases e : i = k
    · subst e
      obtain ⟨a0, a1, a2, a3⟩ := put4_at (cs := cs) (k := i * 4) (a := .int .i64 ts[i].kind) (b := .int .i64 ts[i].pos) (c := .int .i64 ts[i].n) (d := v) (by omega)
      exact ⟨a0, a1, a2, v, a3, by simpa using hv⟩
    · obtain ⟨h0, h1, h2, v', h3, h4⟩ := h.1 i hi (by omega)
      rw [put4_ne (by omega), put4_ne (by omega), put4_ne (by omega), put4_ne (by omega)]
      exact ⟨h0, h1, h2, v', h3, by simpa [e] using h4⟩
  · intro i j hi hj hik hjk hij ti tj
    by_cases ei : i = k <;> by_cases ej : j = k
    · omega
    · simp only [ei, ej, if_true, if_false]; exact fun e => hg j hj (by omega) tj e.symm
    · simp only [ei, ej, if_true, if_false]; exact hg i hi (by omega) ti
    · simp only [ei, ej, if_false]; exact h.2 i j hi hj (by omega) (by omega) hij ti tj

theorem infoTok : (Tryd.prog.info? 36).map (fun i => (i.zero, i.size, i.bytes)) = some (some (.agg #[.int .i64 0, .int .i64 0, .int .i64 0, .slice none 0 0]), 4, 48) := by kernel_rfl

set_option maxHeartbeats 1000000 in
theorem toTokenS_c (ts : List Tok) (A : Option Addr) (c B : Nat) (w : World) (hB : B ≤ w.heap.size) (hl : ts.length + txts ts ≤ 1048576) (h : RT w B A ts) :
    Calls Tryd.prog 6 #[.slice A ts.length c] w fun e w' => ∃ g gs, e = .returned (.slice (some ⟨g, 0, none⟩) ts.length ts.length) ∧ OwnT w' w.heap.size g ts gs ∧ g < w'.heap.size ∧ Below w.heap.size w w' := by
  obtain ⟨i0, hi, hz0, hz1, hz2⟩ := info_parts infoTok
  have hmk : ∀ u : World, (Instr.makeSlice 26 (.int .i64 (ts.length : Int)) (.int .i64 (ts.length : Int))).run Tryd.prog u =
      .ok (.slice (some ⟨u.heap.size, 0, none⟩) ts.length ts.length) (u.alloc (.cells (madeCells #[.int .i64 0, .int .i64 0, .int .i64 0, .slice none 0 0] (ts.length * 4)) 36)) := fun u => by
    have h := run_make (P := Tryd.prog) u 26 36 i0 (.agg #[.int .i64 0, .int .i64 0, .int .i64 0, .slice none 0 0]) Tryd.underlying26 hi hz0 .i64 .i64 (ts.length : Int) (ts.length : Int) (by omega) (Int.le_refl _) (by rw [hz2]; omega) (by omega)
    rw [Int.toNat_natCast] at h
    simpa [hz1, Value.cells] using h
  clear hi hz0 hz1 hz2
  go_enter Tryd.func6, Tryd.ntmps6
  go_wp2
  go_loopw [4] (fun i wr => ∃ (k : Nat) (cs : Array Value) (gs : Nat → Nat), k ≤ ts.length ∧ i = .int .i64 k ∧ cs.size = ts.length * 4 ∧ Blk wr w.heap.size 36 cs ∧ OwnP wr (w.heap.size + 1) cs ts k gs ∧ (∀ i, i < k → gs i < wr.heap.size) ∧ Below w.heap.size w wr) (fun i _ => ts.length - (intOf i).toNat)
  case atStart => exact ⟨0, _, fun _ => 0, Nat.zero_le _, rfl, by simp [madeCells], Blk.new _ _ _, ⟨fun i _ hk => by omega, fun i j _ _ hi => by omega⟩, fun i hi => by omega, (Below.refl _ _).alloc (Nat.le_refl _) _⟩
  case round =>
    obtain ⟨k, cs, gs, hk, rfl, hcs, hblk, hown, hgs, hbl⟩ := hrel
    have Hcs := Lib.hid hcs
    clear hcs
    by_cases hlt : k < ts.length
    · obtain ⟨ad, rfl, hb, A1, c1, h0, h1, h2, h3, hR, hm⟩ := (h.keep (w' := wr) (fun p hp => hbl.cell (by omega))).at_ hlt
      have htl : ts[k].text.length ≤ 4294967296 := by have := txts_get hlt; omega
      go_wp2_with fail
      refine (toToken_c ts[k].kind ts[k].pos ts[k].n ts[k].text A1 c1 B wr (Nat.le_trans hB hbl.size) htl hR).mono ?_
      rintro e w1 ⟨g1, rfl, hB1, hg1, hs1, hb1⟩
      have hblk1 := hblk.below hb1 hblk.lt
      have hsz := Hcs.out
      obtain ⟨v0, e0⟩ : ∃ v, cs[k * 4]? = some v := ⟨_, Array.getElem?_eq_getElem (by omega)⟩
      obtain ⟨v1, e1⟩ : ∃ v, cs[k * 4 + 1]? = some v := ⟨_, Array.getElem?_eq_getElem (by omega)⟩
      obtain ⟨v2, e2⟩ : ∃ v, cs[k * 4 + 2]? = some v := ⟨_, Array.getElem?_eq_getElem (by omega)⟩
      obtain ⟨v3, e3⟩ : ∃ v, cs[k * 4 + 3]? = some v := ⟨_, Array.getElem?_eq_getElem (by omega)⟩
      have q0 : w1.cell? ⟨w.heap.size, k * 4, none⟩ = some v0 := by rw [hblk1.cell]; exact e0
      have q1 : w1.cell? ⟨w.heap.size, k * 4 + 1, none⟩ = some v1 := by rw [hblk1.cell]; exact e1
      have q2 : w1.cell? ⟨w.heap.size, k * 4 + 2, none⟩ = some v2 := by rw [hblk1.cell]; exact e2
      have q3 : w1.cell? ⟨w.heap.size, k * 4 + 3, none⟩ = some v3 := by rw [hblk1.cell]; exact e3
      have z0 : w1.frozen? ⟨w.heap.size, k * 4, none⟩ = false := hblk1.frozen _
      have z1 : w1.frozen? ⟨w.heap.size, k * 4 + 1, none⟩ = false := hblk1.frozen _
      have z2 : w1.frozen? ⟨w.heap.size, k * 4 + 2, none⟩ = false := hblk1.frozen _
      have z3 : w1.frozen? ⟨w.heap.size, k * 4 + 3, none⟩ = false := hblk1.frozen _
      have hown1 := hown.keep hb1 (Nat.le_refl _)
      have hlt1 := hblk.lt
      have hbl1 := hbl.trans (hb1.mono hbl.size)
      have htx : Txt w1 (w.heap.size + 1) (.slice (some ⟨g1, 0, none⟩) ts[k].text.length ts[k].text.length) ts[k].text g1 := ⟨_, _, rfl, fun _ => ⟨rfl, by omega, _, hB1, fun j u hu => by simpa using hu⟩⟩
      have hfin := (hown1.step hlt (by omega) (fun i _ hi _ => by have := hgs i hi; omega) htx)
      have Hfin := Lib.hid hfin
      clear hsz e0 e1 e2 e3 hfin
      go_wp2
      go_roundw
      case rel =>
        refine ⟨k + 1, _, _, by omega, by go_num, ?_, hblk1.put4 (k * 4) _ _ _ _, (((Hfin.out.low (by simp) _).low (by simp) _).low (by simp) _).low (by simp) _, ?_, ?_⟩
        · rw [put4_size]; exact Hcs.out
        · intro i hi
          show (if i = k then g1 else gs i) < _
          simp only [World.size_setCell]
          split
          · exact hs1
          · have := hgs i (by omega); have := hb1.size; omega
        · exact (((hbl1.setCell (by simp) _).setCell (by simp) _).setCell (by simp) _).setCell (by simp) _
      case measure => simp [intOf]; omega
    · go_wp2
      go_ret
      have : k = ts.length := by omega
      subst this
      exact ⟨_, gs, rfl, ⟨cs, hblk, Nat.le_refl _, hown.less (by omega)⟩, hblk.lt, hbl⟩
end Go.Proofs.YtfcgjhjmphdffaaDoor
