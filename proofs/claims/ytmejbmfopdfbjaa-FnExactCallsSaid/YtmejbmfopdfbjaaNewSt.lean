/-
  The laws' own copies of statements: all their blocks are new ones.
-/
import Derived.Test.YtmejbmfopdfbjaaStAll
import Derived.Test.YtmejbmfopdfbjaaNewEx
namespace Go.Proofs.Ytmejbmfopdfbjaa
open Go.RowKit
set_option linter.unusedVariables false

theorem New.setL_ {lo : Nat} (g : Nat) : ∀ (k : Nat) (vs : List Value) {w : World}, New lo w → New lo (setL w g k vs)
  | _, [], _, h => h
  | k, v :: r, w, h => New.setL_ g (k + 1) r (h.set_ ⟨g, k, none⟩ v)
def ToStN (s : St) : Prop := ∀ (vs : List Value) (w : World) (L B : Nat), StV w L B vs s → B ≤ w.heap.size → stSz s ≤ 1048576 →
  Calls Try.prog 56 #[.agg vs.toArray] w fun r w' => ∃ us, r = .returned (.agg us.toArray) ∧ StV w' w.heap.size w'.heap.size us s ∧ Below w.heap.size w w' ∧ New w.heap.size w'

set_option maxHeartbeats 4000000 in
theorem toStS_n (l : List St) (ih : ∀ s ∈ l, ToStN s) (A : Option Addr) (c L B : Nat) (w : World) (hB : B ≤ w.heap.size) (hl : stsSz l ≤ 1048576) (h : StL w L B A l) :
    Calls Try.prog 35 #[.slice A l.length c] w fun r w' => ∃ g, r = .returned (.slice (some ⟨g, 0, none⟩) l.length l.length) ∧ g < w'.heap.size ∧ w.heap.size ≤ g ∧ StL w' w.heap.size w'.heap.size (some ⟨g, 0, none⟩) l ∧ Below w.heap.size w w' ∧ New w.heap.size w' := by
  obtain ⟨i0, hi, hz0, hz1, hz2⟩ := info_parts infoSt
  have hlen := stsSz_len l
  have hmk : ∀ u : World, (Instr.makeSlice 29 (.int .i64 (l.length : Int)) (.int .i64 (l.length : Int))).run Try.prog u =
      .ok (.slice (some ⟨u.heap.size, 0, none⟩) l.length l.length) (u.alloc (.cells (madeCells #[.int .i64 0, .slice none 0 0, .int .i64 0, .int .i64 0, .slice none 0 0, .slice none 0 0, .int .i64 0, .int .i64 0, .slice none 0 0, .slice none 0 0, .slice none 0 0, .slice none 0 0] (l.length * 12)) 98)) := fun u => by
    have h := run_make (P := Try.prog) u 29 98 i0 (.agg #[.int .i64 0, .slice none 0 0, .int .i64 0, .int .i64 0, .slice none 0 0, .slice none 0 0, .int .i64 0, .int .i64 0, .slice none 0 0, .slice none 0 0, .slice none 0 0, .slice none 0 0]) Try.underlying29 hi hz0 .i64 .i64 (l.length : Int) (l.length : Int) (by omega) (Int.le_refl _) (by rw [hz2]; omega) (by omega)
    rw [Int.toNat_natCast] at h
    simpa [hz1, Value.cells] using h
  have Ih := Lib.hid ih
  clear hi hz0 hz1 hz2 ih
  go_enter Try.func35, Try.ntmps35
  go_wp2
  go_loopw [4] (fun i wr => ∃ (k : Nat) (cs : Array Value), k ≤ l.length ∧ i = .int .i64 k ∧ cs.size = l.length * 12 ∧ Blk wr w.heap.size 98 cs ∧ StsP wr (w.heap.size + 1) cs l k ∧ Below w.heap.size w wr ∧ New w.heap.size wr) (fun i _ => l.length - (intOf i).toNat)
  case atStart => exact ⟨0, _, Nat.zero_le _, rfl, by simp [madeCells], Blk.new _ _ _, fun i _ hk => by omega, (Below.refl _ _).alloc (Nat.le_refl _) _, (New.refl w).alloc _ _⟩
  case round =>
    obtain ⟨k, cs, hk, rfl, hcs, hblk, hown, hbl, hnw⟩ := hrel
    have Hcs := Lib.hid hcs
    clear hcs
    by_cases hlt : k < l.length
    · obtain ⟨ad, rfl, _, hb, hat⟩ := (h.below (hbl.mono hB)).2 (by omega)
      obtain ⟨vs, hvs, hv⟩ := hat k hlt
      obtain ⟨x1, x2, x3, x4, x5, x6, x7, x8, x9, x10, x11, x12, x13, x14, x15, x16, x17, x18, x19, x20, x21, x22, x23, x24, x25, x26, rfl⟩ := hv.shape
      have c0 := hvs 0 _ rfl
      have c1 := hvs 1 _ rfl
      have c2 := hvs 2 _ rfl
      have c3 := hvs 3 _ rfl
      have c4 := hvs 4 _ rfl
      have c5 := hvs 5 _ rfl
      have c6 := hvs 6 _ rfl
      have c7 := hvs 7 _ rfl
      have c8 := hvs 8 _ rfl
      have c9 := hvs 9 _ rfl
      have c10 := hvs 10 _ rfl
      have c11 := hvs 11 _ rfl
      simp only [if_true, Nat.reduceEqDiff, if_false] at c0 c1 c2 c3 c4 c5 c6 c7 c8 c9 c10 c11
      have hsz1 := stsSz_get hlt
      have hc := Ih.out l[k] (List.getElem_mem hlt) _ wr L B hv (Nat.le_trans hB hbl.size) (by omega)
      have Hc := Lib.hid hc
      clear hc hvs hat
      go_wp2_with fail
      refine Hc.out.mono ?_
      rintro e w1 ⟨us, rfl, hu, hb1, hn1⟩
      clear c0 c1 c2 c3 c4 c5 c6 c7 c8 c9 c10 c11 hv Hc
      obtain ⟨y1, y2, y3, y4, y5, y6, y7, y8, y9, y10, y11, y12, y13, y14, y15, y16, y17, y18, y19, y20, y21, y22, y23, y24, y25, y26, rfl⟩ := hu.shape
      have hblk1 := hblk.below hb1 hblk.lt
      have hsz := Hcs.out
      obtain ⟨o0, e0⟩ : ∃ v, cs[k * 12]? = some v := ⟨_, Array.getElem?_eq_getElem (by omega)⟩
      have q0 : w1.cell? ⟨w.heap.size, k * 12, none⟩ = some o0 := by rw [hblk1.cell]; exact e0
      have z0 : w1.frozen? ⟨w.heap.size, k * 12, none⟩ = false := hblk1.frozen _
      obtain ⟨o1, e1⟩ : ∃ v, cs[k * 12 + 1]? = some v := ⟨_, Array.getElem?_eq_getElem (by omega)⟩
      have q1 : w1.cell? ⟨w.heap.size, k * 12 + 1, none⟩ = some o1 := by rw [hblk1.cell]; exact e1
      have z1 : w1.frozen? ⟨w.heap.size, k * 12 + 1, none⟩ = false := hblk1.frozen _
      obtain ⟨o2, e2⟩ : ∃ v, cs[k * 12 + 2]? = some v := ⟨_, Array.getElem?_eq_getElem (by omega)⟩
      have q2 : w1.cell? ⟨w.heap.size, k * 12 + 2, none⟩ = some o2 := by rw [hblk1.cell]; exact e2
      have z2 : w1.frozen? ⟨w.heap.size, k * 12 + 2, none⟩ = false := hblk1.frozen _
      obtain ⟨o3, e3⟩ : ∃ v, cs[k * 12 + 3]? = some v := ⟨_, Array.getElem?_eq_getElem (by omega)⟩
      have q3 : w1.cell? ⟨w.heap.size, k * 12 + 3, none⟩ = some o3 := by rw [hblk1.cell]; exact e3
      have z3 : w1.frozen? ⟨w.heap.size, k * 12 + 3, none⟩ = false := hblk1.frozen _
      obtain ⟨o4, e4⟩ : ∃ v, cs[k * 12 + 4]? = some v := ⟨_, Array.getElem?_eq_getElem (by omega)⟩
      have q4 : w1.cell? ⟨w.heap.size, k * 12 + 4, none⟩ = some o4 := by rw [hblk1.cell]; exact e4
      have z4 : w1.frozen? ⟨w.heap.size, k * 12 + 4, none⟩ = false := hblk1.frozen _
      obtain ⟨o5, e5⟩ : ∃ v, cs[k * 12 + 5]? = some v := ⟨_, Array.getElem?_eq_getElem (by omega)⟩
      have q5 : w1.cell? ⟨w.heap.size, k * 12 + 5, none⟩ = some o5 := by rw [hblk1.cell]; exact e5
      have z5 : w1.frozen? ⟨w.heap.size, k * 12 + 5, none⟩ = false := hblk1.frozen _
      obtain ⟨o6, e6⟩ : ∃ v, cs[k * 12 + 6]? = some v := ⟨_, Array.getElem?_eq_getElem (by omega)⟩
      have q6 : w1.cell? ⟨w.heap.size, k * 12 + 6, none⟩ = some o6 := by rw [hblk1.cell]; exact e6
      have z6 : w1.frozen? ⟨w.heap.size, k * 12 + 6, none⟩ = false := hblk1.frozen _
      obtain ⟨o7, e7⟩ : ∃ v, cs[k * 12 + 7]? = some v := ⟨_, Array.getElem?_eq_getElem (by omega)⟩
      have q7 : w1.cell? ⟨w.heap.size, k * 12 + 7, none⟩ = some o7 := by rw [hblk1.cell]; exact e7
      have z7 : w1.frozen? ⟨w.heap.size, k * 12 + 7, none⟩ = false := hblk1.frozen _
      obtain ⟨o8, e8⟩ : ∃ v, cs[k * 12 + 8]? = some v := ⟨_, Array.getElem?_eq_getElem (by omega)⟩
      have q8 : w1.cell? ⟨w.heap.size, k * 12 + 8, none⟩ = some o8 := by rw [hblk1.cell]; exact e8
      have z8 : w1.frozen? ⟨w.heap.size, k * 12 + 8, none⟩ = false := hblk1.frozen _
      obtain ⟨o9, e9⟩ : ∃ v, cs[k * 12 + 9]? = some v := ⟨_, Array.getElem?_eq_getElem (by omega)⟩
      have q9 : w1.cell? ⟨w.heap.size, k * 12 + 9, none⟩ = some o9 := by rw [hblk1.cell]; exact e9
      have z9 : w1.frozen? ⟨w.heap.size, k * 12 + 9, none⟩ = false := hblk1.frozen _
      obtain ⟨o10, e10⟩ : ∃ v, cs[k * 12 + 10]? = some v := ⟨_, Array.getElem?_eq_getElem (by omega)⟩
      have q10 : w1.cell? ⟨w.heap.size, k * 12 + 10, none⟩ = some o10 := by rw [hblk1.cell]; exact e10
      have z10 : w1.frozen? ⟨w.heap.size, k * 12 + 10, none⟩ = false := hblk1.frozen _
      obtain ⟨o11, e11⟩ : ∃ v, cs[k * 12 + 11]? = some v := ⟨_, Array.getElem?_eq_getElem (by omega)⟩
      have q11 : w1.cell? ⟨w.heap.size, k * 12 + 11, none⟩ = some o11 := by rw [hblk1.cell]; exact e11
      have z11 : w1.frozen? ⟨w.heap.size, k * 12 + 11, none⟩ = false := hblk1.frozen _
      have hlt1 := hblk.lt
      have hbl1 := hbl.trans (hb1.mono hbl.size)
      have hnw1 := hnw.join hb1 hn1
      have hfin := (hown.keep hb1).step hlt (by omega) (StV.more (by omega) (Nat.le_refl _) _ _ hu)
      have Hfin := Lib.hid hfin
      clear hsz e0 e1 e2 e3 e4 e5 e6 e7 e8 e9 e10 e11 hfin
      go_wp2
      go_roundw
      case rel =>
        have e12 : ((((((((((((w1.setCell ⟨w.heap.size, k * 12, none⟩ (.int .i64 y1)).setCell ⟨w.heap.size, k * 12 + 1, none⟩ (.slice y2 y3 y4)).setCell ⟨w.heap.size, k * 12 + 2, none⟩ (.int .i64 y5)).setCell ⟨w.heap.size, k * 12 + 3, none⟩ (.int .i64 y6)).setCell ⟨w.heap.size, k * 12 + 4, none⟩ (.slice y7 y8 y9)).setCell ⟨w.heap.size, k * 12 + 5, none⟩ (.slice y10 y11 y12)).setCell ⟨w.heap.size, k * 12 + 6, none⟩ (.int .i64 y13)).setCell ⟨w.heap.size, k * 12 + 7, none⟩ (.int .i64 y14)).setCell ⟨w.heap.size, k * 12 + 8, none⟩ (.slice y15 y16 y17)).setCell ⟨w.heap.size, k * 12 + 9, none⟩ (.slice y18 y19 y20)).setCell ⟨w.heap.size, k * 12 + 10, none⟩ (.slice y21 y22 y23)).setCell ⟨w.heap.size, k * 12 + 11, none⟩ (.slice y24 y25 y26)) = setL w1 w.heap.size (k * 12) [.int .i64 y1, .slice y2 y3 y4, .int .i64 y5, .int .i64 y6, .slice y7 y8 y9, .slice y10 y11 y12, .int .i64 y13, .int .i64 y14, .slice y15 y16 y17, .slice y18 y19 y20, .slice y21 y22 y23, .slice y24 y25 y26] := rfl
        rw [e12]
        exact ⟨k + 1, putL cs (k * 12) [.int .i64 y1, .slice y2 y3 y4, .int .i64 y5, .int .i64 y6, .slice y7 y8 y9, .slice y10 y11 y12, .int .i64 y13, .int .i64 y14, .slice y15 y16 y17, .slice y18 y19 y20, .slice y21 y22 y23, .slice y24 y25 y26], by omega, by go_num, by rw [putL_size]; exact Hcs.out, hblk1.putL _ (k * 12), setL_ind (P := fun u => StsP u (w.heap.size + 1) (putL cs (k * 12) [.int .i64 y1, .slice y2 y3 y4, .int .i64 y5, .int .i64 y6, .slice y7 y8 y9, .slice y10 y11 y12, .int .i64 y13, .int .i64 y14, .slice y15 y16 y17, .slice y18 y19 y20, .slice y21 y22 y23, .slice y24 y25 y26]) l (k + 1)) (fun u j v hu => StsP.low hu (by simp) v) _ (k * 12) Hfin.out, setL_below _ (k * 12) hbl1 (Nat.le_refl _), setL_ind (P := fun u => New w.heap.size u) (fun u j v hu => hu.set_ _ _) _ (k * 12) hnw1⟩
      case measure => simp [intOf]; omega
    · go_wp2
      go_ret
      have : k = l.length := by omega
      subst this
      exact ⟨_, rfl, hblk.lt, Nat.le_refl _, hown.stl (by unfold maxLen; omega) hblk (by omega), hbl, hnw⟩
set_option maxRecDepth 100000 in
set_option maxHeartbeats 8000000 in
theorem toSt_n (s : St) : ToStN s := by
  refine St.ind (P := ToStN) ?_ s
  intro k name e f body els ih1 ih2 vs w L B hv hB hsz
  obtain ⟨A, c, e0, e1, e2, e3, f0, f1, f2, f3, A1, c1, A2, c2, rfl, hR, hm, he, hf, hb1', hb2'⟩ := hv.open_
  rw [stSz_mk] at hsz
  obtain ⟨xk, xn, xA, xa, xc, xA', xa', xc', rfl, rfl, rfl, rfl⟩ := he.shape
  obtain ⟨yk, yn, yA, ya, yc, yA', ya', yc', rfl, rfl, rfl, rfl⟩ := hf.shape
  have hbw0 : Below w.heap.size w (((w.alloc (.cells #[.int .i64 k, .slice A name.length c, .int .i64 xk, .int .i64 xn, .slice xA xa xc, .slice xA' xa' xc', .int .i64 yk, .int .i64 yn, .slice yA ya yc, .slice yA' ya' yc', .slice A1 body.length c1, .slice A2 els.length c2] 95)).alloc (.cells #[.int .i64 0, .slice none 0 0, .int .i64 0, .int .i64 0, .slice none 0 0, .slice none 0 0, .int .i64 0, .int .i64 0, .slice none 0 0, .slice none 0 0, .slice none 0 0, .slice none 0 0] 98)).alloc (.cells #[.int .i64 k, .slice none 0 0, .int .i64 0, .int .i64 0, .slice none 0 0, .slice none 0 0, .int .i64 0, .int .i64 0, .slice none 0 0, .slice none 0 0, .slice none 0 0, .slice none 0 0] 98)) := (((Below.refl _ _).alloc (Nat.le_refl _) _).alloc (by simp) _).alloc (by simp; omega) _
  have hR0 := (hR.below (hbw0.mono hB)).1
  have he0 := he.below (hbw0.mono hB)
  have hf0 := hf.below (hbw0.mono hB)
  have hs10 := hb1'.below (hbw0.mono hB)
  have hs20 := hb2'.below (hbw0.mono hB)
  have I1 := Lib.hid ih1
  have I2 := Lib.hid ih2
  clear ih1 ih2 hv hR he hf hb1' hb2'
  go_enter Try.func56, Try.ntmps56
  go_wp2_with fail
  refine (toByteS_n name A c B _ (by omega) (by simp; omega) hR0).mono ?_
  rintro e' w1 ⟨g1, rfl, hG1, hg1, hlt1, hb1, hn1⟩
  have K2 : Blk w1 (w.heap.size + 1 + 1) 98 #[.int .i64 k, .slice none 0 0, .int .i64 0, .int .i64 0, .slice none 0 0, .slice none 0 0, .int .i64 0, .int .i64 0, .slice none 0 0, .slice none 0 0, .slice none 0 0, .slice none 0 0] := Blk.below (by have := Blk.new ((w.alloc (.cells #[.int .i64 k, .slice A name.length c, .int .i64 xk, .int .i64 xn, .slice xA xa xc, .slice xA' xa' xc', .int .i64 yk, .int .i64 yn, .slice yA ya yc, .slice yA' ya' yc', .slice A1 body.length c1, .slice A2 els.length c2] 95)).alloc (.cells #[.int .i64 0, .slice none 0 0, .int .i64 0, .int .i64 0, .slice none 0 0, .slice none 0 0, .int .i64 0, .int .i64 0, .slice none 0 0, .slice none 0 0, .slice none 0 0, .slice none 0 0] 98)) 98 #[.int .i64 k, .slice none 0 0, .int .i64 0, .int .i64 0, .slice none 0 0, .slice none 0 0, .int .i64 0, .int .i64 0, .slice none 0 0, .slice none 0 0, .slice none 0 0, .slice none 0 0]; simpa using this) hb1 (by simp)
  have K1 : Blk w1 (w.heap.size + 1) 98 #[.int .i64 0, .slice none 0 0, .int .i64 0, .int .i64 0, .slice none 0 0, .slice none 0 0, .int .i64 0, .int .i64 0, .slice none 0 0, .slice none 0 0, .slice none 0 0, .slice none 0 0] := Blk.below ((by have := Blk.new (w.alloc (.cells #[.int .i64 k, .slice A name.length c, .int .i64 xk, .int .i64 xn, .slice xA xa xc, .slice xA' xa' xc', .int .i64 yk, .int .i64 yn, .slice yA ya yc, .slice yA' ya' yc', .slice A1 body.length c1, .slice A2 els.length c2] 95)) 98 #[.int .i64 0, .slice none 0 0, .int .i64 0, .int .i64 0, .slice none 0 0, .slice none 0 0, .int .i64 0, .int .i64 0, .slice none 0 0, .slice none 0 0, .slice none 0 0, .slice none 0 0]; simpa using this : Blk ((w.alloc (.cells #[.int .i64 k, .slice A name.length c, .int .i64 xk, .int .i64 xn, .slice xA xa xc, .slice xA' xa' xc', .int .i64 yk, .int .i64 yn, .slice yA ya yc, .slice yA' ya' yc', .slice A1 body.length c1, .slice A2 els.length c2] 95)).alloc (.cells #[.int .i64 0, .slice none 0 0, .int .i64 0, .int .i64 0, .slice none 0 0, .slice none 0 0, .int .i64 0, .int .i64 0, .slice none 0 0, .slice none 0 0, .slice none 0 0, .slice none 0 0] 98)) (w.heap.size + 1) 98 _).alloc _) hb1 (by simp)
  have K0 : Blk w1 w.heap.size 95 #[.int .i64 k, .slice A name.length c, .int .i64 xk, .int .i64 xn, .slice xA xa xc, .slice xA' xa' xc', .int .i64 yk, .int .i64 yn, .slice yA ya yc, .slice yA' ya' yc', .slice A1 body.length c1, .slice A2 els.length c2] := Blk.below (((Blk.new w 95 _).alloc _).alloc _) hb1 (by simp; omega)
  have hg1' : w.heap.size + 1 + 1 + 1 ≤ g1 := by simpa using hg1
  have hbw1 : Below w.heap.size w w1 := hbw0.trans (hb1.mono (by simp; omega))
  have hnw1 := ((((New.refl w).alloc #[.int .i64 k, .slice A name.length c, .int .i64 xk, .int .i64 xn, .slice xA xa xc, .slice xA' xa' xc', .int .i64 yk, .int .i64 yn, .slice yA ya yc, .slice yA' ya' yc', .slice A1 body.length c1, .slice A2 els.length c2] 95).alloc #[.int .i64 0, .slice none 0 0, .int .i64 0, .int .i64 0, .slice none 0 0, .slice none 0 0, .int .i64 0, .int .i64 0, .slice none 0 0, .slice none 0 0, .slice none 0 0, .slice none 0 0] 98).alloc #[.int .i64 k, .slice none 0 0, .int .i64 0, .int .i64 0, .slice none 0 0, .slice none 0 0, .int .i64 0, .int .i64 0, .slice none 0 0, .slice none 0 0, .slice none 0 0, .slice none 0 0] 98).join hb1 hn1
  have he1 := he0.below (hb1.mono (by simp; omega))
  have hf1 := hf0.below (hb1.mono (by simp; omega))
  have hs11 := hs10.below (hb1.mono (by simp; omega))
  have hs21 := hs20.below (hb1.mono (by simp; omega))
  have hz1 : w.heap.size + 1 + 1 + 1 ≤ w1.heap.size := by omega
  have n1 := K2.cell_of 1 rfl
  have z1 : w1.frozen? ⟨w.heap.size + 1 + 1, 1, none⟩ = false := K2.frozen 1
  have a2 := K0.cell_of 2 rfl
  have a3 := K0.cell_of 3 rfl
  have a4 := K0.cell_of 4 rfl
  have a5 := K0.cell_of 5 rfl
  have hRn : RBL w1 w.heap.size w1.heap.size (some ⟨g1, 0, none⟩) name := ⟨RB.of_blk hG1 hlt1, fun _ => ⟨_, rfl, by show w.heap.size ≤ g1; omega⟩⟩
  have hRn1 : RBL w1 (w.heap.size + 1 + 1 + 1) w1.heap.size (some ⟨g1, 0, none⟩) name := ⟨RB.of_blk hG1 hlt1, fun _ => ⟨_, rfl, by show _ ≤ g1; omega⟩⟩
  clear hb1 hg1 hR0 he0 hf0 hs10 hs20 hbw0 hRn hG1
  go_wp2_with fail
  refine (toEx_n e _ _ _ _ (setL w1 (w.heap.size + 1 + 1) 1 [.slice (some ⟨g1, 0, none⟩) name.length name.length]) L B (ExV.keep (far_cell (g := w.heap.size + 1 + 1) (Or.inr (by omega)) [.slice (some ⟨g1, 0, none⟩) name.length name.length] w1 1) _ _ _ _ _ he1) (by rw [setL_size]; omega) (by omega)).mono ?_
  rintro e' w2 ⟨u0, u1, u2, u3, rfl, hu, hb2, hn2⟩
  obtain ⟨uk, un, uA, ua, uc, uB, ub, ud, rfl, rfl, rfl, rfl⟩ := hu.shape
  rw [setL_size] at hu
  have hE2 := ExV.more hz1 (Nat.le_refl _) _ _ _ _ _ hu
  clear n1 z1 a2 a3 a4 a5 he1 hu
  have K02 := (Blk.farL (g' := w.heap.size + 1 + 1) (by omega) [.slice (some ⟨g1, 0, none⟩) name.length name.length] 1 K0).below hb2 (by rw [setL_size]; exact K0.lt)
  have K12 := (Blk.farL (g' := w.heap.size + 1 + 1) (by omega) [.slice (some ⟨g1, 0, none⟩) name.length name.length] 1 K1).below hb2 (by rw [setL_size]; exact K1.lt)
  have K22 := (Blk.putL [.slice (some ⟨g1, 0, none⟩) name.length name.length] 1 K2).below hb2 (by rw [setL_size]; exact K2.lt)
  have E2 : putL #[.int .i64 k, .slice none 0 0, .int .i64 0, .int .i64 0, .slice none 0 0, .slice none 0 0, .int .i64 0, .int .i64 0, .slice none 0 0, .slice none 0 0, .slice none 0 0, .slice none 0 0] 1 [.slice (some ⟨g1, 0, none⟩) name.length name.length] = #[.int .i64 k, .slice (some ⟨g1, 0, none⟩) name.length name.length, .int .i64 0, .int .i64 0, .slice none 0 0, .slice none 0 0, .int .i64 0, .int .i64 0, .slice none 0 0, .slice none 0 0, .slice none 0 0, .slice none 0 0] := rfl
  rw [E2] at K22
  clear E2
  have hbw2 : Below w.heap.size w w2 := (setL_below (g := w.heap.size + 1 + 1) [.slice (some ⟨g1, 0, none⟩) name.length name.length] 1 hbw1 (by omega)).trans (hb2.mono (by rw [setL_size]; exact hbw1.size))
  have hnw2 := (New.setL_ (w.heap.size + 1 + 1) 1 [.slice (some ⟨g1, 0, none⟩) name.length name.length] hnw1).join hb2 hn2
  have hz2 : w1.heap.size ≤ w2.heap.size := by have := hb2.size; rw [setL_size] at this; exact this
  have hRn2 := ((hRn1.keep (far_cell (g := w.heap.size + 1 + 1) (Or.inl (by omega)) [.slice (some ⟨g1, 0, none⟩) name.length name.length] w1 1)).below (by rw [setL_size] at hb2; exact hb2)).more (Nat.le_refl _) hz2
  have hf2 := (ExV.keep (far_cell (g := w.heap.size + 1 + 1) (Or.inr (by omega)) [.slice (some ⟨g1, 0, none⟩) name.length name.length] w1 1) _ _ _ _ _ hf1).below (hb2.mono (by rw [setL_size]; omega))
  have hs12 := (hs11.keep (far_cell (g := w.heap.size + 1 + 1) (Or.inr (by omega)) [.slice (some ⟨g1, 0, none⟩) name.length name.length] w1 1)).below (hb2.mono (by rw [setL_size]; omega))
  have hs22 := (hs21.keep (far_cell (g := w.heap.size + 1 + 1) (Or.inr (by omega)) [.slice (some ⟨g1, 0, none⟩) name.length name.length] w1 1)).below (hb2.mono (by rw [setL_size]; omega))
  clear hb2 K0 K1 K2 hRn1 hf1 hs11 hs21
  have n2 := K22.cell_of 2 rfl
  have n3 := K22.cell_of 3 rfl
  have n4 := K22.cell_of 4 rfl
  have n5 := K22.cell_of 5 rfl
  have z2 : w2.frozen? ⟨w.heap.size + 1 + 1, 2, none⟩ = false := K22.frozen 2
  have z3 : w2.frozen? ⟨w.heap.size + 1 + 1, 3, none⟩ = false := K22.frozen 3
  have z4 : w2.frozen? ⟨w.heap.size + 1 + 1, 4, none⟩ = false := K22.frozen 4
  have z5 : w2.frozen? ⟨w.heap.size + 1 + 1, 5, none⟩ = false := K22.frozen 5
  have a6 := K02.cell_of 6 rfl
  have a7 := K02.cell_of 7 rfl
  have a8 := K02.cell_of 8 rfl
  have a9 := K02.cell_of 9 rfl
  go_wp2_with fail
  refine (toEx_n f _ _ _ _ (setL w2 (w.heap.size + 1 + 1) 2 [.int .i64 uk, .int .i64 un, .slice uA ua uc, .slice uB ub ud]) L B (ExV.keep (far_cell (g := w.heap.size + 1 + 1) (Or.inr (by omega)) [.int .i64 uk, .int .i64 un, .slice uA ua uc, .slice uB ub ud] w2 2) _ _ _ _ _ hf2) (by rw [setL_size]; omega) (by omega)).mono ?_
  rintro e' w3 ⟨t0, t1, t2, t3, rfl, ht, hb3, hn3⟩
  obtain ⟨tk, tn, tA, ta, tc, tB, tb, td, rfl, rfl, rfl, rfl⟩ := ht.shape
  rw [setL_size] at ht
  have hF3 := ExV.more (Nat.le_trans hz1 hz2) (Nat.le_refl _) _ _ _ _ _ ht
  clear n2 n3 n4 n5 z2 z3 z4 z5 a6 a7 a8 a9 hf2 ht
  have K03 := (Blk.farL (g' := w.heap.size + 1 + 1) (by omega) [.int .i64 uk, .int .i64 un, .slice uA ua uc, .slice uB ub ud] 2 K02).below hb3 (by rw [setL_size]; exact K02.lt)
  have K13 := (Blk.farL (g' := w.heap.size + 1 + 1) (by omega) [.int .i64 uk, .int .i64 un, .slice uA ua uc, .slice uB ub ud] 2 K12).below hb3 (by rw [setL_size]; exact K12.lt)
  have K23 := (Blk.putL [.int .i64 uk, .int .i64 un, .slice uA ua uc, .slice uB ub ud] 2 K22).below hb3 (by rw [setL_size]; exact K22.lt)
  have E3 : putL #[.int .i64 k, .slice (some ⟨g1, 0, none⟩) name.length name.length, .int .i64 0, .int .i64 0, .slice none 0 0, .slice none 0 0, .int .i64 0, .int .i64 0, .slice none 0 0, .slice none 0 0, .slice none 0 0, .slice none 0 0] 2 [.int .i64 uk, .int .i64 un, .slice uA ua uc, .slice uB ub ud] = #[.int .i64 k, .slice (some ⟨g1, 0, none⟩) name.length name.length, .int .i64 uk, .int .i64 un, .slice uA ua uc, .slice uB ub ud, .int .i64 0, .int .i64 0, .slice none 0 0, .slice none 0 0, .slice none 0 0, .slice none 0 0] := rfl
  rw [E3] at K23
  clear E3
  have hbw3 : Below w.heap.size w w3 := (setL_below (g := w.heap.size + 1 + 1) [.int .i64 uk, .int .i64 un, .slice uA ua uc, .slice uB ub ud] 2 hbw2 (by omega)).trans (hb3.mono (by rw [setL_size]; exact hbw2.size))
  have hnw3 := (New.setL_ (w.heap.size + 1 + 1) 2 [.int .i64 uk, .int .i64 un, .slice uA ua uc, .slice uB ub ud] hnw2).join hb3 hn3
  have hz3 : w2.heap.size ≤ w3.heap.size := by have := hb3.size; rw [setL_size] at this; exact this
  have hRn3 := ((hRn2.keep (far_cell (g := w.heap.size + 1 + 1) (Or.inl (by omega)) [.int .i64 uk, .int .i64 un, .slice uA ua uc, .slice uB ub ud] w2 2)).below (by rw [setL_size] at hb3; exact hb3)).more (Nat.le_refl _) hz3
  have hE3 := ExV.more (Nat.le_refl _) hz3 _ _ _ _ _ (ExV.below (ExV.keep (far_cell (g := w.heap.size + 1 + 1) (Or.inl (by omega)) [.int .i64 uk, .int .i64 un, .slice uA ua uc, .slice uB ub ud] w2 2) _ _ _ _ _ hE2) (by rw [setL_size] at hb3; exact hb3))
  have hs13 := (hs12.keep (far_cell (g := w.heap.size + 1 + 1) (Or.inr (by omega)) [.int .i64 uk, .int .i64 un, .slice uA ua uc, .slice uB ub ud] w2 2)).below (hb3.mono (by rw [setL_size]; omega))
  have hs23 := (hs22.keep (far_cell (g := w.heap.size + 1 + 1) (Or.inr (by omega)) [.int .i64 uk, .int .i64 un, .slice uA ua uc, .slice uB ub ud] w2 2)).below (hb3.mono (by rw [setL_size]; omega))
  clear hb3 K02 K12 K22 hRn2 hE2 hs12 hs22
  have n6 := K23.cell_of 6 rfl
  have n7 := K23.cell_of 7 rfl
  have n8 := K23.cell_of 8 rfl
  have n9 := K23.cell_of 9 rfl
  have z6 : w3.frozen? ⟨w.heap.size + 1 + 1, 6, none⟩ = false := K23.frozen 6
  have z7 : w3.frozen? ⟨w.heap.size + 1 + 1, 7, none⟩ = false := K23.frozen 7
  have z8 : w3.frozen? ⟨w.heap.size + 1 + 1, 8, none⟩ = false := K23.frozen 8
  have z9 : w3.frozen? ⟨w.heap.size + 1 + 1, 9, none⟩ = false := K23.frozen 9
  have a10 := K03.cell_of 10 rfl
  go_wp2_with fail
  refine (toStS_n body I1.out A1 c1 L B (setL w3 (w.heap.size + 1 + 1) 6 [.int .i64 tk, .int .i64 tn, .slice tA ta tc, .slice tB tb td]) (by rw [setL_size]; omega) (by omega) (hs13.keep (far_cell (g := w.heap.size + 1 + 1) (Or.inr (by omega)) [.int .i64 tk, .int .i64 tn, .slice tA ta tc, .slice tB tb td] w3 6))).mono ?_
  rintro e' w4 ⟨g4, rfl, hg4, hg4', hx, hb4, hn4⟩
  rw [setL_size] at hx hg4'
  have hG4 := hx.more (Nat.le_trans hz1 (Nat.le_trans hz2 hz3)) (Nat.le_refl _)
  clear n6 n7 n8 n9 z6 z7 z8 z9 a10 hs13 hx
  have K04 := (Blk.farL (g' := w.heap.size + 1 + 1) (by omega) [.int .i64 tk, .int .i64 tn, .slice tA ta tc, .slice tB tb td] 6 K03).below hb4 (by rw [setL_size]; exact K03.lt)
  have K14 := (Blk.farL (g' := w.heap.size + 1 + 1) (by omega) [.int .i64 tk, .int .i64 tn, .slice tA ta tc, .slice tB tb td] 6 K13).below hb4 (by rw [setL_size]; exact K13.lt)
  have K24 := (Blk.putL [.int .i64 tk, .int .i64 tn, .slice tA ta tc, .slice tB tb td] 6 K23).below hb4 (by rw [setL_size]; exact K23.lt)
  have E4 : putL #[.int .i64 k, .slice (some ⟨g1, 0, none⟩) name.length name.length, .int .i64 uk, .int .i64 un, .slice uA ua uc, .slice uB ub ud, .int .i64 0, .int .i64 0, .slice none 0 0, .slice none 0 0, .slice none 0 0, .slice none 0 0] 6 [.int .i64 tk, .int .i64 tn, .slice tA ta tc, .slice tB tb td] = #[.int .i64 k, .slice (some ⟨g1, 0, none⟩) name.length name.length, .int .i64 uk, .int .i64 un, .slice uA ua uc, .slice uB ub ud, .int .i64 tk, .int .i64 tn, .slice tA ta tc, .slice tB tb td, .slice none 0 0, .slice none 0 0] := rfl
  rw [E4] at K24
  clear E4
  have hbw4 : Below w.heap.size w w4 := (setL_below (g := w.heap.size + 1 + 1) [.int .i64 tk, .int .i64 tn, .slice tA ta tc, .slice tB tb td] 6 hbw3 (by omega)).trans (hb4.mono (by rw [setL_size]; exact hbw3.size))
  have hnw4 := (New.setL_ (w.heap.size + 1 + 1) 6 [.int .i64 tk, .int .i64 tn, .slice tA ta tc, .slice tB tb td] hnw3).join hb4 hn4
  have hz4 : w3.heap.size ≤ w4.heap.size := by have := hb4.size; rw [setL_size] at this; exact this
  have hRn4 := ((hRn3.keep (far_cell (g := w.heap.size + 1 + 1) (Or.inl (by omega)) [.int .i64 tk, .int .i64 tn, .slice tA ta tc, .slice tB tb td] w3 6)).below (by rw [setL_size] at hb4; exact hb4)).more (Nat.le_refl _) hz4
  have hE4 := ExV.more (Nat.le_refl _) hz4 _ _ _ _ _ (ExV.below (ExV.keep (far_cell (g := w.heap.size + 1 + 1) (Or.inl (by omega)) [.int .i64 tk, .int .i64 tn, .slice tA ta tc, .slice tB tb td] w3 6) _ _ _ _ _ hE3) (by rw [setL_size] at hb4; exact hb4))
  have hF4 := ExV.more (Nat.le_refl _) hz4 _ _ _ _ _ (ExV.below (ExV.keep (far_cell (g := w.heap.size + 1 + 1) (Or.inl (by omega)) [.int .i64 tk, .int .i64 tn, .slice tA ta tc, .slice tB tb td] w3 6) _ _ _ _ _ hF3) (by rw [setL_size] at hb4; exact hb4))
  have hs24 := (hs23.keep (far_cell (g := w.heap.size + 1 + 1) (Or.inr (by omega)) [.int .i64 tk, .int .i64 tn, .slice tA ta tc, .slice tB tb td] w3 6)).below (hb4.mono (by rw [setL_size]; omega))
  clear hb4 K03 K13 K23 hRn3 hE3 hF3 hs23
  have n10 := K24.cell_of 10 rfl
  have z10 : w4.frozen? ⟨w.heap.size + 1 + 1, 10, none⟩ = false := K24.frozen 10
  have a11 := K04.cell_of 11 rfl
  go_wp2_with fail
  refine (toStS_n els I2.out A2 c2 L B (setL w4 (w.heap.size + 1 + 1) 10 [.slice (some ⟨g4, 0, none⟩) body.length body.length]) (by rw [setL_size]; omega) (by omega) (hs24.keep (far_cell (g := w.heap.size + 1 + 1) (Or.inr (by omega)) [.slice (some ⟨g4, 0, none⟩) body.length body.length] w4 10))).mono ?_
  rintro e' w5 ⟨g5, rfl, hg5, hg5', hx, hb5, hn5⟩
  rw [setL_size] at hx hg5'
  have hH5 := hx.more (Nat.le_trans hz1 (Nat.le_trans hz2 (Nat.le_trans hz3 hz4))) (Nat.le_refl _)
  clear n10 z10 a11 hs24 hx
  have K05 := (Blk.farL (g' := w.heap.size + 1 + 1) (by omega) [.slice (some ⟨g4, 0, none⟩) body.length body.length] 10 K04).below hb5 (by rw [setL_size]; exact K04.lt)
  have K15 := (Blk.farL (g' := w.heap.size + 1 + 1) (by omega) [.slice (some ⟨g4, 0, none⟩) body.length body.length] 10 K14).below hb5 (by rw [setL_size]; exact K14.lt)
  have K25 := (Blk.putL [.slice (some ⟨g4, 0, none⟩) body.length body.length] 10 K24).below hb5 (by rw [setL_size]; exact K24.lt)
  have E5 : putL #[.int .i64 k, .slice (some ⟨g1, 0, none⟩) name.length name.length, .int .i64 uk, .int .i64 un, .slice uA ua uc, .slice uB ub ud, .int .i64 tk, .int .i64 tn, .slice tA ta tc, .slice tB tb td, .slice none 0 0, .slice none 0 0] 10 [.slice (some ⟨g4, 0, none⟩) body.length body.length] = #[.int .i64 k, .slice (some ⟨g1, 0, none⟩) name.length name.length, .int .i64 uk, .int .i64 un, .slice uA ua uc, .slice uB ub ud, .int .i64 tk, .int .i64 tn, .slice tA ta tc, .slice tB tb td, .slice (some ⟨g4, 0, none⟩) body.length body.length, .slice none 0 0] := rfl
  rw [E5] at K25
  clear E5
  have hbw5 : Below w.heap.size w w5 := (setL_below (g := w.heap.size + 1 + 1) [.slice (some ⟨g4, 0, none⟩) body.length body.length] 10 hbw4 (by omega)).trans (hb5.mono (by rw [setL_size]; exact hbw4.size))
  have hnw5 := (New.setL_ (w.heap.size + 1 + 1) 10 [.slice (some ⟨g4, 0, none⟩) body.length body.length] hnw4).join hb5 hn5
  have hz5 : w4.heap.size ≤ w5.heap.size := by have := hb5.size; rw [setL_size] at this; exact this
  have hRn5 := ((hRn4.keep (far_cell (g := w.heap.size + 1 + 1) (Or.inl (by omega)) [.slice (some ⟨g4, 0, none⟩) body.length body.length] w4 10)).below (by rw [setL_size] at hb5; exact hb5)).more (Nat.le_refl _) hz5
  have hE5 := ExV.more (Nat.le_refl _) hz5 _ _ _ _ _ (ExV.below (ExV.keep (far_cell (g := w.heap.size + 1 + 1) (Or.inl (by omega)) [.slice (some ⟨g4, 0, none⟩) body.length body.length] w4 10) _ _ _ _ _ hE4) (by rw [setL_size] at hb5; exact hb5))
  have hF5 := ExV.more (Nat.le_refl _) hz5 _ _ _ _ _ (ExV.below (ExV.keep (far_cell (g := w.heap.size + 1 + 1) (Or.inl (by omega)) [.slice (some ⟨g4, 0, none⟩) body.length body.length] w4 10) _ _ _ _ _ hF4) (by rw [setL_size] at hb5; exact hb5))
  have hG5 := ((hG4.keep (far_cell (g := w.heap.size + 1 + 1) (Or.inl (by omega)) [.slice (some ⟨g4, 0, none⟩) body.length body.length] w4 10)).below (by rw [setL_size] at hb5; exact hb5)).more (Nat.le_refl _) hz5
  clear hb5 K04 K14 K24 hRn4 hE4 hF4 hG4
  have n0 := K25.cell_of 0 rfl
  have n1 := K25.cell_of 1 rfl
  have n2 := K25.cell_of 2 rfl
  have n3 := K25.cell_of 3 rfl
  have n4 := K25.cell_of 4 rfl
  have n5 := K25.cell_of 5 rfl
  have n6 := K25.cell_of 6 rfl
  have n7 := K25.cell_of 7 rfl
  have n8 := K25.cell_of 8 rfl
  have n9 := K25.cell_of 9 rfl
  have n10 := K25.cell_of 10 rfl
  have n11 := K25.cell_of 11 rfl
  have z11 : w5.frozen? ⟨w.heap.size + 1 + 1, 11, none⟩ = false := K25.frozen 11
  have m0 := K15.cell_of 0 rfl
  have m1 := K15.cell_of 1 rfl
  have m2 := K15.cell_of 2 rfl
  have m3 := K15.cell_of 3 rfl
  have m4 := K15.cell_of 4 rfl
  have m5 := K15.cell_of 5 rfl
  have m6 := K15.cell_of 6 rfl
  have m7 := K15.cell_of 7 rfl
  have m8 := K15.cell_of 8 rfl
  have m9 := K15.cell_of 9 rfl
  have m10 := K15.cell_of 10 rfl
  have m11 := K15.cell_of 11 rfl
  have y0 : w5.frozen? ⟨w.heap.size + 1, 0, none⟩ = false := K15.frozen 0
  have y1 : w5.frozen? ⟨w.heap.size + 1, 1, none⟩ = false := K15.frozen 1
  have y2 : w5.frozen? ⟨w.heap.size + 1, 2, none⟩ = false := K15.frozen 2
  have y3 : w5.frozen? ⟨w.heap.size + 1, 3, none⟩ = false := K15.frozen 3
  have y4 : w5.frozen? ⟨w.heap.size + 1, 4, none⟩ = false := K15.frozen 4
  have y5 : w5.frozen? ⟨w.heap.size + 1, 5, none⟩ = false := K15.frozen 5
  have y6 : w5.frozen? ⟨w.heap.size + 1, 6, none⟩ = false := K15.frozen 6
  have y7 : w5.frozen? ⟨w.heap.size + 1, 7, none⟩ = false := K15.frozen 7
  have y8 : w5.frozen? ⟨w.heap.size + 1, 8, none⟩ = false := K15.frozen 8
  have y9 : w5.frozen? ⟨w.heap.size + 1, 9, none⟩ = false := K15.frozen 9
  have y10 : w5.frozen? ⟨w.heap.size + 1, 10, none⟩ = false := K15.frozen 10
  have y11 : w5.frozen? ⟨w.heap.size + 1, 11, none⟩ = false := K15.frozen 11
  go_wp2_with fail
  refine bodyPost_ret (v := .agg #[.int .i64 k, .slice (some ⟨g1, 0, none⟩) name.length name.length, .int .i64 uk, .int .i64 un, .slice uA ua uc, .slice uB ub ud, .int .i64 tk, .int .i64 tn, .slice tA ta tc, .slice tB tb td, .slice (some ⟨g4, 0, none⟩) body.length body.length, .slice (some ⟨g5, 0, none⟩) els.length els.length]) (by simp [results, Try.results56, go_sem, m0, m1, m2, m3, m4, m5, m6, m7, m8, m9, m10, m11]) rfl ?_
  have hL0 := hbw5.size
  have k1 : ∀ p : Addr, w.heap.size + 1 + 1 + 1 ≤ p.block → p.block < w5.heap.size → (setL (setL w5 (w.heap.size + 1 + 1) 11 [.slice (some ⟨g5, 0, none⟩) els.length els.length]) (w.heap.size + 1) 0 [.int .i64 k, .slice (some ⟨g1, 0, none⟩) name.length name.length, .int .i64 uk, .int .i64 un, .slice uA ua uc, .slice uB ub ud, .int .i64 tk, .int .i64 tn, .slice tA ta tc, .slice tB tb td, .slice (some ⟨g4, 0, none⟩) body.length body.length, .slice (some ⟨g5, 0, none⟩) els.length els.length]).cell? p = w5.cell? p := by
    intro p h1 h2
    have n1 : p.block ≠ w.heap.size + 1 := by omega
    have n2 : p.block ≠ w.heap.size + 1 + 1 := by omega
    rw [setL_cell n1, setL_cell n2]
  have hfs : (setL (setL w5 (w.heap.size + 1 + 1) 11 [.slice (some ⟨g5, 0, none⟩) els.length els.length]) (w.heap.size + 1) 0 [.int .i64 k, .slice (some ⟨g1, 0, none⟩) name.length name.length, .int .i64 uk, .int .i64 un, .slice uA ua uc, .slice uB ub ud, .int .i64 tk, .int .i64 tn, .slice tA ta tc, .slice tB tb td, .slice (some ⟨g4, 0, none⟩) body.length body.length, .slice (some ⟨g5, 0, none⟩) els.length els.length]).heap.size = w5.heap.size := by rw [setL_size, setL_size]
  have hbf0 : Below w.heap.size w (setL w5 (w.heap.size + 1 + 1) 11 [.slice (some ⟨g5, 0, none⟩) els.length els.length]) := setL_below [.slice (some ⟨g5, 0, none⟩) els.length els.length] 11 hbw5 (by omega)
  have hbf : Below w.heap.size w (setL (setL w5 (w.heap.size + 1 + 1) 11 [.slice (some ⟨g5, 0, none⟩) els.length els.length]) (w.heap.size + 1) 0 [.int .i64 k, .slice (some ⟨g1, 0, none⟩) name.length name.length, .int .i64 uk, .int .i64 un, .slice uA ua uc, .slice uB ub ud, .int .i64 tk, .int .i64 tn, .slice tA ta tc, .slice tB tb td, .slice (some ⟨g4, 0, none⟩) body.length body.length, .slice (some ⟨g5, 0, none⟩) els.length els.length]) := setL_below _ 0 hbf0 (by omega)
  have hnf := New.setL_ (w.heap.size + 1) 0 [.int .i64 k, .slice (some ⟨g1, 0, none⟩) name.length name.length, .int .i64 uk, .int .i64 un, .slice uA ua uc, .slice uB ub ud, .int .i64 tk, .int .i64 tn, .slice tA ta tc, .slice tB tb td, .slice (some ⟨g4, 0, none⟩) body.length body.length, .slice (some ⟨g5, 0, none⟩) els.length els.length] (New.setL_ (w.heap.size + 1 + 1) 11 [.slice (some ⟨g5, 0, none⟩) els.length els.length] hnw5)
  have hgo : ∃ us : List Value, Ending.returned (.agg #[.int .i64 k, .slice (some ⟨g1, 0, none⟩) name.length name.length, .int .i64 uk, .int .i64 un, .slice uA ua uc, .slice uB ub ud, .int .i64 tk, .int .i64 tn, .slice tA ta tc, .slice tB tb td, .slice (some ⟨g4, 0, none⟩) body.length body.length, .slice (some ⟨g5, 0, none⟩) els.length els.length]) = Ending.returned (.agg us.toArray) ∧ StV (setL (setL w5 (w.heap.size + 1 + 1) 11 [.slice (some ⟨g5, 0, none⟩) els.length els.length]) (w.heap.size + 1) 0 [.int .i64 k, .slice (some ⟨g1, 0, none⟩) name.length name.length, .int .i64 uk, .int .i64 un, .slice uA ua uc, .slice uB ub ud, .int .i64 tk, .int .i64 tn, .slice tA ta tc, .slice tB tb td, .slice (some ⟨g4, 0, none⟩) body.length body.length, .slice (some ⟨g5, 0, none⟩) els.length els.length]) w.heap.size (setL (setL w5 (w.heap.size + 1 + 1) 11 [.slice (some ⟨g5, 0, none⟩) els.length els.length]) (w.heap.size + 1) 0 [.int .i64 k, .slice (some ⟨g1, 0, none⟩) name.length name.length, .int .i64 uk, .int .i64 un, .slice uA ua uc, .slice uB ub ud, .int .i64 tk, .int .i64 tn, .slice tA ta tc, .slice tB tb td, .slice (some ⟨g4, 0, none⟩) body.length body.length, .slice (some ⟨g5, 0, none⟩) els.length els.length]).heap.size us (St.mk k name e f body els) ∧ Below w.heap.size w (setL (setL w5 (w.heap.size + 1 + 1) 11 [.slice (some ⟨g5, 0, none⟩) els.length els.length]) (w.heap.size + 1) 0 [.int .i64 k, .slice (some ⟨g1, 0, none⟩) name.length name.length, .int .i64 uk, .int .i64 un, .slice uA ua uc, .slice uB ub ud, .int .i64 tk, .int .i64 tn, .slice tA ta tc, .slice tB tb td, .slice (some ⟨g4, 0, none⟩) body.length body.length, .slice (some ⟨g5, 0, none⟩) els.length els.length]) ∧ New w.heap.size (setL (setL w5 (w.heap.size + 1 + 1) 11 [.slice (some ⟨g5, 0, none⟩) els.length els.length]) (w.heap.size + 1) 0 [.int .i64 k, .slice (some ⟨g1, 0, none⟩) name.length name.length, .int .i64 uk, .int .i64 un, .slice uA ua uc, .slice uB ub ud, .int .i64 tk, .int .i64 tn, .slice tA ta tc, .slice tB tb td, .slice (some ⟨g4, 0, none⟩) body.length body.length, .slice (some ⟨g5, 0, none⟩) els.length els.length]) := by
    rw [hfs]
    clear hfs
    refine ⟨[.int .i64 k, .slice (some ⟨g1, 0, none⟩) name.length name.length, .int .i64 uk, .int .i64 un, .slice uA ua uc, .slice uB ub ud, .int .i64 tk, .int .i64 tn, .slice tA ta tc, .slice tB tb td, .slice (some ⟨g4, 0, none⟩) body.length body.length, .slice (some ⟨g5, 0, none⟩) els.length els.length], rfl, StV.mk_ ((hRn5.keep k1).more (by omega) (Nat.le_refl _)) hm (ExV.more (by omega) (Nat.le_refl _) _ _ _ _ _ (ExV.keep k1 _ _ _ _ _ hE5)) (ExV.more (by omega) (Nat.le_refl _) _ _ _ _ _ (ExV.keep k1 _ _ _ _ _ hF5)) ((hG5.keep k1).more (by omega) (Nat.le_refl _)) ((hH5.keep k1).more (by omega) (Nat.le_refl _)), ?_⟩
    exact ⟨hbf, hnf⟩
  have eW : (((((((((((((w5.setCell ⟨w.heap.size + 1 + 1, 11, none⟩ (.slice (some ⟨g5, 0, none⟩) els.length els.length)).setCell ⟨w.heap.size + 1, 0, none⟩ (.int .i64 k)).setCell ⟨w.heap.size + 1, 1, none⟩ (.slice (some ⟨g1, 0, none⟩) name.length name.length)).setCell ⟨w.heap.size + 1, 2, none⟩ (.int .i64 uk)).setCell ⟨w.heap.size + 1, 3, none⟩ (.int .i64 un)).setCell ⟨w.heap.size + 1, 4, none⟩ (.slice uA ua uc)).setCell ⟨w.heap.size + 1, 5, none⟩ (.slice uB ub ud)).setCell ⟨w.heap.size + 1, 6, none⟩ (.int .i64 tk)).setCell ⟨w.heap.size + 1, 7, none⟩ (.int .i64 tn)).setCell ⟨w.heap.size + 1, 8, none⟩ (.slice tA ta tc)).setCell ⟨w.heap.size + 1, 9, none⟩ (.slice tB tb td)).setCell ⟨w.heap.size + 1, 10, none⟩ (.slice (some ⟨g4, 0, none⟩) body.length body.length)).setCell ⟨w.heap.size + 1, 11, none⟩ (.slice (some ⟨g5, 0, none⟩) els.length els.length)) = setL (setL w5 (w.heap.size + 1 + 1) 11 [.slice (some ⟨g5, 0, none⟩) els.length els.length]) (w.heap.size + 1) 0 [.int .i64 k, .slice (some ⟨g1, 0, none⟩) name.length name.length, .int .i64 uk, .int .i64 un, .slice uA ua uc, .slice uB ub ud, .int .i64 tk, .int .i64 tn, .slice tA ta tc, .slice tB tb td, .slice (some ⟨g4, 0, none⟩) body.length body.length, .slice (some ⟨g5, 0, none⟩) els.length els.length] := rfl
  rw [eW]
  exact hgo
end Go.Proofs.Ytmejbmfopdfbjaa
