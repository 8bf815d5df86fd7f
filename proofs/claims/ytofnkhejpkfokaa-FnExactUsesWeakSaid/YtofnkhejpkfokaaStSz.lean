/-
  The laws' own size of statements.
-/
import Derived.Test.YtofnkhejpkfokaaSt
import Derived.Test.YtofnkhejpkfokaaExSz
namespace Go.Proofs.Ytofnkhejpkfokaa
open Go.RowKit
set_option linter.unusedVariables false

def SzSt (s : St) : Prop := ∀ (vs : List Value) (left : Int) (w : World) (L B : Nat), StV w L B vs s → B ≤ w.heap.size → 0 ≤ left → left ≤ 1048576 →
  Calls Try.prog 108 #[.agg vs.toArray, .int .i64 left] w (SzP (stSz s) left w)

set_option maxRecDepth 100000 in
set_option maxHeartbeats 1000000 in
theorem szStS_of (l : List St) (ih : ∀ s ∈ l, SzSt s) (A : Option Addr) (c L B : Nat) (left : Int) (w : World) (hB : B ≤ w.heap.size) (h0 : 0 ≤ left) (h1 : left ≤ 1048576) (h : StL w L B A l) :
    Calls Try.prog 75 #[.slice A l.length c, .int .i64 left] w (SzP (stsSz l) left w) := by
  have hn := h.1
  unfold maxLen at hn
  have Ih := Lib.hid ih
  clear ih
  by_cases hlt : left - l.length < 0
  · go_enter Try.func75, Try.ntmps75
    go_wp2
    go_ret
    exact ⟨-1, rfl, by omega, by omega, by omega, Below.refl _ _⟩
  have hge : 0 ≤ left - l.length := by omega
  clear hlt
  have htot := stsSz_all l
  have Htot := Lib.hid htot
  clear htot
  go_enter Try.func75, Try.ntmps75
  go_wp2
  go_loopw [1, 5] (fun s i wr => ∃ (k : Nat) (r : Int), k ≤ l.length ∧ i = .int .i64 k ∧ s = .int .i64 r ∧ 0 ≤ r ∧ (l.length : Int) + stsIn l k + r ≤ left ∧ Below w.heap.size w wr) (fun _ i _ => l.length - (intOf i).toNat)
  case atStart => exact ⟨0, left - l.length, Nat.zero_le _, rfl, rfl, by omega, by simp [stsIn]; omega, Below.refl _ _⟩
  case round =>
    obtain ⟨k, r, hk, rfl, rfl, hr0, hr1, hbl⟩ := hrel
    by_cases hlt : k < l.length
    · obtain ⟨ad, rfl, _, hb, hat⟩ := (h.below (hbl.mono hB)).2 (by omega)
      obtain ⟨vs, hvs, hv⟩ := hat k hlt
      obtain ⟨x1, x2, x3, x4, x5, x6, x7, x8, x9, x10, x11, x12, x13, x14, x15, x16, x17, x18, x19, x20, x21, x22, x23, x24, x25, x26, rfl⟩ := hv.shape
      have c0 := hvs 0 _ rfl
      have c1 := hvs 1 _ rfl
      have c2 := hvs 2 _ rfl
      have c3 := hvs 3 _ rfl
      have c4 := hvs 4 _ rfl
      have c5 := hvs 5 _ rfl
      have c6 := hvs 6 _ rfl
      have c7 := hvs 7 _ rfl
      have c8 := hvs 8 _ rfl
      have c9 := hvs 9 _ rfl
      have c10 := hvs 10 _ rfl
      have c11 := hvs 11 _ rfl
      simp only [if_true, Nat.reduceEqDiff, if_false] at c0 c1 c2 c3 c4 c5 c6 c7 c8 c9 c10 c11
      clear hvs
      have hst := stsIn_step hlt
      have hr2 : r ≤ 1048576 := by omega
      have hc := Ih.out l[k] (List.getElem_mem hlt) _ r wr L B hv (Nat.le_trans hB hbl.size) hr0 hr2
      have Hc := Lib.hid hc
      clear hc
      go_wp2_with fail
      refine Hc.out.mono ?_
      rintro e w1 ⟨r1, rfl, q1, q2, q3, hb1⟩
      have hbn := hbl.trans (hb1.mono hbl.size)
      by_cases hr : r1 < 0
      · clear hst q3
        go_wp2
        go_ret
        exact ⟨-1, rfl, by omega, by omega, by omega, hbn⟩
      · have hr' : 0 ≤ r1 := by omega
        have q4 := q3 hr'
        have hst' : (stsIn l (k + 1) : Int) ≤ stsIn l k + stSz l[k] := by omega
        clear hst q3 hr
        go_wp2
        go_roundw
        case rel => exact ⟨k + 1, r1, by omega, by go_num, rfl, by omega, by omega, hbn⟩
        case measure => simp [intOf]; omega
    · go_wp2
      go_ret
      have : k = l.length := by omega
      subst this
      exact ⟨r, rfl, by omega, by omega, fun _ => by have := Htot.out; omega, hbl⟩


set_option maxRecDepth 100000 in
set_option maxHeartbeats 2000000 in
theorem szSt_c (s : St) : SzSt s := by
  refine St.ind (P := SzSt) ?_ s
  intro k name e f body els ih1 ih2 vs left w L B hv hB h0 h1
  obtain ⟨A, c, e0, e1, e2, e3, f0, f1, f2, f3, A1, c1, A2, c2, rfl, hR, hm, he, hf, hb1, hb2⟩ := hv.open_
  unfold maxLen at hm
  rw [stSz_mk]
  have hbl : Below w.heap.size w (w.alloc (.cells #[.int .i64 k, .slice A name.length c, e0, e1, e2, e3, f0, f1, f2, f3, .slice A1 body.length c1, .slice A2 els.length c2] 127)) := (Below.refl _ _).alloc (Nat.le_refl _) _
  have hs := szByteS_c A name.length c left (w.alloc (.cells #[.int .i64 k, .slice A name.length c, e0, e1, e2, e3, f0, f1, f2, f3, .slice A1 body.length c1, .slice A2 els.length c2] 127)) hm h0 h1
  have he' := he.below (hbl.mono hB)
  have hf' := hf.below (hbl.mono hB)
  have g1 := hb1.below (hbl.mono hB)
  have g2 := hb2.below (hbl.mono hB)
  have I1 := Lib.hid ih1
  have I2 := Lib.hid ih2
  clear ih1 ih2 hv hR he hf hb1 hb2
  obtain ⟨xk, xn, xA, xa, xc, xA', xa', xc', rfl, rfl, rfl, rfl⟩ := he'.shape
  obtain ⟨yk, yn, yA, ya, yc, yA', ya', yc', rfl, rfl, rfl, rfl⟩ := hf'.shape
  rcases sub_cases left name.length with ⟨hlt, hsb⟩ | ⟨hge, hsb⟩
  · rw [hsb] at hs
    have Hs := Lib.hid hs
    clear hsb hs
    go_enter Try.func108, Try.ntmps108
    go_wp2_with fail
    refine Hs.out.mono ?_
    rintro e w' ⟨rfl, rfl⟩
    go_wp2
    go_ret
    exact ⟨-1, rfl, by omega, by omega, by omega, hbl⟩
  rw [hsb] at hs
  have Hs := Lib.hid hs
  clear hsb hs
  go_enter Try.func108, Try.ntmps108
  go_wp2_with fail
  refine Hs.out.mono ?_
  rintro e w' ⟨rfl, rfl⟩
  go_wp2_with fail
  refine (szEx_c e _ _ _ _ (left - name.length) _ L B he' (by simp; omega) hge (by omega)).mono ?_
  rintro e w1 ⟨r1, rfl, p1, p2, p3, hbw1⟩
  have hbn1 := hbl.trans (hbw1.mono hbl.size)
  by_cases hr1 : r1 < 0
  · clear p3
    go_wp2
    go_ret
    exact ⟨-1, rfl, by omega, by omega, by omega, hbn1⟩
  have hr1' : 0 ≤ r1 := by omega
  have p4 := p3 hr1'
  have K1 : Blk w1 w.heap.size 127 #[.int .i64 k, .slice A name.length c, .int .i64 xk, .int .i64 xn, .slice xA xa xc, .slice xA' xa' xc', .int .i64 yk, .int .i64 yn, .slice yA ya yc, .slice yA' ya' yc', .slice A1 body.length c1, .slice A2 els.length c2] := (Blk.new w 127 _).below hbw1 (by simp)
  have q6 := K1.cell_of 6 rfl
  have q7 := K1.cell_of 7 rfl
  have q8 := K1.cell_of 8 rfl
  have q9 := K1.cell_of 9 rfl
  have hf1 := hf'.below (hbw1.mono (by simp; omega))
  have g11 := g1.below (hbw1.mono (by simp; omega))
  have g21 := g2.below (hbw1.mono (by simp; omega))
  have hw1 := hbn1.size
  clear hr1 p3 g1 g2 hf'
  go_wp2_with fail
  refine (szEx_c f _ _ _ _ r1 _ L B hf1 (by omega) hr1' (by omega)).mono ?_
  rintro e w2 ⟨r2, rfl, t1, t2, t3, hbw2⟩
  have hbn2 := hbn1.trans (hbw2.mono hbn1.size)
  by_cases hr2 : r2 < 0
  · clear t3
    go_wp2
    go_ret
    exact ⟨-1, rfl, by omega, by omega, by omega, hbn2⟩
  have hr2' : 0 ≤ r2 := by omega
  have t4 := t3 hr2'
  have K2 := K1.below hbw2 K1.lt
  have q10 := K2.cell_of 10 rfl
  have g12 := g11.below (hbw2.mono (by omega))
  have g22 := g21.below (hbw2.mono (by omega))
  have hw2 := hbn2.size
  clear hr2 t3 g11 g21 hf1 q6 q7 q8 q9
  go_wp2_with fail
  refine (szStS_of body I1.out A1 c1 L B r2 _ (by omega) hr2' (by omega) g12).mono ?_
  rintro e w3 ⟨r3, rfl, u1, u2, u3, hbw3⟩
  have hbn3 := hbn2.trans (hbw3.mono hbn2.size)
  by_cases hr3 : r3 < 0
  · clear u3
    go_wp2
    go_ret
    exact ⟨-1, rfl, by omega, by omega, by omega, hbn3⟩
  have hr3' : 0 ≤ r3 := by omega
  have u4 := u3 hr3'
  have K3 := K2.below hbw3 K2.lt
  have q11 := K3.cell_of 11 rfl
  have g23 := g22.below (hbw3.mono (by omega))
  have hw3 := hbn3.size
  clear hr3 u3 g12 g22 q10
  go_wp2_with fail
  refine (szStS_of els I2.out A2 c2 L B r3 _ (by omega) hr3' (by omega) g23).mono ?_
  rintro e w4 ⟨r4, rfl, x1, x2, x3, hbw4⟩
  have hbn4 := hbn3.trans (hbw4.mono hbn3.size)
  by_cases hr4 : r4 < 0
  · clear x3
    go_wp2
    go_ret
    exact ⟨-1, rfl, by omega, by omega, by omega, hbn4⟩
  have hr4' : 0 ≤ r4 := by omega
  have x4 := x3 hr4'
  clear hr4 x3
  go_wp2
  go_ret
  exact ⟨r4, rfl, by omega, by omega, fun _ => by omega, hbn4⟩
theorem szStS_c (l : List St) (A : Option Addr) (c L B : Nat) (left : Int) (w : World) (hB : B ≤ w.heap.size) (h0 : 0 ≤ left) (h1 : left ≤ 1048576) (h : StL w L B A l) :
    Calls Try.prog 75 #[.slice A l.length c, .int .i64 left] w (SzP (stsSz l) left w) :=
  szStS_of l (fun s _ => szSt_c s) A c L B left w hB h0 h1 h
end Go.Proofs.Ytofnkhejpkfokaa
