/-
  The model's check of statements: some kinds.
-/
import Derived.Test.YtmejbmfopdfbjaaSpecStDef
namespace Go.Proofs.Ytmejbmfopdfbjaa
open Go.RowKit
set_option linter.unusedVariables false

set_option maxRecDepth 100000 in
set_option maxHeartbeats 8000000 in
theorem l2st_4 (name : List UInt8) (e f : Ex) (body els : List St) (se : SpEx e) (sf : SpEx f) (ih1 : SpSts body) (ih2 : SpSts els) (vs : List Value) (L B g d : Nat) (left : Int) (w : World) (h : StV w L B vs (.mk 4 name e f body els)) (hB : B ≤ w.heap.size) (hg : B ≤ g) (hsz : stSz (.mk 4 name e f body els) ≤ 1048576)
    (hK : Blk w g 62 #[.int .i64 left]) (h0 : 1 ≤ left) (h1 : left ≤ 90) (hd : d ≤ 7) :
    Calls Try.prog 54 #[.agg vs.toArray, .int .i64 (d : Int), .pointer (some ⟨g, 0, none⟩)] w (SpP (stGood (.mk 4 name e f body els) d) (stN (.mk 4 name e f body els)) g left w) := by
  obtain ⟨A, c, e0, e1, e2, e3, f0, f1, f2, f3, A1, c1, A2, c2, rfl, hR, hm, he, hf, hb1, hb2⟩ := h.open_
  rw [stSz_mk] at hsz
  have hne : w.heap.size ≠ g := by have := hK.lt; omega
  have x0 : ∀ o, (w.alloc o).cell? ⟨g, 0, none⟩ = some (.int .i64 left) := fun o => (hK.alloc o).cell_of 0 rfl
  have z0 : ∀ o, (w.alloc o).frozen? ⟨g, 0, none⟩ = false := fun o => (hK.alloc o).frozen 0
  have hl' : 0 ≤ left - 1 := by omega
  have h7' : (d : Int) ≤ 7 := by omega
  have hP1 : Past g w ((w.alloc (.cells #[.int .i64 4, .slice A name.length c, e0, e1, e2, e3, f0, f1, f2, f3, .slice A1 body.length c1, .slice A2 els.length c2] 98)).setCell ⟨g, 0, none⟩ (.int .i64 (left - 1))) := ((Past.refl g w).alloc _).set_ (.inl rfl) _
  have hK1 : Blk ((w.alloc (.cells #[.int .i64 4, .slice A name.length c, e0, e1, e2, e3, f0, f1, f2, f3, .slice A1 body.length c1, .slice A2 els.length c2] 98)).setCell ⟨g, 0, none⟩ (.int .i64 (left - 1))) g 62 #[.int .i64 (left - 1)] := (hK.alloc _).set_ 0 (.int .i64 (left - 1))
  have KB1 := (Blk.new w 98 #[.int .i64 4, .slice A name.length c, e0, e1, e2, e3, f0, f1, f2, f3, .slice A1 body.length c1, .slice A2 els.length c2]).far (p := ⟨g, 0, none⟩) hne (.int .i64 (left - 1))
  have hE := se e0 e1 e2 e3 L B g (d + 1) (left - 1) _ (he.below (hP1.below hg hB)) (Nat.le_trans hB hP1.size) hg (by omega) hK1 hl' (by omega) (by omega)
  rw [show (((d + 1 : Nat)) : Int) = (d : Int) + 1 by omega] at hE
  have HE := Lib.hid hE
  have HX := Lib.hid (And.intro hR (And.intro he (And.intro hf (And.intro hb1 hb2))))
  obtain ⟨xk, xn, xA, xa, xc, xA', xa', xc', rfl, rfl, rfl, rfl⟩ := he.shape
  obtain ⟨yk, yn, yA, ya, yc, yA', ya', yc', rfl, rfl, rfl, rfl⟩ := hf.shape
  have Sf := Lib.hid sf
  have Ih1 := Lib.hid ih1
  have Ih2 := Lib.hid ih2
  have Hsz := Lib.hid hsz
  have HK1 := Lib.hid hK1
  clear hR he hf hb1 hb2 hsz hK hE sf ih1 ih2 se h hK1
  go_enter Try.func54, Try.ntmps54
  go_wp2_with fail
  refine HE.out.mono ?_
  rintro r w2 ⟨b, rfl, hPa, a2, hK2, hiff, himp⟩
  have Hiff := Lib.hid hiff
  have Himp := Lib.hid himp
  have hP2 := hP1.trans hPa
  have KB2 := KB1.past hPa hne
  clear hiff himp KB1 hPa HE x0 z0
  cases b
  · go_wp2
    go_ret
    exact sp_no hP2 hK2 (fun hh => by
      obtain ⟨p1, p2, p3, p4, p5, p6, p7⟩ := st_parts hh
      exact Bool.noConfusion (Hiff.out.2 ⟨p3, by omega⟩))
  have F2 : Hid (exGood e (d + 1) = true ∧ a2 = left - 1 - exN e ∧ 0 ≤ a2) := Lib.hid (by
    obtain ⟨y1, y2⟩ := Hiff.out.1 rfl
    have y3 := Himp.out rfl
    exact ⟨y1, y3, by omega⟩)
  clear Hiff Himp
  have q0 := KB2.cell_of 0 rfl
  have q1 := KB2.cell_of 1 rfl
  have q2 := KB2.cell_of 2 rfl
  have q3 := KB2.cell_of 3 rfl
  have q4 := KB2.cell_of 4 rfl
  have q5 := KB2.cell_of 5 rfl
  have q6 := KB2.cell_of 6 rfl
  have q7 := KB2.cell_of 7 rfl
  have q8 := KB2.cell_of 8 rfl
  have q9 := KB2.cell_of 9 rfl
  have q10 := KB2.cell_of 10 rfl
  have q11 := KB2.cell_of 11 rfl
  by_cases c1 : 0 < (name.length : Int)
  · have c1n : ¬ name = [] := fun e => by subst e; simp at c1
    go_wp2
    go_ret
    exact sp_no hP2 hK2 (fun hh => by
      obtain ⟨p1, p2, p3, p4, p5, p6, p7⟩ := st_parts hh
      have hx : stOk1 4 name f body.length els.length = false := by simp [stOk1, c1n]
      rw [hx] at p2
      cases p2)
  obtain rfl : name = [] := List.eq_nil_of_length_eq_zero (by omega)
  clear c1
  have hf' := l2none_c f _ _ _ _ L B w2 (HX.out.2.2.1.below (hP2.below hg hB))
  have Hf := Lib.hid hf'
  clear hf'
  go_wp2_with fail
  refine Hf.out.mono ?_
  rintro r w4 ⟨rfl, hb4⟩
  have hP4 := hP2.trans (Past.of hb4 g)
  have hK4 := hK2.below hb4 hK2.lt
  have KB4 := KB2.below hb4 KB2.lt
  clear Hf
  clear q0 q1 q2 q3 q4 q5 q6 q7 q8 q9 q10 q11
  have F4 : Hid ((4 : Int) = 2 → exGood f (d + 1) = true) := Lib.hid (fun h => by omega)
  have A4 : Hid (a2 = left - 1 - exN e - fN 4 f ∧ 0 ≤ a2) := Lib.hid (by
    obtain ⟨s1, s2, s3⟩ := F2.out
    have e1 : fN 4 f = 0 := rfl
    exact ⟨by rw [e1]; omega, s3⟩)
  have q0 := KB4.cell_of 0 rfl
  have q1 := KB4.cell_of 1 rfl
  have q2 := KB4.cell_of 2 rfl
  have q3 := KB4.cell_of 3 rfl
  have q4 := KB4.cell_of 4 rfl
  have q5 := KB4.cell_of 5 rfl
  have q6 := KB4.cell_of 6 rfl
  have q7 := KB4.cell_of 7 rfl
  have q8 := KB4.cell_of 8 rfl
  have q9 := KB4.cell_of 9 rfl
  have q10 := KB4.cell_of 10 rfl
  have q11 := KB4.cell_of 11 rfl
  cases c5 : exNone f
  · have C5 := Lib.hid c5
    clear c5
    go_wp2
    go_ret
    exact sp_no hP4 hK4 (fun hh => by
        obtain ⟨p1, p2, p3, p4, p5, p6, p7⟩ := st_parts hh
        have hx : stOk1 4 [] f body.length els.length = false := by simp [stOk1, C5.out]
        rw [hx] at p2
        cases p2)
  have C5 := Lib.hid c5
  clear c5
  clear q0 q1 q2 q3 q4 q5 q6 q7 q8 q9 q10 q11
  have q0 := KB4.cell_of 0 rfl
  have q1 := KB4.cell_of 1 rfl
  have q2 := KB4.cell_of 2 rfl
  have q3 := KB4.cell_of 3 rfl
  have q4 := KB4.cell_of 4 rfl
  have q5 := KB4.cell_of 5 rfl
  have q6 := KB4.cell_of 6 rfl
  have q7 := KB4.cell_of 7 rfl
  have q8 := KB4.cell_of 8 rfl
  have q9 := KB4.cell_of 9 rfl
  have q10 := KB4.cell_of 10 rfl
  have q11 := KB4.cell_of 11 rfl
  by_cases c6 : 0 < (body.length : Int)
  · have c6n : ¬ body = [] := fun e => by subst e; simp at c6
    go_wp2
    go_ret
    exact sp_no hP4 hK4 (fun hh => by
        obtain ⟨p1, p2, p3, p4, p5, p6, p7⟩ := st_parts hh
        have hx : stOk1 4 [] f body.length els.length = false := by simp [stOk1, c6n]
        rw [hx] at p2
        cases p2)
  obtain rfl : body = [] := List.eq_nil_of_length_eq_zero (by omega)
  clear c6
  by_cases c7 : 0 < (els.length : Int)
  · have c7n : ¬ els = [] := fun e => by subst e; simp at c7
    go_wp2
    go_ret
    exact sp_no hP4 hK4 (fun hh => by
        obtain ⟨p1, p2, p3, p4, p5, p6, p7⟩ := st_parts hh
        have hx : stOk1 4 [] f ([] : List St).length els.length = false := by simp [stOk1, c7n]
        rw [hx] at p2
        cases p2)
  obtain rfl : els = [] := List.eq_nil_of_length_eq_zero (by omega)
  clear c7
  have hok : stOk1 4 ([] : List UInt8) f ([] : List St).length ([] : List St).length = true := by simp [stOk1, C5.out]
  have Hok := Lib.hid hok
  clear hok
  have hb' := Ih1.out A1 c1 L B g (d + 1) a2 w4 (HX.out.2.2.2.1.below (hP4.below hg hB)) (Nat.le_trans hB hP4.size) hg (by have := Hsz.out; omega) hK4 A4.out.2 (by have := A4.out.1; omega) (by omega)
  rw [show (((d + 1 : Nat)) : Int) = (d : Int) + 1 by omega] at hb'
  have Hb := Lib.hid hb'
  clear hb'
  go_wp2_with fail
  refine Hb.out.mono ?_
  rintro r w5 ⟨b, rfl, hPb, a5, hK5, hiff, himp⟩
  have Hiff := Lib.hid hiff
  have Himp := Lib.hid himp
  have hP5 := hP4.trans hPb
  have KB5 := KB4.past hPb hne
  clear hiff himp hPb Hb
  clear q0 q1 q2 q3 q4 q5 q6 q7 q8 q9 q10 q11
  cases b
  · go_wp2
    go_ret
    exact sp_no hP5 hK5 (fun hh => by
      obtain ⟨p1, p2, p3, p4, p5, p6, p7⟩ := st_parts hh
      obtain ⟨s1, s2⟩ := A4.out
      exact Bool.noConfusion (Hiff.out.2 ⟨p5, by omega⟩))
  have F5 : Hid (stsGood [] (d + 1) = true ∧ a5 = left - 1 - exN e - fN 4 f - stsN [] ∧ 0 ≤ a5) := Lib.hid (by
    obtain ⟨s1, s2⟩ := A4.out
    obtain ⟨y1, y2⟩ := Hiff.out.1 rfl
    have y3 := Himp.out rfl
    exact ⟨y1, by omega, by omega⟩)
  clear Hiff Himp
  have q0 := KB5.cell_of 0 rfl
  have q1 := KB5.cell_of 1 rfl
  have q2 := KB5.cell_of 2 rfl
  have q3 := KB5.cell_of 3 rfl
  have q4 := KB5.cell_of 4 rfl
  have q5 := KB5.cell_of 5 rfl
  have q6 := KB5.cell_of 6 rfl
  have q7 := KB5.cell_of 7 rfl
  have q8 := KB5.cell_of 8 rfl
  have q9 := KB5.cell_of 9 rfl
  have q10 := KB5.cell_of 10 rfl
  have q11 := KB5.cell_of 11 rfl
  have he' := Ih2.out A2 c2 L B g (d + 1) a5 w5 (HX.out.2.2.2.2.below (hP5.below hg hB)) (Nat.le_trans hB hP5.size) hg (by have := Hsz.out; omega) hK5 F5.out.2.2 (by have := F5.out.2.1; omega) (by omega)
  rw [show (((d + 1 : Nat)) : Int) = (d : Int) + 1 by omega] at he'
  have He := Lib.hid he'
  clear he'
  go_wp2_with fail
  refine He.out.mono ?_
  rintro r w6 ⟨b, rfl, hPe, a6, hK6, hiff, himp⟩
  have Hiff := Lib.hid hiff
  have Himp := Lib.hid himp
  have hP6 := hP5.trans hPe
  clear hiff himp hPe He
  clear q0 q1 q2 q3 q4 q5 q6 q7 q8 q9 q10 q11
  cases b
  · go_wp2
    go_ret
    exact sp_no hP6 hK6 (fun hh => by
      obtain ⟨p1, p2, p3, p4, p5, p6, p7⟩ := st_parts hh
      obtain ⟨s1, s2, s3⟩ := F5.out
      exact Bool.noConfusion (Hiff.out.2 ⟨p6, by omega⟩))
  · go_wp2
    go_ret
    obtain ⟨s1, s2, s3⟩ := F5.out
    obtain ⟨y1, y2⟩ := Hiff.out.1 (by trivial)
    have y3 := Himp.out (by trivial)
    exact st_yes hP6 hK6 hd Hok.out F2.out.1 F4.out s1 y1 (by omega) (by omega)

set_option maxRecDepth 100000 in
set_option maxHeartbeats 8000000 in
theorem l2st_5 (name : List UInt8) (e f : Ex) (body els : List St) (se : SpEx e) (sf : SpEx f) (ih1 : SpSts body) (ih2 : SpSts els) (vs : List Value) (L B g d : Nat) (left : Int) (w : World) (h : StV w L B vs (.mk 5 name e f body els)) (hB : B ≤ w.heap.size) (hg : B ≤ g) (hsz : stSz (.mk 5 name e f body els) ≤ 1048576)
    (hK : Blk w g 62 #[.int .i64 left]) (h0 : 1 ≤ left) (h1 : left ≤ 90) (hd : d ≤ 7) :
    Calls Try.prog 54 #[.agg vs.toArray, .int .i64 (d : Int), .pointer (some ⟨g, 0, none⟩)] w (SpP (stGood (.mk 5 name e f body els) d) (stN (.mk 5 name e f body els)) g left w) := by
  obtain ⟨A, c, e0, e1, e2, e3, f0, f1, f2, f3, A1, c1, A2, c2, rfl, hR, hm, he, hf, hb1, hb2⟩ := h.open_
  rw [stSz_mk] at hsz
  have hne : w.heap.size ≠ g := by have := hK.lt; omega
  have x0 : ∀ o, (w.alloc o).cell? ⟨g, 0, none⟩ = some (.int .i64 left) := fun o => (hK.alloc o).cell_of 0 rfl
  have z0 : ∀ o, (w.alloc o).frozen? ⟨g, 0, none⟩ = false := fun o => (hK.alloc o).frozen 0
  have hl' : 0 ≤ left - 1 := by omega
  have h7' : (d : Int) ≤ 7 := by omega
  have hP1 : Past g w ((w.alloc (.cells #[.int .i64 5, .slice A name.length c, e0, e1, e2, e3, f0, f1, f2, f3, .slice A1 body.length c1, .slice A2 els.length c2] 98)).setCell ⟨g, 0, none⟩ (.int .i64 (left - 1))) := ((Past.refl g w).alloc _).set_ (.inl rfl) _
  have hK1 : Blk ((w.alloc (.cells #[.int .i64 5, .slice A name.length c, e0, e1, e2, e3, f0, f1, f2, f3, .slice A1 body.length c1, .slice A2 els.length c2] 98)).setCell ⟨g, 0, none⟩ (.int .i64 (left - 1))) g 62 #[.int .i64 (left - 1)] := (hK.alloc _).set_ 0 (.int .i64 (left - 1))
  have KB1 := (Blk.new w 98 #[.int .i64 5, .slice A name.length c, e0, e1, e2, e3, f0, f1, f2, f3, .slice A1 body.length c1, .slice A2 els.length c2]).far (p := ⟨g, 0, none⟩) hne (.int .i64 (left - 1))
  have hE := se e0 e1 e2 e3 L B g (d + 1) (left - 1) _ (he.below (hP1.below hg hB)) (Nat.le_trans hB hP1.size) hg (by omega) hK1 hl' (by omega) (by omega)
  rw [show (((d + 1 : Nat)) : Int) = (d : Int) + 1 by omega] at hE
  have HE := Lib.hid hE
  have HX := Lib.hid (And.intro hR (And.intro he (And.intro hf (And.intro hb1 hb2))))
  obtain ⟨xk, xn, xA, xa, xc, xA', xa', xc', rfl, rfl, rfl, rfl⟩ := he.shape
  obtain ⟨yk, yn, yA, ya, yc, yA', ya', yc', rfl, rfl, rfl, rfl⟩ := hf.shape
  have Sf := Lib.hid sf
  have Ih1 := Lib.hid ih1
  have Ih2 := Lib.hid ih2
  have Hsz := Lib.hid hsz
  have HK1 := Lib.hid hK1
  clear hR he hf hb1 hb2 hsz hK hE sf ih1 ih2 se h hK1
  go_enter Try.func54, Try.ntmps54
  go_wp2_with fail
  refine HE.out.mono ?_
  rintro r w2 ⟨b, rfl, hPa, a2, hK2, hiff, himp⟩
  have Hiff := Lib.hid hiff
  have Himp := Lib.hid himp
  have hP2 := hP1.trans hPa
  have KB2 := KB1.past hPa hne
  clear hiff himp KB1 hPa HE x0 z0
  cases b
  · go_wp2
    go_ret
    exact sp_no hP2 hK2 (fun hh => by
      obtain ⟨p1, p2, p3, p4, p5, p6, p7⟩ := st_parts hh
      exact Bool.noConfusion (Hiff.out.2 ⟨p3, by omega⟩))
  have F2 : Hid (exGood e (d + 1) = true ∧ a2 = left - 1 - exN e ∧ 0 ≤ a2) := Lib.hid (by
    obtain ⟨y1, y2⟩ := Hiff.out.1 rfl
    have y3 := Himp.out rfl
    exact ⟨y1, y3, by omega⟩)
  clear Hiff Himp
  have q0 := KB2.cell_of 0 rfl
  have q1 := KB2.cell_of 1 rfl
  have q2 := KB2.cell_of 2 rfl
  have q3 := KB2.cell_of 3 rfl
  have q4 := KB2.cell_of 4 rfl
  have q5 := KB2.cell_of 5 rfl
  have q6 := KB2.cell_of 6 rfl
  have q7 := KB2.cell_of 7 rfl
  have q8 := KB2.cell_of 8 rfl
  have q9 := KB2.cell_of 9 rfl
  have q10 := KB2.cell_of 10 rfl
  have q11 := KB2.cell_of 11 rfl
  by_cases c1 : 0 < (name.length : Int)
  · have c1n : ¬ name = [] := fun e => by subst e; simp at c1
    go_wp2
    go_ret
    exact sp_no hP2 hK2 (fun hh => by
      obtain ⟨p1, p2, p3, p4, p5, p6, p7⟩ := st_parts hh
      have hx : stOk1 5 name f body.length els.length = false := by simp [stOk1, c1n]
      rw [hx] at p2
      cases p2)
  obtain rfl : name = [] := List.eq_nil_of_length_eq_zero (by omega)
  clear c1
  have hf' := l2none_c f _ _ _ _ L B w2 (HX.out.2.2.1.below (hP2.below hg hB))
  have Hf := Lib.hid hf'
  clear hf'
  go_wp2_with fail
  refine Hf.out.mono ?_
  rintro r w4 ⟨rfl, hb4⟩
  have hP4 := hP2.trans (Past.of hb4 g)
  have hK4 := hK2.below hb4 hK2.lt
  have KB4 := KB2.below hb4 KB2.lt
  clear Hf
  clear q0 q1 q2 q3 q4 q5 q6 q7 q8 q9 q10 q11
  have F4 : Hid ((5 : Int) = 2 → exGood f (d + 1) = true) := Lib.hid (fun h => by omega)
  have A4 : Hid (a2 = left - 1 - exN e - fN 5 f ∧ 0 ≤ a2) := Lib.hid (by
    obtain ⟨s1, s2, s3⟩ := F2.out
    have e1 : fN 5 f = 0 := rfl
    exact ⟨by rw [e1]; omega, s3⟩)
  have q0 := KB4.cell_of 0 rfl
  have q1 := KB4.cell_of 1 rfl
  have q2 := KB4.cell_of 2 rfl
  have q3 := KB4.cell_of 3 rfl
  have q4 := KB4.cell_of 4 rfl
  have q5 := KB4.cell_of 5 rfl
  have q6 := KB4.cell_of 6 rfl
  have q7 := KB4.cell_of 7 rfl
  have q8 := KB4.cell_of 8 rfl
  have q9 := KB4.cell_of 9 rfl
  have q10 := KB4.cell_of 10 rfl
  have q11 := KB4.cell_of 11 rfl
  cases c5 : exNone f
  · have C5 := Lib.hid c5
    clear c5
    go_wp2
    go_ret
    exact sp_no hP4 hK4 (fun hh => by
        obtain ⟨p1, p2, p3, p4, p5, p6, p7⟩ := st_parts hh
        have hx : stOk1 5 [] f body.length els.length = false := by simp [stOk1, C5.out]
        rw [hx] at p2
        cases p2)
  have C5 := Lib.hid c5
  clear c5
  clear q0 q1 q2 q3 q4 q5 q6 q7 q8 q9 q10 q11
  have q0 := KB4.cell_of 0 rfl
  have q1 := KB4.cell_of 1 rfl
  have q2 := KB4.cell_of 2 rfl
  have q3 := KB4.cell_of 3 rfl
  have q4 := KB4.cell_of 4 rfl
  have q5 := KB4.cell_of 5 rfl
  have q6 := KB4.cell_of 6 rfl
  have q7 := KB4.cell_of 7 rfl
  have q8 := KB4.cell_of 8 rfl
  have q9 := KB4.cell_of 9 rfl
  have q10 := KB4.cell_of 10 rfl
  have q11 := KB4.cell_of 11 rfl
  have hok : stOk1 5 ([] : List UInt8) f (body : List St).length (els : List St).length = true := by simp [stOk1, C5.out]
  have Hok := Lib.hid hok
  clear hok
  have hb' := Ih1.out A1 c1 L B g (d + 1) a2 w4 (HX.out.2.2.2.1.below (hP4.below hg hB)) (Nat.le_trans hB hP4.size) hg (by have := Hsz.out; omega) hK4 A4.out.2 (by have := A4.out.1; omega) (by omega)
  rw [show (((d + 1 : Nat)) : Int) = (d : Int) + 1 by omega] at hb'
  have Hb := Lib.hid hb'
  clear hb'
  go_wp2_with fail
  refine Hb.out.mono ?_
  rintro r w5 ⟨b, rfl, hPb, a5, hK5, hiff, himp⟩
  have Hiff := Lib.hid hiff
  have Himp := Lib.hid himp
  have hP5 := hP4.trans hPb
  have KB5 := KB4.past hPb hne
  clear hiff himp hPb Hb
  clear q0 q1 q2 q3 q4 q5 q6 q7 q8 q9 q10 q11
  cases b
  · go_wp2
    go_ret
    exact sp_no hP5 hK5 (fun hh => by
      obtain ⟨p1, p2, p3, p4, p5, p6, p7⟩ := st_parts hh
      obtain ⟨s1, s2⟩ := A4.out
      exact Bool.noConfusion (Hiff.out.2 ⟨p5, by omega⟩))
  have F5 : Hid (stsGood body (d + 1) = true ∧ a5 = left - 1 - exN e - fN 5 f - stsN body ∧ 0 ≤ a5) := Lib.hid (by
    obtain ⟨s1, s2⟩ := A4.out
    obtain ⟨y1, y2⟩ := Hiff.out.1 rfl
    have y3 := Himp.out rfl
    exact ⟨y1, by omega, by omega⟩)
  clear Hiff Himp
  have q0 := KB5.cell_of 0 rfl
  have q1 := KB5.cell_of 1 rfl
  have q2 := KB5.cell_of 2 rfl
  have q3 := KB5.cell_of 3 rfl
  have q4 := KB5.cell_of 4 rfl
  have q5 := KB5.cell_of 5 rfl
  have q6 := KB5.cell_of 6 rfl
  have q7 := KB5.cell_of 7 rfl
  have q8 := KB5.cell_of 8 rfl
  have q9 := KB5.cell_of 9 rfl
  have q10 := KB5.cell_of 10 rfl
  have q11 := KB5.cell_of 11 rfl
  have he' := Ih2.out A2 c2 L B g (d + 1) a5 w5 (HX.out.2.2.2.2.below (hP5.below hg hB)) (Nat.le_trans hB hP5.size) hg (by have := Hsz.out; omega) hK5 F5.out.2.2 (by have := F5.out.2.1; omega) (by omega)
  rw [show (((d + 1 : Nat)) : Int) = (d : Int) + 1 by omega] at he'
  have He := Lib.hid he'
  clear he'
  go_wp2_with fail
  refine He.out.mono ?_
  rintro r w6 ⟨b, rfl, hPe, a6, hK6, hiff, himp⟩
  have Hiff := Lib.hid hiff
  have Himp := Lib.hid himp
  have hP6 := hP5.trans hPe
  clear hiff himp hPe He
  clear q0 q1 q2 q3 q4 q5 q6 q7 q8 q9 q10 q11
  cases b
  · go_wp2
    go_ret
    exact sp_no hP6 hK6 (fun hh => by
      obtain ⟨p1, p2, p3, p4, p5, p6, p7⟩ := st_parts hh
      obtain ⟨s1, s2, s3⟩ := F5.out
      exact Bool.noConfusion (Hiff.out.2 ⟨p6, by omega⟩))
  · go_wp2
    go_ret
    obtain ⟨s1, s2, s3⟩ := F5.out
    obtain ⟨y1, y2⟩ := Hiff.out.1 (by trivial)
    have y3 := Himp.out (by trivial)
    exact st_yes hP6 hK6 hd Hok.out F2.out.1 F4.out s1 y1 (by omega) (by omega)

set_option maxRecDepth 100000 in
set_option maxHeartbeats 8000000 in
theorem l2st_6 (name : List UInt8) (e f : Ex) (body els : List St) (se : SpEx e) (sf : SpEx f) (ih1 : SpSts body) (ih2 : SpSts els) (vs : List Value) (L B g d : Nat) (left : Int) (w : World) (h : StV w L B vs (.mk 6 name e f body els)) (hB : B ≤ w.heap.size) (hg : B ≤ g) (hsz : stSz (.mk 6 name e f body els) ≤ 1048576)
    (hK : Blk w g 62 #[.int .i64 left]) (h0 : 1 ≤ left) (h1 : left ≤ 90) (hd : d ≤ 7) :
    Calls Try.prog 54 #[.agg vs.toArray, .int .i64 (d : Int), .pointer (some ⟨g, 0, none⟩)] w (SpP (stGood (.mk 6 name e f body els) d) (stN (.mk 6 name e f body els)) g left w) := by
  obtain ⟨A, c, e0, e1, e2, e3, f0, f1, f2, f3, A1, c1, A2, c2, rfl, hR, hm, he, hf, hb1, hb2⟩ := h.open_
  rw [stSz_mk] at hsz
  have hne : w.heap.size ≠ g := by have := hK.lt; omega
  have x0 : ∀ o, (w.alloc o).cell? ⟨g, 0, none⟩ = some (.int .i64 left) := fun o => (hK.alloc o).cell_of 0 rfl
  have z0 : ∀ o, (w.alloc o).frozen? ⟨g, 0, none⟩ = false := fun o => (hK.alloc o).frozen 0
  have hl' : 0 ≤ left - 1 := by omega
  have h7' : (d : Int) ≤ 7 := by omega
  have hP1 : Past g w ((w.alloc (.cells #[.int .i64 6, .slice A name.length c, e0, e1, e2, e3, f0, f1, f2, f3, .slice A1 body.length c1, .slice A2 els.length c2] 98)).setCell ⟨g, 0, none⟩ (.int .i64 (left - 1))) := ((Past.refl g w).alloc _).set_ (.inl rfl) _
  have hK1 : Blk ((w.alloc (.cells #[.int .i64 6, .slice A name.length c, e0, e1, e2, e3, f0, f1, f2, f3, .slice A1 body.length c1, .slice A2 els.length c2] 98)).setCell ⟨g, 0, none⟩ (.int .i64 (left - 1))) g 62 #[.int .i64 (left - 1)] := (hK.alloc _).set_ 0 (.int .i64 (left - 1))
  have KB1 := (Blk.new w 98 #[.int .i64 6, .slice A name.length c, e0, e1, e2, e3, f0, f1, f2, f3, .slice A1 body.length c1, .slice A2 els.length c2]).far (p := ⟨g, 0, none⟩) hne (.int .i64 (left - 1))
  have hE := se e0 e1 e2 e3 L B g (d + 1) (left - 1) _ (he.below (hP1.below hg hB)) (Nat.le_trans hB hP1.size) hg (by omega) hK1 hl' (by omega) (by omega)
  rw [show (((d + 1 : Nat)) : Int) = (d : Int) + 1 by omega] at hE
  have HE := Lib.hid hE
  have HX := Lib.hid (And.intro hR (And.intro he (And.intro hf (And.intro hb1 hb2))))
  obtain ⟨xk, xn, xA, xa, xc, xA', xa', xc', rfl, rfl, rfl, rfl⟩ := he.shape
  obtain ⟨yk, yn, yA, ya, yc, yA', ya', yc', rfl, rfl, rfl, rfl⟩ := hf.shape
  have Sf := Lib.hid sf
  have Ih1 := Lib.hid ih1
  have Ih2 := Lib.hid ih2
  have Hsz := Lib.hid hsz
  have HK1 := Lib.hid hK1
  clear hR he hf hb1 hb2 hsz hK hE sf ih1 ih2 se h hK1
  go_enter Try.func54, Try.ntmps54
  go_wp2_with fail
  refine HE.out.mono ?_
  rintro r w2 ⟨b, rfl, hPa, a2, hK2, hiff, himp⟩
  have Hiff := Lib.hid hiff
  have Himp := Lib.hid himp
  have hP2 := hP1.trans hPa
  have KB2 := KB1.past hPa hne
  clear hiff himp KB1 hPa HE x0 z0
  cases b
  · go_wp2
    go_ret
    exact sp_no hP2 hK2 (fun hh => by
      obtain ⟨p1, p2, p3, p4, p5, p6, p7⟩ := st_parts hh
      exact Bool.noConfusion (Hiff.out.2 ⟨p3, by omega⟩))
  have F2 : Hid (exGood e (d + 1) = true ∧ a2 = left - 1 - exN e ∧ 0 ≤ a2) := Lib.hid (by
    obtain ⟨y1, y2⟩ := Hiff.out.1 rfl
    have y3 := Himp.out rfl
    exact ⟨y1, y3, by omega⟩)
  clear Hiff Himp
  have q0 := KB2.cell_of 0 rfl
  have q1 := KB2.cell_of 1 rfl
  have q2 := KB2.cell_of 2 rfl
  have q3 := KB2.cell_of 3 rfl
  have q4 := KB2.cell_of 4 rfl
  have q5 := KB2.cell_of 5 rfl
  have q6 := KB2.cell_of 6 rfl
  have q7 := KB2.cell_of 7 rfl
  have q8 := KB2.cell_of 8 rfl
  have q9 := KB2.cell_of 9 rfl
  have q10 := KB2.cell_of 10 rfl
  have q11 := KB2.cell_of 11 rfl
  by_cases c1 : 0 < (name.length : Int)
  · have c1n : ¬ name = [] := fun e => by subst e; simp at c1
    go_wp2
    go_ret
    exact sp_no hP2 hK2 (fun hh => by
      obtain ⟨p1, p2, p3, p4, p5, p6, p7⟩ := st_parts hh
      have hx : stOk1 6 name f body.length els.length = false := by simp [stOk1, c1n]
      rw [hx] at p2
      cases p2)
  obtain rfl : name = [] := List.eq_nil_of_length_eq_zero (by omega)
  clear c1
  have hf' := l2none_c f _ _ _ _ L B w2 (HX.out.2.2.1.below (hP2.below hg hB))
  have Hf := Lib.hid hf'
  clear hf'
  go_wp2_with fail
  refine Hf.out.mono ?_
  rintro r w4 ⟨rfl, hb4⟩
  have hP4 := hP2.trans (Past.of hb4 g)
  have hK4 := hK2.below hb4 hK2.lt
  have KB4 := KB2.below hb4 KB2.lt
  clear Hf
  clear q0 q1 q2 q3 q4 q5 q6 q7 q8 q9 q10 q11
  have F4 : Hid ((6 : Int) = 2 → exGood f (d + 1) = true) := Lib.hid (fun h => by omega)
  have A4 : Hid (a2 = left - 1 - exN e - fN 6 f ∧ 0 ≤ a2) := Lib.hid (by
    obtain ⟨s1, s2, s3⟩ := F2.out
    have e1 : fN 6 f = 0 := rfl
    exact ⟨by rw [e1]; omega, s3⟩)
  have q0 := KB4.cell_of 0 rfl
  have q1 := KB4.cell_of 1 rfl
  have q2 := KB4.cell_of 2 rfl
  have q3 := KB4.cell_of 3 rfl
  have q4 := KB4.cell_of 4 rfl
  have q5 := KB4.cell_of 5 rfl
  have q6 := KB4.cell_of 6 rfl
  have q7 := KB4.cell_of 7 rfl
  have q8 := KB4.cell_of 8 rfl
  have q9 := KB4.cell_of 9 rfl
  have q10 := KB4.cell_of 10 rfl
  have q11 := KB4.cell_of 11 rfl
  cases c5 : exNone f
  · have C5 := Lib.hid c5
    clear c5
    go_wp2
    go_ret
    exact sp_no hP4 hK4 (fun hh => by
        obtain ⟨p1, p2, p3, p4, p5, p6, p7⟩ := st_parts hh
        have hx : stOk1 6 [] f body.length els.length = false := by simp [stOk1, C5.out]
        rw [hx] at p2
        cases p2)
  have C5 := Lib.hid c5
  clear c5
  clear q0 q1 q2 q3 q4 q5 q6 q7 q8 q9 q10 q11
  have q0 := KB4.cell_of 0 rfl
  have q1 := KB4.cell_of 1 rfl
  have q2 := KB4.cell_of 2 rfl
  have q3 := KB4.cell_of 3 rfl
  have q4 := KB4.cell_of 4 rfl
  have q5 := KB4.cell_of 5 rfl
  have q6 := KB4.cell_of 6 rfl
  have q7 := KB4.cell_of 7 rfl
  have q8 := KB4.cell_of 8 rfl
  have q9 := KB4.cell_of 9 rfl
  have q10 := KB4.cell_of 10 rfl
  have q11 := KB4.cell_of 11 rfl
  by_cases c7 : 0 < (els.length : Int)
  · have c7n : ¬ els = [] := fun e => by subst e; simp at c7
    go_wp2
    go_ret
    exact sp_no hP4 hK4 (fun hh => by
        obtain ⟨p1, p2, p3, p4, p5, p6, p7⟩ := st_parts hh
        have hx : stOk1 6 [] f body.length els.length = false := by simp [stOk1, c7n]
        rw [hx] at p2
        cases p2)
  obtain rfl : els = [] := List.eq_nil_of_length_eq_zero (by omega)
  clear c7
  have hok : stOk1 6 ([] : List UInt8) f (body : List St).length ([] : List St).length = true := by simp [stOk1, C5.out]
  have Hok := Lib.hid hok
  clear hok
  have hb' := Ih1.out A1 c1 L B g (d + 1) a2 w4 (HX.out.2.2.2.1.below (hP4.below hg hB)) (Nat.le_trans hB hP4.size) hg (by have := Hsz.out; omega) hK4 A4.out.2 (by have := A4.out.1; omega) (by omega)
  rw [show (((d + 1 : Nat)) : Int) = (d : Int) + 1 by omega] at hb'
  have Hb := Lib.hid hb'
  clear hb'
  go_wp2_with fail
  refine Hb.out.mono ?_
  rintro r w5 ⟨b, rfl, hPb, a5, hK5, hiff, himp⟩
  have Hiff := Lib.hid hiff
  have Himp := Lib.hid himp
  have hP5 := hP4.trans hPb
  have KB5 := KB4.past hPb hne
  clear hiff himp hPb Hb
  clear q0 q1 q2 q3 q4 q5 q6 q7 q8 q9 q10 q11
  cases b
  · go_wp2
    go_ret
    exact sp_no hP5 hK5 (fun hh => by
      obtain ⟨p1, p2, p3, p4, p5, p6, p7⟩ := st_parts hh
      obtain ⟨s1, s2⟩ := A4.out
      exact Bool.noConfusion (Hiff.out.2 ⟨p5, by omega⟩))
  have F5 : Hid (stsGood body (d + 1) = true ∧ a5 = left - 1 - exN e - fN 6 f - stsN body ∧ 0 ≤ a5) := Lib.hid (by
    obtain ⟨s1, s2⟩ := A4.out
    obtain ⟨y1, y2⟩ := Hiff.out.1 rfl
    have y3 := Himp.out rfl
    exact ⟨y1, by omega, by omega⟩)
  clear Hiff Himp
  have q0 := KB5.cell_of 0 rfl
  have q1 := KB5.cell_of 1 rfl
  have q2 := KB5.cell_of 2 rfl
  have q3 := KB5.cell_of 3 rfl
  have q4 := KB5.cell_of 4 rfl
  have q5 := KB5.cell_of 5 rfl
  have q6 := KB5.cell_of 6 rfl
  have q7 := KB5.cell_of 7 rfl
  have q8 := KB5.cell_of 8 rfl
  have q9 := KB5.cell_of 9 rfl
  have q10 := KB5.cell_of 10 rfl
  have q11 := KB5.cell_of 11 rfl
  have he' := Ih2.out A2 c2 L B g (d + 1) a5 w5 (HX.out.2.2.2.2.below (hP5.below hg hB)) (Nat.le_trans hB hP5.size) hg (by have := Hsz.out; omega) hK5 F5.out.2.2 (by have := F5.out.2.1; omega) (by omega)
  rw [show (((d + 1 : Nat)) : Int) = (d : Int) + 1 by omega] at he'
  have He := Lib.hid he'
  clear he'
  go_wp2_with fail
  refine He.out.mono ?_
  rintro r w6 ⟨b, rfl, hPe, a6, hK6, hiff, himp⟩
  have Hiff := Lib.hid hiff
  have Himp := Lib.hid himp
  have hP6 := hP5.trans hPe
  clear hiff himp hPe He
  clear q0 q1 q2 q3 q4 q5 q6 q7 q8 q9 q10 q11
  cases b
  · go_wp2
    go_ret
    exact sp_no hP6 hK6 (fun hh => by
      obtain ⟨p1, p2, p3, p4, p5, p6, p7⟩ := st_parts hh
      obtain ⟨s1, s2, s3⟩ := F5.out
      exact Bool.noConfusion (Hiff.out.2 ⟨p6, by omega⟩))
  · go_wp2
    go_ret
    obtain ⟨s1, s2, s3⟩ := F5.out
    obtain ⟨y1, y2⟩ := Hiff.out.1 (by trivial)
    have y3 := Himp.out (by trivial)
    exact st_yes hP6 hK6 hd Hok.out F2.out.1 F4.out s1 y1 (by omega) (by omega)

set_option maxRecDepth 100000 in
set_option maxHeartbeats 8000000 in
theorem l2st_7 (name : List UInt8) (e f : Ex) (body els : List St) (se : SpEx e) (sf : SpEx f) (ih1 : SpSts body) (ih2 : SpSts els) (vs : List Value) (L B g d : Nat) (left : Int) (w : World) (h : StV w L B vs (.mk 7 name e f body els)) (hB : B ≤ w.heap.size) (hg : B ≤ g) (hsz : stSz (.mk 7 name e f body els) ≤ 1048576)
    (hK : Blk w g 62 #[.int .i64 left]) (h0 : 1 ≤ left) (h1 : left ≤ 90) (hd : d ≤ 7) :
    Calls Try.prog 54 #[.agg vs.toArray, .int .i64 (d : Int), .pointer (some ⟨g, 0, none⟩)] w (SpP (stGood (.mk 7 name e f body els) d) (stN (.mk 7 name e f body els)) g left w) := by
  obtain ⟨A, c, e0, e1, e2, e3, f0, f1, f2, f3, A1, c1, A2, c2, rfl, hR, hm, he, hf, hb1, hb2⟩ := h.open_
  rw [stSz_mk] at hsz
  have hne : w.heap.size ≠ g := by have := hK.lt; omega
  have x0 : ∀ o, (w.alloc o).cell? ⟨g, 0, none⟩ = some (.int .i64 left) := fun o => (hK.alloc o).cell_of 0 rfl
  have z0 : ∀ o, (w.alloc o).frozen? ⟨g, 0, none⟩ = false := fun o => (hK.alloc o).frozen 0
  have hl' : 0 ≤ left - 1 := by omega
  have h7' : (d : Int) ≤ 7 := by omega
  have hP1 : Past g w ((w.alloc (.cells #[.int .i64 7, .slice A name.length c, e0, e1, e2, e3, f0, f1, f2, f3, .slice A1 body.length c1, .slice A2 els.length c2] 98)).setCell ⟨g, 0, none⟩ (.int .i64 (left - 1))) := ((Past.refl g w).alloc _).set_ (.inl rfl) _
  have hK1 : Blk ((w.alloc (.cells #[.int .i64 7, .slice A name.length c, e0, e1, e2, e3, f0, f1, f2, f3, .slice A1 body.length c1, .slice A2 els.length c2] 98)).setCell ⟨g, 0, none⟩ (.int .i64 (left - 1))) g 62 #[.int .i64 (left - 1)] := (hK.alloc _).set_ 0 (.int .i64 (left - 1))
  have KB1 := (Blk.new w 98 #[.int .i64 7, .slice A name.length c, e0, e1, e2, e3, f0, f1, f2, f3, .slice A1 body.length c1, .slice A2 els.length c2]).far (p := ⟨g, 0, none⟩) hne (.int .i64 (left - 1))
  have hE := se e0 e1 e2 e3 L B g (d + 1) (left - 1) _ (he.below (hP1.below hg hB)) (Nat.le_trans hB hP1.size) hg (by omega) hK1 hl' (by omega) (by omega)
  rw [show (((d + 1 : Nat)) : Int) = (d : Int) + 1 by omega] at hE
  have HE := Lib.hid hE
  have HX := Lib.hid (And.intro hR (And.intro he (And.intro hf (And.intro hb1 hb2))))
  obtain ⟨xk, xn, xA, xa, xc, xA', xa', xc', rfl, rfl, rfl, rfl⟩ := he.shape
  obtain ⟨yk, yn, yA, ya, yc, yA', ya', yc', rfl, rfl, rfl, rfl⟩ := hf.shape
  have Sf := Lib.hid sf
  have Ih1 := Lib.hid ih1
  have Ih2 := Lib.hid ih2
  have Hsz := Lib.hid hsz
  have HK1 := Lib.hid hK1
  clear hR he hf hb1 hb2 hsz hK hE sf ih1 ih2 se h hK1
  go_enter Try.func54, Try.ntmps54
  go_wp2_with fail
  refine HE.out.mono ?_
  rintro r w2 ⟨b, rfl, hPa, a2, hK2, hiff, himp⟩
  have Hiff := Lib.hid hiff
  have Himp := Lib.hid himp
  have hP2 := hP1.trans hPa
  have KB2 := KB1.past hPa hne
  clear hiff himp KB1 hPa HE x0 z0
  cases b
  · go_wp2
    go_ret
    exact sp_no hP2 hK2 (fun hh => by
      obtain ⟨p1, p2, p3, p4, p5, p6, p7⟩ := st_parts hh
      exact Bool.noConfusion (Hiff.out.2 ⟨p3, by omega⟩))
  have F2 : Hid (exGood e (d + 1) = true ∧ a2 = left - 1 - exN e ∧ 0 ≤ a2) := Lib.hid (by
    obtain ⟨y1, y2⟩ := Hiff.out.1 rfl
    have y3 := Himp.out rfl
    exact ⟨y1, y3, by omega⟩)
  clear Hiff Himp
  have q0 := KB2.cell_of 0 rfl
  have q1 := KB2.cell_of 1 rfl
  have q2 := KB2.cell_of 2 rfl
  have q3 := KB2.cell_of 3 rfl
  have q4 := KB2.cell_of 4 rfl
  have q5 := KB2.cell_of 5 rfl
  have q6 := KB2.cell_of 6 rfl
  have q7 := KB2.cell_of 7 rfl
  have q8 := KB2.cell_of 8 rfl
  have q9 := KB2.cell_of 9 rfl
  have q10 := KB2.cell_of 10 rfl
  have q11 := KB2.cell_of 11 rfl
  by_cases c1 : 0 < (name.length : Int)
  · have c1n : ¬ name = [] := fun e => by subst e; simp at c1
    go_wp2
    go_ret
    exact sp_no hP2 hK2 (fun hh => by
      obtain ⟨p1, p2, p3, p4, p5, p6, p7⟩ := st_parts hh
      have hx : stOk1 7 name f body.length els.length = false := by simp [stOk1, c1n]
      rw [hx] at p2
      cases p2)
  obtain rfl : name = [] := List.eq_nil_of_length_eq_zero (by omega)
  clear c1
  have hf' := l2none_c f _ _ _ _ L B w2 (HX.out.2.2.1.below (hP2.below hg hB))
  have Hf := Lib.hid hf'
  clear hf'
  go_wp2_with fail
  refine Hf.out.mono ?_
  rintro r w4 ⟨rfl, hb4⟩
  have hP4 := hP2.trans (Past.of hb4 g)
  have hK4 := hK2.below hb4 hK2.lt
  have KB4 := KB2.below hb4 KB2.lt
  clear Hf
  clear q0 q1 q2 q3 q4 q5 q6 q7 q8 q9 q10 q11
  have F4 : Hid ((7 : Int) = 2 → exGood f (d + 1) = true) := Lib.hid (fun h => by omega)
  have A4 : Hid (a2 = left - 1 - exN e - fN 7 f ∧ 0 ≤ a2) := Lib.hid (by
    obtain ⟨s1, s2, s3⟩ := F2.out
    have e1 : fN 7 f = 0 := rfl
    exact ⟨by rw [e1]; omega, s3⟩)
  have q0 := KB4.cell_of 0 rfl
  have q1 := KB4.cell_of 1 rfl
  have q2 := KB4.cell_of 2 rfl
  have q3 := KB4.cell_of 3 rfl
  have q4 := KB4.cell_of 4 rfl
  have q5 := KB4.cell_of 5 rfl
  have q6 := KB4.cell_of 6 rfl
  have q7 := KB4.cell_of 7 rfl
  have q8 := KB4.cell_of 8 rfl
  have q9 := KB4.cell_of 9 rfl
  have q10 := KB4.cell_of 10 rfl
  have q11 := KB4.cell_of 11 rfl
  cases c5 : exNone f
  · have C5 := Lib.hid c5
    clear c5
    go_wp2
    go_ret
    exact sp_no hP4 hK4 (fun hh => by
        obtain ⟨p1, p2, p3, p4, p5, p6, p7⟩ := st_parts hh
        have hx : stOk1 7 [] f body.length els.length = false := by simp [stOk1, C5.out]
        rw [hx] at p2
        cases p2)
  have C5 := Lib.hid c5
  clear c5
  clear q0 q1 q2 q3 q4 q5 q6 q7 q8 q9 q10 q11
  have q0 := KB4.cell_of 0 rfl
  have q1 := KB4.cell_of 1 rfl
  have q2 := KB4.cell_of 2 rfl
  have q3 := KB4.cell_of 3 rfl
  have q4 := KB4.cell_of 4 rfl
  have q5 := KB4.cell_of 5 rfl
  have q6 := KB4.cell_of 6 rfl
  have q7 := KB4.cell_of 7 rfl
  have q8 := KB4.cell_of 8 rfl
  have q9 := KB4.cell_of 9 rfl
  have q10 := KB4.cell_of 10 rfl
  have q11 := KB4.cell_of 11 rfl
  by_cases c6 : 0 < (body.length : Int)
  · have c6n : ¬ body = [] := fun e => by subst e; simp at c6
    go_wp2
    go_ret
    exact sp_no hP4 hK4 (fun hh => by
        obtain ⟨p1, p2, p3, p4, p5, p6, p7⟩ := st_parts hh
        have hx : stOk1 7 [] f body.length els.length = false := by simp [stOk1, c6n]
        rw [hx] at p2
        cases p2)
  obtain rfl : body = [] := List.eq_nil_of_length_eq_zero (by omega)
  clear c6
  by_cases c7 : 0 < (els.length : Int)
  · have c7n : ¬ els = [] := fun e => by subst e; simp at c7
    go_wp2
    go_ret
    exact sp_no hP4 hK4 (fun hh => by
        obtain ⟨p1, p2, p3, p4, p5, p6, p7⟩ := st_parts hh
        have hx : stOk1 7 [] f ([] : List St).length els.length = false := by simp [stOk1, c7n]
        rw [hx] at p2
        cases p2)
  obtain rfl : els = [] := List.eq_nil_of_length_eq_zero (by omega)
  clear c7
  have hok : stOk1 7 ([] : List UInt8) f ([] : List St).length ([] : List St).length = true := by simp [stOk1, C5.out]
  have Hok := Lib.hid hok
  clear hok
  have hb' := Ih1.out A1 c1 L B g (d + 1) a2 w4 (HX.out.2.2.2.1.below (hP4.below hg hB)) (Nat.le_trans hB hP4.size) hg (by have := Hsz.out; omega) hK4 A4.out.2 (by have := A4.out.1; omega) (by omega)
  rw [show (((d + 1 : Nat)) : Int) = (d : Int) + 1 by omega] at hb'
  have Hb := Lib.hid hb'
  clear hb'
  go_wp2_with fail
  refine Hb.out.mono ?_
  rintro r w5 ⟨b, rfl, hPb, a5, hK5, hiff, himp⟩
  have Hiff := Lib.hid hiff
  have Himp := Lib.hid himp
  have hP5 := hP4.trans hPb
  have KB5 := KB4.past hPb hne
  clear hiff himp hPb Hb
  clear q0 q1 q2 q3 q4 q5 q6 q7 q8 q9 q10 q11
  cases b
  · go_wp2
    go_ret
    exact sp_no hP5 hK5 (fun hh => by
      obtain ⟨p1, p2, p3, p4, p5, p6, p7⟩ := st_parts hh
      obtain ⟨s1, s2⟩ := A4.out
      exact Bool.noConfusion (Hiff.out.2 ⟨p5, by omega⟩))
  have F5 : Hid (stsGood [] (d + 1) = true ∧ a5 = left - 1 - exN e - fN 7 f - stsN [] ∧ 0 ≤ a5) := Lib.hid (by
    obtain ⟨s1, s2⟩ := A4.out
    obtain ⟨y1, y2⟩ := Hiff.out.1 rfl
    have y3 := Himp.out rfl
    exact ⟨y1, by omega, by omega⟩)
  clear Hiff Himp
  have q0 := KB5.cell_of 0 rfl
  have q1 := KB5.cell_of 1 rfl
  have q2 := KB5.cell_of 2 rfl
  have q3 := KB5.cell_of 3 rfl
  have q4 := KB5.cell_of 4 rfl
  have q5 := KB5.cell_of 5 rfl
  have q6 := KB5.cell_of 6 rfl
  have q7 := KB5.cell_of 7 rfl
  have q8 := KB5.cell_of 8 rfl
  have q9 := KB5.cell_of 9 rfl
  have q10 := KB5.cell_of 10 rfl
  have q11 := KB5.cell_of 11 rfl
  have he' := Ih2.out A2 c2 L B g (d + 1) a5 w5 (HX.out.2.2.2.2.below (hP5.below hg hB)) (Nat.le_trans hB hP5.size) hg (by have := Hsz.out; omega) hK5 F5.out.2.2 (by have := F5.out.2.1; omega) (by omega)
  rw [show (((d + 1 : Nat)) : Int) = (d : Int) + 1 by omega] at he'
  have He := Lib.hid he'
  clear he'
  go_wp2_with fail
  refine He.out.mono ?_
  rintro r w6 ⟨b, rfl, hPe, a6, hK6, hiff, himp⟩
  have Hiff := Lib.hid hiff
  have Himp := Lib.hid himp
  have hP6 := hP5.trans hPe
  clear hiff himp hPe He
  clear q0 q1 q2 q3 q4 q5 q6 q7 q8 q9 q10 q11
  cases b
  · go_wp2
    go_ret
    exact sp_no hP6 hK6 (fun hh => by
      obtain ⟨p1, p2, p3, p4, p5, p6, p7⟩ := st_parts hh
      obtain ⟨s1, s2, s3⟩ := F5.out
      exact Bool.noConfusion (Hiff.out.2 ⟨p6, by omega⟩))
  · go_wp2
    go_ret
    obtain ⟨s1, s2, s3⟩ := F5.out
    obtain ⟨y1, y2⟩ := Hiff.out.1 (by trivial)
    have y3 := Himp.out (by trivial)
    exact st_yes hP6 hK6 hd Hok.out F2.out.1 F4.out s1 y1 (by omega) (by omega)

end Go.Proofs.Ytmejbmfopdfbjaa
