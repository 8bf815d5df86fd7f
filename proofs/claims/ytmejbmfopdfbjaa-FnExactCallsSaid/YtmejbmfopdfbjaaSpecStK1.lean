/-
  The model's check of statements: some kinds.
-/
import Derived.Test.YtmejbmfopdfbjaaSpecStDef
namespace Go.Proofs.Ytmejbmfopdfbjaa
open Go.RowKit
set_option linter.unusedVariables false

set_option maxRecDepth 100000 in
set_option maxHeartbeats 8000000 in
theorem l2st_0 (name : List UInt8) (e f : Ex) (body els : List St) (se : SpEx e) (sf : SpEx f) (ih1 : SpSts body) (ih2 : SpSts els) (vs : List Value) (L B g d : Nat) (left : Int) (w : World) (h : StV w L B vs (.mk 0 name e f body els)) (hB : B ≤ w.heap.size) (hg : B ≤ g) (hsz : stSz (.mk 0 name e f body els) ≤ 1048576)
    (hK : Blk w g 62 #[.int .i64 left]) (h0 : 1 ≤ left) (h1 : left ≤ 90) (hd : d ≤ 7) :
    Calls Try.prog 54 #[.agg vs.toArray, .int .i64 (d : Int), .pointer (some ⟨g, 0, none⟩)] w (SpP (stGood (.mk 0 name e f body els) d) (stN (.mk 0 name e f body els)) g left w) := by
  obtain ⟨A, c, e0, e1, e2, e3, f0, f1, f2, f3, A1, c1, A2, c2, rfl, hR, hm, he, hf, hb1, hb2⟩ := h.open_
  rw [stSz_mk] at hsz
  have hne : w.heap.size ≠ g := by have := hK.lt; omega
  have x0 : ∀ o, (w.alloc o).cell? ⟨g, 0, none⟩ = some (.int .i64 left) := fun o => (hK.alloc o).cell_of 0 rfl
  have z0 : ∀ o, (w.alloc o).frozen? ⟨g, 0, none⟩ = false := fun o => (hK.alloc o).frozen 0
  have hl' : 0 ≤ left - 1 := by omega
  have h7' : (d : Int) ≤ 7 := by omega
  have hP1 : Past g w ((w.alloc (.cells #[.int .i64 0, .slice A name.length c, e0, e1, e2, e3, f0, f1, f2, f3, .slice A1 body.length c1, .slice A2 els.length c2] 98)).setCell ⟨g, 0, none⟩ (.int .i64 (left - 1))) := ((Past.refl g w).alloc _).set_ (.inl rfl) _
  have hK1 : Blk ((w.alloc (.cells #[.int .i64 0, .slice A name.length c, e0, e1, e2, e3, f0, f1, f2, f3, .slice A1 body.length c1, .slice A2 els.length c2] 98)).setCell ⟨g, 0, none⟩ (.int .i64 (left - 1))) g 62 #[.int .i64 (left - 1)] := (hK.alloc _).set_ 0 (.int .i64 (left - 1))
  have KB1 := (Blk.new w 98 #[.int .i64 0, .slice A name.length c, e0, e1, e2, e3, f0, f1, f2, f3, .slice A1 body.length c1, .slice A2 els.length c2]).far (p := ⟨g, 0, none⟩) hne (.int .i64 (left - 1))
  have hE := se e0 e1 e2 e3 L B g (d + 1) (left - 1) _ (he.below (hP1.below hg hB)) (Nat.le_trans hB hP1.size) hg (by omega) hK1 hl' (by omega) (by omega)
  rw [show (((d + 1 : Nat)) : Int) = (d : Int) + 1 by omega] at hE
  have HE := Lib.hid hE
  have HX := Lib.hid (And.intro hR (And.intro he (And.intro hf (And.intro hb1 hb2))))
  obtain ⟨xk, xn, xA, xa, xc, xA', xa', xc', rfl, rfl, rfl, rfl⟩ := he.shape
  obtain ⟨yk, yn, yA, ya, yc, yA', ya', yc', rfl, rfl, rfl, rfl⟩ := hf.shape
  have Sf := Lib.hid sf
  have Ih1 := Lib.hid ih1
  have Ih2 := Lib.hid ih2
  have Hsz := Lib.hid hsz
  have HK1 := Lib.hid hK1
  clear hR he hf hb1 hb2 hsz hK hE sf ih1 ih2 se h hK1
  go_enter Try.func54, Try.ntmps54
  go_wp2_with fail
  refine HE.out.mono ?_
  rintro r w2 ⟨b, rfl, hPa, a2, hK2, hiff, himp⟩
  have Hiff := Lib.hid hiff
  have Himp := Lib.hid himp
  have hP2 := hP1.trans hPa
  have KB2 := KB1.past hPa hne
  clear hiff himp KB1 hPa HE x0 z0
  cases b
  · go_wp2
    go_ret
    exact sp_no hP2 hK2 (fun hh => by
      obtain ⟨p1, p2, p3, p4, p5, p6, p7⟩ := st_parts hh
      exact Bool.noConfusion (Hiff.out.2 ⟨p3, by omega⟩))
  have F2 : Hid (exGood e (d + 1) = true ∧ a2 = left - 1 - exN e ∧ 0 ≤ a2) := Lib.hid (by
    obtain ⟨y1, y2⟩ := Hiff.out.1 rfl
    have y3 := Himp.out rfl
    exact ⟨y1, y3, by omega⟩)
  clear Hiff Himp
  have q0 := KB2.cell_of 0 rfl
  have q1 := KB2.cell_of 1 rfl
  have q2 := KB2.cell_of 2 rfl
  have q3 := KB2.cell_of 3 rfl
  have q4 := KB2.cell_of 4 rfl
  have q5 := KB2.cell_of 5 rfl
  have q6 := KB2.cell_of 6 rfl
  have q7 := KB2.cell_of 7 rfl
  have q8 := KB2.cell_of 8 rfl
  have q9 := KB2.cell_of 9 rfl
  have q10 := KB2.cell_of 10 rfl
  have q11 := KB2.cell_of 11 rfl
  by_cases c1 : name.length = 0
  · obtain rfl : name = [] := List.eq_nil_of_length_eq_zero c1
    clear c1
    go_wp2
    go_ret
    exact sp_no hP2 hK2 (fun hh => by
      obtain ⟨p1, p2, p3, p4, p5, p6, p7⟩ := st_parts hh
      have hx : stOk1 0 [] f body.length els.length = false := by simp [stOk1, nameOk, wordOk]
      rw [hx] at p2
      cases p2)
  have c1' : 0 < (name.length : Int) := by omega
  clear c1
  have hw := specWordOk_c name A c B w2 (by have := Hsz.out; omega) (HX.out.1.1.below (hP2.below hg hB))
  have hk := specKept_c name A c B w2 (HX.out.1.1.below (hP2.below hg hB))
  by_cases c2 : wordOk name = false
  · rw [c2] at hw
    have Hw := Lib.hid hw
    have C2 := Lib.hid c2
    clear hw hk c2
    go_wp2_with fail
    refine Hw.out.mono ?_
    rintro r w' ⟨rfl, rfl⟩
    go_wp2
    go_ret
    exact sp_no hP2 hK2 (fun hh => by
      obtain ⟨p1, p2, p3, p4, p5, p6, p7⟩ := st_parts hh
      have hx : stOk1 0 name f body.length els.length = false := by simp [stOk1, nameOk, C2.out]
      rw [hx] at p2
      cases p2)
  have c2' : wordOk name = true := by simpa using c2
  rw [c2'] at hw
  have Hw := Lib.hid hw
  have Hk := Lib.hid hk
  have C2 := Lib.hid c2'
  clear hw hk c2 c2'
  go_wp2_with fail
  refine Hw.out.mono ?_
  rintro r w' ⟨rfl, rfl⟩
  go_wp2_with fail
  refine Hk.out.mono ?_
  rintro r w3 ⟨rfl, hb23⟩
  have hP3 := hP2.trans (Past.of hb23 g)
  have hK3 := hK2.below hb23 hK2.lt
  have KB3 := KB2.below hb23 KB2.lt
  clear q0 q1 q2 q3 q4 q5 q6 q7 q8 q9 q10 q11
  clear Hw Hk
  have q0 := KB3.cell_of 0 rfl
  have q1 := KB3.cell_of 1 rfl
  have q2 := KB3.cell_of 2 rfl
  have q3 := KB3.cell_of 3 rfl
  have q4 := KB3.cell_of 4 rfl
  have q5 := KB3.cell_of 5 rfl
  have q6 := KB3.cell_of 6 rfl
  have q7 := KB3.cell_of 7 rfl
  have q8 := KB3.cell_of 8 rfl
  have q9 := KB3.cell_of 9 rfl
  have q10 := KB3.cell_of 10 rfl
  have q11 := KB3.cell_of 11 rfl
  cases c3 : kept name
  · have hnm : nameOk name = true := by unfold nameOk; rw [C2.out, c3]; rfl
    have Hnm := Lib.hid hnm
    clear c3 hnm
    have hf' := l2none_c f _ _ _ _ L B w3 (HX.out.2.2.1.below (hP3.below hg hB))
    have Hf := Lib.hid hf'
    clear hf'
    go_wp2_with fail
    refine Hf.out.mono ?_
    rintro r w4 ⟨rfl, hb4⟩
    have hP4 := hP3.trans (Past.of hb4 g)
    have hK4 := hK3.below hb4 hK3.lt
    have KB4 := KB3.below hb4 KB3.lt
    clear Hf
    clear q0 q1 q2 q3 q4 q5 q6 q7 q8 q9 q10 q11
    have F4 : Hid ((0 : Int) = 2 → exGood f (d + 1) = true) := Lib.hid (fun h => by omega)
    have A4 : Hid (a2 = left - 1 - exN e - fN 0 f ∧ 0 ≤ a2) := Lib.hid (by
      obtain ⟨s1, s2, s3⟩ := F2.out
      have e1 : fN 0 f = 0 := rfl
      exact ⟨by rw [e1]; omega, s3⟩)
    have q0 := KB4.cell_of 0 rfl
    have q1 := KB4.cell_of 1 rfl
    have q2 := KB4.cell_of 2 rfl
    have q3 := KB4.cell_of 3 rfl
    have q4 := KB4.cell_of 4 rfl
    have q5 := KB4.cell_of 5 rfl
    have q6 := KB4.cell_of 6 rfl
    have q7 := KB4.cell_of 7 rfl
    have q8 := KB4.cell_of 8 rfl
    have q9 := KB4.cell_of 9 rfl
    have q10 := KB4.cell_of 10 rfl
    have q11 := KB4.cell_of 11 rfl
    cases c5 : exNone f
    · have C5 := Lib.hid c5
      clear c5
      go_wp2
      go_ret
      exact sp_no hP4 hK4 (fun hh => by
          obtain ⟨p1, p2, p3, p4, p5, p6, p7⟩ := st_parts hh
          have hx : stOk1 0 name f body.length els.length = false := by simp [stOk1, C5.out]
          rw [hx] at p2
          cases p2)
    have C5 := Lib.hid c5
    clear c5
    clear q0 q1 q2 q3 q4 q5 q6 q7 q8 q9 q10 q11
    have q0 := KB4.cell_of 0 rfl
    have q1 := KB4.cell_of 1 rfl
    have q2 := KB4.cell_of 2 rfl
    have q3 := KB4.cell_of 3 rfl
    have q4 := KB4.cell_of 4 rfl
    have q5 := KB4.cell_of 5 rfl
    have q6 := KB4.cell_of 6 rfl
    have q7 := KB4.cell_of 7 rfl
    have q8 := KB4.cell_of 8 rfl
    have q9 := KB4.cell_of 9 rfl
    have q10 := KB4.cell_of 10 rfl
    have q11 := KB4.cell_of 11 rfl
    by_cases c6 : 0 < (body.length : Int)
    · have c6n : ¬ body = [] := fun e => by subst e; simp at c6
      go_wp2
      go_ret
      exact sp_no hP4 hK4 (fun hh => by
          obtain ⟨p1, p2, p3, p4, p5, p6, p7⟩ := st_parts hh
          have hx : stOk1 0 name f body.length els.length = false := by simp [stOk1, c6n]
          rw [hx] at p2
          cases p2)
    obtain rfl : body = [] := List.eq_nil_of_length_eq_zero (by omega)
    clear c6
    by_cases c7 : 0 < (els.length : Int)
    · have c7n : ¬ els = [] := fun e => by subst e; simp at c7
      go_wp2
      go_ret
      exact sp_no hP4 hK4 (fun hh => by
          obtain ⟨p1, p2, p3, p4, p5, p6, p7⟩ := st_parts hh
          have hx : stOk1 0 name f ([] : List St).length els.length = false := by simp [stOk1, c7n]
          rw [hx] at p2
          cases p2)
    obtain rfl : els = [] := List.eq_nil_of_length_eq_zero (by omega)
    clear c7
    have hok : stOk1 0 name f ([] : List St).length ([] : List St).length = true := by simp [stOk1, Hnm.out, C5.out]
    have Hok := Lib.hid hok
    clear hok
    have hb' := Ih1.out A1 c1 L B g (d + 1) a2 w4 (HX.out.2.2.2.1.below (hP4.below hg hB)) (Nat.le_trans hB hP4.size) hg (by have := Hsz.out; omega) hK4 A4.out.2 (by have := A4.out.1; omega) (by omega)
    rw [show (((d + 1 : Nat)) : Int) = (d : Int) + 1 by omega] at hb'
    have Hb := Lib.hid hb'
    clear hb'
    go_wp2_with fail
    refine Hb.out.mono ?_
    rintro r w5 ⟨b, rfl, hPb, a5, hK5, hiff, himp⟩
    have Hiff := Lib.hid hiff
    have Himp := Lib.hid himp
    have hP5 := hP4.trans hPb
    have KB5 := KB4.past hPb hne
    clear hiff himp hPb Hb
    clear q0 q1 q2 q3 q4 q5 q6 q7 q8 q9 q10 q11
    cases b
    · go_wp2
      go_ret
      exact sp_no hP5 hK5 (fun hh => by
        obtain ⟨p1, p2, p3, p4, p5, p6, p7⟩ := st_parts hh
        obtain ⟨s1, s2⟩ := A4.out
        exact Bool.noConfusion (Hiff.out.2 ⟨p5, by omega⟩))
    have F5 : Hid (stsGood [] (d + 1) = true ∧ a5 = left - 1 - exN e - fN 0 f - stsN [] ∧ 0 ≤ a5) := Lib.hid (by
      obtain ⟨s1, s2⟩ := A4.out
      obtain ⟨y1, y2⟩ := Hiff.out.1 rfl
      have y3 := Himp.out rfl
      exact ⟨y1, by omega, by omega⟩)
    clear Hiff Himp
    have q0 := KB5.cell_of 0 rfl
    have q1 := KB5.cell_of 1 rfl
    have q2 := KB5.cell_of 2 rfl
    have q3 := KB5.cell_of 3 rfl
    have q4 := KB5.cell_of 4 rfl
    have q5 := KB5.cell_of 5 rfl
    have q6 := KB5.cell_of 6 rfl
    have q7 := KB5.cell_of 7 rfl
    have q8 := KB5.cell_of 8 rfl
    have q9 := KB5.cell_of 9 rfl
    have q10 := KB5.cell_of 10 rfl
    have q11 := KB5.cell_of 11 rfl
    have he' := Ih2.out A2 c2 L B g (d + 1) a5 w5 (HX.out.2.2.2.2.below (hP5.below hg hB)) (Nat.le_trans hB hP5.size) hg (by have := Hsz.out; omega) hK5 F5.out.2.2 (by have := F5.out.2.1; omega) (by omega)
    rw [show (((d + 1 : Nat)) : Int) = (d : Int) + 1 by omega] at he'
    have He := Lib.hid he'
    clear he'
    go_wp2_with fail
    refine He.out.mono ?_
    rintro r w6 ⟨b, rfl, hPe, a6, hK6, hiff, himp⟩
    have Hiff := Lib.hid hiff
    have Himp := Lib.hid himp
    have hP6 := hP5.trans hPe
    clear hiff himp hPe He
    clear q0 q1 q2 q3 q4 q5 q6 q7 q8 q9 q10 q11
    cases b
    · go_wp2
      go_ret
      exact sp_no hP6 hK6 (fun hh => by
        obtain ⟨p1, p2, p3, p4, p5, p6, p7⟩ := st_parts hh
        obtain ⟨s1, s2, s3⟩ := F5.out
        exact Bool.noConfusion (Hiff.out.2 ⟨p6, by omega⟩))
    · go_wp2
      go_ret
      obtain ⟨s1, s2, s3⟩ := F5.out
      obtain ⟨y1, y2⟩ := Hiff.out.1 (by trivial)
      have y3 := Himp.out (by trivial)
      exact st_yes hP6 hK6 hd Hok.out F2.out.1 F4.out s1 y1 (by omega) (by omega)
  · have C3 := Lib.hid c3
    clear c3
    go_wp2
    go_ret
    exact sp_no hP3 hK3 (fun hh => by
      obtain ⟨p1, p2, p3, p4, p5, p6, p7⟩ := st_parts hh
      have hx : stOk1 0 name f body.length els.length = false := by simp [stOk1, nameOk, C3.out]
      rw [hx] at p2
      cases p2)

set_option maxRecDepth 100000 in
set_option maxHeartbeats 8000000 in
theorem l2st_1 (name : List UInt8) (e f : Ex) (body els : List St) (se : SpEx e) (sf : SpEx f) (ih1 : SpSts body) (ih2 : SpSts els) (vs : List Value) (L B g d : Nat) (left : Int) (w : World) (h : StV w L B vs (.mk 1 name e f body els)) (hB : B ≤ w.heap.size) (hg : B ≤ g) (hsz : stSz (.mk 1 name e f body els) ≤ 1048576)
    (hK : Blk w g 62 #[.int .i64 left]) (h0 : 1 ≤ left) (h1 : left ≤ 90) (hd : d ≤ 7) :
    Calls Try.prog 54 #[.agg vs.toArray, .int .i64 (d : Int), .pointer (some ⟨g, 0, none⟩)] w (SpP (stGood (.mk 1 name e f body els) d) (stN (.mk 1 name e f body els)) g left w) := by
  obtain ⟨A, c, e0, e1, e2, e3, f0, f1, f2, f3, A1, c1, A2, c2, rfl, hR, hm, he, hf, hb1, hb2⟩ := h.open_
  rw [stSz_mk] at hsz
  have hne : w.heap.size ≠ g := by have := hK.lt; omega
  have x0 : ∀ o, (w.alloc o).cell? ⟨g, 0, none⟩ = some (.int .i64 left) := fun o => (hK.alloc o).cell_of 0 rfl
  have z0 : ∀ o, (w.alloc o).frozen? ⟨g, 0, none⟩ = false := fun o => (hK.alloc o).frozen 0
  have hl' : 0 ≤ left - 1 := by omega
  have h7' : (d : Int) ≤ 7 := by omega
  have hP1 : Past g w ((w.alloc (.cells #[.int .i64 1, .slice A name.length c, e0, e1, e2, e3, f0, f1, f2, f3, .slice A1 body.length c1, .slice A2 els.length c2] 98)).setCell ⟨g, 0, none⟩ (.int .i64 (left - 1))) := ((Past.refl g w).alloc _).set_ (.inl rfl) _
  have hK1 : Blk ((w.alloc (.cells #[.int .i64 1, .slice A name.length c, e0, e1, e2, e3, f0, f1, f2, f3, .slice A1 body.length c1, .slice A2 els.length c2] 98)).setCell ⟨g, 0, none⟩ (.int .i64 (left - 1))) g 62 #[.int .i64 (left - 1)] := (hK.alloc _).set_ 0 (.int .i64 (left - 1))
  have KB1 := (Blk.new w 98 #[.int .i64 1, .slice A name.length c, e0, e1, e2, e3, f0, f1, f2, f3, .slice A1 body.length c1, .slice A2 els.length c2]).far (p := ⟨g, 0, none⟩) hne (.int .i64 (left - 1))
  have hE := se e0 e1 e2 e3 L B g (d + 1) (left - 1) _ (he.below (hP1.below hg hB)) (Nat.le_trans hB hP1.size) hg (by omega) hK1 hl' (by omega) (by omega)
  rw [show (((d + 1 : Nat)) : Int) = (d : Int) + 1 by omega] at hE
  have HE := Lib.hid hE
  have HX := Lib.hid (And.intro hR (And.intro he (And.intro hf (And.intro hb1 hb2))))
  obtain ⟨xk, xn, xA, xa, xc, xA', xa', xc', rfl, rfl, rfl, rfl⟩ := he.shape
  obtain ⟨yk, yn, yA, ya, yc, yA', ya', yc', rfl, rfl, rfl, rfl⟩ := hf.shape
  have Sf := Lib.hid sf
  have Ih1 := Lib.hid ih1
  have Ih2 := Lib.hid ih2
  have Hsz := Lib.hid hsz
  have HK1 := Lib.hid hK1
  clear hR he hf hb1 hb2 hsz hK hE sf ih1 ih2 se h hK1
  go_enter Try.func54, Try.ntmps54
  go_wp2_with fail
  refine HE.out.mono ?_
  rintro r w2 ⟨b, rfl, hPa, a2, hK2, hiff, himp⟩
  have Hiff := Lib.hid hiff
  have Himp := Lib.hid himp
  have hP2 := hP1.trans hPa
  have KB2 := KB1.past hPa hne
  clear hiff himp KB1 hPa HE x0 z0
  cases b
  · go_wp2
    go_ret
    exact sp_no hP2 hK2 (fun hh => by
      obtain ⟨p1, p2, p3, p4, p5, p6, p7⟩ := st_parts hh
      exact Bool.noConfusion (Hiff.out.2 ⟨p3, by omega⟩))
  have F2 : Hid (exGood e (d + 1) = true ∧ a2 = left - 1 - exN e ∧ 0 ≤ a2) := Lib.hid (by
    obtain ⟨y1, y2⟩ := Hiff.out.1 rfl
    have y3 := Himp.out rfl
    exact ⟨y1, y3, by omega⟩)
  clear Hiff Himp
  have q0 := KB2.cell_of 0 rfl
  have q1 := KB2.cell_of 1 rfl
  have q2 := KB2.cell_of 2 rfl
  have q3 := KB2.cell_of 3 rfl
  have q4 := KB2.cell_of 4 rfl
  have q5 := KB2.cell_of 5 rfl
  have q6 := KB2.cell_of 6 rfl
  have q7 := KB2.cell_of 7 rfl
  have q8 := KB2.cell_of 8 rfl
  have q9 := KB2.cell_of 9 rfl
  have q10 := KB2.cell_of 10 rfl
  have q11 := KB2.cell_of 11 rfl
  by_cases c1 : name.length = 0
  · obtain rfl : name = [] := List.eq_nil_of_length_eq_zero c1
    clear c1
    go_wp2
    go_ret
    exact sp_no hP2 hK2 (fun hh => by
      obtain ⟨p1, p2, p3, p4, p5, p6, p7⟩ := st_parts hh
      have hx : stOk1 1 [] f body.length els.length = false := by simp [stOk1, nameOk, wordOk]
      rw [hx] at p2
      cases p2)
  have c1' : 0 < (name.length : Int) := by omega
  clear c1
  have hw := specWordOk_c name A c B w2 (by have := Hsz.out; omega) (HX.out.1.1.below (hP2.below hg hB))
  have hk := specKept_c name A c B w2 (HX.out.1.1.below (hP2.below hg hB))
  by_cases c2 : wordOk name = false
  · rw [c2] at hw
    have Hw := Lib.hid hw
    have C2 := Lib.hid c2
    clear hw hk c2
    go_wp2_with fail
    refine Hw.out.mono ?_
    rintro r w' ⟨rfl, rfl⟩
    go_wp2
    go_ret
    exact sp_no hP2 hK2 (fun hh => by
      obtain ⟨p1, p2, p3, p4, p5, p6, p7⟩ := st_parts hh
      have hx : stOk1 1 name f body.length els.length = false := by simp [stOk1, nameOk, C2.out]
      rw [hx] at p2
      cases p2)
  have c2' : wordOk name = true := by simpa using c2
  rw [c2'] at hw
  have Hw := Lib.hid hw
  have Hk := Lib.hid hk
  have C2 := Lib.hid c2'
  clear hw hk c2 c2'
  go_wp2_with fail
  refine Hw.out.mono ?_
  rintro r w' ⟨rfl, rfl⟩
  go_wp2_with fail
  refine Hk.out.mono ?_
  rintro r w3 ⟨rfl, hb23⟩
  have hP3 := hP2.trans (Past.of hb23 g)
  have hK3 := hK2.below hb23 hK2.lt
  have KB3 := KB2.below hb23 KB2.lt
  clear q0 q1 q2 q3 q4 q5 q6 q7 q8 q9 q10 q11
  clear Hw Hk
  have q0 := KB3.cell_of 0 rfl
  have q1 := KB3.cell_of 1 rfl
  have q2 := KB3.cell_of 2 rfl
  have q3 := KB3.cell_of 3 rfl
  have q4 := KB3.cell_of 4 rfl
  have q5 := KB3.cell_of 5 rfl
  have q6 := KB3.cell_of 6 rfl
  have q7 := KB3.cell_of 7 rfl
  have q8 := KB3.cell_of 8 rfl
  have q9 := KB3.cell_of 9 rfl
  have q10 := KB3.cell_of 10 rfl
  have q11 := KB3.cell_of 11 rfl
  cases c3 : kept name
  · have hnm : nameOk name = true := by unfold nameOk; rw [C2.out, c3]; rfl
    have Hnm := Lib.hid hnm
    clear c3 hnm
    have hf' := l2none_c f _ _ _ _ L B w3 (HX.out.2.2.1.below (hP3.below hg hB))
    have Hf := Lib.hid hf'
    clear hf'
    go_wp2_with fail
    refine Hf.out.mono ?_
    rintro r w4 ⟨rfl, hb4⟩
    have hP4 := hP3.trans (Past.of hb4 g)
    have hK4 := hK3.below hb4 hK3.lt
    have KB4 := KB3.below hb4 KB3.lt
    clear Hf
    clear q0 q1 q2 q3 q4 q5 q6 q7 q8 q9 q10 q11
    have F4 : Hid ((1 : Int) = 2 → exGood f (d + 1) = true) := Lib.hid (fun h => by omega)
    have A4 : Hid (a2 = left - 1 - exN e - fN 1 f ∧ 0 ≤ a2) := Lib.hid (by
      obtain ⟨s1, s2, s3⟩ := F2.out
      have e1 : fN 1 f = 0 := rfl
      exact ⟨by rw [e1]; omega, s3⟩)
    have q0 := KB4.cell_of 0 rfl
    have q1 := KB4.cell_of 1 rfl
    have q2 := KB4.cell_of 2 rfl
    have q3 := KB4.cell_of 3 rfl
    have q4 := KB4.cell_of 4 rfl
    have q5 := KB4.cell_of 5 rfl
    have q6 := KB4.cell_of 6 rfl
    have q7 := KB4.cell_of 7 rfl
    have q8 := KB4.cell_of 8 rfl
    have q9 := KB4.cell_of 9 rfl
    have q10 := KB4.cell_of 10 rfl
    have q11 := KB4.cell_of 11 rfl
    cases c5 : exNone f
    · have C5 := Lib.hid c5
      clear c5
      go_wp2
      go_ret
      exact sp_no hP4 hK4 (fun hh => by
          obtain ⟨p1, p2, p3, p4, p5, p6, p7⟩ := st_parts hh
          have hx : stOk1 1 name f body.length els.length = false := by simp [stOk1, C5.out]
          rw [hx] at p2
          cases p2)
    have C5 := Lib.hid c5
    clear c5
    clear q0 q1 q2 q3 q4 q5 q6 q7 q8 q9 q10 q11
    have q0 := KB4.cell_of 0 rfl
    have q1 := KB4.cell_of 1 rfl
    have q2 := KB4.cell_of 2 rfl
    have q3 := KB4.cell_of 3 rfl
    have q4 := KB4.cell_of 4 rfl
    have q5 := KB4.cell_of 5 rfl
    have q6 := KB4.cell_of 6 rfl
    have q7 := KB4.cell_of 7 rfl
    have q8 := KB4.cell_of 8 rfl
    have q9 := KB4.cell_of 9 rfl
    have q10 := KB4.cell_of 10 rfl
    have q11 := KB4.cell_of 11 rfl
    by_cases c6 : 0 < (body.length : Int)
    · have c6n : ¬ body = [] := fun e => by subst e; simp at c6
      go_wp2
      go_ret
      exact sp_no hP4 hK4 (fun hh => by
          obtain ⟨p1, p2, p3, p4, p5, p6, p7⟩ := st_parts hh
          have hx : stOk1 1 name f body.length els.length = false := by simp [stOk1, c6n]
          rw [hx] at p2
          cases p2)
    obtain rfl : body = [] := List.eq_nil_of_length_eq_zero (by omega)
    clear c6
    by_cases c7 : 0 < (els.length : Int)
    · have c7n : ¬ els = [] := fun e => by subst e; simp at c7
      go_wp2
      go_ret
      exact sp_no hP4 hK4 (fun hh => by
          obtain ⟨p1, p2, p3, p4, p5, p6, p7⟩ := st_parts hh
          have hx : stOk1 1 name f ([] : List St).length els.length = false := by simp [stOk1, c7n]
          rw [hx] at p2
          cases p2)
    obtain rfl : els = [] := List.eq_nil_of_length_eq_zero (by omega)
    clear c7
    have hok : stOk1 1 name f ([] : List St).length ([] : List St).length = true := by simp [stOk1, Hnm.out, C5.out]
    have Hok := Lib.hid hok
    clear hok
    have hb' := Ih1.out A1 c1 L B g (d + 1) a2 w4 (HX.out.2.2.2.1.below (hP4.below hg hB)) (Nat.le_trans hB hP4.size) hg (by have := Hsz.out; omega) hK4 A4.out.2 (by have := A4.out.1; omega) (by omega)
    rw [show (((d + 1 : Nat)) : Int) = (d : Int) + 1 by omega] at hb'
    have Hb := Lib.hid hb'
    clear hb'
    go_wp2_with fail
    refine Hb.out.mono ?_
    rintro r w5 ⟨b, rfl, hPb, a5, hK5, hiff, himp⟩
    have Hiff := Lib.hid hiff
    have Himp := Lib.hid himp
    have hP5 := hP4.trans hPb
    have KB5 := KB4.past hPb hne
    clear hiff himp hPb Hb
    clear q0 q1 q2 q3 q4 q5 q6 q7 q8 q9 q10 q11
    cases b
    · go_wp2
      go_ret
      exact sp_no hP5 hK5 (fun hh => by
        obtain ⟨p1, p2, p3, p4, p5, p6, p7⟩ := st_parts hh
        obtain ⟨s1, s2⟩ := A4.out
        exact Bool.noConfusion (Hiff.out.2 ⟨p5, by omega⟩))
    have F5 : Hid (stsGood [] (d + 1) = true ∧ a5 = left - 1 - exN e - fN 1 f - stsN [] ∧ 0 ≤ a5) := Lib.hid (by
      obtain ⟨s1, s2⟩ := A4.out
      obtain ⟨y1, y2⟩ := Hiff.out.1 rfl
      have y3 := Himp.out rfl
      exact ⟨y1, by omega, by omega⟩)
    clear Hiff Himp
    have q0 := KB5.cell_of 0 rfl
    have q1 := KB5.cell_of 1 rfl
    have q2 := KB5.cell_of 2 rfl
    have q3 := KB5.cell_of 3 rfl
    have q4 := KB5.cell_of 4 rfl
    have q5 := KB5.cell_of 5 rfl
    have q6 := KB5.cell_of 6 rfl
    have q7 := KB5.cell_of 7 rfl
    have q8 := KB5.cell_of 8 rfl
    have q9 := KB5.cell_of 9 rfl
    have q10 := KB5.cell_of 10 rfl
    have q11 := KB5.cell_of 11 rfl
    have he' := Ih2.out A2 c2 L B g (d + 1) a5 w5 (HX.out.2.2.2.2.below (hP5.below hg hB)) (Nat.le_trans hB hP5.size) hg (by have := Hsz.out; omega) hK5 F5.out.2.2 (by have := F5.out.2.1; omega) (by omega)
    rw [show (((d + 1 : Nat)) : Int) = (d : Int) + 1 by omega] at he'
    have He := Lib.hid he'
    clear he'
    go_wp2_with fail
    refine He.out.mono ?_
    rintro r w6 ⟨b, rfl, hPe, a6, hK6, hiff, himp⟩
    have Hiff := Lib.hid hiff
    have Himp := Lib.hid himp
    have hP6 := hP5.trans hPe
    clear hiff himp hPe He
    clear q0 q1 q2 q3 q4 q5 q6 q7 q8 q9 q10 q11
    cases b
    · go_wp2
      go_ret
      exact sp_no hP6 hK6 (fun hh => by
        obtain ⟨p1, p2, p3, p4, p5, p6, p7⟩ := st_parts hh
        obtain ⟨s1, s2, s3⟩ := F5.out
        exact Bool.noConfusion (Hiff.out.2 ⟨p6, by omega⟩))
    · go_wp2
      go_ret
      obtain ⟨s1, s2, s3⟩ := F5.out
      obtain ⟨y1, y2⟩ := Hiff.out.1 (by trivial)
      have y3 := Himp.out (by trivial)
      exact st_yes hP6 hK6 hd Hok.out F2.out.1 F4.out s1 y1 (by omega) (by omega)
  · have C3 := Lib.hid c3
    clear c3
    go_wp2
    go_ret
    exact sp_no hP3 hK3 (fun hh => by
      obtain ⟨p1, p2, p3, p4, p5, p6, p7⟩ := st_parts hh
      have hx : stOk1 1 name f body.length els.length = false := by simp [stOk1, nameOk, C3.out]
      rw [hx] at p2
      cases p2)

set_option maxRecDepth 100000 in
set_option maxHeartbeats 8000000 in
theorem l2st_2 (name : List UInt8) (e f : Ex) (body els : List St) (se : SpEx e) (sf : SpEx f) (ih1 : SpSts body) (ih2 : SpSts els) (vs : List Value) (L B g d : Nat) (left : Int) (w : World) (h : StV w L B vs (.mk 2 name e f body els)) (hB : B ≤ w.heap.size) (hg : B ≤ g) (hsz : stSz (.mk 2 name e f body els) ≤ 1048576)
    (hK : Blk w g 62 #[.int .i64 left]) (h0 : 1 ≤ left) (h1 : left ≤ 90) (hd : d ≤ 7) :
    Calls Try.prog 54 #[.agg vs.toArray, .int .i64 (d : Int), .pointer (some ⟨g, 0, none⟩)] w (SpP (stGood (.mk 2 name e f body els) d) (stN (.mk 2 name e f body els)) g left w) := by
  obtain ⟨A, c, e0, e1, e2, e3, f0, f1, f2, f3, A1, c1, A2, c2, rfl, hR, hm, he, hf, hb1, hb2⟩ := h.open_
  rw [stSz_mk] at hsz
  have hne : w.heap.size ≠ g := by have := hK.lt; omega
  have x0 : ∀ o, (w.alloc o).cell? ⟨g, 0, none⟩ = some (.int .i64 left) := fun o => (hK.alloc o).cell_of 0 rfl
  have z0 : ∀ o, (w.alloc o).frozen? ⟨g, 0, none⟩ = false := fun o => (hK.alloc o).frozen 0
  have hl' : 0 ≤ left - 1 := by omega
  have h7' : (d : Int) ≤ 7 := by omega
  have hP1 : Past g w ((w.alloc (.cells #[.int .i64 2, .slice A name.length c, e0, e1, e2, e3, f0, f1, f2, f3, .slice A1 body.length c1, .slice A2 els.length c2] 98)).setCell ⟨g, 0, none⟩ (.int .i64 (left - 1))) := ((Past.refl g w).alloc _).set_ (.inl rfl) _
  have hK1 : Blk ((w.alloc (.cells #[.int .i64 2, .slice A name.length c, e0, e1, e2, e3, f0, f1, f2, f3, .slice A1 body.length c1, .slice A2 els.length c2] 98)).setCell ⟨g, 0, none⟩ (.int .i64 (left - 1))) g 62 #[.int .i64 (left - 1)] := (hK.alloc _).set_ 0 (.int .i64 (left - 1))
  have KB1 := (Blk.new w 98 #[.int .i64 2, .slice A name.length c, e0, e1, e2, e3, f0, f1, f2, f3, .slice A1 body.length c1, .slice A2 els.length c2]).far (p := ⟨g, 0, none⟩) hne (.int .i64 (left - 1))
  have hE := se e0 e1 e2 e3 L B g (d + 1) (left - 1) _ (he.below (hP1.below hg hB)) (Nat.le_trans hB hP1.size) hg (by omega) hK1 hl' (by omega) (by omega)
  rw [show (((d + 1 : Nat)) : Int) = (d : Int) + 1 by omega] at hE
  have HE := Lib.hid hE
  have HX := Lib.hid (And.intro hR (And.intro he (And.intro hf (And.intro hb1 hb2))))
  obtain ⟨xk, xn, xA, xa, xc, xA', xa', xc', rfl, rfl, rfl, rfl⟩ := he.shape
  obtain ⟨yk, yn, yA, ya, yc, yA', ya', yc', rfl, rfl, rfl, rfl⟩ := hf.shape
  have Sf := Lib.hid sf
  have Ih1 := Lib.hid ih1
  have Ih2 := Lib.hid ih2
  have Hsz := Lib.hid hsz
  have HK1 := Lib.hid hK1
  clear hR he hf hb1 hb2 hsz hK hE sf ih1 ih2 se h hK1
  go_enter Try.func54, Try.ntmps54
  go_wp2_with fail
  refine HE.out.mono ?_
  rintro r w2 ⟨b, rfl, hPa, a2, hK2, hiff, himp⟩
  have Hiff := Lib.hid hiff
  have Himp := Lib.hid himp
  have hP2 := hP1.trans hPa
  have KB2 := KB1.past hPa hne
  clear hiff himp KB1 hPa HE x0 z0
  cases b
  · go_wp2
    go_ret
    exact sp_no hP2 hK2 (fun hh => by
      obtain ⟨p1, p2, p3, p4, p5, p6, p7⟩ := st_parts hh
      exact Bool.noConfusion (Hiff.out.2 ⟨p3, by omega⟩))
  have F2 : Hid (exGood e (d + 1) = true ∧ a2 = left - 1 - exN e ∧ 0 ≤ a2) := Lib.hid (by
    obtain ⟨y1, y2⟩ := Hiff.out.1 rfl
    have y3 := Himp.out rfl
    exact ⟨y1, y3, by omega⟩)
  clear Hiff Himp
  have q0 := KB2.cell_of 0 rfl
  have q1 := KB2.cell_of 1 rfl
  have q2 := KB2.cell_of 2 rfl
  have q3 := KB2.cell_of 3 rfl
  have q4 := KB2.cell_of 4 rfl
  have q5 := KB2.cell_of 5 rfl
  have q6 := KB2.cell_of 6 rfl
  have q7 := KB2.cell_of 7 rfl
  have q8 := KB2.cell_of 8 rfl
  have q9 := KB2.cell_of 9 rfl
  have q10 := KB2.cell_of 10 rfl
  have q11 := KB2.cell_of 11 rfl
  by_cases c1 : name.length = 0
  · obtain rfl : name = [] := List.eq_nil_of_length_eq_zero c1
    clear c1
    go_wp2
    go_ret
    exact sp_no hP2 hK2 (fun hh => by
      obtain ⟨p1, p2, p3, p4, p5, p6, p7⟩ := st_parts hh
      have hx : stOk1 2 [] f body.length els.length = false := by simp [stOk1, nameOk, wordOk]
      rw [hx] at p2
      cases p2)
  have c1' : 0 < (name.length : Int) := by omega
  clear c1
  have hw := specWordOk_c name A c B w2 (by have := Hsz.out; omega) (HX.out.1.1.below (hP2.below hg hB))
  have hk := specKept_c name A c B w2 (HX.out.1.1.below (hP2.below hg hB))
  by_cases c2 : wordOk name = false
  · rw [c2] at hw
    have Hw := Lib.hid hw
    have C2 := Lib.hid c2
    clear hw hk c2
    go_wp2_with fail
    refine Hw.out.mono ?_
    rintro r w' ⟨rfl, rfl⟩
    go_wp2
    go_ret
    exact sp_no hP2 hK2 (fun hh => by
      obtain ⟨p1, p2, p3, p4, p5, p6, p7⟩ := st_parts hh
      have hx : stOk1 2 name f body.length els.length = false := by simp [stOk1, nameOk, C2.out]
      rw [hx] at p2
      cases p2)
  have c2' : wordOk name = true := by simpa using c2
  rw [c2'] at hw
  have Hw := Lib.hid hw
  have Hk := Lib.hid hk
  have C2 := Lib.hid c2'
  clear hw hk c2 c2'
  go_wp2_with fail
  refine Hw.out.mono ?_
  rintro r w' ⟨rfl, rfl⟩
  go_wp2_with fail
  refine Hk.out.mono ?_
  rintro r w3 ⟨rfl, hb23⟩
  have hP3 := hP2.trans (Past.of hb23 g)
  have hK3 := hK2.below hb23 hK2.lt
  have KB3 := KB2.below hb23 KB2.lt
  clear q0 q1 q2 q3 q4 q5 q6 q7 q8 q9 q10 q11
  clear Hw Hk
  have q0 := KB3.cell_of 0 rfl
  have q1 := KB3.cell_of 1 rfl
  have q2 := KB3.cell_of 2 rfl
  have q3 := KB3.cell_of 3 rfl
  have q4 := KB3.cell_of 4 rfl
  have q5 := KB3.cell_of 5 rfl
  have q6 := KB3.cell_of 6 rfl
  have q7 := KB3.cell_of 7 rfl
  have q8 := KB3.cell_of 8 rfl
  have q9 := KB3.cell_of 9 rfl
  have q10 := KB3.cell_of 10 rfl
  have q11 := KB3.cell_of 11 rfl
  cases c3 : kept name
  · have hnm : nameOk name = true := by unfold nameOk; rw [C2.out, c3]; rfl
    have Hnm := Lib.hid hnm
    clear c3 hnm
    have hf' := Sf.out _ _ _ _ L B g (d + 1) a2 w3 (HX.out.2.2.1.below (hP3.below hg hB)) (Nat.le_trans hB hP3.size) hg (by have := Hsz.out; omega) hK3 F2.out.2.2 (by have := F2.out.2.1; omega) (by omega)
    rw [show (((d + 1 : Nat)) : Int) = (d : Int) + 1 by omega] at hf'
    have Hf := Lib.hid hf'
    clear hf'
    go_wp2_with fail
    refine Hf.out.mono ?_
    rintro r w4 ⟨b, rfl, hPf, a4, hK4, hiff, himp⟩
    have Hiff := Lib.hid hiff
    have Himp := Lib.hid himp
    have hP4 := hP3.trans hPf
    have KB4 := KB3.past hPf hne
    clear hiff himp hPf Hf
    clear q0 q1 q2 q3 q4 q5 q6 q7 q8 q9 q10 q11
    cases b
    · go_wp2
      go_ret
      exact sp_no hP4 hK4 (fun hh => by
        obtain ⟨p1, p2, p3, p4, p5, p6, p7⟩ := st_parts hh
        obtain ⟨s1, s2, s3⟩ := F2.out
        have e1 : fN 2 f = exN f := rfl
        rw [e1] at p7
        exact Bool.noConfusion (Hiff.out.2 ⟨p4 rfl, by omega⟩))
    have F4 : Hid ((2 : Int) = 2 → exGood f (d + 1) = true) := Lib.hid (fun _ => (Hiff.out.1 rfl).1)
    have A4 : Hid (a4 = left - 1 - exN e - fN 2 f ∧ 0 ≤ a4) := Lib.hid (by
      obtain ⟨s1, s2, s3⟩ := F2.out
      obtain ⟨y1, y2⟩ := Hiff.out.1 rfl
      have y3 := Himp.out rfl
      have e1 : fN 2 f = exN f := rfl
      exact ⟨by rw [e1]; omega, by omega⟩)
    clear Hiff Himp
    have q0 := KB4.cell_of 0 rfl
    have q1 := KB4.cell_of 1 rfl
    have q2 := KB4.cell_of 2 rfl
    have q3 := KB4.cell_of 3 rfl
    have q4 := KB4.cell_of 4 rfl
    have q5 := KB4.cell_of 5 rfl
    have q6 := KB4.cell_of 6 rfl
    have q7 := KB4.cell_of 7 rfl
    have q8 := KB4.cell_of 8 rfl
    have q9 := KB4.cell_of 9 rfl
    have q10 := KB4.cell_of 10 rfl
    have q11 := KB4.cell_of 11 rfl
    by_cases c6 : 0 < (body.length : Int)
    · have c6n : ¬ body = [] := fun e => by subst e; simp at c6
      go_wp2
      go_ret
      exact sp_no hP4 hK4 (fun hh => by
          obtain ⟨p1, p2, p3, p4, p5, p6, p7⟩ := st_parts hh
          have hx : stOk1 2 name f body.length els.length = false := by simp [stOk1, c6n]
          rw [hx] at p2
          cases p2)
    obtain rfl : body = [] := List.eq_nil_of_length_eq_zero (by omega)
    clear c6
    by_cases c7 : 0 < (els.length : Int)
    · have c7n : ¬ els = [] := fun e => by subst e; simp at c7
      go_wp2
      go_ret
      exact sp_no hP4 hK4 (fun hh => by
          obtain ⟨p1, p2, p3, p4, p5, p6, p7⟩ := st_parts hh
          have hx : stOk1 2 name f ([] : List St).length els.length = false := by simp [stOk1, c7n]
          rw [hx] at p2
          cases p2)
    obtain rfl : els = [] := List.eq_nil_of_length_eq_zero (by omega)
    clear c7
    have hok : stOk1 2 name f ([] : List St).length ([] : List St).length = true := by simp [stOk1, Hnm.out]
    have Hok := Lib.hid hok
    clear hok
    have hb' := Ih1.out A1 c1 L B g (d + 1) a4 w4 (HX.out.2.2.2.1.below (hP4.below hg hB)) (Nat.le_trans hB hP4.size) hg (by have := Hsz.out; omega) hK4 A4.out.2 (by have := A4.out.1; omega) (by omega)
    rw [show (((d + 1 : Nat)) : Int) = (d : Int) + 1 by omega] at hb'
    have Hb := Lib.hid hb'
    clear hb'
    go_wp2_with fail
    refine Hb.out.mono ?_
    rintro r w5 ⟨b, rfl, hPb, a5, hK5, hiff, himp⟩
    have Hiff := Lib.hid hiff
    have Himp := Lib.hid himp
    have hP5 := hP4.trans hPb
    have KB5 := KB4.past hPb hne
    clear hiff himp hPb Hb
    clear q0 q1 q2 q3 q4 q5 q6 q7 q8 q9 q10 q11
    cases b
    · go_wp2
      go_ret
      exact sp_no hP5 hK5 (fun hh => by
        obtain ⟨p1, p2, p3, p4, p5, p6, p7⟩ := st_parts hh
        obtain ⟨s1, s2⟩ := A4.out
        exact Bool.noConfusion (Hiff.out.2 ⟨p5, by omega⟩))
    have F5 : Hid (stsGood [] (d + 1) = true ∧ a5 = left - 1 - exN e - fN 2 f - stsN [] ∧ 0 ≤ a5) := Lib.hid (by
      obtain ⟨s1, s2⟩ := A4.out
      obtain ⟨y1, y2⟩ := Hiff.out.1 rfl
      have y3 := Himp.out rfl
      exact ⟨y1, by omega, by omega⟩)
    clear Hiff Himp
    have q0 := KB5.cell_of 0 rfl
    have q1 := KB5.cell_of 1 rfl
    have q2 := KB5.cell_of 2 rfl
    have q3 := KB5.cell_of 3 rfl
    have q4 := KB5.cell_of 4 rfl
    have q5 := KB5.cell_of 5 rfl
    have q6 := KB5.cell_of 6 rfl
    have q7 := KB5.cell_of 7 rfl
    have q8 := KB5.cell_of 8 rfl
    have q9 := KB5.cell_of 9 rfl
    have q10 := KB5.cell_of 10 rfl
    have q11 := KB5.cell_of 11 rfl
    have he' := Ih2.out A2 c2 L B g (d + 1) a5 w5 (HX.out.2.2.2.2.below (hP5.below hg hB)) (Nat.le_trans hB hP5.size) hg (by have := Hsz.out; omega) hK5 F5.out.2.2 (by have := F5.out.2.1; omega) (by omega)
    rw [show (((d + 1 : Nat)) : Int) = (d : Int) + 1 by omega] at he'
    have He := Lib.hid he'
    clear he'
    go_wp2_with fail
    refine He.out.mono ?_
    rintro r w6 ⟨b, rfl, hPe, a6, hK6, hiff, himp⟩
    have Hiff := Lib.hid hiff
    have Himp := Lib.hid himp
    have hP6 := hP5.trans hPe
    clear hiff himp hPe He
    clear q0 q1 q2 q3 q4 q5 q6 q7 q8 q9 q10 q11
    cases b
    · go_wp2
      go_ret
      exact sp_no hP6 hK6 (fun hh => by
        obtain ⟨p1, p2, p3, p4, p5, p6, p7⟩ := st_parts hh
        obtain ⟨s1, s2, s3⟩ := F5.out
        exact Bool.noConfusion (Hiff.out.2 ⟨p6, by omega⟩))
    · go_wp2
      go_ret
      obtain ⟨s1, s2, s3⟩ := F5.out
      obtain ⟨y1, y2⟩ := Hiff.out.1 (by trivial)
      have y3 := Himp.out (by trivial)
      exact st_yes hP6 hK6 hd Hok.out F2.out.1 (fun _ => F4.out (by trivial)) s1 y1 (by omega) (by omega)
  · have C3 := Lib.hid c3
    clear c3
    go_wp2
    go_ret
    exact sp_no hP3 hK3 (fun hh => by
      obtain ⟨p1, p2, p3, p4, p5, p6, p7⟩ := st_parts hh
      have hx : stOk1 2 name f body.length els.length = false := by simp [stOk1, nameOk, C3.out]
      rw [hx] at p2
      cases p2)

set_option maxRecDepth 100000 in
set_option maxHeartbeats 8000000 in
theorem l2st_3 (name : List UInt8) (e f : Ex) (body els : List St) (se : SpEx e) (sf : SpEx f) (ih1 : SpSts body) (ih2 : SpSts els) (vs : List Value) (L B g d : Nat) (left : Int) (w : World) (h : StV w L B vs (.mk 3 name e f body els)) (hB : B ≤ w.heap.size) (hg : B ≤ g) (hsz : stSz (.mk 3 name e f body els) ≤ 1048576)
    (hK : Blk w g 62 #[.int .i64 left]) (h0 : 1 ≤ left) (h1 : left ≤ 90) (hd : d ≤ 7) :
    Calls Try.prog 54 #[.agg vs.toArray, .int .i64 (d : Int), .pointer (some ⟨g, 0, none⟩)] w (SpP (stGood (.mk 3 name e f body els) d) (stN (.mk 3 name e f body els)) g left w) := by
  obtain ⟨A, c, e0, e1, e2, e3, f0, f1, f2, f3, A1, c1, A2, c2, rfl, hR, hm, he, hf, hb1, hb2⟩ := h.open_
  rw [stSz_mk] at hsz
  have hne : w.heap.size ≠ g := by have := hK.lt; omega
  have x0 : ∀ o, (w.alloc o).cell? ⟨g, 0, none⟩ = some (.int .i64 left) := fun o => (hK.alloc o).cell_of 0 rfl
  have z0 : ∀ o, (w.alloc o).frozen? ⟨g, 0, none⟩ = false := fun o => (hK.alloc o).frozen 0
  have hl' : 0 ≤ left - 1 := by omega
  have h7' : (d : Int) ≤ 7 := by omega
  have hP1 : Past g w ((w.alloc (.cells #[.int .i64 3, .slice A name.length c, e0, e1, e2, e3, f0, f1, f2, f3, .slice A1 body.length c1, .slice A2 els.length c2] 98)).setCell ⟨g, 0, none⟩ (.int .i64 (left - 1))) := ((Past.refl g w).alloc _).set_ (.inl rfl) _
  have hK1 : Blk ((w.alloc (.cells #[.int .i64 3, .slice A name.length c, e0, e1, e2, e3, f0, f1, f2, f3, .slice A1 body.length c1, .slice A2 els.length c2] 98)).setCell ⟨g, 0, none⟩ (.int .i64 (left - 1))) g 62 #[.int .i64 (left - 1)] := (hK.alloc _).set_ 0 (.int .i64 (left - 1))
  have KB1 := (Blk.new w 98 #[.int .i64 3, .slice A name.length c, e0, e1, e2, e3, f0, f1, f2, f3, .slice A1 body.length c1, .slice A2 els.length c2]).far (p := ⟨g, 0, none⟩) hne (.int .i64 (left - 1))
  have hE := se e0 e1 e2 e3 L B g (d + 1) (left - 1) _ (he.below (hP1.below hg hB)) (Nat.le_trans hB hP1.size) hg (by omega) hK1 hl' (by omega) (by omega)
  rw [show (((d + 1 : Nat)) : Int) = (d : Int) + 1 by omega] at hE
  have HE := Lib.hid hE
  have HX := Lib.hid (And.intro hR (And.intro he (And.intro hf (And.intro hb1 hb2))))
  obtain ⟨xk, xn, xA, xa, xc, xA', xa', xc', rfl, rfl, rfl, rfl⟩ := he.shape
  obtain ⟨yk, yn, yA, ya, yc, yA', ya', yc', rfl, rfl, rfl, rfl⟩ := hf.shape
  have Sf := Lib.hid sf
  have Ih1 := Lib.hid ih1
  have Ih2 := Lib.hid ih2
  have Hsz := Lib.hid hsz
  have HK1 := Lib.hid hK1
  clear hR he hf hb1 hb2 hsz hK hE sf ih1 ih2 se h hK1
  go_enter Try.func54, Try.ntmps54
  go_wp2_with fail
  refine HE.out.mono ?_
  rintro r w2 ⟨b, rfl, hPa, a2, hK2, hiff, himp⟩
  have Hiff := Lib.hid hiff
  have Himp := Lib.hid himp
  have hP2 := hP1.trans hPa
  have KB2 := KB1.past hPa hne
  clear hiff himp KB1 hPa HE x0 z0
  cases b
  · go_wp2
    go_ret
    exact sp_no hP2 hK2 (fun hh => by
      obtain ⟨p1, p2, p3, p4, p5, p6, p7⟩ := st_parts hh
      exact Bool.noConfusion (Hiff.out.2 ⟨p3, by omega⟩))
  have F2 : Hid (exGood e (d + 1) = true ∧ a2 = left - 1 - exN e ∧ 0 ≤ a2) := Lib.hid (by
    obtain ⟨y1, y2⟩ := Hiff.out.1 rfl
    have y3 := Himp.out rfl
    exact ⟨y1, y3, by omega⟩)
  clear Hiff Himp
  have q0 := KB2.cell_of 0 rfl
  have q1 := KB2.cell_of 1 rfl
  have q2 := KB2.cell_of 2 rfl
  have q3 := KB2.cell_of 3 rfl
  have q4 := KB2.cell_of 4 rfl
  have q5 := KB2.cell_of 5 rfl
  have q6 := KB2.cell_of 6 rfl
  have q7 := KB2.cell_of 7 rfl
  have q8 := KB2.cell_of 8 rfl
  have q9 := KB2.cell_of 9 rfl
  have q10 := KB2.cell_of 10 rfl
  have q11 := KB2.cell_of 11 rfl
  by_cases c1 : 0 < (name.length : Int)
  · have c1n : ¬ name = [] := fun e => by subst e; simp at c1
    go_wp2
    go_ret
    exact sp_no hP2 hK2 (fun hh => by
      obtain ⟨p1, p2, p3, p4, p5, p6, p7⟩ := st_parts hh
      have hx : stOk1 3 name f body.length els.length = false := by simp [stOk1, c1n]
      rw [hx] at p2
      cases p2)
  obtain rfl : name = [] := List.eq_nil_of_length_eq_zero (by omega)
  clear c1
  have hf' := l2none_c f _ _ _ _ L B w2 (HX.out.2.2.1.below (hP2.below hg hB))
  have Hf := Lib.hid hf'
  clear hf'
  go_wp2_with fail
  refine Hf.out.mono ?_
  rintro r w4 ⟨rfl, hb4⟩
  have hP4 := hP2.trans (Past.of hb4 g)
  have hK4 := hK2.below hb4 hK2.lt
  have KB4 := KB2.below hb4 KB2.lt
  clear Hf
  clear q0 q1 q2 q3 q4 q5 q6 q7 q8 q9 q10 q11
  have F4 : Hid ((3 : Int) = 2 → exGood f (d + 1) = true) := Lib.hid (fun h => by omega)
  have A4 : Hid (a2 = left - 1 - exN e - fN 3 f ∧ 0 ≤ a2) := Lib.hid (by
    obtain ⟨s1, s2, s3⟩ := F2.out
    have e1 : fN 3 f = 0 := rfl
    exact ⟨by rw [e1]; omega, s3⟩)
  have q0 := KB4.cell_of 0 rfl
  have q1 := KB4.cell_of 1 rfl
  have q2 := KB4.cell_of 2 rfl
  have q3 := KB4.cell_of 3 rfl
  have q4 := KB4.cell_of 4 rfl
  have q5 := KB4.cell_of 5 rfl
  have q6 := KB4.cell_of 6 rfl
  have q7 := KB4.cell_of 7 rfl
  have q8 := KB4.cell_of 8 rfl
  have q9 := KB4.cell_of 9 rfl
  have q10 := KB4.cell_of 10 rfl
  have q11 := KB4.cell_of 11 rfl
  cases c5 : exNone f
  · have C5 := Lib.hid c5
    clear c5
    go_wp2
    go_ret
    exact sp_no hP4 hK4 (fun hh => by
        obtain ⟨p1, p2, p3, p4, p5, p6, p7⟩ := st_parts hh
        have hx : stOk1 3 [] f body.length els.length = false := by simp [stOk1, C5.out]
        rw [hx] at p2
        cases p2)
  have C5 := Lib.hid c5
  clear c5
  clear q0 q1 q2 q3 q4 q5 q6 q7 q8 q9 q10 q11
  have q0 := KB4.cell_of 0 rfl
  have q1 := KB4.cell_of 1 rfl
  have q2 := KB4.cell_of 2 rfl
  have q3 := KB4.cell_of 3 rfl
  have q4 := KB4.cell_of 4 rfl
  have q5 := KB4.cell_of 5 rfl
  have q6 := KB4.cell_of 6 rfl
  have q7 := KB4.cell_of 7 rfl
  have q8 := KB4.cell_of 8 rfl
  have q9 := KB4.cell_of 9 rfl
  have q10 := KB4.cell_of 10 rfl
  have q11 := KB4.cell_of 11 rfl
  by_cases c6 : 0 < (body.length : Int)
  · have c6n : ¬ body = [] := fun e => by subst e; simp at c6
    go_wp2
    go_ret
    exact sp_no hP4 hK4 (fun hh => by
        obtain ⟨p1, p2, p3, p4, p5, p6, p7⟩ := st_parts hh
        have hx : stOk1 3 [] f body.length els.length = false := by simp [stOk1, c6n]
        rw [hx] at p2
        cases p2)
  obtain rfl : body = [] := List.eq_nil_of_length_eq_zero (by omega)
  clear c6
  by_cases c7 : 0 < (els.length : Int)
  · have c7n : ¬ els = [] := fun e => by subst e; simp at c7
    go_wp2
    go_ret
    exact sp_no hP4 hK4 (fun hh => by
        obtain ⟨p1, p2, p3, p4, p5, p6, p7⟩ := st_parts hh
        have hx : stOk1 3 [] f ([] : List St).length els.length = false := by simp [stOk1, c7n]
        rw [hx] at p2
        cases p2)
  obtain rfl : els = [] := List.eq_nil_of_length_eq_zero (by omega)
  clear c7
  have hok : stOk1 3 ([] : List UInt8) f ([] : List St).length ([] : List St).length = true := by simp [stOk1, C5.out]
  have Hok := Lib.hid hok
  clear hok
  have hb' := Ih1.out A1 c1 L B g (d + 1) a2 w4 (HX.out.2.2.2.1.below (hP4.below hg hB)) (Nat.le_trans hB hP4.size) hg (by have := Hsz.out; omega) hK4 A4.out.2 (by have := A4.out.1; omega) (by omega)
  rw [show (((d + 1 : Nat)) : Int) = (d : Int) + 1 by omega] at hb'
  have Hb := Lib.hid hb'
  clear hb'
  go_wp2_with fail
  refine Hb.out.mono ?_
  rintro r w5 ⟨b, rfl, hPb, a5, hK5, hiff, himp⟩
  have Hiff := Lib.hid hiff
  have Himp := Lib.hid himp
  have hP5 := hP4.trans hPb
  have KB5 := KB4.past hPb hne
  clear hiff himp hPb Hb
  clear q0 q1 q2 q3 q4 q5 q6 q7 q8 q9 q10 q11
  cases b
  · go_wp2
    go_ret
    exact sp_no hP5 hK5 (fun hh => by
      obtain ⟨p1, p2, p3, p4, p5, p6, p7⟩ := st_parts hh
      obtain ⟨s1, s2⟩ := A4.out
      exact Bool.noConfusion (Hiff.out.2 ⟨p5, by omega⟩))
  have F5 : Hid (stsGood [] (d + 1) = true ∧ a5 = left - 1 - exN e - fN 3 f - stsN [] ∧ 0 ≤ a5) := Lib.hid (by
    obtain ⟨s1, s2⟩ := A4.out
    obtain ⟨y1, y2⟩ := Hiff.out.1 rfl
    have y3 := Himp.out rfl
    exact ⟨y1, by omega, by omega⟩)
  clear Hiff Himp
  have q0 := KB5.cell_of 0 rfl
  have q1 := KB5.cell_of 1 rfl
  have q2 := KB5.cell_of 2 rfl
  have q3 := KB5.cell_of 3 rfl
  have q4 := KB5.cell_of 4 rfl
  have q5 := KB5.cell_of 5 rfl
  have q6 := KB5.cell_of 6 rfl
  have q7 := KB5.cell_of 7 rfl
  have q8 := KB5.cell_of 8 rfl
  have q9 := KB5.cell_of 9 rfl
  have q10 := KB5.cell_of 10 rfl
  have q11 := KB5.cell_of 11 rfl
  have he' := Ih2.out A2 c2 L B g (d + 1) a5 w5 (HX.out.2.2.2.2.below (hP5.below hg hB)) (Nat.le_trans hB hP5.size) hg (by have := Hsz.out; omega) hK5 F5.out.2.2 (by have := F5.out.2.1; omega) (by omega)
  rw [show (((d + 1 : Nat)) : Int) = (d : Int) + 1 by omega] at he'
  have He := Lib.hid he'
  clear he'
  go_wp2_with fail
  refine He.out.mono ?_
  rintro r w6 ⟨b, rfl, hPe, a6, hK6, hiff, himp⟩
  have Hiff := Lib.hid hiff
  have Himp := Lib.hid himp
  have hP6 := hP5.trans hPe
  clear hiff himp hPe He
  clear q0 q1 q2 q3 q4 q5 q6 q7 q8 q9 q10 q11
  cases b
  · go_wp2
    go_ret
    exact sp_no hP6 hK6 (fun hh => by
      obtain ⟨p1, p2, p3, p4, p5, p6, p7⟩ := st_parts hh
      obtain ⟨s1, s2, s3⟩ := F5.out
      exact Bool.noConfusion (Hiff.out.2 ⟨p6, by omega⟩))
  · go_wp2
    go_ret
    obtain ⟨s1, s2, s3⟩ := F5.out
    obtain ⟨y1, y2⟩ := Hiff.out.1 (by trivial)
    have y3 := Himp.out (by trivial)
    exact st_yes hP6 hK6 hd Hok.out F2.out.1 F4.out s1 y1 (by omega) (by omega)

end Go.Proofs.Ytmejbmfopdfbjaa
