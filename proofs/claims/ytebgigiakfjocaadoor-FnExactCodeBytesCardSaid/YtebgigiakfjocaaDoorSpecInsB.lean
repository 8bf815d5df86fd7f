/-
  The model's check of an order, Op by Op, further.
-/
import Derived.Test.YtebgigiakfjocaaDoorSpecIns
namespace Go.Proofs.YtebgigiakfjocaaDoor
open Go.RowKit
set_option linter.unusedVariables false
set_option linter.unusedSimpArgs false
namespace Cod
section
variable (C : List Un) (u : Un) (a b c : Int) (nm : List UInt8) (CA UA NA : Option Addr) (cc uc nc L B : Nat) (w : World)

set_option maxRecDepth 100000 in
set_option maxHeartbeats 8000000 in
theorem ins4_c (hB : B ≤ w.heap.size) (hC : UnL w L B CA C) (hl : u.l.length ≤ 1048576) (hCl : C.length ≤ 1048576) (hr : 1 ≤ u.regs ∧ u.regs ≤ 24) (hN : RB w B NA nm) (hn : nm.length ≤ 1048576) :
    Calls Tryd.prog 86 #[.agg #[.slice CA C.length cc], .agg #[.int .i64 u.params, .int .i64 u.regs, .slice UA u.l.length uc], .agg #[.int .i64 4, .int .i64 a, .int .i64 b, .int .i64 c, .slice NA nm.length nc]] w
      fun e w' => e = .returned (.bool (ordOk C u ⟨4, a, b, c, nm⟩)) ∧ Below w.heap.size w w' := by
  obtain ⟨nl, hnl⟩ : ∃ n, n = nm.length := ⟨_, rfl⟩
  rw [← hnl] at hn
  rw [← hnl]
  have Hnl := Lib.hid hnl
  clear hnl
  have hb3 : Below w.heap.size w (((w.alloc (.cells #[.slice CA C.length cc] 56)).alloc (.cells #[.int .i64 u.params, .int .i64 u.regs, .slice UA u.l.length uc] 102)).alloc (.cells #[.int .i64 4, .int .i64 a, .int .i64 b, .int .i64 c, .slice NA nl nc] 104)) :=
    (((Below.refl _ _).alloc (Nat.le_refl _) _).alloc (by simp) _).alloc (by simp; omega) _
  have Hw : Hid (Calls Tryd.prog 71 #[.slice NA nl nc] (((w.alloc (.cells #[.slice CA C.length cc] 56)).alloc (.cells #[.int .i64 u.params, .int .i64 u.regs, .slice UA u.l.length uc] 102)).alloc (.cells #[.int .i64 4, .int .i64 a, .int .i64 b, .int .i64 c, .slice NA nl nc] 104)) fun e w' => e = .returned (.bool (wordOk nm)) ∧ (((w.alloc (.cells #[.slice CA C.length cc] 56)).alloc (.cells #[.int .i64 u.params, .int .i64 u.regs, .slice UA u.l.length uc] 102)).alloc (.cells #[.int .i64 4, .int .i64 a, .int .i64 b, .int .i64 c, .slice NA nl nc] 104)) = w') := Lib.hid (by
    have h := specWordOk_c nm NA nc B (((w.alloc (.cells #[.slice CA C.length cc] 56)).alloc (.cells #[.int .i64 u.params, .int .i64 u.regs, .slice UA u.l.length uc] 102)).alloc (.cells #[.int .i64 4, .int .i64 a, .int .i64 b, .int .i64 c, .slice NA nl nc] 104)) (by rw [← Hnl.out]; omega) (((hN.alloc hB _).alloc (by simp; omega) _).alloc (by simp; omega) _)
    rw [← Hnl.out] at h
    exact h)
  have Hreg := Lib.hid (fun n X => (show Calls Tryd.prog 107 #[.int .i64 n, .int .i64 u.regs] X fun e w' => e = .returned (.bool (met 1 C u b n)) ∧ X = w' from l6reg_c n u.regs X))
  have Hreg1 := Lib.hid (fun n X => l6reg_c (n + 1) u.regs X)
  have Hop := Lib.hid (fun n X => l2op_c n X)
  have HC := Lib.hid (hC.below (hb3.mono hB))
  have Hb3 := Lib.hid hb3
  clear hC hb3 hN
  by_cases hz : ¬ nl = 0
  · have hz0 : 0 < (nl : Int) := by omega
    have Hz1 := Lib.hid (show 0 < nl by omega)
    go_enter Tryd.func86, Tryd.ntmps86
    have Hres := Lib.hid (show ordOk C u ⟨4, a, b, c, nm⟩ = false by simp [ordOk_4, met0, met2, met3, met4, met5, met6, met7, ← Hnl.out, Hz1.out])
    go_wp2
    go_ret
    exact ⟨by rw [Hres.out]; first | rfl | simp, Hb3.out⟩
  obtain rfl : nl = 0 := Decidable.not_not.1 hz
  clear hz
  go_enter Tryd.func86, Tryd.ntmps86
  go_wp2_with fail
  refine (Hreg.out a _).mono ?_
  rintro e w' ⟨rfl, rfl⟩
  cases h0 : met 1 C u b a
  · have Hres := Lib.hid (show ordOk C u ⟨4, a, b, c, nm⟩ = false by simp [ordOk_4, met0, met2, met3, met4, met5, met6, met7, ← Hnl.out, h0])
    go_wp2
    go_ret
    exact ⟨by rw [Hres.out]; first | rfl | simp, Hb3.out⟩
  · by_cases h1 : b = 0
    · subst h1
      have Hres := Lib.hid (show ordOk C u ⟨4, a, 0, c, nm⟩ = decide (c = 0) by simp [ordOk_4, met0, met2, met3, met4, met5, met6, met7, ← Hnl.out, h0])
      go_wp2
      go_ret
      exact ⟨by rw [Hres.out]; first | rfl | simp, Hb3.out⟩
    · have Hres := Lib.hid (show ordOk C u ⟨4, a, b, c, nm⟩ = false by simp [ordOk_4, met0, met2, met3, met4, met5, met6, met7, ← Hnl.out, h0, h1])
      go_wp2
      go_ret
      exact ⟨by rw [Hres.out]; first | rfl | simp, Hb3.out⟩

set_option maxRecDepth 100000 in
set_option maxHeartbeats 8000000 in
theorem ins5_c (hB : B ≤ w.heap.size) (hC : UnL w L B CA C) (hl : u.l.length ≤ 1048576) (hCl : C.length ≤ 1048576) (hr : 1 ≤ u.regs ∧ u.regs ≤ 24) (hN : RB w B NA nm) (hn : nm.length ≤ 1048576) :
    Calls Tryd.prog 86 #[.agg #[.slice CA C.length cc], .agg #[.int .i64 u.params, .int .i64 u.regs, .slice UA u.l.length uc], .agg #[.int .i64 5, .int .i64 a, .int .i64 b, .int .i64 c, .slice NA nm.length nc]] w
      fun e w' => e = .returned (.bool (ordOk C u ⟨5, a, b, c, nm⟩)) ∧ Below w.heap.size w w' := by
  obtain ⟨nl, hnl⟩ : ∃ n, n = nm.length := ⟨_, rfl⟩
  rw [← hnl] at hn
  rw [← hnl]
  have Hnl := Lib.hid hnl
  clear hnl
  have hb3 : Below w.heap.size w (((w.alloc (.cells #[.slice CA C.length cc] 56)).alloc (.cells #[.int .i64 u.params, .int .i64 u.regs, .slice UA u.l.length uc] 102)).alloc (.cells #[.int .i64 5, .int .i64 a, .int .i64 b, .int .i64 c, .slice NA nl nc] 104)) :=
    (((Below.refl _ _).alloc (Nat.le_refl _) _).alloc (by simp) _).alloc (by simp; omega) _
  have Hw : Hid (Calls Tryd.prog 71 #[.slice NA nl nc] (((w.alloc (.cells #[.slice CA C.length cc] 56)).alloc (.cells #[.int .i64 u.params, .int .i64 u.regs, .slice UA u.l.length uc] 102)).alloc (.cells #[.int .i64 5, .int .i64 a, .int .i64 b, .int .i64 c, .slice NA nl nc] 104)) fun e w' => e = .returned (.bool (wordOk nm)) ∧ (((w.alloc (.cells #[.slice CA C.length cc] 56)).alloc (.cells #[.int .i64 u.params, .int .i64 u.regs, .slice UA u.l.length uc] 102)).alloc (.cells #[.int .i64 5, .int .i64 a, .int .i64 b, .int .i64 c, .slice NA nl nc] 104)) = w') := Lib.hid (by
    have h := specWordOk_c nm NA nc B (((w.alloc (.cells #[.slice CA C.length cc] 56)).alloc (.cells #[.int .i64 u.params, .int .i64 u.regs, .slice UA u.l.length uc] 102)).alloc (.cells #[.int .i64 5, .int .i64 a, .int .i64 b, .int .i64 c, .slice NA nl nc] 104)) (by rw [← Hnl.out]; omega) (((hN.alloc hB _).alloc (by simp; omega) _).alloc (by simp; omega) _)
    rw [← Hnl.out] at h
    exact h)
  have Hreg := Lib.hid (fun n X => (show Calls Tryd.prog 107 #[.int .i64 n, .int .i64 u.regs] X fun e w' => e = .returned (.bool (met 1 C u b n)) ∧ X = w' from l6reg_c n u.regs X))
  have Hreg1 := Lib.hid (fun n X => l6reg_c (n + 1) u.regs X)
  have Hop := Lib.hid (fun n X => l2op_c n X)
  have HC := Lib.hid (hC.below (hb3.mono hB))
  have Hb3 := Lib.hid hb3
  clear hC hb3 hN
  by_cases hz : nl = 0
  · subst hz
    go_enter Tryd.func86, Tryd.ntmps86
    have Hres := Lib.hid (show ordOk C u ⟨5, a, b, c, nm⟩ = false by simp [ordOk_5, met0, met2, met3, met4, met5, met6, met7, ← Hnl.out])
    go_wp2
    go_ret
    exact ⟨by rw [Hres.out]; first | rfl | simp, Hb3.out⟩
  have hz0 : 0 < (nl : Int) := by omega
  have hz1 : 0 < nl := by omega
  have Hz1 := Lib.hid hz1
  clear hz1
  cases hw : wordOk nm
  · rw [hw] at Hw
    go_enter Tryd.func86, Tryd.ntmps86
    go_wp2_with fail
    refine Hw.out.mono ?_
    rintro e w' ⟨rfl, rfl⟩
    have Hres := Lib.hid (show ordOk C u ⟨5, a, b, c, nm⟩ = false by simp [ordOk_5, met0, met2, met3, met4, met5, met6, met7, ← Hnl.out, hw])
    go_wp2
    go_ret
    exact ⟨by rw [Hres.out]; first | rfl | simp, Hb3.out⟩
  rw [hw] at Hw
  have Hww := Lib.hid hw
  clear hw
  go_enter Tryd.func86, Tryd.ntmps86
  go_wp2_with fail
  refine Hw.out.mono ?_
  rintro e w' ⟨rfl, rfl⟩
  go_wp2_with fail
  refine (Hreg.out a _).mono ?_
  rintro e w' ⟨rfl, rfl⟩
  cases h0 : met 1 C u b a
  · have Hres := Lib.hid (show ordOk C u ⟨5, a, b, c, nm⟩ = false by simp [ordOk_5, met0, met2, met3, met4, met5, met6, met7, ← Hnl.out, Hz1.out, Hww.out, h0])
    go_wp2
    go_ret
    exact ⟨by rw [Hres.out]; first | rfl | simp, Hb3.out⟩
  · go_wp2_with fail
    refine (Hreg.out b _).mono ?_
    rintro e w' ⟨rfl, rfl⟩
    cases h1 : met 1 C u b b
    · have Hres := Lib.hid (show ordOk C u ⟨5, a, b, c, nm⟩ = false by simp [ordOk_5, met0, met2, met3, met4, met5, met6, met7, ← Hnl.out, Hz1.out, Hww.out, h0, h1])
      go_wp2
      go_ret
      exact ⟨by rw [Hres.out]; first | rfl | simp, Hb3.out⟩
    · have Hres := Lib.hid (show ordOk C u ⟨5, a, b, c, nm⟩ = decide (c = 0) by simp [ordOk_5, met0, met2, met3, met4, met5, met6, met7, ← Hnl.out, Hz1.out, Hww.out, h0, h1])
      go_wp2
      go_ret
      exact ⟨by rw [Hres.out]; first | rfl | simp, Hb3.out⟩

set_option maxRecDepth 100000 in
set_option maxHeartbeats 8000000 in
theorem ins6_c (hB : B ≤ w.heap.size) (hC : UnL w L B CA C) (hl : u.l.length ≤ 1048576) (hCl : C.length ≤ 1048576) (hr : 1 ≤ u.regs ∧ u.regs ≤ 24) (hN : RB w B NA nm) (hn : nm.length ≤ 1048576) :
    Calls Tryd.prog 86 #[.agg #[.slice CA C.length cc], .agg #[.int .i64 u.params, .int .i64 u.regs, .slice UA u.l.length uc], .agg #[.int .i64 6, .int .i64 a, .int .i64 b, .int .i64 c, .slice NA nm.length nc]] w
      fun e w' => e = .returned (.bool (ordOk C u ⟨6, a, b, c, nm⟩)) ∧ Below w.heap.size w w' := by
  obtain ⟨nl, hnl⟩ : ∃ n, n = nm.length := ⟨_, rfl⟩
  rw [← hnl] at hn
  rw [← hnl]
  have Hnl := Lib.hid hnl
  clear hnl
  have hb3 : Below w.heap.size w (((w.alloc (.cells #[.slice CA C.length cc] 56)).alloc (.cells #[.int .i64 u.params, .int .i64 u.regs, .slice UA u.l.length uc] 102)).alloc (.cells #[.int .i64 6, .int .i64 a, .int .i64 b, .int .i64 c, .slice NA nl nc] 104)) :=
    (((Below.refl _ _).alloc (Nat.le_refl _) _).alloc (by simp) _).alloc (by simp; omega) _
  have Hw : Hid (Calls Tryd.prog 71 #[.slice NA nl nc] (((w.alloc (.cells #[.slice CA C.length cc] 56)).alloc (.cells #[.int .i64 u.params, .int .i64 u.regs, .slice UA u.l.length uc] 102)).alloc (.cells #[.int .i64 6, .int .i64 a, .int .i64 b, .int .i64 c, .slice NA nl nc] 104)) fun e w' => e = .returned (.bool (wordOk nm)) ∧ (((w.alloc (.cells #[.slice CA C.length cc] 56)).alloc (.cells #[.int .i64 u.params, .int .i64 u.regs, .slice UA u.l.length uc] 102)).alloc (.cells #[.int .i64 6, .int .i64 a, .int .i64 b, .int .i64 c, .slice NA nl nc] 104)) = w') := Lib.hid (by
    have h := specWordOk_c nm NA nc B (((w.alloc (.cells #[.slice CA C.length cc] 56)).alloc (.cells #[.int .i64 u.params, .int .i64 u.regs, .slice UA u.l.length uc] 102)).alloc (.cells #[.int .i64 6, .int .i64 a, .int .i64 b, .int .i64 c, .slice NA nl nc] 104)) (by rw [← Hnl.out]; omega) (((hN.alloc hB _).alloc (by simp; omega) _).alloc (by simp; omega) _)
    rw [← Hnl.out] at h
    exact h)
  have Hreg := Lib.hid (fun n X => (show Calls Tryd.prog 107 #[.int .i64 n, .int .i64 u.regs] X fun e w' => e = .returned (.bool (met 1 C u b n)) ∧ X = w' from l6reg_c n u.regs X))
  have Hreg1 := Lib.hid (fun n X => l6reg_c (n + 1) u.regs X)
  have Hop := Lib.hid (fun n X => l2op_c n X)
  have HC := Lib.hid (hC.below (hb3.mono hB))
  have Hb3 := Lib.hid hb3
  clear hC hb3 hN
  by_cases hz : nl = 0
  · subst hz
    go_enter Tryd.func86, Tryd.ntmps86
    have Hres := Lib.hid (show ordOk C u ⟨6, a, b, c, nm⟩ = false by simp [ordOk_6, met0, met2, met3, met4, met5, met6, met7, ← Hnl.out])
    go_wp2
    go_ret
    exact ⟨by rw [Hres.out]; first | rfl | simp, Hb3.out⟩
  have hz0 : 0 < (nl : Int) := by omega
  have hz1 : 0 < nl := by omega
  have Hz1 := Lib.hid hz1
  clear hz1
  cases hw : wordOk nm
  · rw [hw] at Hw
    go_enter Tryd.func86, Tryd.ntmps86
    go_wp2_with fail
    refine Hw.out.mono ?_
    rintro e w' ⟨rfl, rfl⟩
    have Hres := Lib.hid (show ordOk C u ⟨6, a, b, c, nm⟩ = false by simp [ordOk_6, met0, met2, met3, met4, met5, met6, met7, ← Hnl.out, hw])
    go_wp2
    go_ret
    exact ⟨by rw [Hres.out]; first | rfl | simp, Hb3.out⟩
  rw [hw] at Hw
  have Hww := Lib.hid hw
  clear hw
  go_enter Tryd.func86, Tryd.ntmps86
  go_wp2_with fail
  refine Hw.out.mono ?_
  rintro e w' ⟨rfl, rfl⟩
  go_wp2_with fail
  refine (Hreg.out a _).mono ?_
  rintro e w' ⟨rfl, rfl⟩
  cases h0 : met 1 C u b a
  · have Hres := Lib.hid (show ordOk C u ⟨6, a, b, c, nm⟩ = false by simp [ordOk_6, met0, met2, met3, met4, met5, met6, met7, ← Hnl.out, Hz1.out, Hww.out, h0])
    go_wp2
    go_ret
    exact ⟨by rw [Hres.out]; first | rfl | simp, Hb3.out⟩
  · go_wp2_with fail
    refine (Hreg.out b _).mono ?_
    rintro e w' ⟨rfl, rfl⟩
    cases h1 : met 1 C u b b
    · have Hres := Lib.hid (show ordOk C u ⟨6, a, b, c, nm⟩ = false by simp [ordOk_6, met0, met2, met3, met4, met5, met6, met7, ← Hnl.out, Hz1.out, Hww.out, h0, h1])
      go_wp2
      go_ret
      exact ⟨by rw [Hres.out]; first | rfl | simp, Hb3.out⟩
    · have Hres := Lib.hid (show ordOk C u ⟨6, a, b, c, nm⟩ = decide (c = 0) by simp [ordOk_6, met0, met2, met3, met4, met5, met6, met7, ← Hnl.out, Hz1.out, Hww.out, h0, h1])
      go_wp2
      go_ret
      exact ⟨by rw [Hres.out]; first | rfl | simp, Hb3.out⟩

set_option maxRecDepth 100000 in
set_option maxHeartbeats 8000000 in
theorem ins7_c (hB : B ≤ w.heap.size) (hC : UnL w L B CA C) (hl : u.l.length ≤ 1048576) (hCl : C.length ≤ 1048576) (hr : 1 ≤ u.regs ∧ u.regs ≤ 24) (hN : RB w B NA nm) (hn : nm.length ≤ 1048576) :
    Calls Tryd.prog 86 #[.agg #[.slice CA C.length cc], .agg #[.int .i64 u.params, .int .i64 u.regs, .slice UA u.l.length uc], .agg #[.int .i64 7, .int .i64 a, .int .i64 b, .int .i64 c, .slice NA nm.length nc]] w
      fun e w' => e = .returned (.bool (ordOk C u ⟨7, a, b, c, nm⟩)) ∧ Below w.heap.size w w' := by
  obtain ⟨nl, hnl⟩ : ∃ n, n = nm.length := ⟨_, rfl⟩
  rw [← hnl] at hn
  rw [← hnl]
  have Hnl := Lib.hid hnl
  clear hnl
  have hb3 : Below w.heap.size w (((w.alloc (.cells #[.slice CA C.length cc] 56)).alloc (.cells #[.int .i64 u.params, .int .i64 u.regs, .slice UA u.l.length uc] 102)).alloc (.cells #[.int .i64 7, .int .i64 a, .int .i64 b, .int .i64 c, .slice NA nl nc] 104)) :=
    (((Below.refl _ _).alloc (Nat.le_refl _) _).alloc (by simp) _).alloc (by simp; omega) _
  have Hw : Hid (Calls Tryd.prog 71 #[.slice NA nl nc] (((w.alloc (.cells #[.slice CA C.length cc] 56)).alloc (.cells #[.int .i64 u.params, .int .i64 u.regs, .slice UA u.l.length uc] 102)).alloc (.cells #[.int .i64 7, .int .i64 a, .int .i64 b, .int .i64 c, .slice NA nl nc] 104)) fun e w' => e = .returned (.bool (wordOk nm)) ∧ (((w.alloc (.cells #[.slice CA C.length cc] 56)).alloc (.cells #[.int .i64 u.params, .int .i64 u.regs, .slice UA u.l.length uc] 102)).alloc (.cells #[.int .i64 7, .int .i64 a, .int .i64 b, .int .i64 c, .slice NA nl nc] 104)) = w') := Lib.hid (by
    have h := specWordOk_c nm NA nc B (((w.alloc (.cells #[.slice CA C.length cc] 56)).alloc (.cells #[.int .i64 u.params, .int .i64 u.regs, .slice UA u.l.length uc] 102)).alloc (.cells #[.int .i64 7, .int .i64 a, .int .i64 b, .int .i64 c, .slice NA nl nc] 104)) (by rw [← Hnl.out]; omega) (((hN.alloc hB _).alloc (by simp; omega) _).alloc (by simp; omega) _)
    rw [← Hnl.out] at h
    exact h)
  have Hreg := Lib.hid (fun n X => (show Calls Tryd.prog 107 #[.int .i64 n, .int .i64 u.regs] X fun e w' => e = .returned (.bool (met 1 C u b n)) ∧ X = w' from l6reg_c n u.regs X))
  have Hreg1 := Lib.hid (fun n X => l6reg_c (n + 1) u.regs X)
  have Hop := Lib.hid (fun n X => l2op_c n X)
  have HC := Lib.hid (hC.below (hb3.mono hB))
  have Hb3 := Lib.hid hb3
  clear hC hb3 hN
  by_cases hz : ¬ nl = 0
  · have hz0 : 0 < (nl : Int) := by omega
    have Hz1 := Lib.hid (show 0 < nl by omega)
    go_enter Tryd.func86, Tryd.ntmps86
    have Hres := Lib.hid (show ordOk C u ⟨7, a, b, c, nm⟩ = false by simp [ordOk_7, met0, met2, met3, met4, met5, met6, met7, ← Hnl.out, Hz1.out])
    go_wp2
    go_ret
    exact ⟨by rw [Hres.out]; first | rfl | simp, Hb3.out⟩
  obtain rfl : nl = 0 := Decidable.not_not.1 hz
  clear hz
  cases h0 : met 1 C u b a
  · have hp_ : met 2 C u b a = false := by
      rw [met1] at h0
      rw [met2]
      by_cases hx : 0 ≤ a
      · rw [decide_eq_true hx, Bool.true_and, decide_eq_false_iff_not] at h0
        rw [decide_eq_false (by omega : ¬ a < u.regs - 1)]; simp
      · rw [decide_eq_false hx]; rfl
    have hp_ := Lib.hid hp_
    have H0 := Lib.hid h0
    clear h0
    go_enter Tryd.func86, Tryd.ntmps86
    go_wp2_with fail
    refine (Hreg.out a _).mono ?_
    rintro e w' ⟨rfl, rfl⟩
    rw [H0.out]
    have Hres := Lib.hid (show ordOk C u ⟨7, a, b, c, nm⟩ = false by simp [ordOk_7, met0, met3, met4, met5, met6, met7, ← Hnl.out, hp_.out])
    go_wp2
    go_ret
    exact ⟨by rw [Hres.out]; first | rfl | simp, Hb3.out⟩
  have hab : 0 ≤ a ∧ a < u.regs := by
    rw [met1] at h0
    simpa using h0
  obtain ⟨ha0, ha1⟩ := hab
  have H0 := Lib.hid h0
  clear h0
  have hr1 := hr.2
  go_enter Tryd.func86, Tryd.ntmps86
  go_wp2_with fail
  refine (Hreg.out a _).mono ?_
  rintro e w' ⟨rfl, rfl⟩
  rw [H0.out]
  go_wp2_with fail
  refine (Hreg1.out a _).mono ?_
  rintro e w' ⟨rfl, rfl⟩
  have hm2 : (decide (0 ≤ a + 1) && decide (a + 1 < u.regs)) = met 2 C u b a := by
    rw [met2, decide_eq_true (by omega : 0 ≤ a + 1), decide_eq_true ha0]
    by_cases hx : a + 1 < u.regs
    · rw [decide_eq_true hx, decide_eq_true (by omega : a < u.regs - 1)]
    · rw [decide_eq_false hx, decide_eq_false (by omega : ¬ a < u.regs - 1)]
  rw [hm2]
  clear hm2
  cases h1 : met 2 C u b a
  · have H1 := Lib.hid h1
    clear h1
    have Hres := Lib.hid (show ordOk C u ⟨7, a, b, c, nm⟩ = false by simp [ordOk_7, met0, met3, met4, met5, met6, met7, ← Hnl.out, H1.out])
    go_wp2
    go_ret
    exact ⟨by rw [Hres.out]; first | rfl | simp, Hb3.out⟩
  have H1 := Lib.hid h1
  clear h1
  go_wp2_with fail
  refine (Hreg.out b _).mono ?_
  rintro e w' ⟨rfl, rfl⟩
  cases h2 : met 1 C u b b
  · have Hres := Lib.hid (show ordOk C u ⟨7, a, b, c, nm⟩ = false by simp [ordOk_7, met0, met3, met4, met5, met6, met7, ← Hnl.out, H1.out, h2])
    go_wp2
    go_ret
    exact ⟨by rw [Hres.out]; first | rfl | simp, Hb3.out⟩
  have H2 := Lib.hid h2
  clear h2
  go_wp2_with fail
  refine (Hop.out c _).mono ?_
  rintro e w' ⟨rfl, rfl⟩
  have Hres := Lib.hid (show ordOk C u ⟨7, a, b, c, nm⟩ = isBin c by simp [ordOk_7, met0, met3, met4, met5, met6, met7, ← Hnl.out, H1.out, H2.out])
  go_wp2
  go_ret
  exact ⟨by rw [Hres.out]; first | rfl | simp, Hb3.out⟩
end
end Cod
end Go.Proofs.YtebgigiakfjocaaDoor
