/-
  The model's check of an order, Op by Op.
-/
import Derived.Test.YtebgigiakfjocaaDoorCodeD
import Derived.BigQuiet
namespace Go.Proofs.YtebgigiakfjocaaDoor
open Go.RowKit
set_option linter.unusedVariables false
set_option linter.unusedSimpArgs false
namespace Cod

theorem l6reg_c (n r : Int) (w : World) :
    Calls Tryd.prog 107 #[.int .i64 n, .int .i64 r] w fun e w' => e = .returned (.bool (decide (0 ≤ n) && decide (n < r))) ∧ w = w' := by
  by_cases h : 0 ≤ n
  · rw [decide_eq_true h, Bool.true_and]
    go_enter Tryd.func107, Tryd.ntmps107
    go_wp2
    go_ret
    exact ⟨by first | rfl | simp, rfl⟩
  · rw [decide_eq_false h, Bool.false_and]
    go_enter Tryd.func107, Tryd.ntmps107
    go_wp2
    go_ret
    exact ⟨by first | rfl | simp, rfl⟩
theorem sordOk_in (C : List Un) (u : Un) (k : Nat) (hk : (k : Int) < 15) (a b c : Int) (nm : List UInt8) : ordOk C u ⟨k, a, b, c, nm⟩ = ((nmd k == decide (0 < nm.length)) && (!nmd k || wordOk nm) &&
    (met (wA.getD k 0) C u b a && met (wB.getD k 0) C u b b && met (wC.getD k 0) C u b c)) := by
  unfold ordOk
  have h1 : decide ((0 : Int) ≤ (k : Int)) = true := decide_eq_true (by omega)
  have h2 : decide ((k : Int) < 15) = true := decide_eq_true hk
  simp only [h1, h2, Bool.true_and, Int.toNat_natCast]
theorem ordOk_0 (C : List Un) (u : Un) (a b c : Int) (nm : List UInt8) : ordOk C u ⟨0, a, b, c, nm⟩ = ((false == decide (0 < nm.length)) && (!false || wordOk nm) && (met 0 C u b a && met 0 C u b b && met 0 C u b c)) :=
  sordOk_in C u 0 (by decide) a b c nm
theorem ordOk_1 (C : List Un) (u : Un) (a b c : Int) (nm : List UInt8) : ordOk C u ⟨1, a, b, c, nm⟩ = ((false == decide (0 < nm.length)) && (!false || wordOk nm) && (met 1 C u b a && met 4 C u b b && met 0 C u b c)) :=
  sordOk_in C u 1 (by decide) a b c nm
theorem ordOk_2 (C : List Un) (u : Un) (a b c : Int) (nm : List UInt8) : ordOk C u ⟨2, a, b, c, nm⟩ = ((false == decide (0 < nm.length)) && (!false || wordOk nm) && (met 1 C u b a && met 0 C u b b && met 0 C u b c)) :=
  sordOk_in C u 2 (by decide) a b c nm
theorem ordOk_3 (C : List Un) (u : Un) (a b c : Int) (nm : List UInt8) : ordOk C u ⟨3, a, b, c, nm⟩ = ((false == decide (0 < nm.length)) && (!false || wordOk nm) && (met 1 C u b a && met 1 C u b b && met 0 C u b c)) :=
  sordOk_in C u 3 (by decide) a b c nm
theorem ordOk_4 (C : List Un) (u : Un) (a b c : Int) (nm : List UInt8) : ordOk C u ⟨4, a, b, c, nm⟩ = ((false == decide (0 < nm.length)) && (!false || wordOk nm) && (met 1 C u b a && met 0 C u b b && met 0 C u b c)) :=
  sordOk_in C u 4 (by decide) a b c nm
theorem ordOk_5 (C : List Un) (u : Un) (a b c : Int) (nm : List UInt8) : ordOk C u ⟨5, a, b, c, nm⟩ = ((true == decide (0 < nm.length)) && (!true || wordOk nm) && (met 1 C u b a && met 1 C u b b && met 0 C u b c)) :=
  sordOk_in C u 5 (by decide) a b c nm
theorem ordOk_6 (C : List Un) (u : Un) (a b c : Int) (nm : List UInt8) : ordOk C u ⟨6, a, b, c, nm⟩ = ((true == decide (0 < nm.length)) && (!true || wordOk nm) && (met 1 C u b a && met 1 C u b b && met 0 C u b c)) :=
  sordOk_in C u 6 (by decide) a b c nm
theorem ordOk_7 (C : List Un) (u : Un) (a b c : Int) (nm : List UInt8) : ordOk C u ⟨7, a, b, c, nm⟩ = ((false == decide (0 < nm.length)) && (!false || wordOk nm) && (met 2 C u b a && met 1 C u b b && met 5 C u b c)) :=
  sordOk_in C u 7 (by decide) a b c nm
theorem ordOk_8 (C : List Un) (u : Un) (a b c : Int) (nm : List UInt8) : ordOk C u ⟨8, a, b, c, nm⟩ = ((false == decide (0 < nm.length)) && (!false || wordOk nm) && (met 3 C u b a && met 0 C u b b && met 0 C u b c)) :=
  sordOk_in C u 8 (by decide) a b c nm
theorem ordOk_9 (C : List Un) (u : Un) (a b c : Int) (nm : List UInt8) : ordOk C u ⟨9, a, b, c, nm⟩ = ((false == decide (0 < nm.length)) && (!false || wordOk nm) && (met 1 C u b a && met 3 C u b b && met 0 C u b c)) :=
  sordOk_in C u 9 (by decide) a b c nm
theorem ordOk_10 (C : List Un) (u : Un) (a b c : Int) (nm : List UInt8) : ordOk C u ⟨10, a, b, c, nm⟩ = ((false == decide (0 < nm.length)) && (!false || wordOk nm) && (met 1 C u b a && met 6 C u b b && met 7 C u b c)) :=
  sordOk_in C u 10 (by decide) a b c nm
theorem ordOk_11 (C : List Un) (u : Un) (a b c : Int) (nm : List UInt8) : ordOk C u ⟨11, a, b, c, nm⟩ = ((false == decide (0 < nm.length)) && (!false || wordOk nm) && (met 1 C u b a && met 0 C u b b && met 0 C u b c)) :=
  sordOk_in C u 11 (by decide) a b c nm
theorem ordOk_12 (C : List Un) (u : Un) (a b c : Int) (nm : List UInt8) : ordOk C u ⟨12, a, b, c, nm⟩ = ((false == decide (0 < nm.length)) && (!false || wordOk nm) && (met 1 C u b a && met 0 C u b b && met 0 C u b c)) :=
  sordOk_in C u 12 (by decide) a b c nm
theorem ordOk_13 (C : List Un) (u : Un) (a b c : Int) (nm : List UInt8) : ordOk C u ⟨13, a, b, c, nm⟩ = ((false == decide (0 < nm.length)) && (!false || wordOk nm) && (met 1 C u b a && met 1 C u b b && met 0 C u b c)) :=
  sordOk_in C u 13 (by decide) a b c nm
theorem ordOk_14 (C : List Un) (u : Un) (a b c : Int) (nm : List UInt8) : ordOk C u ⟨14, a, b, c, nm⟩ = ((false == decide (0 < nm.length)) && (!false || wordOk nm) && (met 1 C u b a && met 1 C u b b && met 0 C u b c)) :=
  sordOk_in C u 14 (by decide) a b c nm

section
variable (C : List Un) (u : Un) (a b c : Int) (nm : List UInt8) (CA UA NA : Option Addr) (cc uc nc L B : Nat) (w : World)

set_option maxRecDepth 100000 in
set_option maxHeartbeats 8000000 in
theorem ins0_c (hB : B ≤ w.heap.size) (hC : UnL w L B CA C) (hl : u.l.length ≤ 1048576) (hCl : C.length ≤ 1048576) (hr : 1 ≤ u.regs ∧ u.regs ≤ 24) (hN : RB w B NA nm) (hn : nm.length ≤ 1048576) :
    Calls Tryd.prog 86 #[.agg #[.slice CA C.length cc], .agg #[.int .i64 u.params, .int .i64 u.regs, .slice UA u.l.length uc], .agg #[.int .i64 0, .int .i64 a, .int .i64 b, .int .i64 c, .slice NA nm.length nc]] w
      fun e w' => e = .returned (.bool (ordOk C u ⟨0, a, b, c, nm⟩)) ∧ Below w.heap.size w w' := by
  obtain ⟨nl, hnl⟩ : ∃ n, n = nm.length := ⟨_, rfl⟩
  rw [← hnl] at hn
  rw [← hnl]
  have Hnl := Lib.hid hnl
  clear hnl
  have hb3 : Below w.heap.size w (((w.alloc (.cells #[.slice CA C.length cc] 56)).alloc (.cells #[.int .i64 u.params, .int .i64 u.regs, .slice UA u.l.length uc] 102)).alloc (.cells #[.int .i64 0, .int .i64 a, .int .i64 b, .int .i64 c, .slice NA nl nc] 104)) :=
    (((Below.refl _ _).alloc (Nat.le_refl _) _).alloc (by simp) _).alloc (by simp; omega) _
  have Hw : Hid (Calls Tryd.prog 71 #[.slice NA nl nc] (((w.alloc (.cells #[.slice CA C.length cc] 56)).alloc (.cells #[.int .i64 u.params, .int .i64 u.regs, .slice UA u.l.length uc] 102)).alloc (.cells #[.int .i64 0, .int .i64 a, .int .i64 b, .int .i64 c, .slice NA nl nc] 104)) fun e w' => e = .returned (.bool (wordOk nm)) ∧ (((w.alloc (.cells #[.slice CA C.length cc] 56)).alloc (.cells #[.int .i64 u.params, .int .i64 u.regs, .slice UA u.l.length uc] 102)).alloc (.cells #[.int .i64 0, .int .i64 a, .int .i64 b, .int .i64 c, .slice NA nl nc] 104)) = w') := Lib.hid (by
    have h := specWordOk_c nm NA nc B (((w.alloc (.cells #[.slice CA C.length cc] 56)).alloc (.cells #[.int .i64 u.params, .int .i64 u.regs, .slice UA u.l.length uc] 102)).alloc (.cells #[.int .i64 0, .int .i64 a, .int .i64 b, .int .i64 c, .slice NA nl nc] 104)) (by rw [← Hnl.out]; omega) (((hN.alloc hB _).alloc (by simp; omega) _).alloc (by simp; omega) _)
    rw [← Hnl.out] at h
    exact h)
  have Hreg := Lib.hid (fun n X => (show Calls Tryd.prog 107 #[.int .i64 n, .int .i64 u.regs] X fun e w' => e = .returned (.bool (met 1 C u b n)) ∧ X = w' from l6reg_c n u.regs X))
  have Hreg1 := Lib.hid (fun n X => l6reg_c (n + 1) u.regs X)
  have Hop := Lib.hid (fun n X => l2op_c n X)
  have HC := Lib.hid (hC.below (hb3.mono hB))
  have Hb3 := Lib.hid hb3
  clear hC hb3 hN
  by_cases hz : ¬ nl = 0
  · have hz0 : 0 < (nl : Int) := by omega
    have Hz1 := Lib.hid (show 0 < nl by omega)
    go_enter Tryd.func86, Tryd.ntmps86
    have Hres := Lib.hid (show ordOk C u ⟨0, a, b, c, nm⟩ = false by simp [ordOk_0, met0, met2, met3, met4, met5, met6, met7, ← Hnl.out, Hz1.out])
    go_wp2
    go_ret
    exact ⟨by rw [Hres.out]; first | rfl | simp, Hb3.out⟩
  obtain rfl : nl = 0 := Decidable.not_not.1 hz
  clear hz
  by_cases h0 : a = 0
  · subst h0
    by_cases h1 : b = 0
    · subst h1
      go_enter Tryd.func86, Tryd.ntmps86
      have Hres := Lib.hid (show ordOk C u ⟨0, 0, 0, c, nm⟩ = decide (c = 0) by simp [ordOk_0, met0, met2, met3, met4, met5, met6, met7, ← Hnl.out])
      go_wp2
      go_ret
      exact ⟨by rw [Hres.out]; first | rfl | simp, Hb3.out⟩
    · go_enter Tryd.func86, Tryd.ntmps86
      have Hres := Lib.hid (show ordOk C u ⟨0, 0, b, c, nm⟩ = false by simp [ordOk_0, met0, met2, met3, met4, met5, met6, met7, ← Hnl.out, h1])
      go_wp2
      go_ret
      exact ⟨by rw [Hres.out]; first | rfl | simp, Hb3.out⟩
  · go_enter Tryd.func86, Tryd.ntmps86
    have Hres := Lib.hid (show ordOk C u ⟨0, a, b, c, nm⟩ = false by simp [ordOk_0, met0, met2, met3, met4, met5, met6, met7, ← Hnl.out, h0])
    go_wp2
    go_ret
    exact ⟨by rw [Hres.out]; first | rfl | simp, Hb3.out⟩

set_option maxRecDepth 100000 in
set_option maxHeartbeats 8000000 in
theorem ins1_c (hB : B ≤ w.heap.size) (hC : UnL w L B CA C) (hl : u.l.length ≤ 1048576) (hCl : C.length ≤ 1048576) (hr : 1 ≤ u.regs ∧ u.regs ≤ 24) (hN : RB w B NA nm) (hn : nm.length ≤ 1048576) :
    Calls Tryd.prog 86 #[.agg #[.slice CA C.length cc], .agg #[.int .i64 u.params, .int .i64 u.regs, .slice UA u.l.length uc], .agg #[.int .i64 1, .int .i64 a, .int .i64 b, .int .i64 c, .slice NA nm.length nc]] w
      fun e w' => e = .returned (.bool (ordOk C u ⟨1, a, b, c, nm⟩)) ∧ Below w.heap.size w w' := by
  obtain ⟨nl, hnl⟩ : ∃ n, n = nm.length := ⟨_, rfl⟩
  rw [← hnl] at hn
  rw [← hnl]
  have Hnl := Lib.hid hnl
  clear hnl
  have hb3 : Below w.heap.size w (((w.alloc (.cells #[.slice CA C.length cc] 56)).alloc (.cells #[.int .i64 u.params, .int .i64 u.regs, .slice UA u.l.length uc] 102)).alloc (.cells #[.int .i64 1, .int .i64 a, .int .i64 b, .int .i64 c, .slice NA nl nc] 104)) :=
    (((Below.refl _ _).alloc (Nat.le_refl _) _).alloc (by simp) _).alloc (by simp; omega) _
  have Hw : Hid (Calls Tryd.prog 71 #[.slice NA nl nc] (((w.alloc (.cells #[.slice CA C.length cc] 56)).alloc (.cells #[.int .i64 u.params, .int .i64 u.regs, .slice UA u.l.length uc] 102)).alloc (.cells #[.int .i64 1, .int .i64 a, .int .i64 b, .int .i64 c, .slice NA nl nc] 104)) fun e w' => e = .returned (.bool (wordOk nm)) ∧ (((w.alloc (.cells #[.slice CA C.length cc] 56)).alloc (.cells #[.int .i64 u.params, .int .i64 u.regs, .slice UA u.l.length uc] 102)).alloc (.cells #[.int .i64 1, .int .i64 a, .int .i64 b, .int .i64 c, .slice NA nl nc] 104)) = w') := Lib.hid (by
    have h := specWordOk_c nm NA nc B (((w.alloc (.cells #[.slice CA C.length cc] 56)).alloc (.cells #[.int .i64 u.params, .int .i64 u.regs, .slice UA u.l.length uc] 102)).alloc (.cells #[.int .i64 1, .int .i64 a, .int .i64 b, .int .i64 c, .slice NA nl nc] 104)) (by rw [← Hnl.out]; omega) (((hN.alloc hB _).alloc (by simp; omega) _).alloc (by simp; omega) _)
    rw [← Hnl.out] at h
    exact h)
  have Hreg := Lib.hid (fun n X => (show Calls Tryd.prog 107 #[.int .i64 n, .int .i64 u.regs] X fun e w' => e = .returned (.bool (met 1 C u b n)) ∧ X = w' from l6reg_c n u.regs X))
  have Hreg1 := Lib.hid (fun n X => l6reg_c (n + 1) u.regs X)
  have Hop := Lib.hid (fun n X => l2op_c n X)
  have HC := Lib.hid (hC.below (hb3.mono hB))
  have Hb3 := Lib.hid hb3
  clear hC hb3 hN
  by_cases hz : ¬ nl = 0
  · have hz0 : 0 < (nl : Int) := by omega
    have Hz1 := Lib.hid (show 0 < nl by omega)
    go_enter Tryd.func86, Tryd.ntmps86
    have Hres := Lib.hid (show ordOk C u ⟨1, a, b, c, nm⟩ = false by simp [ordOk_1, met0, met2, met3, met4, met5, met6, met7, ← Hnl.out, Hz1.out])
    go_wp2
    go_ret
    exact ⟨by rw [Hres.out]; first | rfl | simp, Hb3.out⟩
  obtain rfl : nl = 0 := Decidable.not_not.1 hz
  clear hz
  go_enter Tryd.func86, Tryd.ntmps86
  go_wp2_with fail
  refine (Hreg.out a _).mono ?_
  rintro e w' ⟨rfl, rfl⟩
  cases h0 : met 1 C u b a
  · have Hres := Lib.hid (show ordOk C u ⟨1, a, b, c, nm⟩ = false by simp [ordOk_1, met0, met2, met3, met4, met5, met6, met7, ← Hnl.out, h0])
    go_wp2
    go_ret
    exact ⟨by rw [Hres.out]; first | rfl | simp, Hb3.out⟩
  · by_cases h1 : 0 ≤ b
    · by_cases h2 : b ≤ 999999
      · have Hres := Lib.hid (show ordOk C u ⟨1, a, b, c, nm⟩ = decide (c = 0) by simp [ordOk_1, met0, met2, met3, met4, met5, met6, met7, ← Hnl.out, h0, h1, h2])
        go_wp2
        go_ret
        exact ⟨by rw [Hres.out]; first | rfl | simp, Hb3.out⟩
      · have Hres := Lib.hid (show ordOk C u ⟨1, a, b, c, nm⟩ = false by simp [ordOk_1, met0, met2, met3, met4, met5, met6, met7, ← Hnl.out, h0, h1, h2])
        go_wp2
        go_ret
        exact ⟨by rw [Hres.out]; first | rfl | simp, Hb3.out⟩
    · have Hres := Lib.hid (show ordOk C u ⟨1, a, b, c, nm⟩ = false by simp [ordOk_1, met0, met2, met3, met4, met5, met6, met7, ← Hnl.out, h0, h1])
      go_wp2
      go_ret
      exact ⟨by rw [Hres.out]; first | rfl | simp, Hb3.out⟩

set_option maxRecDepth 100000 in
set_option maxHeartbeats 8000000 in
theorem ins2_c (hB : B ≤ w.heap.size) (hC : UnL w L B CA C) (hl : u.l.length ≤ 1048576) (hCl : C.length ≤ 1048576) (hr : 1 ≤ u.regs ∧ u.regs ≤ 24) (hN : RB w B NA nm) (hn : nm.length ≤ 1048576) :
    Calls Tryd.prog 86 #[.agg #[.slice CA C.length cc], .agg #[.int .i64 u.params, .int .i64 u.regs, .slice UA u.l.length uc], .agg #[.int .i64 2, .int .i64 a, .int .i64 b, .int .i64 c, .slice NA nm.length nc]] w
      fun e w' => e = .returned (.bool (ordOk C u ⟨2, a, b, c, nm⟩)) ∧ Below w.heap.size w w' := by
  obtain ⟨nl, hnl⟩ : ∃ n, n = nm.length := ⟨_, rfl⟩
  rw [← hnl] at hn
  rw [← hnl]
  have Hnl := Lib.hid hnl
  clear hnl
  have hb3 : Below w.heap.size w (((w.alloc (.cells #[.slice CA C.length cc] 56)).alloc (.cells #[.int .i64 u.params, .int .i64 u.regs, .slice UA u.l.length uc] 102)).alloc (.cells #[.int .i64 2, .int .i64 a, .int .i64 b, .int .i64 c, .slice NA nl nc] 104)) :=
    (((Below.refl _ _).alloc (Nat.le_refl _) _).alloc (by simp) _).alloc (by simp; omega) _
  have Hw : Hid (Calls Tryd.prog 71 #[.slice NA nl nc] (((w.alloc (.cells #[.slice CA C.length cc] 56)).alloc (.cells #[.int .i64 u.params, .int .i64 u.regs, .slice UA u.l.length uc] 102)).alloc (.cells #[.int .i64 2, .int .i64 a, .int .i64 b, .int .i64 c, .slice NA nl nc] 104)) fun e w' => e = .returned (.bool (wordOk nm)) ∧ (((w.alloc (.cells #[.slice CA C.length cc] 56)).alloc (.cells #[.int .i64 u.params, .int .i64 u.regs, .slice UA u.l.length uc] 102)).alloc (.cells #[.int .i64 2, .int .i64 a, .int .i64 b, .int .i64 c, .slice NA nl nc] 104)) = w') := Lib.hid (by
    have h := specWordOk_c nm NA nc B (((w.alloc (.cells #[.slice CA C.length cc] 56)).alloc (.cells #[.int .i64 u.params, .int .i64 u.regs, .slice UA u.l.length uc] 102)).alloc (.cells #[.int .i64 2, .int .i64 a, .int .i64 b, .int .i64 c, .slice NA nl nc] 104)) (by rw [← Hnl.out]; omega) (((hN.alloc hB _).alloc (by simp; omega) _).alloc (by simp; omega) _)
    rw [← Hnl.out] at h
    exact h)
  have Hreg := Lib.hid (fun n X => (show Calls Tryd.prog 107 #[.int .i64 n, .int .i64 u.regs] X fun e w' => e = .returned (.bool (met 1 C u b n)) ∧ X = w' from l6reg_c n u.regs X))
  have Hreg1 := Lib.hid (fun n X => l6reg_c (n + 1) u.regs X)
  have Hop := Lib.hid (fun n X => l2op_c n X)
  have HC := Lib.hid (hC.below (hb3.mono hB))
  have Hb3 := Lib.hid hb3
  clear hC hb3 hN
  by_cases hz : ¬ nl = 0
  · have hz0 : 0 < (nl : Int) := by omega
    have Hz1 := Lib.hid (show 0 < nl by omega)
    go_enter Tryd.func86, Tryd.ntmps86
    have Hres := Lib.hid (show ordOk C u ⟨2, a, b, c, nm⟩ = false by simp [ordOk_2, met0, met2, met3, met4, met5, met6, met7, ← Hnl.out, Hz1.out])
    go_wp2
    go_ret
    exact ⟨by rw [Hres.out]; first | rfl | simp, Hb3.out⟩
  obtain rfl : nl = 0 := Decidable.not_not.1 hz
  clear hz
  go_enter Tryd.func86, Tryd.ntmps86
  go_wp2_with fail
  refine (Hreg.out a _).mono ?_
  rintro e w' ⟨rfl, rfl⟩
  cases h0 : met 1 C u b a
  · have Hres := Lib.hid (show ordOk C u ⟨2, a, b, c, nm⟩ = false by simp [ordOk_2, met0, met2, met3, met4, met5, met6, met7, ← Hnl.out, h0])
    go_wp2
    go_ret
    exact ⟨by rw [Hres.out]; first | rfl | simp, Hb3.out⟩
  · by_cases h1 : b = 0
    · subst h1
      have Hres := Lib.hid (show ordOk C u ⟨2, a, 0, c, nm⟩ = decide (c = 0) by simp [ordOk_2, met0, met2, met3, met4, met5, met6, met7, ← Hnl.out, h0])
      go_wp2
      go_ret
      exact ⟨by rw [Hres.out]; first | rfl | simp, Hb3.out⟩
    · have Hres := Lib.hid (show ordOk C u ⟨2, a, b, c, nm⟩ = false by simp [ordOk_2, met0, met2, met3, met4, met5, met6, met7, ← Hnl.out, h0, h1])
      go_wp2
      go_ret
      exact ⟨by rw [Hres.out]; first | rfl | simp, Hb3.out⟩

set_option maxRecDepth 100000 in
set_option maxHeartbeats 8000000 in
theorem ins3_c (hB : B ≤ w.heap.size) (hC : UnL w L B CA C) (hl : u.l.length ≤ 1048576) (hCl : C.length ≤ 1048576) (hr : 1 ≤ u.regs ∧ u.regs ≤ 24) (hN : RB w B NA nm) (hn : nm.length ≤ 1048576) :
    Calls Tryd.prog 86 #[.agg #[.slice CA C.length cc], .agg #[.int .i64 u.params, .int .i64 u.regs, .slice UA u.l.length uc], .agg #[.int .i64 3, .int .i64 a, .int .i64 b, .int .i64 c, .slice NA nm.length nc]] w
      fun e w' => e = .returned (.bool (ordOk C u ⟨3, a, b, c, nm⟩)) ∧ Below w.heap.size w w' := by
  obtain ⟨nl, hnl⟩ : ∃ n, n = nm.length := ⟨_, rfl⟩
  rw [← hnl] at hn
  rw [← hnl]
  have Hnl := Lib.hid hnl
  clear hnl
  have hb3 : Below w.heap.size w (((w.alloc (.cells #[.slice CA C.length cc] 56)).alloc (.cells #[.int .i64 u.params, .int .i64 u.regs, .slice UA u.l.length uc] 102)).alloc (.cells #[.int .i64 3, .int .i64 a, .int .i64 b, .int .i64 c, .slice NA nl nc] 104)) :=
    (((Below.refl _ _).alloc (Nat.le_refl _) _).alloc (by simp) _).alloc (by simp; omega) _
  have Hw : Hid (Calls Tryd.prog 71 #[.slice NA nl nc] (((w.alloc (.cells #[.slice CA C.length cc] 56)).alloc (.cells #[.int .i64 u.params, .int .i64 u.regs, .slice UA u.l.length uc] 102)).alloc (.cells #[.int .i64 3, .int .i64 a, .int .i64 b, .int .i64 c, .slice NA nl nc] 104)) fun e w' => e = .returned (.bool (wordOk nm)) ∧ (((w.alloc (.cells #[.slice CA C.length cc] 56)).alloc (.cells #[.int .i64 u.params, .int .i64 u.regs, .slice UA u.l.length uc] 102)).alloc (.cells #[.int .i64 3, .int .i64 a, .int .i64 b, .int .i64 c, .slice NA nl nc] 104)) = w') := Lib.hid (by
    have h := specWordOk_c nm NA nc B (((w.alloc (.cells #[.slice CA C.length cc] 56)).alloc (.cells #[.int .i64 u.params, .int .i64 u.regs, .slice UA u.l.length uc] 102)).alloc (.cells #[.int .i64 3, .int .i64 a, .int .i64 b, .int .i64 c, .slice NA nl nc] 104)) (by rw [← Hnl.out]; omega) (((hN.alloc hB _).alloc (by simp; omega) _).alloc (by simp; omega) _)
    rw [← Hnl.out] at h
    exact h)
  have Hreg := Lib.hid (fun n X => (show Calls Tryd.prog 107 #[.int .i64 n, .int .i64 u.regs] X fun e w' => e = .returned (.bool (met 1 C u b n)) ∧ X = w' from l6reg_c n u.regs X))
  have Hreg1 := Lib.hid (fun n X => l6reg_c (n + 1) u.regs X)
  have Hop := Lib.hid (fun n X => l2op_c n X)
  have HC := Lib.hid (hC.below (hb3.mono hB))
  have Hb3 := Lib.hid hb3
  clear hC hb3 hN
  by_cases hz : ¬ nl = 0
  · have hz0 : 0 < (nl : Int) := by omega
    have Hz1 := Lib.hid (show 0 < nl by omega)
    go_enter Tryd.func86, Tryd.ntmps86
    have Hres := Lib.hid (show ordOk C u ⟨3, a, b, c, nm⟩ = false by simp [ordOk_3, met0, met2, met3, met4, met5, met6, met7, ← Hnl.out, Hz1.out])
    go_wp2
    go_ret
    exact ⟨by rw [Hres.out]; first | rfl | simp, Hb3.out⟩
  obtain rfl : nl = 0 := Decidable.not_not.1 hz
  clear hz
  go_enter Tryd.func86, Tryd.ntmps86
  go_wp2_with fail
  refine (Hreg.out a _).mono ?_
  rintro e w' ⟨rfl, rfl⟩
  cases h0 : met 1 C u b a
  · have Hres := Lib.hid (show ordOk C u ⟨3, a, b, c, nm⟩ = false by simp [ordOk_3, met0, met2, met3, met4, met5, met6, met7, ← Hnl.out, h0])
    go_wp2
    go_ret
    exact ⟨by rw [Hres.out]; first | rfl | simp, Hb3.out⟩
  · go_wp2_with fail
    refine (Hreg.out b _).mono ?_
    rintro e w' ⟨rfl, rfl⟩
    cases h1 : met 1 C u b b
    · have Hres := Lib.hid (show ordOk C u ⟨3, a, b, c, nm⟩ = false by simp [ordOk_3, met0, met2, met3, met4, met5, met6, met7, ← Hnl.out, h0, h1])
      go_wp2
      go_ret
      exact ⟨by rw [Hres.out]; first | rfl | simp, Hb3.out⟩
    · have Hres := Lib.hid (show ordOk C u ⟨3, a, b, c, nm⟩ = decide (c = 0) by simp [ordOk_3, met0, met2, met3, met4, met5, met6, met7, ← Hnl.out, h0, h1])
      go_wp2
      go_ret
      exact ⟨by rw [Hres.out]; first | rfl | simp, Hb3.out⟩
end
end Cod
end Go.Proofs.YtebgigiakfjocaaDoor
