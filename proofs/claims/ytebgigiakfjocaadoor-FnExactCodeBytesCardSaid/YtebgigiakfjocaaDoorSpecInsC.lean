/-
  The model's check of an order, Op by Op, further.
-/
import Derived.Test.YtebgigiakfjocaaDoorSpecIns
namespace Go.Proofs.YtebgigiakfjocaaDoor
open Go.RowKit
set_option linter.unusedVariables false
set_option linter.unusedSimpArgs false
namespace Cod
section
variable (C : List Un) (u : Un) (a b c : Int) (nm : List UInt8) (CA UA NA : Option Addr) (cc uc nc L B : Nat) (w : World)

set_option maxRecDepth 100000 in
set_option maxHeartbeats 8000000 in
theorem ins8_c (hB : B ≤ w.heap.size) (hC : UnL w L B CA C) (hl : u.l.length ≤ 1048576) (hCl : C.length ≤ 1048576) (hr : 1 ≤ u.regs ∧ u.regs ≤ 24) (hN : RB w B NA nm) (hn : nm.length ≤ 1048576) :
    Calls Tryd.prog 86 #[.agg #[.slice CA C.length cc], .agg #[.int .i64 u.params, .int .i64 u.regs, .slice UA u.l.length uc], .agg #[.int .i64 8, .int .i64 a, .int .i64 b, .int .i64 c, .slice NA nm.length nc]] w
      fun e w' => e = .returned (.bool (ordOk C u ⟨8, a, b, c, nm⟩)) ∧ Below w.heap.size w w' := by
  obtain ⟨nl, hnl⟩ : ∃ n, n = nm.length := ⟨_, rfl⟩
  rw [← hnl] at hn
  rw [← hnl]
  have Hnl := Lib.hid hnl
  clear hnl
  have hb3 : Below w.heap.size w (((w.alloc (.cells #[.slice CA C.length cc] 56)).alloc (.cells #[.int .i64 u.params, .int .i64 u.regs, .slice UA u.l.length uc] 102)).alloc (.cells #[.int .i64 8, .int .i64 a, .int .i64 b, .int .i64 c, .slice NA nl nc] 104)) :=
    (((Below.refl _ _).alloc (Nat.le_refl _) _).alloc (by simp) _).alloc (by simp; omega) _
  have Hw : Hid (Calls Tryd.prog 71 #[.slice NA nl nc] (((w.alloc (.cells #[.slice CA C.length cc] 56)).alloc (.cells #[.int .i64 u.params, .int .i64 u.regs, .slice UA u.l.length uc] 102)).alloc (.cells #[.int .i64 8, .int .i64 a, .int .i64 b, .int .i64 c, .slice NA nl nc] 104)) fun e w' => e = .returned (.bool (wordOk nm)) ∧ (((w.alloc (.cells #[.slice CA C.length cc] 56)).alloc (.cells #[.int .i64 u.params, .int .i64 u.regs, .slice UA u.l.length uc] 102)).alloc (.cells #[.int .i64 8, .int .i64 a, .int .i64 b, .int .i64 c, .slice NA nl nc] 104)) = w') := Lib.hid (by
    have h := specWordOk_c nm NA nc B (((w.alloc (.cells #[.slice CA C.length cc] 56)).alloc (.cells #[.int .i64 u.params, .int .i64 u.regs, .slice UA u.l.length uc] 102)).alloc (.cells #[.int .i64 8, .int .i64 a, .int .i64 b, .int .i64 c, .slice NA nl nc] 104)) (by rw [← Hnl.out]; omega) (((hN.alloc hB _).alloc (by simp; omega) _).alloc (by simp; omega) _)
    rw [← Hnl.out] at h
    exact h)
  have Hreg := Lib.hid (fun n X => (show Calls Tryd.prog 107 #[.int .i64 n, .int .i64 u.regs] X fun e w' => e = .returned (.bool (met 1 C u b n)) ∧ X = w' from l6reg_c n u.regs X))
  have Hreg1 := Lib.hid (fun n X => l6reg_c (n + 1) u.regs X)
  have Hop := Lib.hid (fun n X => l2op_c n X)
  have HC := Lib.hid (hC.below (hb3.mono hB))
  have Hb3 := Lib.hid hb3
  clear hC hb3 hN
  by_cases hz : ¬ nl = 0
  · have hz0 : 0 < (nl : Int) := by omega
    have Hz1 := Lib.hid (show 0 < nl by omega)
    go_enter Tryd.func86, Tryd.ntmps86
    have Hres := Lib.hid (show ordOk C u ⟨8, a, b, c, nm⟩ = false by simp [ordOk_8, met0, met2, met3, met4, met5, met6, met7, ← Hnl.out, Hz1.out])
    go_wp2
    go_ret
    exact ⟨by rw [Hres.out]; first | rfl | simp, Hb3.out⟩
  obtain rfl : nl = 0 := Decidable.not_not.1 hz
  clear hz
  by_cases h0 : 0 ≤ a
  · by_cases h1 : a < (u.l.length : Int)
    · by_cases h2 : b = 0
      · subst h2
        go_enter Tryd.func86, Tryd.ntmps86
        have Hres := Lib.hid (show ordOk C u ⟨8, a, 0, c, nm⟩ = decide (c = 0) by simp [ordOk_8, met0, met2, met3, met4, met5, met6, met7, ← Hnl.out, h0, h1])
        go_wp2
        go_ret
        exact ⟨by rw [Hres.out]; first | rfl | simp, Hb3.out⟩
      · go_enter Tryd.func86, Tryd.ntmps86
        have Hres := Lib.hid (show ordOk C u ⟨8, a, b, c, nm⟩ = false by simp [ordOk_8, met0, met2, met3, met4, met5, met6, met7, ← Hnl.out, h0, h1, h2])
        go_wp2
        go_ret
        exact ⟨by rw [Hres.out]; first | rfl | simp, Hb3.out⟩
    · go_enter Tryd.func86, Tryd.ntmps86
      have Hres := Lib.hid (show ordOk C u ⟨8, a, b, c, nm⟩ = false by simp [ordOk_8, met0, met2, met3, met4, met5, met6, met7, ← Hnl.out, h0, h1])
      go_wp2
      go_ret
      exact ⟨by rw [Hres.out]; first | rfl | simp, Hb3.out⟩
  · go_enter Tryd.func86, Tryd.ntmps86
    have Hres := Lib.hid (show ordOk C u ⟨8, a, b, c, nm⟩ = false by simp [ordOk_8, met0, met2, met3, met4, met5, met6, met7, ← Hnl.out, h0])
    go_wp2
    go_ret
    exact ⟨by rw [Hres.out]; first | rfl | simp, Hb3.out⟩

set_option maxRecDepth 100000 in
set_option maxHeartbeats 8000000 in
theorem ins9_c (hB : B ≤ w.heap.size) (hC : UnL w L B CA C) (hl : u.l.length ≤ 1048576) (hCl : C.length ≤ 1048576) (hr : 1 ≤ u.regs ∧ u.regs ≤ 24) (hN : RB w B NA nm) (hn : nm.length ≤ 1048576) :
    Calls Tryd.prog 86 #[.agg #[.slice CA C.length cc], .agg #[.int .i64 u.params, .int .i64 u.regs, .slice UA u.l.length uc], .agg #[.int .i64 9, .int .i64 a, .int .i64 b, .int .i64 c, .slice NA nm.length nc]] w
      fun e w' => e = .returned (.bool (ordOk C u ⟨9, a, b, c, nm⟩)) ∧ Below w.heap.size w w' := by
  obtain ⟨nl, hnl⟩ : ∃ n, n = nm.length := ⟨_, rfl⟩
  rw [← hnl] at hn
  rw [← hnl]
  have Hnl := Lib.hid hnl
  clear hnl
  have hb3 : Below w.heap.size w (((w.alloc (.cells #[.slice CA C.length cc] 56)).alloc (.cells #[.int .i64 u.params, .int .i64 u.regs, .slice UA u.l.length uc] 102)).alloc (.cells #[.int .i64 9, .int .i64 a, .int .i64 b, .int .i64 c, .slice NA nl nc] 104)) :=
    (((Below.refl _ _).alloc (Nat.le_refl _) _).alloc (by simp) _).alloc (by simp; omega) _
  have Hw : Hid (Calls Tryd.prog 71 #[.slice NA nl nc] (((w.alloc (.cells #[.slice CA C.length cc] 56)).alloc (.cells #[.int .i64 u.params, .int .i64 u.regs, .slice UA u.l.length uc] 102)).alloc (.cells #[.int .i64 9, .int .i64 a, .int .i64 b, .int .i64 c, .slice NA nl nc] 104)) fun e w' => e = .returned (.bool (wordOk nm)) ∧ (((w.alloc (.cells #[.slice CA C.length cc] 56)).alloc (.cells #[.int .i64 u.params, .int .i64 u.regs, .slice UA u.l.length uc] 102)).alloc (.cells #[.int .i64 9, .int .i64 a, .int .i64 b, .int .i64 c, .slice NA nl nc] 104)) = w') := Lib.hid (by
    have h := specWordOk_c nm NA nc B (((w.alloc (.cells #[.slice CA C.length cc] 56)).alloc (.cells #[.int .i64 u.params, .int .i64 u.regs, .slice UA u.l.length uc] 102)).alloc (.cells #[.int .i64 9, .int .i64 a, .int .i64 b, .int .i64 c, .slice NA nl nc] 104)) (by rw [← Hnl.out]; omega) (((hN.alloc hB _).alloc (by simp; omega) _).alloc (by simp; omega) _)
    rw [← Hnl.out] at h
    exact h)
  have Hreg := Lib.hid (fun n X => (show Calls Tryd.prog 107 #[.int .i64 n, .int .i64 u.regs] X fun e w' => e = .returned (.bool (met 1 C u b n)) ∧ X = w' from l6reg_c n u.regs X))
  have Hreg1 := Lib.hid (fun n X => l6reg_c (n + 1) u.regs X)
  have Hop := Lib.hid (fun n X => l2op_c n X)
  have HC := Lib.hid (hC.below (hb3.mono hB))
  have Hb3 := Lib.hid hb3
  clear hC hb3 hN
  by_cases hz : ¬ nl = 0
  · have hz0 : 0 < (nl : Int) := by omega
    have Hz1 := Lib.hid (show 0 < nl by omega)
    go_enter Tryd.func86, Tryd.ntmps86
    have Hres := Lib.hid (show ordOk C u ⟨9, a, b, c, nm⟩ = false by simp [ordOk_9, met0, met2, met3, met4, met5, met6, met7, ← Hnl.out, Hz1.out])
    go_wp2
    go_ret
    exact ⟨by rw [Hres.out]; first | rfl | simp, Hb3.out⟩
  obtain rfl : nl = 0 := Decidable.not_not.1 hz
  clear hz
  go_enter Tryd.func86, Tryd.ntmps86
  go_wp2_with fail
  refine (Hreg.out a _).mono ?_
  rintro e w' ⟨rfl, rfl⟩
  cases h0 : met 1 C u b a
  · have Hres := Lib.hid (show ordOk C u ⟨9, a, b, c, nm⟩ = false by simp [ordOk_9, met0, met2, met3, met4, met5, met6, met7, ← Hnl.out, h0])
    go_wp2
    go_ret
    exact ⟨by rw [Hres.out]; first | rfl | simp, Hb3.out⟩
  · by_cases h1 : 0 ≤ b
    · by_cases h2 : b < (u.l.length : Int)
      · have Hres := Lib.hid (show ordOk C u ⟨9, a, b, c, nm⟩ = decide (c = 0) by simp [ordOk_9, met0, met2, met3, met4, met5, met6, met7, ← Hnl.out, h0, h1, h2])
        go_wp2
        go_ret
        exact ⟨by rw [Hres.out]; first | rfl | simp, Hb3.out⟩
      · have Hres := Lib.hid (show ordOk C u ⟨9, a, b, c, nm⟩ = false by simp [ordOk_9, met0, met2, met3, met4, met5, met6, met7, ← Hnl.out, h0, h1, h2])
        go_wp2
        go_ret
        exact ⟨by rw [Hres.out]; first | rfl | simp, Hb3.out⟩
    · have Hres := Lib.hid (show ordOk C u ⟨9, a, b, c, nm⟩ = false by simp [ordOk_9, met0, met2, met3, met4, met5, met6, met7, ← Hnl.out, h0, h1])
      go_wp2
      go_ret
      exact ⟨by rw [Hres.out]; first | rfl | simp, Hb3.out⟩

set_option maxRecDepth 100000 in
set_option maxHeartbeats 8000000 in
theorem ins10_c (hB : B ≤ w.heap.size) (hC : UnL w L B CA C) (hl : u.l.length ≤ 1048576) (hCl : C.length ≤ 1048576) (hr : 1 ≤ u.regs ∧ u.regs ≤ 24) (hN : RB w B NA nm) (hn : nm.length ≤ 1048576) :
    Calls Tryd.prog 86 #[.agg #[.slice CA C.length cc], .agg #[.int .i64 u.params, .int .i64 u.regs, .slice UA u.l.length uc], .agg #[.int .i64 10, .int .i64 a, .int .i64 b, .int .i64 c, .slice NA nm.length nc]] w
      fun e w' => e = .returned (.bool (ordOk C u ⟨10, a, b, c, nm⟩)) ∧ Below w.heap.size w w' := by
  obtain ⟨nl, hnl⟩ : ∃ n, n = nm.length := ⟨_, rfl⟩
  rw [← hnl] at hn
  rw [← hnl]
  have Hnl := Lib.hid hnl
  clear hnl
  have hb3 : Below w.heap.size w (((w.alloc (.cells #[.slice CA C.length cc] 56)).alloc (.cells #[.int .i64 u.params, .int .i64 u.regs, .slice UA u.l.length uc] 102)).alloc (.cells #[.int .i64 10, .int .i64 a, .int .i64 b, .int .i64 c, .slice NA nl nc] 104)) :=
    (((Below.refl _ _).alloc (Nat.le_refl _) _).alloc (by simp) _).alloc (by simp; omega) _
  have Hw : Hid (Calls Tryd.prog 71 #[.slice NA nl nc] (((w.alloc (.cells #[.slice CA C.length cc] 56)).alloc (.cells #[.int .i64 u.params, .int .i64 u.regs, .slice UA u.l.length uc] 102)).alloc (.cells #[.int .i64 10, .int .i64 a, .int .i64 b, .int .i64 c, .slice NA nl nc] 104)) fun e w' => e = .returned (.bool (wordOk nm)) ∧ (((w.alloc (.cells #[.slice CA C.length cc] 56)).alloc (.cells #[.int .i64 u.params, .int .i64 u.regs, .slice UA u.l.length uc] 102)).alloc (.cells #[.int .i64 10, .int .i64 a, .int .i64 b, .int .i64 c, .slice NA nl nc] 104)) = w') := Lib.hid (by
    have h := specWordOk_c nm NA nc B (((w.alloc (.cells #[.slice CA C.length cc] 56)).alloc (.cells #[.int .i64 u.params, .int .i64 u.regs, .slice UA u.l.length uc] 102)).alloc (.cells #[.int .i64 10, .int .i64 a, .int .i64 b, .int .i64 c, .slice NA nl nc] 104)) (by rw [← Hnl.out]; omega) (((hN.alloc hB _).alloc (by simp; omega) _).alloc (by simp; omega) _)
    rw [← Hnl.out] at h
    exact h)
  have Hreg := Lib.hid (fun n X => (show Calls Tryd.prog 107 #[.int .i64 n, .int .i64 u.regs] X fun e w' => e = .returned (.bool (met 1 C u b n)) ∧ X = w' from l6reg_c n u.regs X))
  have Hreg1 := Lib.hid (fun n X => l6reg_c (n + 1) u.regs X)
  have Hop := Lib.hid (fun n X => l2op_c n X)
  have HC := Lib.hid (hC.below (hb3.mono hB))
  have Hb3 := Lib.hid hb3
  have Hreg10 := Lib.hid (fun (x : Nat) (v : Bool) (h : met 1 C u b a = v) => (show Calls Tryd.prog 107 #[.int .i64 a, .int .i64 u.regs] (World.drewN ((((w.alloc (.cells #[.slice CA C.length cc] 56)).alloc (.cells #[.int .i64 u.params, .int .i64 u.regs, .slice UA u.l.length uc] 102)).alloc (.cells #[.int .i64 10, .int .i64 a, .int .i64 b, .int .i64 c, .slice NA nl nc] 104))) x) fun e w' => e = .returned (.bool v) ∧ ∃ n, w' = World.drewN ((((w.alloc (.cells #[.slice CA C.length cc] 56)).alloc (.cells #[.int .i64 u.params, .int .i64 u.regs, .slice UA u.l.length uc] 102)).alloc (.cells #[.int .i64 10, .int .i64 a, .int .i64 b, .int .i64 c, .slice NA nl nc] 104))) n from (Hreg.out a _).mono (by rintro e w' ⟨rfl, rfl⟩; exact ⟨by rw [h], x, rfl⟩)))
  clear hC hb3 hN
  by_cases hz : ¬ nl = 0
  · have hz0 : 0 < (nl : Int) := by omega
    have Hz1 := Lib.hid (show 0 < nl by omega)
    go_enter Tryd.func86, Tryd.ntmps86
    have Hres := Lib.hid (show ordOk C u ⟨10, a, b, c, nm⟩ = false by simp [ordOk_10, met0, met2, met3, met4, met5, met6, met7, ← Hnl.out, Hz1.out])
    go_wp2
    go_ret
    exact ⟨by rw [Hres.out]; first | rfl | simp, Hb3.out⟩
  obtain rfl : nl = 0 := Decidable.not_not.1 hz
  clear hz
  cases hA : met 1 C u b a
  · have Hres := Lib.hid (show ordOk C u ⟨10, a, b, c, nm⟩ = false by simp [ordOk_10, met0, met2, met3, met4, met5, met6, met7, ← Hnl.out, hA])
    have Ht := Lib.hid (fun x => Hreg10.out x false hA)
    go_enter Tryd.func86, Tryd.ntmps86
    go_wp2
    go_quiet ((go_at_call 107; exact Ht.out _))
    go_wp2
    go_ret
    exact ⟨by rw [Hres.out]; first | rfl | simp, blw_drewN Hb3.out _⟩
  · by_cases h0 : 0 ≤ b
    · by_cases h1 : b < (C.length : Int)
      · by_cases h2 : 0 ≤ c
        · obtain ⟨j, rfl⟩ : ∃ j : Nat, b = j := ⟨b.toNat, by omega⟩
          have hj : j < C.length := by omega
          have hp : pOf C (j : Int) = C[j].params := by unfold pOf; simp [hj]
          obtain ⟨ad, rfl, _, hbk, hat⟩ := HC.out.2 (by omega)
          obtain ⟨x0, x1, x2, ⟨d0, d1, d2⟩, rfl, rfl, XA, xc, rfl, -⟩ := hat j hj
          rw [← hp] at d0
          clear hat hp d1 d2 HC
          have Hres := Lib.hid (show ordOk C u ⟨10, a, (j : Int), c, nm⟩ = decide (c ≤ wrap64 (u.regs - pOf C (j : Int))) by simp [ordOk_10, met0, met2, met3, met4, met5, met6, met7, ← Hnl.out, hA, h0, h1, h2])
          have Ht := Lib.hid (fun x => Hreg10.out x true hA)
          go_enter Tryd.func86, Tryd.ntmps86
          go_wp2
          go_quiet ((go_at_call 107; exact Ht.out _))
          go_wp2
          go_ret
          exact ⟨by rw [Hres.out]; first | rfl | simp, blw_drewN Hb3.out _⟩
        · have hd2 : decide (0 ≤ c) = false := decide_eq_false h2
          have he2 : ¬ (0 ≤ c) := h2
          clear HC
          have Hres := Lib.hid (show ordOk C u ⟨10, a, b, c, nm⟩ = false by simp [ordOk_10, met0, met2, met3, met4, met5, met6, met7, ← Hnl.out, hA, h0, h1, (show decide (0 ≤ c) = false from hd2)])
          have Ht := Lib.hid (fun x => Hreg10.out x true hA)
          go_enter Tryd.func86, Tryd.ntmps86
          go_wp2
          go_quiet ((go_at_call 107; exact Ht.out _))
          go_wp2
          go_ret
          exact ⟨by rw [Hres.out]; first | rfl | simp, blw_drewN Hb3.out _⟩
      · have hd1 : decide (b < (C.length : Int)) = false := decide_eq_false h1
        have he1 : ¬ (b < (C.length : Int)) := h1
        clear HC
        have Hres := Lib.hid (show ordOk C u ⟨10, a, b, c, nm⟩ = false by simp [ordOk_10, met0, met2, met3, met4, met5, met6, met7, ← Hnl.out, hA, h0, (show decide (b < (C.length : Int)) = false from hd1)])
        have Ht := Lib.hid (fun x => Hreg10.out x true hA)
        go_enter Tryd.func86, Tryd.ntmps86
        go_wp2
        go_quiet ((go_at_call 107; exact Ht.out _))
        go_wp2
        go_ret
        exact ⟨by rw [Hres.out]; first | rfl | simp, blw_drewN Hb3.out _⟩
    · have hd0 : decide (0 ≤ b) = false := decide_eq_false h0
      have he0 : ¬ (0 ≤ b) := h0
      clear HC
      have Hres := Lib.hid (show ordOk C u ⟨10, a, b, c, nm⟩ = false by simp [ordOk_10, met0, met2, met3, met4, met5, met6, met7, ← Hnl.out, hA, (show decide (0 ≤ b) = false from hd0)])
      have Ht := Lib.hid (fun x => Hreg10.out x true hA)
      go_enter Tryd.func86, Tryd.ntmps86
      go_wp2
      go_quiet ((go_at_call 107; exact Ht.out _))
      go_wp2
      go_ret
      exact ⟨by rw [Hres.out]; first | rfl | simp, blw_drewN Hb3.out _⟩
end
end Cod
end Go.Proofs.YtebgigiakfjocaaDoor
