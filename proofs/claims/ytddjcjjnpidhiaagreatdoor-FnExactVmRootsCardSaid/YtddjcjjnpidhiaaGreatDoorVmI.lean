/-
  The program's VmOk.
-/
import Derived.Test.YtddjcjjnpidhiaaGreatDoorFrmI
import Derived.Test.YtddjcjjnpidhiaaGreatDoorMfrm
import Derived.Test.YtddjcjjnpidhiaaGreatDoorMcnt
import Derived.Test.YtddjcjjnpidhiaaGreatDoorMimplCode
import Derived.Test.YtddjcjjnpidhiaaGreatDoorMcntI
namespace Go.Proofs.YtddjcjjnpidhiaaGreatDoor
open Go.RowKit
set_option linter.unusedVariables false
set_option linter.unusedSimpArgs false

theorem ticksOk_c (n : Int) (w : World) : Calls Tryz.prog 40 #[.int .i64 n] w fun e w' => e = .returned (.bool (decide (0 ≤ n) && decide (n ≤ 2000))) ∧ w' = w := by
  by_cases h : 0 ≤ n
  · by_cases h2 : n ≤ 2000
    · rw [decide_eq_true h, decide_eq_true h2]
      go_enter Tryz.func40, Tryz.ntmps40
      go_wp2
      go_ret
      exact ⟨rfl, rfl⟩
    · rw [decide_eq_false h2]
      have h3 : ¬ n ≤ 2000 := h2
      have h4 : decide (n ≤ 2000) = false := decide_eq_false h2
      go_enter Tryz.func40, Tryz.ntmps40
      go_wp2
      go_ret
      exact ⟨by simp, rfl⟩
  · rw [decide_eq_false h]
    go_enter Tryz.func40, Tryz.ntmps40
    go_wp2
    go_ret
    exact ⟨by simp, rfl⟩

/-- why a machine may not be -/
theorem vmOk_no {m : Ma} (h : Cod.codeOk m.code = false ∨ framesOk m.code m.frames m.state = false ∨ 100000 < m.log.length ∨ (decide (0 ≤ m.ticks) && decide (m.ticks ≤ 2000)) = false ∨ m.state < 0 ∨ 4 < m.state) : vmOk m = false := by
  unfold vmOk
  rcases h with h | h | h | h | h | h
  · rw [h]; rfl
  · rw [h]; simp
  · rw [decide_eq_false (by omega : ¬ (m.log.length : Int) ≤ 100000)]; simp
  · rcases (by simpa using h : 0 ≤ m.ticks → 2000 < m.ticks) with h2
    by_cases h0 : 0 ≤ m.ticks
    · rw [decide_eq_false (by have := h2 h0; omega : ¬ m.ticks ≤ 2000)]; simp
    · rw [decide_eq_false h0]; simp
  · rw [decide_eq_false (by omega : ¬ 0 ≤ m.state)]; simp
  · rw [decide_eq_false (by omega : ¬ m.state ≤ 4)]; simp
theorem vmOk_of {m : Ma} (h0 : Cod.codeOk m.code = true) (h1 : framesOk m.code m.frames m.state = true) (h2 : ¬ 100000 < m.log.length) (h3 : (decide (0 ≤ m.ticks) && decide (m.ticks ≤ 2000)) = true) (h4 : ¬ m.state < 0) (h5 : ¬ 4 < m.state) :
    vmOk m = cntedA m.arena (rootsTo m.frames m.frames.length) := by
  unfold vmOk
  rw [Bool.and_eq_true] at h3
  rw [h0, h1, decide_eq_true (by omega : (m.log.length : Int) ≤ 100000), h3.1, h3.2, decide_eq_true (by omega : 0 ≤ m.state), decide_eq_true (by omega : m.state ≤ 4)]
  simp

set_option maxRecDepth 100000 in
set_option maxHeartbeats 16000000 in
theorem implVmOk_c (m : Ma) (A0 A1 A2 A3 A4 A5 : Option Addr) (c0 c1 c2 c3 c4 c5 L B : Nat) (w : World) (hB : B ≤ w.heap.size) (hl : maSz m ≤ 1048576) (h : MaL w L B A0 A1 A2 A3 A4 A5 m) (hT : Cod.Forms w B) :
    Calls Tryz.prog 11 #[.agg (maV A0 A1 A2 A3 A4 A5 c0 c1 c2 c3 c4 c5 m)] w fun e w' => e = .returned (.bool (vmOk m)) ∧ Below w.heap.size w w' := by
  have Hno := Lib.hid (fun h => vmOk_no (m := m) h)
  have Hof := Lib.hid (fun h0 h1 h2 h3 h4 h5 => vmOk_of (m := m) h0 h1 h2 h3 h4 h5)
  obtain ⟨co, a, F, lg, tk, st⟩ := m
  obtain ⟨hC, hA, hF, hN, hlg⟩ := h
  unfold maSz at hl
  unfold maxLen at hlg
  dsimp only at *
  have hb0 : Below w.heap.size w (w.alloc (.cells #[.slice A0 co.length c0, .slice A1 a.slots.length c1, .slice A2 a.queue.length c2, .slice A3 a.purple.length c3, .slice A4 F.length c4, .slice A5 lg.length c5, .int .i64 tk, .int .i64 st] 43)) := (Below.refl _ _).alloc (Nat.le_refl _) _
  have HK := Lib.hid (Blk.new w 43 #[.slice A0 co.length c0, .slice A1 a.slots.length c1, .slice A2 a.queue.length c2, .slice A3 a.purple.length c3, .slice A4 F.length c4, .slice A5 lg.length c5, .int .i64 tk, .int .i64 st])
  have Hco := Lib.hid (Cod.implCodeOk_c co A0 c0 L B (w.alloc (.cells #[.slice A0 co.length c0, .slice A1 a.slots.length c1, .slice A2 a.queue.length c2, .slice A3 a.purple.length c3, .slice A4 F.length c4, .slice A5 lg.length c5, .int .i64 tk, .int .i64 st] 43)) (Nat.le_trans hB hb0.size) (by omega) (hC.below (hb0.mono hB)) (hT.below (hb0.mono hB)))
  have Hb0 := Lib.hid hb0
  have hfr := fun X (hX : Below w.heap.size w X) => implFramesOk_c ⟨co, a, F, lg, tk, st⟩ A0 A1 A2 A3 A4 A5 c0 c1 c2 c3 c4 c5 L B X (Nat.le_trans hB hX.size) (by dsimp only; omega) (by dsimp only; omega) (hC.below (hX.mono hB)) (hF.below (hX.mono hB))
  have hro := fun X (hX : Below w.heap.size w X) => rootsOf_c F A4 c4 L B X (Nat.le_trans hB hX.size) (by omega) (hF.below (hX.mono hB))
  have hrl := rootsTo_le (F := F) (Nat.le_refl _)
  have hcn := fun (X : World) (hX : Below w.heap.size w X) VA vc LV BV (hV : VlL X LV BV VA (rootsTo F F.length)) (hBV : BV ≤ X.heap.size) =>
    implCounted_c a A1 A2 A3 c1 c2 c3 L B X (rootsTo F F.length) VA vc LV BV (Nat.le_trans hB hX.size) hBV (hA.below (hX.mono hB)) (by omega) hV (by omega)
  unfold maV at hfr ⊢
  dsimp only at hfr ⊢
  have Hfr := Lib.hid hfr
  have Hro := Lib.hid hro
  have Hcn := Lib.hid hcn
  have Hrl : Hid ((rootsTo F F.length).length ≤ maxLen) := Lib.hid (by unfold maxLen; omega)
  clear hb0 hC hA hF hN hT hfr hro hcn hrl hB
  go_enter Tryz.func11, Tryz.ntmps11
  go_wp2_with fail
  refine Hco.out.mono ?_
  rintro e w1 ⟨rfl, hb1⟩
  have Hb1 := Lib.hid (Hb0.out.trans (hb1.mono Hb0.out.size))
  have HK1 := Lib.hid (HK.out.below hb1 HK.out.lt)
  have K := HK1.out
  have q0 := K.cel 0 rfl
  have q1 := K.cel 1 rfl
  have q2 := K.cel 2 rfl
  have q3 := K.cel 3 rfl
  have q4 := K.cel 4 rfl
  have q5 := K.cel 5 rfl
  have q6 := K.cel 6 rfl
  have q7 := K.cel 7 rfl
  clear hb1 K Hco HK Hb0
  cases hco : Cod.codeOk co with
  | false =>
    have Hr := Lib.hid (Hno.out (.inl hco))
    clear Hno Hof hco
    go_wp2
    go_ret
    exact ⟨by rw [Hr.out]; rfl, Hb1.out⟩
  | true =>
  have Hcf := Lib.hid (Hfr.out w1 Hb1.out)
  have Hhco := Lib.hid hco
  clear hco
  go_wp2_with fail
  refine Hcf.out.mono ?_
  rintro e w2 ⟨rfl, hb2⟩
  have Hb2 := Lib.hid (Hb1.out.trans (hb2.mono Hb1.out.size))
  have HK2 := Lib.hid (HK1.out.below hb2 HK1.out.lt)
  clear q0 q1 q2 q3 q4 q5 q6 q7
  have K := HK2.out
  have q0 := K.cel 0 rfl
  have q1 := K.cel 1 rfl
  have q2 := K.cel 2 rfl
  have q3 := K.cel 3 rfl
  have q4 := K.cel 4 rfl
  have q5 := K.cel 5 rfl
  have q6 := K.cel 6 rfl
  have q7 := K.cel 7 rfl
  clear hb2 K Hcf HK1 Hb1 Hfr
  cases hfo : framesOk co F st with
  | false =>
    have Hr := Lib.hid (Hno.out (.inr (.inl hfo)))
    clear Hno Hof hfo
    go_wp2
    go_ret
    exact ⟨by rw [Hr.out]; rfl, Hb2.out⟩
  | true =>
  have Hhfo := Lib.hid hfo
  clear hfo
  by_cases hlog : 100000 < lg.length
  · have Hr := Lib.hid (Hno.out (.inr (.inr (.inl hlog))))
    clear Hno Hof
    go_wp2
    go_ret
    exact ⟨by rw [Hr.out]; rfl, Hb2.out⟩
  have Htk := Lib.hid (ticksOk_c tk w2)
  go_wp2_with fail
  refine Htk.out.mono ?_
  rintro e w3 ⟨rfl, rfl⟩
  clear Htk
  have Hlog := Lib.hid hlog
  obtain ⟨bt, hbt⟩ : ∃ b, b = (decide (0 ≤ tk) && decide (tk ≤ 2000)) := ⟨_, rfl⟩
  rw [← hbt]
  cases bt with
  | false =>
    have Hr := Lib.hid (Hno.out (.inr (.inr (.inr (.inl hbt.symm)))))
    clear Hno Hof hbt
    go_wp2
    go_ret
    exact ⟨by rw [Hr.out]; rfl, Hb2.out⟩
  | true =>
  by_cases hs0 : st < 0
  · have Hr := Lib.hid (Hno.out (.inr (.inr (.inr (.inr (.inl hs0))))))
    clear Hno Hof hbt
    go_wp2
    go_ret
    exact ⟨by rw [Hr.out]; rfl, Hb2.out⟩
  by_cases hs4 : 4 < st
  · have Hr := Lib.hid (Hno.out (.inr (.inr (.inr (.inr (.inr hs4))))))
    clear Hno Hof hbt
    go_wp2
    go_ret
    exact ⟨by rw [Hr.out]; rfl, Hb2.out⟩
  have Hr := Lib.hid (Hof.out Hhco.out Hhfo.out (by omega) hbt.symm (by omega) (by omega))
  clear Hno Hof hbt Hhco Hhfo
  go_wp2_with fail
  go_region_with (first
    | (go_at_call 42; refine (Hro.out _ (blw_drewN Hb2.out _)).mono ?_; rintro e w4 ⟨v4, rfl, hV, hb4⟩; obtain ⟨VA, vc, rfl, hlc⟩ := hV.form; have Hb24 := Lib.hid (show Below w3.heap.size w3 w4 from ⟨hb4.os, hb4.tape, hb4.output, hb4.size, hb4.block⟩); have Hb4 := Lib.hid (Hb2.out.trans (Hb24.out.mono Hb2.out.size)); have K4 := HK2.out.below Hb24.out HK2.out.lt; obtain ⟨q1, q2, q3⟩ : w4.cell? ⟨w.heap.size, 1, none⟩ = some (.slice A1 a.slots.length c1) ∧ w4.cell? ⟨w.heap.size, 2, none⟩ = some (.slice A2 a.queue.length c2) ∧ w4.cell? ⟨w.heap.size, 3, none⟩ = some (.slice A3 a.purple.length c3) := ⟨K4.cel 1 rfl, K4.cel 2 rfl, K4.cel 3 rfl⟩; have Hcn4 := Lib.hid (Hcn.out w4 Hb4.out VA vc _ _ (hV.vl Hrl.out) (Nat.le_refl _)); clear hb4 hV K4 Hcn hlc)
    | (go_at_call 41; refine Hcn4.out.mono ?_; rintro e w5 ⟨rfl, hb5⟩; have Hb5 := Lib.hid (Hb4.out.trans (hb5.mono Hb4.out.size)); clear hb5))
  all_goals
    go_wp2
    go_ret
    exact ⟨by rw [Hr.out]; rfl, Hb5.out⟩
end Go.Proofs.YtddjcjjnpidhiaaGreatDoor
