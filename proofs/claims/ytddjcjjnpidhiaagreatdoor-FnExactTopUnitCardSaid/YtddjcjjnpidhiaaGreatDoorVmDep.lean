/-
  Depth and TopUnit: both sides.
-/
import Derived.Test.YtddjcjjnpidhiaaGreatDoorVmS
import Derived.Test.YtddjcjjnpidhiaaGreatDoorVmI
namespace Go.Proofs.YtddjcjjnpidhiaaGreatDoor
open Go.RowKit
set_option linter.unusedVariables false
set_option linter.unusedSimpArgs false

def depthV (m : Ma) : Int := if vmOk m then (m.frames.length : Int) else -1
def topV (m : Ma) : Int := if vmOk m && decide (0 < m.frames.length) then (m.frames.getD (m.frames.length - 1) ⟨0, 0, 0, []⟩).unit else -1

set_option maxRecDepth 100000 in
set_option maxHeartbeats 8000000 in
theorem specDepth_c (m : Ma) (A0 A1 A2 A3 A4 A5 : Option Addr) (c0 c1 c2 c3 c4 c5 L B : Nat) (w : World) (hB : B ≤ w.heap.size) (hl : maSz m ≤ 1048576) (hcap : m.arena.purple.length ≤ c3) (h : MaL w L B A0 A1 A2 A3 A4 A5 m) :
    Calls Tryz.prog 19 #[.agg (maV A0 A1 A2 A3 A4 A5 c0 c1 c2 c3 c4 c5 m)] w fun e w' => e = .returned (.int .i64 (depthV m)) ∧ Below w.heap.size w w' := by
  obtain ⟨co, a, F, lg, tk, st⟩ := m
  have hb0 : Below w.heap.size w (w.alloc (.cells #[.slice A0 co.length c0, .slice A1 a.slots.length c1, .slice A2 a.queue.length c2, .slice A3 a.purple.length c3, .slice A4 F.length c4, .slice A5 lg.length c5, .int .i64 tk, .int .i64 st] 43)) := (Below.refl _ _).alloc (Nat.le_refl _) _
  have HK := Lib.hid (Blk.new w 43 #[.slice A0 co.length c0, .slice A1 a.slots.length c1, .slice A2 a.queue.length c2, .slice A3 a.purple.length c3, .slice A4 F.length c4, .slice A5 lg.length c5, .int .i64 tk, .int .i64 st])
  have hv := VmS.specVmOk_c ⟨co, a, F, lg, tk, st⟩ A0 A1 A2 A3 A4 A5 c0 c1 c2 c3 c4 c5 L B (w.alloc (.cells #[.slice A0 co.length c0, .slice A1 a.slots.length c1, .slice A2 a.queue.length c2, .slice A3 a.purple.length c3, .slice A4 F.length c4, .slice A5 lg.length c5, .int .i64 tk, .int .i64 st] 43)) (Nat.le_trans hB hb0.size) hl hcap (h.below (hb0.mono hB))
  have hlf : frsSz F ≤ 1048576 := by unfold maSz at hl; dsimp only at hl; omega
  have hFl : F.length ≤ 1048576 := by unfold frsSz at hlf; omega
  have H := Lib.hid (show FrL w L B A4 F from h.2.2.1)
  have Hlf := Lib.hid hlf
  have HB := Lib.hid hB
  unfold maV at hv ⊢
  dsimp only at hv ⊢
  have Hb0 := Lib.hid hb0
  have Hv := Lib.hid hv
  clear hb0 hv h hl hlf hB hcap
  go_enter Tryz.func19, Tryz.ntmps19
  go_wp2_with fail
  refine Hv.out.mono ?_
  rintro e w1 ⟨rfl, hb1⟩
  have Hb1 := Lib.hid (Hb0.out.trans (hb1.mono Hb0.out.size))
  have HK1 := Lib.hid (HK.out.below hb1 HK.out.lt)
  have K := HK1.out
  have q0 := K.cel 0 rfl
  have q1 := K.cel 1 rfl
  have q2 := K.cel 2 rfl
  have q3 := K.cel 3 rfl
  have q4 := K.cel 4 rfl
  have q5 := K.cel 5 rfl
  have q6 := K.cel 6 rfl
  have q7 := K.cel 7 rfl
  clear hb1 K Hv HK Hb0
  cases hok : vmOk ⟨co, a, F, lg, tk, st⟩ with
  | false =>
    have Hr := Lib.hid (show depthV ⟨co, a, F, lg, tk, st⟩ = -1 by unfold depthV; rw [hok]; rfl)
    clear hok
    go_wp2
    go_ret
    exact ⟨by rw [Hr.out]; rfl, Hb1.out⟩
  | true =>
    have Hr := Lib.hid (show depthV ⟨co, a, F, lg, tk, st⟩ = (F.length : Int) by unfold depthV; rw [hok]; rfl)
    clear hok
    go_wp2
    go_ret
    exact ⟨by rw [Hr.out]; rfl, Hb1.out⟩

set_option maxRecDepth 100000 in
set_option maxHeartbeats 8000000 in
theorem implDepth_c (m : Ma) (A0 A1 A2 A3 A4 A5 : Option Addr) (c0 c1 c2 c3 c4 c5 L B : Nat) (w : World) (hB : B ≤ w.heap.size) (hl : maSz m ≤ 1048576) (h : MaL w L B A0 A1 A2 A3 A4 A5 m) (hT : Cod.Forms w B) :
    Calls Tryz.prog 20 #[.agg (maV A0 A1 A2 A3 A4 A5 c0 c1 c2 c3 c4 c5 m)] w fun e w' => e = .returned (.int .i64 (depthV m)) ∧ Below w.heap.size w w' := by
  obtain ⟨co, a, F, lg, tk, st⟩ := m
  have hb0 : Below w.heap.size w (w.alloc (.cells #[.slice A0 co.length c0, .slice A1 a.slots.length c1, .slice A2 a.queue.length c2, .slice A3 a.purple.length c3, .slice A4 F.length c4, .slice A5 lg.length c5, .int .i64 tk, .int .i64 st] 43)) := (Below.refl _ _).alloc (Nat.le_refl _) _
  have HK := Lib.hid (Blk.new w 43 #[.slice A0 co.length c0, .slice A1 a.slots.length c1, .slice A2 a.queue.length c2, .slice A3 a.purple.length c3, .slice A4 F.length c4, .slice A5 lg.length c5, .int .i64 tk, .int .i64 st])
  have hv := implVmOk_c ⟨co, a, F, lg, tk, st⟩ A0 A1 A2 A3 A4 A5 c0 c1 c2 c3 c4 c5 L B (w.alloc (.cells #[.slice A0 co.length c0, .slice A1 a.slots.length c1, .slice A2 a.queue.length c2, .slice A3 a.purple.length c3, .slice A4 F.length c4, .slice A5 lg.length c5, .int .i64 tk, .int .i64 st] 43)) (Nat.le_trans hB hb0.size) hl (h.below (hb0.mono hB)) (hT.below (hb0.mono hB))
  have hlf : frsSz F ≤ 1048576 := by unfold maSz at hl; dsimp only at hl; omega
  have hFl : F.length ≤ 1048576 := by unfold frsSz at hlf; omega
  have H := Lib.hid (show FrL w L B A4 F from h.2.2.1)
  have Hlf := Lib.hid hlf
  have HB := Lib.hid hB
  unfold maV at hv ⊢
  dsimp only at hv ⊢
  have Hb0 := Lib.hid hb0
  have Hv := Lib.hid hv
  clear hb0 hv h hl hlf hB hT
  go_enter Tryz.func20, Tryz.ntmps20
  go_wp2_with fail
  refine Hv.out.mono ?_
  rintro e w1 ⟨rfl, hb1⟩
  have Hb1 := Lib.hid (Hb0.out.trans (hb1.mono Hb0.out.size))
  have HK1 := Lib.hid (HK.out.below hb1 HK.out.lt)
  have K := HK1.out
  have q0 := K.cel 0 rfl
  have q1 := K.cel 1 rfl
  have q2 := K.cel 2 rfl
  have q3 := K.cel 3 rfl
  have q4 := K.cel 4 rfl
  have q5 := K.cel 5 rfl
  have q6 := K.cel 6 rfl
  have q7 := K.cel 7 rfl
  clear hb1 K Hv HK Hb0
  cases hok : vmOk ⟨co, a, F, lg, tk, st⟩ with
  | false =>
    have Hr := Lib.hid (show depthV ⟨co, a, F, lg, tk, st⟩ = -1 by unfold depthV; rw [hok]; rfl)
    clear hok
    go_wp2
    go_ret
    exact ⟨by rw [Hr.out]; rfl, Hb1.out⟩
  | true =>
    have Hr := Lib.hid (show depthV ⟨co, a, F, lg, tk, st⟩ = (F.length : Int) by unfold depthV; rw [hok]; rfl)
    clear hok
    go_wp2
    go_ret
    exact ⟨by rw [Hr.out]; rfl, Hb1.out⟩

set_option maxRecDepth 100000 in
set_option maxHeartbeats 8000000 in
theorem specTopUnit_c (m : Ma) (A0 A1 A2 A3 A4 A5 : Option Addr) (c0 c1 c2 c3 c4 c5 L B : Nat) (w : World) (hB : B ≤ w.heap.size) (hl : maSz m ≤ 1048576) (hcap : m.arena.purple.length ≤ c3) (h : MaL w L B A0 A1 A2 A3 A4 A5 m) :
    Calls Tryz.prog 21 #[.agg (maV A0 A1 A2 A3 A4 A5 c0 c1 c2 c3 c4 c5 m)] w fun e w' => e = .returned (.int .i64 (topV m)) ∧ Below w.heap.size w w' := by
  obtain ⟨co, a, F, lg, tk, st⟩ := m
  have hb0 : Below w.heap.size w (w.alloc (.cells #[.slice A0 co.length c0, .slice A1 a.slots.length c1, .slice A2 a.queue.length c2, .slice A3 a.purple.length c3, .slice A4 F.length c4, .slice A5 lg.length c5, .int .i64 tk, .int .i64 st] 43)) := (Below.refl _ _).alloc (Nat.le_refl _) _
  have HK := Lib.hid (Blk.new w 43 #[.slice A0 co.length c0, .slice A1 a.slots.length c1, .slice A2 a.queue.length c2, .slice A3 a.purple.length c3, .slice A4 F.length c4, .slice A5 lg.length c5, .int .i64 tk, .int .i64 st])
  have hv := VmS.specVmOk_c ⟨co, a, F, lg, tk, st⟩ A0 A1 A2 A3 A4 A5 c0 c1 c2 c3 c4 c5 L B (w.alloc (.cells #[.slice A0 co.length c0, .slice A1 a.slots.length c1, .slice A2 a.queue.length c2, .slice A3 a.purple.length c3, .slice A4 F.length c4, .slice A5 lg.length c5, .int .i64 tk, .int .i64 st] 43)) (Nat.le_trans hB hb0.size) hl hcap (h.below (hb0.mono hB))
  have hlf : frsSz F ≤ 1048576 := by unfold maSz at hl; dsimp only at hl; omega
  have hFl : F.length ≤ 1048576 := by unfold frsSz at hlf; omega
  have H := Lib.hid (show FrL w L B A4 F from h.2.2.1)
  have Hlf := Lib.hid hlf
  have HB := Lib.hid hB
  unfold maV at hv ⊢
  dsimp only at hv ⊢
  have Hb0 := Lib.hid hb0
  have Hv := Lib.hid hv
  clear hb0 hv h hl hlf hB hcap
  go_enter Tryz.func21, Tryz.ntmps21
  go_wp2_with fail
  refine Hv.out.mono ?_
  rintro e w1 ⟨rfl, hb1⟩
  have Hb1 := Lib.hid (Hb0.out.trans (hb1.mono Hb0.out.size))
  have HK1 := Lib.hid (HK.out.below hb1 HK.out.lt)
  have K := HK1.out
  have q0 := K.cel 0 rfl
  have q1 := K.cel 1 rfl
  have q2 := K.cel 2 rfl
  have q3 := K.cel 3 rfl
  have q4 := K.cel 4 rfl
  have q5 := K.cel 5 rfl
  have q6 := K.cel 6 rfl
  have q7 := K.cel 7 rfl
  clear hb1 K Hv HK Hb0
  cases hok : vmOk ⟨co, a, F, lg, tk, st⟩ with
  | false =>
    have Hr := Lib.hid (show topV ⟨co, a, F, lg, tk, st⟩ = -1 by unfold topV; rw [hok]; rfl)
    clear hok
    go_wp2
    go_ret
    exact ⟨by rw [Hr.out]; rfl, Hb1.out⟩
  | true =>
    by_cases hF0 : F = []
    · have Hr := Lib.hid (show topV ⟨co, a, F, lg, tk, st⟩ = -1 by unfold topV; rw [hok]; subst hF0; rfl)
      clear hok
      subst hF0
      go_wp2
      go_ret
      exact ⟨by rw [Hr.out]; rfl, Hb1.out⟩
    have hF1 : 0 < F.length := List.length_pos_iff.2 hF0
    obtain ⟨ad, rfl, _, hbk, hat⟩ := (H.out.below (Hb1.out.mono HB.out)).2 hF1
    have Hr := Lib.hid (show topV ⟨co, a, F, lg, tk, st⟩ = (F.getD (F.length - 1) ⟨0, 0, 0, []⟩).unit by unfold topV; rw [hok]; dsimp only; rw [decide_eq_true hF1]; rfl)
    obtain ⟨v0, v1, v2, v3, ⟨d0, d1, d2, d3⟩, rfl, rfl, rfl, D, dc, rfl, hV, hz⟩ := hat (F.length - 1) (by omega)
    rw [getD_at (by omega)] at Hr
    obtain ⟨fk, hfk⟩ : ∃ f, f = F[F.length - 1].unit := ⟨_, rfl⟩
    rw [← hfk] at d0 Hr
    have hF2 : ¬ F.length = 0 := by omega
    clear hat hfk hok d1 d2 d3 hV hz
    obtain ⟨n, hn⟩ : ∃ n, n = F.length := ⟨_, rfl⟩
    rw [← hn] at q4 d0 hF1 hF2 hFl
    rw [← hn]
    have z1 : decide ((n : Int) = 0) = false := decide_eq_false (by omega)
    have z1b : ((n : Int) == 0) = false := by simp; omega
    obtain ⟨j, rfl⟩ : ∃ j, n = j + 1 := ⟨n - 1, by omega⟩
    rw [Nat.add_sub_cancel] at d0
    have z2 : ((j : Int) + 1 == 0) = false := by simp; omega
    have z3 : ¬ ((j : Int) + 1 = 0) := by omega
    have z4 : (j : Int) < (j : Int) + 1 := by omega
    have z5 : (0 : Int) ≤ (j : Int) := by omega
    clear hn hF0
    go_wp2
    go_ret
    exact ⟨by rw [Hr.out]; rfl, Hb1.out⟩

set_option maxRecDepth 100000 in
set_option maxHeartbeats 8000000 in
theorem implTopUnit_c (m : Ma) (A0 A1 A2 A3 A4 A5 : Option Addr) (c0 c1 c2 c3 c4 c5 L B : Nat) (w : World) (hB : B ≤ w.heap.size) (hl : maSz m ≤ 1048576) (h : MaL w L B A0 A1 A2 A3 A4 A5 m) (hT : Cod.Forms w B) :
    Calls Tryz.prog 22 #[.agg (maV A0 A1 A2 A3 A4 A5 c0 c1 c2 c3 c4 c5 m)] w fun e w' => e = .returned (.int .i64 (topV m)) ∧ Below w.heap.size w w' := by
  obtain ⟨co, a, F, lg, tk, st⟩ := m
  have hb0 : Below w.heap.size w (w.alloc (.cells #[.slice A0 co.length c0, .slice A1 a.slots.length c1, .slice A2 a.queue.length c2, .slice A3 a.purple.length c3, .slice A4 F.length c4, .slice A5 lg.length c5, .int .i64 tk, .int .i64 st] 43)) := (Below.refl _ _).alloc (Nat.le_refl _) _
  have HK := Lib.hid (Blk.new w 43 #[.slice A0 co.length c0, .slice A1 a.slots.length c1, .slice A2 a.queue.length c2, .slice A3 a.purple.length c3, .slice A4 F.length c4, .slice A5 lg.length c5, .int .i64 tk, .int .i64 st])
  have hv := implVmOk_c ⟨co, a, F, lg, tk, st⟩ A0 A1 A2 A3 A4 A5 c0 c1 c2 c3 c4 c5 L B (w.alloc (.cells #[.slice A0 co.length c0, .slice A1 a.slots.length c1, .slice A2 a.queue.length c2, .slice A3 a.purple.length c3, .slice A4 F.length c4, .slice A5 lg.length c5, .int .i64 tk, .int .i64 st] 43)) (Nat.le_trans hB hb0.size) hl (h.below (hb0.mono hB)) (hT.below (hb0.mono hB))
  have hlf : frsSz F ≤ 1048576 := by unfold maSz at hl; dsimp only at hl; omega
  have hFl : F.length ≤ 1048576 := by unfold frsSz at hlf; omega
  have H := Lib.hid (show FrL w L B A4 F from h.2.2.1)
  have Hlf := Lib.hid hlf
  have HB := Lib.hid hB
  unfold maV at hv ⊢
  dsimp only at hv ⊢
  have Hb0 := Lib.hid hb0
  have Hv := Lib.hid hv
  clear hb0 hv h hl hlf hB hT
  go_enter Tryz.func22, Tryz.ntmps22
  go_wp2_with fail
  refine Hv.out.mono ?_
  rintro e w1 ⟨rfl, hb1⟩
  have Hb1 := Lib.hid (Hb0.out.trans (hb1.mono Hb0.out.size))
  have HK1 := Lib.hid (HK.out.below hb1 HK.out.lt)
  have K := HK1.out
  have q0 := K.cel 0 rfl
  have q1 := K.cel 1 rfl
  have q2 := K.cel 2 rfl
  have q3 := K.cel 3 rfl
  have q4 := K.cel 4 rfl
  have q5 := K.cel 5 rfl
  have q6 := K.cel 6 rfl
  have q7 := K.cel 7 rfl
  clear hb1 K Hv HK Hb0
  cases hok : vmOk ⟨co, a, F, lg, tk, st⟩ with
  | false =>
    have Hr := Lib.hid (show topV ⟨co, a, F, lg, tk, st⟩ = -1 by unfold topV; rw [hok]; rfl)
    clear hok
    go_wp2
    go_ret
    exact ⟨by rw [Hr.out]; rfl, Hb1.out⟩
  | true =>
    by_cases hF0 : F = []
    · have Hr := Lib.hid (show topV ⟨co, a, F, lg, tk, st⟩ = -1 by unfold topV; rw [hok]; subst hF0; rfl)
      clear hok
      subst hF0
      go_wp2
      go_ret
      exact ⟨by rw [Hr.out]; rfl, Hb1.out⟩
    have hF1 : 0 < F.length := List.length_pos_iff.2 hF0
    obtain ⟨ad, rfl, _, hbk, hat⟩ := (H.out.below (Hb1.out.mono HB.out)).2 hF1
    have Hr := Lib.hid (show topV ⟨co, a, F, lg, tk, st⟩ = (F.getD (F.length - 1) ⟨0, 0, 0, []⟩).unit by unfold topV; rw [hok]; dsimp only; rw [decide_eq_true hF1]; rfl)
    obtain ⟨v0, v1, v2, v3, ⟨d0, d1, d2, d3⟩, rfl, rfl, rfl, D, dc, rfl, hV, hz⟩ := hat (F.length - 1) (by omega)
    rw [getD_at (by omega)] at Hr
    obtain ⟨fk, hfk⟩ : ∃ f, f = F[F.length - 1].unit := ⟨_, rfl⟩
    rw [← hfk] at d0 Hr
    have hF2 : ¬ F.length = 0 := by omega
    clear hat hfk hok d1 d2 d3 hV hz
    obtain ⟨n, hn⟩ : ∃ n, n = F.length := ⟨_, rfl⟩
    rw [← hn] at q4 d0 hF1 hF2 hFl
    rw [← hn]
    have z1 : decide ((n : Int) = 0) = false := decide_eq_false (by omega)
    have z1b : ((n : Int) == 0) = false := by simp; omega
    obtain ⟨j, rfl⟩ : ∃ j, n = j + 1 := ⟨n - 1, by omega⟩
    rw [Nat.add_sub_cancel] at d0
    have z2 : ((j : Int) + 1 == 0) = false := by simp; omega
    have z3 : ¬ ((j : Int) + 1 = 0) := by omega
    have z4 : (j : Int) < (j : Int) + 1 := by omega
    have z5 : (0 : Int) ≤ (j : Int) := by omega
    clear hn hF0
    go_wp2
    go_ret
    exact ⟨by rw [Hr.out]; rfl, Hb1.out⟩

end Go.Proofs.YtddjcjjnpidhiaaGreatDoor
