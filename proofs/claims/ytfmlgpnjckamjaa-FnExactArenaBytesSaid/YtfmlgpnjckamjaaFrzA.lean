/-
  ArenaBytes, both sides.
-/
import Derived.Test.YtfmlgpnjckamjaaFrzI
import Derived.Test.YtfmlgpnjckamjaaFrzS
import Derived.Test.YtfmlgpnjckamjaaImplOk
import Derived.Test.YtfmlgpnjckamjaaSpecArnOk
namespace Go.Proofs.Ytfmlgpnjckamjaa
open Go.RowKit
set_option linter.unusedVariables false
set_option linter.unusedSimpArgs false
namespace Frz
/-- an answer of bytes and whether there are any -/
def AnsTB (w : World) (l : List UInt8) (b : Bool) (e : Ending) (w' : World) : Prop := ∃ A c, e = .returned (.tuple #[.slice A l.length c, .bool b]) ∧ OwnT w' w.heap.size (.slice A l.length c) l ∧ Below w.heap.size w w'
section
variable (S : List Sl) (Q P : List Int) (A0 A1 A2 : Option Addr) (c0 c1 c2 L B : Nat) (W w : World)
set_option maxRecDepth 100000 in
set_option maxHeartbeats 4000000 in
theorem appendArena_c (hW : W.heap.size ≤ w.heap.size) (hBW : B ≤ W.heap.size) (hm : Small ⟨S, Q, P⟩) (h : ArL w L B A0 A1 A2 ⟨S, Q, P⟩) :
    Calls Try.prog 39 #[.slice none 0 0, .agg #[.slice A0 S.length c0, .slice A1 Q.length c1, .slice A2 P.length c2]] w fun e w' => ∃ A c, e = .returned (.slice A (arB ⟨S, Q, P⟩).length c) ∧ OwnT w' W.heap.size (.slice A (arB ⟨S, Q, P⟩).length c) (arB ⟨S, Q, P⟩) ∧ Say W.heap.size w w' := by
  have hms := hm.s
  have hmf := hm.f
  have hmn := hm.n
  have hQ5 := hm.q
  have hP5 := hm.p
  dsimp only at hms hmf hmn hQ5 hP5
  obtain ⟨z0, hz0⟩ : ∃ y, [] ++ (by8 S.length ++ catTo slB S S.length) = y := ⟨_, rfl⟩
  obtain ⟨q1, hq1⟩ : ∃ y, z0 ++ (by8 Q.length ++ catTo by8 Q Q.length) = y := ⟨_, rfl⟩
  obtain ⟨q2, hq2⟩ : ∃ y, q1 ++ (by8 P.length ++ catTo by8 P P.length) = y := ⟨_, rfl⟩
  rw [show arB ⟨S, Q, P⟩ = q2 by unfold arB slsB lstB; rw [← hq2, ← hq1, ← hz0]; simp]
  have hslb := fun k hk => catTo_len (f := slB) (l := S) (fun j hj => slB_len (hmf j hj) (hmn j hj)) k hk
  have hz0l : z0.length ≤ 8 + 30000000 * S.length := by rw [← hz0]; have := hslb S.length (Nat.le_refl _); simp only [List.length_append, List.length_nil, by8_len]; omega
  have hq1l : q1.length ≤ 16 + 30000000 * S.length + 8 * Q.length := by rw [← hq1]; have := lst_len Q (Nat.le_refl _); simp only [List.length_append, by8_len]; omega
  have Hz0 := Lib.hid hz0
  have Hq1 := Lib.hid hq1
  have Hq2 := Lib.hid hq2
  obtain ⟨ga, hga⟩ : ∃ g, g = w.heap.size := ⟨_, rfl⟩
  obtain ⟨w0, hw0⟩ : ∃ x, x = w.alloc (.cells #[.slice A0 S.length c0, .slice A1 Q.length c1, .slice A2 P.length c2] 32) := ⟨_, rfl⟩
  have HKA : Hid (Blk w0 ga 32 #[.slice A0 S.length c0, .slice A1 Q.length c1, .slice A2 P.length c2]) := Lib.hid (by rw [hw0, hga]; exact Blk.new w _ _)
  have Hw0 : Hid (Say W.heap.size w w0) := Lib.hid (hw0 ▸ (Say.refl W.heap.size w).alloc hW _)
  have HA := Lib.hid (h.below (hw0 ▸ (blOne w _).mono (Nat.le_trans hBW hW) : Below B w w0))
  have hs0 : W.heap.size ≤ w0.heap.size := Nat.le_trans hW Hw0.out.size
  have hl1 := listSl_c [] (.slice none 0 0) S A0 c0 L B W.heap.size 140737000000000 w0 hs0 hBW (by omega) HA.out.1 (OwnT.nil _ _) (by simp) (by omega) (fun k hk => by have := hslb k hk; simp; omega) (fun k hk u x v W1 h1 h2 hel hO => by
    obtain ⟨FA, fc, rfl, hF⟩ := hel
    exact appendSlot_c x v S[k].live S[k].gen S[k].count S[k].fs FA fc L W.heap.size W W1 (hmf k hk) (hmn k hk) h1 (Nat.le_refl _) (by omega) hF hO)
  rw [hz0] at hl1
  have Hl1 := Lib.hid hl1
  have HW0 := Lib.hid hw0
  have Hga := Lib.hid hga
  have p0 := HKA.out.cel 0 (v := .slice A0 S.length c0) rfl
  clear hm h hz0 hq1 hq2 hl1 hga hw0 hslb hmf hmn
  go_enter Try.func39, Try.ntmps39
  go_upto_region 2 with fail
  rw [← HW0.out, ← Hga.out]
  clear HW0 Hga
  go_wp2_with fail
  refine Hl1.out.mono ?_
  rintro e w1 ⟨A3, c3, rfl, hO1, hY1⟩
  have hs1 : W.heap.size ≤ w1.heap.size := Nat.le_trans hs0 hY1.size
  have hl2 := listInt_c z0 (.slice A3 z0.length c3) Q A1 c1 L B W.heap.size 140737000000000 w1 hs1 hBW (by omega) (HA.out.2.1.below (hY1.below.mono hBW)) hO1 (by omega) (by omega) (fun k hk => by have := lst_len Q hk; omega) (fun k hk u x v W1 h1 h2 hel hO => by
    obtain rfl : u = .int .i64 Q[k] := hel
    exact appendNumber_c x v Q[k] W.heap.size W1 h1 (by omega) hO)
  rw [Hq1.out] at hl2
  have Hl2 := Lib.hid hl2
  have hK1 := HKA.out.say hY1 (by decide)
  have p1 := hK1.cel 1 (v := .slice A1 Q.length c1) rfl
  have HK1 := Lib.hid hK1
  have HY1 := Lib.hid hY1
  clear hl2 hK1 hO1 hY1 Hl1 p0
  go_wp2_with fail
  refine Hl2.out.mono ?_
  rintro e w2 ⟨A4, c4, rfl, hO2, hY2⟩
  have hs2 : W.heap.size ≤ w2.heap.size := Nat.le_trans hs1 hY2.size
  have hl3 := listInt_c q1 (.slice A4 q1.length c4) P A2 c2 L B W.heap.size 140737000000000 w2 hs2 hBW (by omega) ((HA.out.2.2.below (HY1.out.below.mono hBW)).below (hY2.below.mono hBW)) hO2 (by omega) (by omega) (fun k hk => by have := lst_len P hk; omega) (fun k hk u x v W1 h1 h2 hel hO => by
    obtain rfl : u = .int .i64 P[k] := hel
    exact appendNumber_c x v P[k] W.heap.size W1 h1 (by omega) hO)
  rw [Hq2.out] at hl3
  have Hl3 := Lib.hid hl3
  have hK2 := HK1.out.say hY2 (by decide)
  have p2 := hK2.cel 2 (v := .slice A2 P.length c2) rfl
  have HY2 := Lib.hid (HY1.out.trans hY2)
  clear hl3 hK2 hO2 hY2 Hl2 p1
  go_wp2_with fail
  refine Hl3.out.mono ?_
  rintro e w3 ⟨A5, c5, rfl, hO3, hY3⟩
  have HO3 := Lib.hid hO3
  have HY3 := Lib.hid (Hw0.out.trans (HY2.out.trans hY3))
  clear hO3 hY3 Hl3 p2
  go_wp2
  go_ret
  exact ⟨A5, c5, rfl, HO3.out, HY3.out⟩
end
section
variable (a : Ar) (A0 A1 A2 : Option Addr) (c0 c1 c2 L B : Nat) (w : World)
set_option maxRecDepth 100000 in
set_option maxHeartbeats 4000000 in
theorem implArenaBytes_c (hB : B ≤ w.heap.size) (h : ArL w L B A0 A1 A2 a) (hsz : arSz a ≤ 1050000) :
    Calls Try.prog 12 #[.agg #[.slice A0 a.slots.length c0, .slice A1 a.queue.length c1, .slice A2 a.purple.length c2]] w (AnsTB w (frzB a) (arOk a)) := by
  have hbW := blOne w (.cells #[.slice A0 a.slots.length c0, .slice A1 a.queue.length c1, .slice A2 a.purple.length c2] 32)
  have HR := Lib.hid (implArenaOk_c a A0 A1 A2 c0 c1 c2 L B (w.alloc (.cells #[.slice A0 a.slots.length c0, .slice A1 a.queue.length c1, .slice A2 a.purple.length c2] 32)) (Nat.le_trans hB hbW.size) (h.below (hbW.mono hB)) hsz)
  have HKA := Lib.hid (Blk.new w 32 #[.slice A0 a.slots.length c0, .slice A1 a.queue.length c1, .slice A2 a.purple.length c2])
  have HbW := Lib.hid hbW
  have HA := Lib.hid h
  have Hsz := Lib.hid hsz
  clear hsz h hbW
  go_enter Try.func12, Try.ntmps12
  go_wp2_with fail
  refine HR.out.mono ?_
  rintro e W ⟨rfl, hb⟩
  have Hb := Lib.hid (HbW.out.trans (hb.mono HbW.out.size))
  have hs1 := Hb.out.size
  have hKA := HKA.out.below hb HKA.out.lt
  cases hok : arOk a
  · have Hok := Lib.hid hok
    have E := Lib.hid (show frzB a = [] by unfold frzB; rw [hok]; rfl)
    clear hb HbW HR hok hKA HKA
    go_wp2
    refine bodyPost_ret (v := .tuple #[.slice none 0 0, .bool false]) (by simp [results, Try.results12, go_sem]) rfl ?_
    rw [E.out, Hok.out]
    exact ⟨none, 0, rfl, OwnT.nil _ _, Hb.out⟩
  · have Hok := Lib.hid hok
    have E := Lib.hid (show frzB a = arB a by unfold frzB; rw [hok]; rfl)
    have q0 := hKA.cel 0 (v := .slice A0 a.slots.length c0) rfl
    have q1 := hKA.cel 1 (v := .slice A1 a.queue.length c1) rfl
    have q2 := hKA.cel 2 (v := .slice A2 a.purple.length c2) rfl
    have Hl := Lib.hid (appendArena_c a.slots a.queue a.purple A0 A1 A2 c0 c1 c2 L B W W (Nat.le_refl _) (Nat.le_trans hB hs1) (small_of hok Hsz.out) (HA.out.below (Hb.out.mono hB)))
    clear hb HbW HR hok hKA HKA HA
    go_wp2_with fail
    refine Hl.out.mono ?_
    rintro e w2 ⟨A, c, rfl, hO, hY⟩
    have HO := Lib.hid (hO.less hs1)
    have Hb2 := Lib.hid (Hb.out.trans (hY.below.mono hs1))
    clear hO hY Hl q0 q1 q2
    go_wp2
    refine bodyPost_ret (v := .tuple #[.slice A (arB a).length c, .bool true]) (by simp [results, Try.results12, go_sem]) rfl ?_
    rw [E.out, Hok.out]
    exact ⟨A, c, rfl, HO.out, Hb2.out⟩
set_option maxRecDepth 100000 in
set_option maxHeartbeats 4000000 in
theorem specArenaBytes_c (hB : B ≤ w.heap.size) (h : ArL w L B A0 A1 A2 a) (hsz : arSz a ≤ 1050000) (hcap : a.purple.length ≤ c2) :
    Calls Try.prog 10 #[.agg #[.slice A0 a.slots.length c0, .slice A1 a.queue.length c1, .slice A2 a.purple.length c2]] w (AnsTB w (frzB a) (arOk a)) := by
  have hbW := blOne w (.cells #[.slice A0 a.slots.length c0, .slice A1 a.queue.length c1, .slice A2 a.purple.length c2] 32)
  have hsl : slsSz a.slots ≤ 1050000 := by unfold arSz at hsz; omega
  have hA1 := h.below (hbW.mono hB)
  have HR := Lib.hid (specArenaOk_c a.slots a.queue a.purple A0 A1 A2 c0 c1 c2 L B (w.alloc (.cells #[.slice A0 a.slots.length c0, .slice A1 a.queue.length c1, .slice A2 a.purple.length c2] 32)) (Nat.le_trans hB hbW.size) hsl hcap hA1.1 hA1.2.1 hA1.2.2)
  have HKA := Lib.hid (Blk.new w 32 #[.slice A0 a.slots.length c0, .slice A1 a.queue.length c1, .slice A2 a.purple.length c2])
  have HbW := Lib.hid hbW
  have HA := Lib.hid h
  have Hsz := Lib.hid hsz
  clear hsz h hbW hA1
  go_enter Try.func10, Try.ntmps10
  go_wp2_with fail
  refine HR.out.mono ?_
  rintro e W ⟨rfl, hb⟩
  have Hb := Lib.hid (HbW.out.trans (hb.mono HbW.out.size))
  have hs1 := Hb.out.size
  have hKA := HKA.out.below hb HKA.out.lt
  cases hok : arOk ⟨a.slots, a.queue, a.purple⟩
  · have Hok := Lib.hid (show arOk a = false from hok)
    have E := Lib.hid (show frzB a = [] by unfold frzB; rw [Hok.out]; rfl)
    clear hb HbW HR hok hKA HKA
    go_wp2
    refine bodyPost_ret (v := .tuple #[.slice none 0 0, .bool false]) (by simp [results, Try.results10, go_sem]) rfl ?_
    rw [E.out, Hok.out]
    exact ⟨none, 0, rfl, OwnT.nil _ _, Hb.out⟩
  · have Hok := Lib.hid (show arOk a = true from hok)
    have E := Lib.hid (show frzB a = arB a by unfold frzB; rw [Hok.out]; rfl)
    have q0 := hKA.cel 0 (v := .slice A0 a.slots.length c0) rfl
    have q1 := hKA.cel 1 (v := .slice A1 a.queue.length c1) rfl
    have q2 := hKA.cel 2 (v := .slice A2 a.purple.length c2) rfl
    have hl := l8arena_c a.slots a.queue a.purple A0 A1 A2 c0 c1 c2 L B [] (.slice none 0 0) W W (Nat.le_refl _) (Nat.le_trans hB hs1) (by simp) (small_of Hok.out Hsz.out) (HA.out.below (Hb.out.mono hB)) (OwnT.nil _ _)
    rw [show [] ++ arB ⟨a.slots, a.queue, a.purple⟩ = arB a from rfl] at hl
    have Hl := Lib.hid hl
    clear hb HbW HR hok hKA HKA HA hl
    go_wp2_with fail
    refine Hl.out.mono ?_
    rintro e w2 ⟨A, c, rfl, hO, hY⟩
    have HO := Lib.hid (hO.less hs1)
    have Hb2 := Lib.hid (Hb.out.trans (hY.below.mono hs1))
    clear hO hY Hl q0 q1 q2
    go_wp2
    refine bodyPost_ret (v := .tuple #[.slice A (arB a).length c, .bool true]) (by simp [results, Try.results10, go_sem]) rfl ?_
    rw [E.out, Hok.out]
    exact ⟨A, c, rfl, HO.out, Hb2.out⟩
end
end Frz
end Go.Proofs.Ytfmlgpnjckamjaa
