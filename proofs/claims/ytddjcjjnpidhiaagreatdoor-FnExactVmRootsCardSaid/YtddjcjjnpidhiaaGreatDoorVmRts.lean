/-
  VmRoots: both sides.
-/
import Derived.Test.YtddjcjjnpidhiaaGreatDoorVmS
import Derived.Test.YtddjcjjnpidhiaaGreatDoorVmI
import Derived.Test.YtddjcjjnpidhiaaGreatDoorOwnV
namespace Go.Proofs.YtddjcjjnpidhiaaGreatDoor
open Go.RowKit
set_option linter.unusedVariables false
set_option linter.unusedSimpArgs false

def vmRootsV (m : Ma) : List Vl := if vmOk m then rootsTo m.frames m.frames.length else []
theorem vmRootsV_le {m : Ma} (h : maSz m ≤ 1048576) : (vmRootsV m).length ≤ 1048576 := by
  unfold vmRootsV
  have := rootsTo_le (F := m.frames) (Nat.le_refl _)
  unfold maSz at h
  split
  · omega
  · simp
/-- an answer: a row of values of its own -/
def AnsV (w : World) (l : List Vl) (e : Ending) (w' : World) : Prop := ∃ A c, e = .returned (.slice A l.length c) ∧ OwnV w' w.heap.size A l.length (gV l) ∧ Below w.heap.size w w'
theorem OwnV.vlr {w : World} {lo : Nat} {A : Option Addr} {l : List Vl} (h : OwnV w lo A l.length (gV l)) (hm : l.length ≤ maxLen) : VlR w lo w.heap.size A l := by
  refine ⟨hm, fun hn => ?_⟩
  obtain ⟨g, cs, e, hB, hl, hc, hat⟩ := h hn
  refine ⟨_, e, hl, hB.lt, fun k hk => ?_⟩
  obtain ⟨b0, b1, b2⟩ := vv_get l k hk
  have a0 := gV_at l (k * 3) (by omega)
  have a1 := gV_at l (k * 3 + 1) (by omega)
  have a2 := gV_at l (k * 3 + 2) (by omega)
  rw [b0] at a0
  rw [b1] at a1
  rw [b2] at a2
  refine ⟨_, _, _, ⟨?_, ?_, ?_⟩, rfl, rfl, rfl⟩
  · rw [add_zero_, hB.cell, hat _ (by omega), a0]
  · rw [add_zero_]
    show w.cell? ⟨g, k * 3 + 1, none⟩ = _
    rw [hB.cell, hat _ (by omega), a1]
  · rw [add_zero_]
    show w.cell? ⟨g, k * 3 + 2, none⟩ = _
    rw [hB.cell, hat _ (by omega), a2]

set_option maxRecDepth 100000 in
set_option maxHeartbeats 8000000 in
theorem specVmRoots_c (m : Ma) (A0 A1 A2 A3 A4 A5 : Option Addr) (c0 c1 c2 c3 c4 c5 L B : Nat) (w : World) (hB : B ≤ w.heap.size) (hl : maSz m ≤ 1048576) (hcap : m.arena.purple.length ≤ c3) (h : MaL w L B A0 A1 A2 A3 A4 A5 m) :
    Calls Tryz.prog 13 #[.agg (maV A0 A1 A2 A3 A4 A5 c0 c1 c2 c3 c4 c5 m)] w (AnsV w (vmRootsV m)) := by
  obtain ⟨co, a, F, lg, tk, st⟩ := m
  have hb0 : Below w.heap.size w (w.alloc (.cells #[.slice A0 co.length c0, .slice A1 a.slots.length c1, .slice A2 a.queue.length c2, .slice A3 a.purple.length c3, .slice A4 F.length c4, .slice A5 lg.length c5, .int .i64 tk, .int .i64 st] 43)) := (Below.refl _ _).alloc (Nat.le_refl _) _
  have HK := Lib.hid (Blk.new w 43 #[.slice A0 co.length c0, .slice A1 a.slots.length c1, .slice A2 a.queue.length c2, .slice A3 a.purple.length c3, .slice A4 F.length c4, .slice A5 lg.length c5, .int .i64 tk, .int .i64 st])
  have hv := VmS.specVmOk_c ⟨co, a, F, lg, tk, st⟩ A0 A1 A2 A3 A4 A5 c0 c1 c2 c3 c4 c5 L B (w.alloc (.cells #[.slice A0 co.length c0, .slice A1 a.slots.length c1, .slice A2 a.queue.length c2, .slice A3 a.purple.length c3, .slice A4 F.length c4, .slice A5 lg.length c5, .int .i64 tk, .int .i64 st] 43)) (Nat.le_trans hB hb0.size) hl hcap (h.below (hb0.mono hB))
  have hlf : frsSz F ≤ 1048576 := by unfold maSz at hl; dsimp only at hl; omega
  have hFl : F.length ≤ 1048576 := by unfold frsSz at hlf; omega
  have H := Lib.hid (show FrL w L B A4 F from h.2.2.1)
  have Hlf := Lib.hid hlf
  have HB := Lib.hid hB
  unfold maV at hv ⊢
  dsimp only at hv ⊢
  have Hb0 := Lib.hid hb0
  have Hv := Lib.hid hv
  have hro := fun X (hX : Below w.heap.size w X) => l7roots_c ⟨co, a, F, lg, tk, st⟩ A0 A1 A2 A3 A4 A5 c0 c1 c2 c3 c4 c5 L B X (Nat.le_trans hB hX.size) hlf (h.2.2.1.below (hX.mono hB))
  unfold maV at hro
  dsimp only at hro
  have Hro := Lib.hid hro
  clear hb0 hv h hl hlf hB hcap hro
  go_enter Tryz.func13, Tryz.ntmps13
  go_wp2_with fail
  refine Hv.out.mono ?_
  rintro e w1 ⟨rfl, hb1⟩
  have Hb1 := Lib.hid (Hb0.out.trans (hb1.mono Hb0.out.size))
  have HK1 := Lib.hid (HK.out.below hb1 HK.out.lt)
  have K := HK1.out
  have q0 := K.cel 0 rfl
  have q1 := K.cel 1 rfl
  have q2 := K.cel 2 rfl
  have q3 := K.cel 3 rfl
  have q4 := K.cel 4 rfl
  have q5 := K.cel 5 rfl
  have q6 := K.cel 6 rfl
  have q7 := K.cel 7 rfl
  clear hb1 K Hv HK Hb0
  cases hok : vmOk ⟨co, a, F, lg, tk, st⟩ with
  | false =>
    have Hr := Lib.hid (show vmRootsV ⟨co, a, F, lg, tk, st⟩ = [] by unfold vmRootsV; rw [hok]; rfl)
    clear hok
    go_wp2
    go_ret
    exact ⟨none, 0, by rw [Hr.out]; rfl, by rw [Hr.out]; exact fun h => absurd h (by simp), Hb1.out⟩
  | true =>
    have Hr := Lib.hid (show vmRootsV ⟨co, a, F, lg, tk, st⟩ = rootsTo F F.length by unfold vmRootsV; rw [hok]; rfl)
    have Hro1 := Lib.hid (Hro.out w1 Hb1.out)
    clear hok Hro
    go_wp2_with fail
    refine Hro1.out.mono ?_
    rintro e w2 ⟨v2, rfl, hV, hb2⟩
    obtain ⟨VA, vc, rfl, hlc⟩ := hV.form
    have Hb2 := Lib.hid (Hb1.out.trans (hb2.mono Hb1.out.size))
    have HV := Lib.hid (hV.own.lo_le Hb1.out.size)
    clear hV hb2 hlc Hro1
    go_wp2
    go_ret
    exact ⟨VA, vc, by rw [Hr.out]; rfl, by rw [Hr.out]; exact HV.out, Hb2.out⟩

set_option maxRecDepth 100000 in
set_option maxHeartbeats 8000000 in
theorem implVmRoots_c (m : Ma) (A0 A1 A2 A3 A4 A5 : Option Addr) (c0 c1 c2 c3 c4 c5 L B : Nat) (w : World) (hB : B ≤ w.heap.size) (hl : maSz m ≤ 1048576) (h : MaL w L B A0 A1 A2 A3 A4 A5 m) (hT : Cod.Forms w B) :
    Calls Tryz.prog 14 #[.agg (maV A0 A1 A2 A3 A4 A5 c0 c1 c2 c3 c4 c5 m)] w (AnsV w (vmRootsV m)) := by
  obtain ⟨co, a, F, lg, tk, st⟩ := m
  have hb0 : Below w.heap.size w (w.alloc (.cells #[.slice A0 co.length c0, .slice A1 a.slots.length c1, .slice A2 a.queue.length c2, .slice A3 a.purple.length c3, .slice A4 F.length c4, .slice A5 lg.length c5, .int .i64 tk, .int .i64 st] 43)) := (Below.refl _ _).alloc (Nat.le_refl _) _
  have HK := Lib.hid (Blk.new w 43 #[.slice A0 co.length c0, .slice A1 a.slots.length c1, .slice A2 a.queue.length c2, .slice A3 a.purple.length c3, .slice A4 F.length c4, .slice A5 lg.length c5, .int .i64 tk, .int .i64 st])
  have hv := implVmOk_c ⟨co, a, F, lg, tk, st⟩ A0 A1 A2 A3 A4 A5 c0 c1 c2 c3 c4 c5 L B (w.alloc (.cells #[.slice A0 co.length c0, .slice A1 a.slots.length c1, .slice A2 a.queue.length c2, .slice A3 a.purple.length c3, .slice A4 F.length c4, .slice A5 lg.length c5, .int .i64 tk, .int .i64 st] 43)) (Nat.le_trans hB hb0.size) hl (h.below (hb0.mono hB)) (hT.below (hb0.mono hB))
  have hlf : frsSz F ≤ 1048576 := by unfold maSz at hl; dsimp only at hl; omega
  have hFl : F.length ≤ 1048576 := by unfold frsSz at hlf; omega
  have H := Lib.hid (show FrL w L B A4 F from h.2.2.1)
  have Hlf := Lib.hid hlf
  have HB := Lib.hid hB
  unfold maV at hv ⊢
  dsimp only at hv ⊢
  have Hb0 := Lib.hid hb0
  have Hv := Lib.hid hv
  have hro := fun X (hX : Below w.heap.size w X) => rootsOf_c F A4 c4 L B X (Nat.le_trans hB hX.size) hlf (h.2.2.1.below (hX.mono hB))
  have Hro := Lib.hid hro
  clear hb0 hv h hl hlf hB hT hro
  go_enter Tryz.func14, Tryz.ntmps14
  go_wp2_with fail
  refine Hv.out.mono ?_
  rintro e w1 ⟨rfl, hb1⟩
  have Hb1 := Lib.hid (Hb0.out.trans (hb1.mono Hb0.out.size))
  have HK1 := Lib.hid (HK.out.below hb1 HK.out.lt)
  have K := HK1.out
  have q0 := K.cel 0 rfl
  have q1 := K.cel 1 rfl
  have q2 := K.cel 2 rfl
  have q3 := K.cel 3 rfl
  have q4 := K.cel 4 rfl
  have q5 := K.cel 5 rfl
  have q6 := K.cel 6 rfl
  have q7 := K.cel 7 rfl
  clear hb1 K Hv HK Hb0
  cases hok : vmOk ⟨co, a, F, lg, tk, st⟩ with
  | false =>
    have Hr := Lib.hid (show vmRootsV ⟨co, a, F, lg, tk, st⟩ = [] by unfold vmRootsV; rw [hok]; rfl)
    clear hok
    go_wp2
    go_ret
    exact ⟨none, 0, by rw [Hr.out]; rfl, by rw [Hr.out]; exact fun h => absurd h (by simp), Hb1.out⟩
  | true =>
    have Hr := Lib.hid (show vmRootsV ⟨co, a, F, lg, tk, st⟩ = rootsTo F F.length by unfold vmRootsV; rw [hok]; rfl)
    have Hro1 := Lib.hid (Hro.out w1 Hb1.out)
    clear hok Hro
    go_wp2_with fail
    refine Hro1.out.mono ?_
    rintro e w2 ⟨v2, rfl, hV, hb2⟩
    obtain ⟨VA, vc, rfl, hlc⟩ := hV.form
    have Hb2 := Lib.hid (Hb1.out.trans (hb2.mono Hb1.out.size))
    have HV := Lib.hid (hV.own.lo_le Hb1.out.size)
    clear hV hb2 hlc Hro1
    go_wp2
    go_ret
    exact ⟨VA, vc, by rw [Hr.out]; rfl, by rw [Hr.out]; exact HV.out, Hb2.out⟩

end Go.Proofs.YtddjcjjnpidhiaaGreatDoor
