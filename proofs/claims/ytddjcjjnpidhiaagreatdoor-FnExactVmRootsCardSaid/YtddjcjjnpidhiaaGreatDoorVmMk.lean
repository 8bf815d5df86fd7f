/-
  Machines: marks.
-/
import Derived.Test.YtddjcjjnpidhiaaGreatDoorFrmMk
import Derived.Test.YtddjcjjnpidhiaaGreatDoorVmT
import Derived.Test.YtddjcjjnpidhiaaGreatDoorCodeMark
namespace Go.Proofs.YtddjcjjnpidhiaaGreatDoor
open Go.RowKit
set_option linter.unusedVariables false
namespace FrmM

theorem cel_ {w w' : World} {p : Addr} (h : w'.heap[p.block]? = w.heap[p.block]?) : w'.cell? p = w.cell? p := by
  unfold World.cell?
  rw [h]
set_option maxRecDepth 100000 in
set_option maxHeartbeats 8000000 in
theorem markVm_m (m : Ma) (A0 A1 A2 A3 A4 A5 : Option Addr) (c0 c1 c2 c3 c4 c5 L B1 B2 B3 B k : Nat) (w : World) (hB : B ≤ w.heap.size) (hl : maSz m ≤ 1048576) (hk : k ≤ 1000000) (hT : ArnM.Thaw L B w) (h : MaI w L B1 B2 B3 B A0 A1 A2 A3 A4 A5 m) :
    Calls Tryz.prog 16 #[.agg (maV A0 A1 A2 A3 A4 A5 c0 c1 c2 c3 c4 c5 m), .int .i64 (k : Int)] w fun r w' => (∃ u : Nat, r = .returned (.int .i64 (u : Int))) ∧ Below L w w' ∧ (∀ b, b < w.heap.size → (b < L ∨ B ≤ b) → w'.heap[b]? = w.heap[b]?) := by
  obtain ⟨co, a, F, lg, tk, st⟩ := m
  obtain ⟨h1, h2, h3, h4, hU, hA, hF, hN, hlg⟩ := h
  unfold maV
  unfold maSz at hl
  dsimp only at *
  have hb0 : Below w.heap.size w (w.alloc (.cells #[.slice A0 co.length c0, .slice A1 a.slots.length c1, .slice A2 a.queue.length c2, .slice A3 a.purple.length c3, .slice A4 F.length c4, .slice A5 lg.length c5, .int .i64 tk, .int .i64 st] 43)) := (Below.refl _ _).alloc (Nat.le_refl _) _
  have hw0 : ∀ b, b < w.heap.size → (w.alloc (.cells #[.slice A0 co.length c0, .slice A1 a.slots.length c1, .slice A2 a.queue.length c2, .slice A3 a.purple.length c3, .slice A4 F.length c4, .slice A5 lg.length c5, .int .i64 tk, .int .i64 st] 43)).heap[b]? = w.heap[b]? := fun b hb => hb0.block b hb
  have HK := Lib.hid (Blk.new w 43 #[.slice A0 co.length c0, .slice A1 a.slots.length c1, .slice A2 a.queue.length c2, .slice A3 a.purple.length c3, .slice A4 F.length c4, .slice A5 lg.length c5, .int .i64 tk, .int .i64 st])
  have hsz0 : (w.alloc (.cells #[.slice A0 co.length c0, .slice A1 a.slots.length c1, .slice A2 a.queue.length c2, .slice A3 a.purple.length c3, .slice A4 F.length c4, .slice A5 lg.length c5, .int .i64 tk, .int .i64 st] 43)).heap.size = w.heap.size + 1 := by simp
  have hms := CodM.mkUn_sum co co.length
  have hlc : unsSz co ≤ 1048576 := by omega
  have hla : arSz a ≤ 1048576 := by omega
  have hlf : frsSz F ≤ 1048576 := by omega
  have hfl : F.length ≤ 1048576 := by unfold frsSz at hlf; omega
  obtain ⟨W, hW⟩ : ∃ W, W = w.alloc (.cells #[.slice A0 co.length c0, .slice A1 a.slots.length c1, .slice A2 a.queue.length c2, .slice A3 a.purple.length c3, .slice A4 F.length c4, .slice A5 lg.length c5, .int .i64 tk, .int .i64 st] 43) := ⟨_, rfl⟩
  rw [← hW] at hb0 hw0 HK hsz0
  have hTW : ∀ i, L ≤ i → i < B → ∃ cs t, W.heap[i]? = some (.cells cs t) := fun i h5 h6 => by
    obtain ⟨cs, t, e⟩ := hT i h5 h6
    exact ⟨cs, t, (hw0 i (by omega)).trans e⟩
  have hkc : k + sumIn CodM.mkUn co co.length ≤ 10000000 := by unfold unsSz at hlc; omega
  have Hc := Lib.hid (CodM.markCode_m co A0 c0 L B1 k W (by omega) h1 hlc hk (fun i h5 h6 => hTW i h5 (by omega)) (hU.below (hb0.mono (by omega))))
  have HA := Lib.hid (hA.below (hb0.mono (by omega)))
  have HF := Lib.hid (hF.below (hb0.mono (by omega)))
  have HN := Lib.hid (hN.keep fun p _ hp => (hb0.mono hB).cell hp)
  have HW := Lib.hid hW
  clear hU hA hF hN hT hms
  go_enter Tryz.func16, Tryz.ntmps16
  go_wp2_with fail
  rw [← HW.out]
  refine Hc.out.mono ?_
  rintro r w1 ⟨rfl, hb1, hp1⟩
  obtain ⟨k1, hk1⟩ : ∃ q : Nat, q = k + sumIn CodM.mkUn co co.length := ⟨_, rfl⟩
  rw [← hk1] at hkc
  rw [← hk1]
  have K1 : Blk w1 w.heap.size 43 #[.slice A0 co.length c0, .slice A1 a.slots.length c1, .slice A2 a.queue.length c2, .slice A3 a.purple.length c3, .slice A4 F.length c4, .slice A5 lg.length c5, .int .i64 tk, .int .i64 st] := (hp1 _ (by omega) (.inr (by omega))).trans HK.out
  have hs1 : W.heap.size ≤ w1.heap.size := hb1.size
  have q1 := K1.cel 1 rfl
  have q2 := K1.cel 2 rfl
  have q3 := K1.cel 3 rfl
  have HA1 := HA.out.keep (w' := w1) fun p h5 h6 => cel_ (hp1 _ (by omega) (.inr h5))
  have Hm := Lib.hid (ArnM.markArena_m a A1 A2 A3 c1 c2 c3 B1 B2 k1 w1 (by omega) h2 hla (by omega) (fun i h5 h6 => by
    obtain ⟨cs, t, e⟩ := hTW i (by omega) (by omega)
    exact ⟨cs, t, (hp1 i (by omega) (.inr h5)).trans e⟩) HA1)
  have hms := ArnM.mkSl_sum a.slots a.slots.length
  have hka : k1 + ArnM.mkAr a ≤ 20000000 := by unfold arSz slsSz at hla; unfold ArnM.mkAr; omega
  have HK1 := Lib.hid K1
  clear HA1 hms hk1 K1 Hc HA
  go_wp2_with fail
  refine Hm.out.mono ?_
  rintro r w2 ⟨rfl, hb2, hp2⟩
  obtain ⟨k2, hk2⟩ : ∃ q : Nat, q = k1 + ArnM.mkAr a := ⟨_, rfl⟩
  rw [← hk2] at hka
  rw [← hk2]
  have K2 : Blk w2 w.heap.size 43 #[.slice A0 co.length c0, .slice A1 a.slots.length c1, .slice A2 a.queue.length c2, .slice A3 a.purple.length c3, .slice A4 F.length c4, .slice A5 lg.length c5, .int .i64 tk, .int .i64 st] := (hp2 _ (by omega) (.inr (by omega))).trans HK1.out
  have hs2 : w1.heap.size ≤ w2.heap.size := hb2.size
  have q4 := K2.cel 4 rfl
  have HF2 := HF.out.keep (w' := w2) fun p h5 h6 => cel_ ((hp2 _ (by omega) (.inr h5)).trans (hp1 _ (by omega) (.inr (by omega))))
  have hT2 : ∀ i, B2 ≤ i → i < B → ∃ cs t, w2.heap[i]? = some (.cells cs t) := fun i h5 h6 => by
    obtain ⟨cs, t, e⟩ := hTW i (by omega) h6
    exact ⟨cs, t, (hp2 i (by omega) (.inr h5)).trans ((hp1 i (by omega) (.inr (by omega))).trans e)⟩
  have Hm2 := Lib.hid (markFrameS_m F A4 c4 B2 B3 k2 w2 hlf (by omega) (fun i h5 h6 => hT2 i h5 (by omega)) HF2)
  have hms := mkFr_sum F F.length
  have hkf : k2 + sumIn mkFr F F.length ≤ 40000000 := by unfold frsSz at hlf; omega
  have HK2 := Lib.hid K2
  clear HF2 hms hk2 K2 Hm HF HK1 q1 q2 q3
  go_wp2_with fail
  refine Hm2.out.mono ?_
  rintro r w3 ⟨rfl, hm3, hT3⟩
  obtain ⟨k3, hk3⟩ : ∃ q : Nat, q = k2 + sumIn mkFr F F.length := ⟨_, rfl⟩
  rw [← hk3] at hkf
  rw [← hk3]
  have hs3 : w3.heap.size = w2.heap.size := hm3.size
  have K3 : Blk w3 w.heap.size 43 #[.slice A0 co.length c0, .slice A1 a.slots.length c1, .slice A2 a.queue.length c2, .slice A3 a.purple.length c3, .slice A4 F.length c4, .slice A5 lg.length c5, .int .i64 tk, .int .i64 st] := (hm3.block _ (.inr (by omega))).trans HK2.out
  have q5 := K3.cel 5 rfl
  have HN3 := HN.out.keep (w' := w3) fun p h5 h6 => cel_ ((hm3.block _ (.inr h5)).trans ((hp2 _ (by omega) (.inr (by omega))).trans (hp1 _ (by omega) (.inr (by omega)))))
  have Hm3 := Lib.hid (ArnM.markByteS_m lg A5 c5 B3 B k3 w3 (by omega) (by omega) (fun i h5 h6 => by
    obtain ⟨cs, t, e⟩ := hT2 i (by omega) h6
    exact ⟨cs, t, (hm3.block i (.inr h5)).trans e⟩) HN3)
  have HM3 := Lib.hid hm3
  clear HN3 hk3 K3 Hm2 HN HK2 q4 hm3 hT3
  go_wp2_with fail
  refine Hm3.out.mono ?_
  rintro r w4 ⟨rfl, hm4, hT4⟩
  have HM4 := Lib.hid hm4
  have Hb1 := Lib.hid hb1
  have Hb2 := Lib.hid hb2
  have Hp1 := Lib.hid hp1
  have Hp2 := Lib.hid hp2
  have Hb0 := Lib.hid hb0
  have Hw0 := Lib.hid hw0
  clear hm4 hT4 Hm3 q5 hb1 hb2 hp1 hp2 hT2 hTW hb0 hw0
  go_wp2
  go_ret
  refine ⟨⟨k3 + lg.length, rfl⟩, ((((Hb0.out.mono (by omega)).trans Hb1.out).trans (Hb2.out.mono h1)).trans (HM3.out.below.mono (by omega))).trans (HM4.out.below.mono (by omega)), fun b hb hc => ?_⟩
  rw [HM4.out.block b (by omega), HM3.out.block b (by omega), Hp2.out b (by omega) (by omega), Hp1.out b (by omega) (by omega), Hw0.out b hb]
end FrmM
end Go.Proofs.YtddjcjjnpidhiaaGreatDoor
