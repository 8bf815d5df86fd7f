/-
  Frames: marks.
-/
import Derived.Test.YtddjcjjnpidhiaaGreatDoorMvm
import Derived.Test.YtddjcjjnpidhiaaGreatDoorValsMark
namespace Go.Proofs.YtddjcjjnpidhiaaGreatDoor
open Go.RowKit
set_option linter.unusedVariables false
namespace FrmM
open ArnM

def mkFr (f : Fr) : Nat := 3 + 3 * f.regs.length
theorem mkFr_sum : ∀ (l : List Fr) (k : Nat), sumIn mkFr l k ≤ 3 * l.length + 3 * (l.map frSz).sum
  | [], k => by simp [sumIn]
  | x :: r, 0 => by simp [sumIn]
  | x :: r, k + 1 => by
    have := mkFr_sum r k
    unfold sumIn at this ⊢
    simp only [List.take_succ_cons, List.map_cons, List.sum_cons, List.length_cons, mkFr, frSz] at this ⊢
    omega
theorem FrL.mk_ {L B : Nat} {w w' : World} {A : Option Addr} {l : List Fr} (h : FrL w L B A l) (hm : Mk L B w w') : ∃ l' : List Fr, ∃ hl : l'.length = l.length, FrL w' L B A l' ∧ ∀ i (hi : i < l.length), (l'[i]'(by omega)).regs.length = l[i].regs.length :=
  row_mk (V := FrV w L B) (V' := FrV w' L B) (R := fun x y => y.regs.length = x.regs.length) h hm (fun v0 v1 v2 v3 x hv u0 u1 u2 u3 m0 m1 m2 m3 => by
    obtain ⟨rfl, rfl, rfl, A', c, rfl, hF, hz⟩ := hv
    obtain ⟨f', hf', hF'⟩ := VlR.mk_ hF hm
    obtain ⟨y0, e0⟩ := m0.i64 rfl
    injection e0 with e0
    obtain ⟨y1, e1⟩ := m1.i64 rfl
    injection e1 with e1
    obtain ⟨y2, e2⟩ := m2.i64 rfl
    injection e2 with e2
    have e3 := m3.slice rfl
    injection e3 with e3
    exact ⟨⟨y0, y1, y2, f'⟩, ⟨e0, e1, e2, A', c, by rw [e3, hf'], hF', hz⟩, hf'⟩) mk_some

set_option maxRecDepth 100000 in
set_option maxHeartbeats 4000000 in
theorem markFrameS_m (l : List Fr) (A : Option Addr) (c L B k : Nat) (w : World) (hl : frsSz l ≤ 1048576) (hk : k ≤ 100000000) (hT : Thaw L B w) (h : FrL w L B A l) :
    Calls Tryz.prog 50 #[.slice A l.length c, .int .i64 (k : Int)] w fun r w' => r = .returned (.int .i64 ((k + sumIn mkFr l l.length : Nat) : Int)) ∧ Mk L B w w' ∧ Thaw L B w' := by
  have hlen : l.length ≤ 1048576 := by unfold frsSz at hl; omega
  have Hl := Lib.hid hl
  clear hl
  go_enter Tryz.func50, Tryz.ntmps50
  go_wp2
  go_loopw [1, 5] (fun s i wr => ∃ (m : Nat), m ≤ l.length ∧ i = .int .i64 m ∧ s = .int .i64 ((k + sumIn mkFr l m : Nat) : Int) ∧ Mk L B w wr ∧ Thaw L B wr) (fun _ i _ => l.length - (intOf i).toNat)
  case atStart => exact ⟨0, Nat.zero_le _, rfl, rfl, Mk.refl _ _ _, hT⟩
  case round =>
    obtain ⟨m, hm, rfl, rfl, hmk, hTr⟩ := hrel
    by_cases hlt : m < l.length
    · obtain ⟨l', hl', hS', hn'⟩ := FrL.mk_ h hmk
      obtain ⟨ad, rfl, hL, hB, hat⟩ := hS'.2 (by omega)
      obtain ⟨v0, v1, v2, v3, ⟨c0, c1, c2, c3⟩, rfl, rfl, rfl, FA, fc, rfl, hF, hz⟩ := hat m (by omega)
      have hfl := hn' m hlt
      have hstep := sumIn_step mkFr hlt
      have hsum := mkFr_sum l m
      have hs1 := sum_get frSz hlt
      have hls := Hl.out
      unfold frsSz at hls
      have hfz : l[m].regs.length ≤ 1048576 := by
        have : frSz l[m] = l[m].regs.length := rfl
        omega
      obtain ⟨t, ht⟩ : ∃ t, t = k + sumIn mkFr l m := ⟨_, rfl⟩
      rw [← ht]
      have htb : t ≤ 200000000 := by omega
      have hnext : k + sumIn mkFr l (m + 1) = t + 3 + 3 * l[m].regs.length := by rw [hstep, ht]; unfold mkFr; omega
      have hLp : L ≤ (ad.add (m * 4)).block := by rw [block_of_add]; exact hL
      have hBp : (ad.add (m * 4)).block < B := by rw [block_of_add]; exact hB
      have x0 : wr.frozen? (ad.add (m * 4)) = false := thaw_frozen hTr hLp hBp
      have x1 : wr.frozen? ⟨(ad.add (m * 4)).block, (ad.add (m * 4)).off + 1, none⟩ = false := thaw_frozen hTr hLp hBp
      have x2 : wr.frozen? ⟨(ad.add (m * 4)).block, (ad.add (m * 4)).off + 2, none⟩ = false := thaw_frozen hTr hLp hBp
      obtain ⟨bl, hbl⟩ : ∃ b, b = l'[m].unit := ⟨_, rfl⟩
      obtain ⟨gn, hgn⟩ : ∃ b, b = l'[m].pc := ⟨_, rfl⟩
      obtain ⟨ct, hct⟩ : ∃ b, b = l'[m].dst := ⟨_, rfl⟩
      obtain ⟨fs, hfs⟩ : ∃ b, b = l'[m].regs := ⟨_, rfl⟩
      rw [← hbl] at c0
      rw [← hgn] at c1
      rw [← hct] at c2
      rw [← hfs] at c3 hF hfl
      have HC := Lib.hid (fun (X : World) (hX : Mk L B wr X) (hTX : Thaw L B X) => show Calls Tryz.prog 17 #[.slice FA fs.length fc, .int .i64 ((t + 3 : Nat) : Int)] X fun r w' => r = .returned (.int .i64 ((k + sumIn mkFr l (m + 1) : Nat) : Int)) ∧ Mk L B w w' ∧ Thaw L B w' from by
        obtain ⟨f2, hf2, hF2⟩ := VlR.mk_ hF hX
        have hc := markValS_m f2 FA fc L B (t + 3) X (by omega) (by omega) hTX hF2
        rw [hf2, hfl, ← hnext] at hc
        rw [hfl]
        exact hc.mono fun r w' ⟨e, hm2, hT2⟩ => ⟨e, (hmk.trans hX).trans hm2, hT2⟩)
      have HM := Lib.hid (fun (b : Int) (a1 a2 : Int) => show Mk L B wr (((wr.setCell (ad.add (m * 4)) (.int .i64 b)).setCell ⟨(ad.add (m * 4)).block, (ad.add (m * 4)).off + 1, none⟩ (.int .i64 a1)).setCell ⟨(ad.add (m * 4)).block, (ad.add (m * 4)).off + 2, none⟩ (.int .i64 a2)) ∧ Thaw L B (((wr.setCell (ad.add (m * 4)) (.int .i64 b)).setCell ⟨(ad.add (m * 4)).block, (ad.add (m * 4)).off + 1, none⟩ (.int .i64 a1)).setCell ⟨(ad.add (m * 4)).block, (ad.add (m * 4)).off + 2, none⟩ (.int .i64 a2)) from by
        refine ⟨?_, ((hTr.set_ _ _).set_ _ _).set_ _ _⟩
        refine ((Mk.set_ (v := .int .i64 b) hLp hBp c0 (MkC.i64_ _ _)).trans (Mk.set_ (p := ⟨(ad.add (m * 4)).block, (ad.add (m * 4)).off + 1, none⟩) (x := .int .i64 gn) (v := .int .i64 a1) hLp hBp ?_ (MkC.i64_ _ _))).trans (Mk.set_ (p := ⟨(ad.add (m * 4)).block, (ad.add (m * 4)).off + 2, none⟩) (x := .int .i64 ct) (v := .int .i64 a2) hLp hBp ?_ (MkC.i64_ _ _))
        · rw [World.cell?_setCell_other _ _ _ _ (fun e => by have := congrArg Addr.off e; simp at this)]; exact c1
        · rw [World.cell?_setCell_other _ _ _ _ (fun e => by have := congrArg Addr.off e; simp at this), World.cell?_setCell_other _ _ _ _ (fun e => by have := congrArg Addr.off e; simp at this)]; exact c2)
      clear hat hS' hn' hstep hsum hs1 hls hfz ht hnext hbl hgn hct hfs hfl hF hmk hTr hz
      have s1 : ∀ b : Int, (wr.setCell (ad.add (m * 4)) (.int .i64 b)).cell? ⟨(ad.add (m * 4)).block, (ad.add (m * 4)).off + 1, none⟩ = some (.int .i64 gn) := fun b => by
        rw [World.cell?_setCell_other _ _ _ _ (fun e => by have := congrArg Addr.off e; simp at this)]; exact c1
      have s2 : ∀ (b : Int) (a1 : Int), ((wr.setCell (ad.add (m * 4)) (.int .i64 b)).setCell ⟨(ad.add (m * 4)).block, (ad.add (m * 4)).off + 1, none⟩ (.int .i64 a1)).cell? ⟨(ad.add (m * 4)).block, (ad.add (m * 4)).off + 2, none⟩ = some (.int .i64 ct) := fun b a1 => by
        rw [World.cell?_setCell_other _ _ _ _ (fun e => by have := congrArg Addr.off e; simp at this), World.cell?_setCell_other _ _ _ _ (fun e => by have := congrArg Addr.off e; simp at this)]; exact c2
      have s3 : ∀ (b : Int) (a1 a2 : Int), (((wr.setCell (ad.add (m * 4)) (.int .i64 b)).setCell ⟨(ad.add (m * 4)).block, (ad.add (m * 4)).off + 1, none⟩ (.int .i64 a1)).setCell ⟨(ad.add (m * 4)).block, (ad.add (m * 4)).off + 2, none⟩ (.int .i64 a2)).cell? ⟨(ad.add (m * 4)).block, (ad.add (m * 4)).off + 3, none⟩ = some (.slice FA fs.length fc) := fun b a1 a2 => by
        rw [World.cell?_setCell_other _ _ _ _ (fun e => by have := congrArg Addr.off e; simp at this), World.cell?_setCell_other _ _ _ _ (fun e => by have := congrArg Addr.off e; simp at this), World.cell?_setCell_other _ _ _ _ (fun e => by have := congrArg Addr.off e; simp at this)]; exact c3
      go_wp2_with fail
      rw [show ((t : Int) + 1 + 1 + 1) = ((t + 3 : Nat) : Int) from by omega]
      refine (HC.out _ (HM.out _ _ _).1 (HM.out _ _ _).2).mono ?_
      intro r w' ⟨e, hm2, hT2⟩
      subst e
      go_wp2
      go_roundw
      case rel => exact ⟨m + 1, by omega, by go_num, by go_num, hm2, hT2⟩
      case measure => simp [intOf]; omega
    · go_wp2
      go_ret
      have : m = l.length := by omega
      subst this
      exact ⟨rfl, hmk, hTr⟩
end FrmM
end Go.Proofs.YtddjcjjnpidhiaaGreatDoor
