/-
  Marks all over a unit's copy: the laws' own functions.
-/
import Derived.Test.YtebgigiakfjocaaDoorCodMk
namespace Go.Proofs.YtebgigiakfjocaaDoor
open Go.RowKit
set_option linter.unusedVariables false
namespace CodM
open Cod

/-- orders marked: as many, with names as long -/
theorem InL.mk_ {L B : Nat} {w w' : World} {A : Option Addr} {l : List In} (h : InL w L B A l) (hm : Mk L B w w') : ∃ l' : List In, ∃ hl : l'.length = l.length, InL w' L B A l' ∧ ∀ i (hi : i < l.length), (l'[i]'(by omega)).name.length = l[i].name.length :=
  row_mk5 (V := InV w L B) (V' := InV w' L B) (R := fun (x y : In) => y.name.length = x.name.length) h hm (fun v0 v1 v2 v3 v4 x hv u0 u1 u2 u3 u4 m0 m1 m2 m3 m4 => by
    obtain ⟨rfl, rfl, rfl, rfl, A', c, rfl, hN, hl⟩ := hv
    obtain ⟨n', hn', hN'⟩ := NmB.mk_ hN hm
    obtain ⟨y0, e0⟩ := m0.i64 rfl
    injection e0 with e0
    obtain ⟨y1, e1⟩ := m1.i64 rfl
    injection e1 with e1
    obtain ⟨y2, e2⟩ := m2.i64 rfl
    injection e2 with e2
    obtain ⟨y3, e3⟩ := m3.i64 rfl
    injection e3 with e3
    have e4 := m4.slice rfl
    injection e4 with e4
    exact ⟨⟨y0, y1, y2, y3, n'⟩, ⟨e0, e1, e2, e3, A', c, by rw [e4, hn'], hN', by show n'.length ≤ _; rw [hn']; exact hl⟩, hn'⟩) mk_some
def mkIn (f : In) : Nat := f.name.length + 4
theorem mkIn_sum : ∀ (l : List In) (k : Nat), sumIn mkIn l k ≤ 4 * l.length + (l.map inSz).sum
  | [], k => by simp [sumIn]
  | x :: r, 0 => by simp [sumIn]
  | x :: r, k + 1 => by
    have := mkIn_sum r k
    unfold sumIn at this ⊢
    simp only [List.take_succ_cons, List.map_cons, List.sum_cons, List.length_cons, mkIn, inSz] at this ⊢
    omega

set_option maxRecDepth 100000 in
set_option maxHeartbeats 2000000 in
theorem markInsS_m (l : List In) (A : Option Addr) (c L B k : Nat) (w : World) (hl : insSz l ≤ 1048576) (hk : k ≤ 1073741824) (hT : Thaw L B w) (h : InL w L B A l) :
    Calls Tryd.prog 90 #[.slice A l.length c, .int .i64 (k : Int)] w fun r w' => r = .returned (.int .i64 ((k + sumIn mkIn l l.length : Nat) : Int)) ∧ Mk L B w w' ∧ Thaw L B w' := by
  have hlen : l.length ≤ 1048576 := by unfold insSz at hl; omega
  have Hl := Lib.hid hl
  clear hl
  go_enter Tryd.func90, Tryd.ntmps90
  go_wp2
  go_loopw [1, 5] (fun s i wr => ∃ (m : Nat), m ≤ l.length ∧ i = .int .i64 m ∧ s = .int .i64 ((k + sumIn mkIn l m : Nat) : Int) ∧ Mk L B w wr ∧ Thaw L B wr) (fun _ i _ => l.length - (intOf i).toNat)
  case atStart => exact ⟨0, Nat.zero_le _, rfl, rfl, Mk.refl _ _ _, hT⟩
  case round =>
    obtain ⟨m, hm, rfl, rfl, hmk, hTr⟩ := hrel
    by_cases hlt : m < l.length
    · obtain ⟨l', hl', hS', hn'⟩ := InL.mk_ h hmk
      obtain ⟨ad, rfl, hL, hB, hat⟩ := hS'.2 (by omega)
      obtain ⟨v0, v1, v2, v3, v4, ⟨c0, c1, c2, c3, c4⟩, rfl, rfl, rfl, rfl, NA, nc, rfl, hN, -⟩ := hat m (by omega)
      have hnl : l'[m].name.length = l[m].name.length := hn' m hlt
      have hstep := sumIn_step mkIn hlt
      have hsum := mkIn_sum l m
      have hs1 := sum_get inSz hlt
      have hls := Hl.out
      unfold insSz at hls
      have hnsz : l[m].name.length ≤ 1048576 := by
        have : inSz l[m] = l[m].name.length := rfl
        omega
      obtain ⟨t, ht⟩ : ∃ t, t = k + sumIn mkIn l m := ⟨_, rfl⟩
      rw [← ht]
      have htb : t ≤ 1099511627776 := by omega
      have hnext : k + sumIn mkIn l (m + 1) = t + 4 + l'[m].name.length := by rw [hstep, ht, hnl]; unfold mkIn; omega
      have hLp : L ≤ (ad.add (m * 5)).block := by rw [block_of_add]; exact hL
      have hBp : (ad.add (m * 5)).block < B := by rw [block_of_add]; exact hB
      have x0 : wr.frozen? (ad.add (m * 5)) = false := thaw_frozen hTr hLp hBp
      have x1 : wr.frozen? ⟨(ad.add (m * 5)).block, (ad.add (m * 5)).off + 1, none⟩ = false := thaw_frozen hTr hLp hBp
      have x2 : wr.frozen? ⟨(ad.add (m * 5)).block, (ad.add (m * 5)).off + 2, none⟩ = false := thaw_frozen hTr hLp hBp
      have x3 : wr.frozen? ⟨(ad.add (m * 5)).block, (ad.add (m * 5)).off + 3, none⟩ = false := thaw_frozen hTr hLp hBp
      obtain ⟨f0, hf0⟩ : ∃ b, b = l'[m].op := ⟨_, rfl⟩
      rw [← hf0] at c0
      obtain ⟨f1, hf1⟩ : ∃ b, b = l'[m].a := ⟨_, rfl⟩
      rw [← hf1] at c1
      obtain ⟨f2, hf2⟩ : ∃ b, b = l'[m].b := ⟨_, rfl⟩
      rw [← hf2] at c2
      obtain ⟨f3, hf3⟩ : ∃ b, b = l'[m].c := ⟨_, rfl⟩
      rw [← hf3] at c3
      obtain ⟨fs, hfs⟩ : ∃ b, b = l'[m].name := ⟨_, rfl⟩
      rw [← hfs] at c4 hN hnl hnext
      have HC := Lib.hid (fun (X : World) (hX : Mk L B wr X) (hTX : Thaw L B X) => show Calls Tryd.prog 16 #[.slice NA fs.length nc, .int .i64 ((t + 4 : Nat) : Int)] X fun r w' => r = .returned (.int .i64 ((k + sumIn mkIn l (m + 1) : Nat) : Int)) ∧ Mk L B w w' ∧ Thaw L B w' from by
        obtain ⟨f2, hf2, hN2⟩ := NmB.mk_ hN hX
        have hc := markByteS_m f2 NA nc L B (t + 4) X (by omega) (by omega) hTX hN2
        rw [hf2, ← hnext] at hc
        exact hc.mono fun r w' ⟨e, hm2, hT2⟩ => ⟨e, (hmk.trans hX).trans hm2, hT2⟩)
      have HM := Lib.hid (fun (a0 a1 a2 a3 : Int) => show Mk L B wr ((((wr.setCell (ad.add (m * 5)) (.int .i64 a0)).setCell ⟨(ad.add (m * 5)).block, (ad.add (m * 5)).off + 1, none⟩ (.int .i64 a1)).setCell ⟨(ad.add (m * 5)).block, (ad.add (m * 5)).off + 2, none⟩ (.int .i64 a2)).setCell ⟨(ad.add (m * 5)).block, (ad.add (m * 5)).off + 3, none⟩ (.int .i64 a3)) ∧ Thaw L B ((((wr.setCell (ad.add (m * 5)) (.int .i64 a0)).setCell ⟨(ad.add (m * 5)).block, (ad.add (m * 5)).off + 1, none⟩ (.int .i64 a1)).setCell ⟨(ad.add (m * 5)).block, (ad.add (m * 5)).off + 2, none⟩ (.int .i64 a2)).setCell ⟨(ad.add (m * 5)).block, (ad.add (m * 5)).off + 3, none⟩ (.int .i64 a3)) from by
        refine ⟨?_, ((((hTr.set_ _ _).set_ _ _).set_ _ _).set_ _ _)⟩
        refine ((((Mk.set_ (v := .int .i64 a0) hLp hBp c0 (MkC.i64_ _ _)).trans (Mk.set_ (p := ⟨(ad.add (m * 5)).block, (ad.add (m * 5)).off + 1, none⟩) (x := .int .i64 f1) (v := .int .i64 a1) hLp hBp ?_ (MkC.i64_ _ _))).trans (Mk.set_ (p := ⟨(ad.add (m * 5)).block, (ad.add (m * 5)).off + 2, none⟩) (x := .int .i64 f2) (v := .int .i64 a2) hLp hBp ?_ (MkC.i64_ _ _))).trans (Mk.set_ (p := ⟨(ad.add (m * 5)).block, (ad.add (m * 5)).off + 3, none⟩) (x := .int .i64 f3) (v := .int .i64 a3) hLp hBp ?_ (MkC.i64_ _ _)))
        · rw [World.cell?_setCell_other _ _ _ _ (fun e => by have := congrArg Addr.off e; simp at this)]; exact c1
        · rw [World.cell?_setCell_other _ _ _ _ (fun e => by have := congrArg Addr.off e; simp at this), World.cell?_setCell_other _ _ _ _ (fun e => by have := congrArg Addr.off e; simp at this)]; exact c2
        · rw [World.cell?_setCell_other _ _ _ _ (fun e => by have := congrArg Addr.off e; simp at this), World.cell?_setCell_other _ _ _ _ (fun e => by have := congrArg Addr.off e; simp at this), World.cell?_setCell_other _ _ _ _ (fun e => by have := congrArg Addr.off e; simp at this)]; exact c3)
      clear hat hS' hn' hstep hsum hs1 hls hnsz ht hnext hfs hnl hN hmk hTr hf0 hf1 hf2 hf3
      have s1 : ∀ (a0 : Int), (wr.setCell (ad.add (m * 5)) (.int .i64 a0)).cell? ⟨(ad.add (m * 5)).block, (ad.add (m * 5)).off + 1, none⟩ = some (.int .i64 f1) := fun a0 => by
        rw [World.cell?_setCell_other _ _ _ _ (fun e => by have := congrArg Addr.off e; simp at this)]; exact c1
      have s2 : ∀ (a0 a1 : Int), ((wr.setCell (ad.add (m * 5)) (.int .i64 a0)).setCell ⟨(ad.add (m * 5)).block, (ad.add (m * 5)).off + 1, none⟩ (.int .i64 a1)).cell? ⟨(ad.add (m * 5)).block, (ad.add (m * 5)).off + 2, none⟩ = some (.int .i64 f2) := fun a0 a1 => by
        rw [World.cell?_setCell_other _ _ _ _ (fun e => by have := congrArg Addr.off e; simp at this), World.cell?_setCell_other _ _ _ _ (fun e => by have := congrArg Addr.off e; simp at this)]; exact c2
      have s3 : ∀ (a0 a1 a2 : Int), (((wr.setCell (ad.add (m * 5)) (.int .i64 a0)).setCell ⟨(ad.add (m * 5)).block, (ad.add (m * 5)).off + 1, none⟩ (.int .i64 a1)).setCell ⟨(ad.add (m * 5)).block, (ad.add (m * 5)).off + 2, none⟩ (.int .i64 a2)).cell? ⟨(ad.add (m * 5)).block, (ad.add (m * 5)).off + 3, none⟩ = some (.int .i64 f3) := fun a0 a1 a2 => by
        rw [World.cell?_setCell_other _ _ _ _ (fun e => by have := congrArg Addr.off e; simp at this), World.cell?_setCell_other _ _ _ _ (fun e => by have := congrArg Addr.off e; simp at this), World.cell?_setCell_other _ _ _ _ (fun e => by have := congrArg Addr.off e; simp at this)]; exact c3
      have s4 : ∀ (a0 a1 a2 a3 : Int), ((((wr.setCell (ad.add (m * 5)) (.int .i64 a0)).setCell ⟨(ad.add (m * 5)).block, (ad.add (m * 5)).off + 1, none⟩ (.int .i64 a1)).setCell ⟨(ad.add (m * 5)).block, (ad.add (m * 5)).off + 2, none⟩ (.int .i64 a2)).setCell ⟨(ad.add (m * 5)).block, (ad.add (m * 5)).off + 3, none⟩ (.int .i64 a3)).cell? ⟨(ad.add (m * 5)).block, (ad.add (m * 5)).off + 4, none⟩ = some (.slice NA fs.length nc) := fun a0 a1 a2 a3 => by
        rw [World.cell?_setCell_other _ _ _ _ (fun e => by have := congrArg Addr.off e; simp at this), World.cell?_setCell_other _ _ _ _ (fun e => by have := congrArg Addr.off e; simp at this), World.cell?_setCell_other _ _ _ _ (fun e => by have := congrArg Addr.off e; simp at this), World.cell?_setCell_other _ _ _ _ (fun e => by have := congrArg Addr.off e; simp at this)]; exact c4
      go_wp2_with fail
      rw [show ((t : Int) + 1 + 1 + 1 + 1) = ((t + 4 : Nat) : Int) from by omega]
      refine (HC.out _ (HM.out _ _ _ _).1 (HM.out _ _ _ _).2).mono ?_
      intro r w' ⟨e, hm2, hT2⟩
      subst e
      go_wp2
      go_roundw
      case rel => exact ⟨m + 1, by omega, by go_num, by go_num, hm2, hT2⟩
      case measure => simp [intOf]; omega
    · go_wp2
      go_ret
      have : m = l.length := by omega
      subst this
      exact ⟨rfl, hmk, hTr⟩
end CodM
end Go.Proofs.YtebgigiakfjocaaDoor
