/-
  Marks all over an arena's copy: the laws' own functions.
-/
import Derived.Test.YtebgigiakfjocaaDoorArnMarkA
namespace Go.Proofs.YtebgigiakfjocaaDoor
open Go.RowKit
set_option linter.unusedVariables false
namespace ArnM

def mkFd (f : Fd) : Nat := f.name.length + 3
def mkSl (s : Sl) : Nat := 3 + sumIn mkFd s.fs s.fs.length
theorem mkFd_sum : ∀ (l : List Fd) (k : Nat), sumIn mkFd l k ≤ 3 * l.length + (l.map fdSz).sum
  | [], k => by simp [sumIn]
  | x :: r, 0 => by simp [sumIn]
  | x :: r, k + 1 => by
    have := mkFd_sum r k
    unfold sumIn at this ⊢
    simp only [List.take_succ_cons, List.map_cons, List.sum_cons, List.length_cons, mkFd, fdSz] at this ⊢
    omega
theorem mkSl_sum : ∀ (l : List Sl) (k : Nat), sumIn mkSl l k ≤ 3 * l.length + 3 * (l.map slSz).sum
  | [], k => by simp [sumIn]
  | x :: r, 0 => by simp [sumIn]
  | x :: r, k + 1 => by
    have := mkSl_sum r k
    have h1 := mkFd_sum x.fs x.fs.length
    unfold sumIn at this ⊢
    have h2 : mkSl x = 3 + sumIn mkFd x.fs x.fs.length := rfl
    have h3 : slSz x = x.fs.length + (x.fs.map fdSz).sum := rfl
    simp only [List.take_succ_cons, List.map_cons, List.sum_cons, List.length_cons]
    omega

set_option maxRecDepth 100000 in
set_option maxHeartbeats 2000000 in
theorem markFieldS_m (l : List Fd) (A : Option Addr) (c L B k : Nat) (w : World) (hl : fsSz l ≤ 1048576) (hk : k ≤ 1073741824) (hT : Thaw L B w) (h : FdL w L B A l) :
    Calls Tryd.prog 84 #[.slice A l.length c, .int .i64 (k : Int)] w fun r w' => r = .returned (.int .i64 ((k + sumIn mkFd l l.length : Nat) : Int)) ∧ Mk L B w w' ∧ Thaw L B w' := by
  have hlen : l.length ≤ 1048576 := by unfold fsSz at hl; omega
  have Hl := Lib.hid hl
  clear hl
  go_enter Tryd.func84, Tryd.ntmps84
  go_wp2
  go_loopw [1, 5] (fun s i wr => ∃ (m : Nat), m ≤ l.length ∧ i = .int .i64 m ∧ s = .int .i64 ((k + sumIn mkFd l m : Nat) : Int) ∧ Mk L B w wr ∧ Thaw L B wr) (fun _ i _ => l.length - (intOf i).toNat)
  case atStart => exact ⟨0, Nat.zero_le _, rfl, rfl, Mk.refl _ _ _, hT⟩
  case round =>
    obtain ⟨m, hm, rfl, rfl, hmk, hTr⟩ := hrel
    by_cases hlt : m < l.length
    · obtain ⟨l', hl', hF', hn'⟩ := FdL.mk_ h hmk
      obtain ⟨ad, rfl, hL, hB, hat⟩ := hF'.2 (by omega)
      obtain ⟨v0, v1, v2, v3, ⟨c0, c1, c2, c3⟩, NA, nc, rfl, hN, hnm, rfl, rfl, rfl⟩ := hat m (by omega)
      have hstep := sumIn_step mkFd hlt
      have hsum := mkFd_sum l m
      have hnl : l'[m].name.length = l[m].name.length := hn' m hlt
      have hnsz : l[m].name.length ≤ 1048576 := by
        have h2 := sum_get fdSz hlt
        have h3 := Hl.out
        have h4 : fdSz l[m] = l[m].name.length := rfl
        unfold fsSz at h3
        omega
      have hfs := Hl.out
      unfold fsSz at hfs
      obtain ⟨t, ht⟩ : ∃ t, t = k + sumIn mkFd l m := ⟨_, rfl⟩
      rw [← ht]
      have htb : t ≤ 1099511627776 := by omega
      have hnext : k + sumIn mkFd l (m + 1) = t + l'[m].name.length + 3 := by rw [hstep, ht, hnl]; unfold mkFd; omega
      obtain ⟨nm, hnme⟩ : ∃ n, n = l'[m].name := ⟨_, rfl⟩
      obtain ⟨y1, hy1⟩ : ∃ n, n = l'[m].k := ⟨_, rfl⟩
      obtain ⟨y2, hy2⟩ : ∃ n, n = l'[m].n := ⟨_, rfl⟩
      obtain ⟨y3, hy3⟩ : ∃ n, n = l'[m].g := ⟨_, rfl⟩
      rw [← hnme] at c0 hN hnext hnl
      rw [← hy1] at c1
      rw [← hy2] at c2
      rw [← hy3] at c3
      have hnm20 : nm.length ≤ 1048576 := by omega
      have Hmb := Lib.hid (markByteS_m nm NA nc L B t wr (by omega) htb hTr hN)
      have Hnext := Lib.hid hnext
      have Hmk := Lib.hid hmk
      obtain ⟨p, hp⟩ : ∃ p, p = ad.add (m * 4) := ⟨_, rfl⟩
      have hpb : p.block = ad.block := by rw [hp, block_of_add]
      have htb2 : t ≤ 1099511627776 := htb
      clear hat hF' hn' hstep hsum hnsz hfs ht hnl hnme hy1 hy2 hy3 hmk hTr hnext hN hnm
      go_wp2_with fail
      refine Hmb.out.mono ?_
      rintro e w1 ⟨rfl, hm1, hT1⟩
      have d0 := (hm1.cell (ad.add (m * 4))).slice c0
      obtain ⟨z1, d1⟩ := (hm1.cell ⟨(ad.add (m * 4)).block, (ad.add (m * 4)).off + 1, none⟩).i64 c1
      obtain ⟨z2, d2⟩ := (hm1.cell ⟨(ad.add (m * 4)).block, (ad.add (m * 4)).off + 2, none⟩).i64 c2
      obtain ⟨z3, d3⟩ := (hm1.cell ⟨(ad.add (m * 4)).block, (ad.add (m * 4)).off + 3, none⟩).i64 c3
      have hLp : L ≤ (ad.add (m * 4)).block := by rw [block_of_add]; exact hL
      have hBp : (ad.add (m * 4)).block < B := by rw [block_of_add]; exact hB
      have x1 : w1.frozen? ⟨(ad.add (m * 4)).block, (ad.add (m * 4)).off + 1, none⟩ = false := thaw_frozen hT1 hLp hBp
      have x2 : w1.frozen? ⟨(ad.add (m * 4)).block, (ad.add (m * 4)).off + 2, none⟩ = false := thaw_frozen hT1 hLp hBp
      have x3 : w1.frozen? ⟨(ad.add (m * 4)).block, (ad.add (m * 4)).off + 3, none⟩ = false := thaw_frozen hT1 hLp hBp
      have HM := Lib.hid (fun (a1 a2 a3 : Int) => show Mk L B w (((w1.setCell ⟨(ad.add (m * 4)).block, (ad.add (m * 4)).off + 1, none⟩ (.int .i64 a1)).setCell ⟨(ad.add (m * 4)).block, (ad.add (m * 4)).off + 2, none⟩ (.int .i64 a2)).setCell ⟨(ad.add (m * 4)).block, (ad.add (m * 4)).off + 3, none⟩ (.int .i64 a3)) ∧ Thaw L B (((w1.setCell ⟨(ad.add (m * 4)).block, (ad.add (m * 4)).off + 1, none⟩ (.int .i64 a1)).setCell ⟨(ad.add (m * 4)).block, (ad.add (m * 4)).off + 2, none⟩ (.int .i64 a2)).setCell ⟨(ad.add (m * 4)).block, (ad.add (m * 4)).off + 3, none⟩ (.int .i64 a3)) from by
        refine ⟨?_, ((hT1.set_ _ _).set_ _ _).set_ _ _⟩
        refine (Hmk.out.trans hm1).trans (((Mk.set_ (p := ⟨(ad.add (m * 4)).block, (ad.add (m * 4)).off + 1, none⟩) (v := .int .i64 a1) hLp hBp d1 (MkC.i64_ _ _)).trans (Mk.set_ (p := ⟨(ad.add (m * 4)).block, (ad.add (m * 4)).off + 2, none⟩) (x := .int .i64 z2) (v := .int .i64 a2) hLp hBp ?_ (MkC.i64_ _ _))).trans (Mk.set_ (p := ⟨(ad.add (m * 4)).block, (ad.add (m * 4)).off + 3, none⟩) (x := .int .i64 z3) (v := .int .i64 a3) hLp hBp ?_ (MkC.i64_ _ _)))
        · rw [World.cell?_setCell_other _ _ _ _ (fun e => by injection e with _ e _; omega)]; exact d2
        · rw [World.cell?_setCell_other _ _ _ _ (fun e => by injection e with _ e _; omega), World.cell?_setCell_other _ _ _ _ (fun e => by injection e with _ e _; omega)]; exact d3)
      clear c0 c1 c2 c3 hm1 hT1 Hmb
      have ht63 : t + nm.length ≤ 2199023255552 := by omega
      obtain ⟨t2, ht2⟩ : ∃ t2, t2 = t + nm.length := ⟨_, rfl⟩
      rw [← ht2] at Hnext ht63
      rw [← ht2]
      clear ht2
      go_wp2
      go_roundw
      case rel => exact ⟨m + 1, by omega, by go_num, by rw [Hnext.out]; go_num, (HM.out _ _ _).1, (HM.out _ _ _).2⟩
      case measure => simp [intOf]; omega
    · go_wp2
      go_ret
      have : m = l.length := by omega
      subst this
      exact ⟨rfl, hmk, hTr⟩
end ArnM
end Go.Proofs.YtebgigiakfjocaaDoor
