/-
  Marks all over an arena's copy: the laws' own functions: a slot's.
-/
import Derived.Test.YtfmlgpnjckamjaaMmark
namespace Go.Proofs.Ytfmlgpnjckamjaa
open Go.RowKit
set_option linter.unusedVariables false
namespace ArnM

theorem sum_like {f : Fd → Nat} (hf : ∀ x y : Fd, x.name.length = y.name.length → f x = f y) {l l' : List Fd} (hl : l'.length = l.length) (h : ∀ i (hi : i < l.length), (l'[i]'(by omega)).name.length = l[i].name.length) : ∀ k, k ≤ l.length → sumIn f l' k = sumIn f l k := by
  intro k
  induction k with
  | zero => intro _; rfl
  | succ k ih =>
    intro hk
    rw [sumIn_step f (show k < l'.length by omega), sumIn_step f (show k < l.length by omega), ih (by omega), hf _ _ (h k (by omega))]
theorem like_sz {l l' : List Fd} (hl : l'.length = l.length) (h : ∀ i (hi : i < l.length), (l'[i]'(by omega)).name.length = l[i].name.length) : fsSz l' = fsSz l := by
  unfold fsSz
  rw [← sumIn_all fdSz l', ← sumIn_all fdSz l, hl, sum_like (f := fdSz) (fun x y e => e) hl h _ (Nat.le_refl _)]
theorem like_mk {l l' : List Fd} (hl : l'.length = l.length) (h : ∀ i (hi : i < l.length), (l'[i]'(by omega)).name.length = l[i].name.length) : sumIn mkFd l' l'.length = sumIn mkFd l l.length := by
  rw [hl]
  exact sum_like (f := mkFd) (fun x y e => by unfold mkFd; rw [e]) hl h _ (Nat.le_refl _)

set_option maxRecDepth 100000 in
set_option maxHeartbeats 2000000 in
theorem markSlotS_m (l : List Sl) (A : Option Addr) (c L B k : Nat) (w : World) (hl : slsSz l ≤ 1050000) (hk : k ≤ 100000000) (hT : Thaw L B w) (h : SlL w L B A l) :
    Calls Try.prog 42 #[.slice A l.length c, .int .i64 (k : Int)] w fun r w' => r = .returned (.int .i64 ((k + sumIn mkSl l l.length : Nat) : Int)) ∧ Mk L B w w' ∧ Thaw L B w' := by
  have hlen : l.length ≤ 1050000 := by unfold slsSz at hl; omega
  have Hl := Lib.hid hl
  clear hl
  go_enter Try.func42, Try.ntmps42
  go_wp2
  go_loopw [1, 5] (fun s i wr => ∃ (m : Nat), m ≤ l.length ∧ i = .int .i64 m ∧ s = .int .i64 ((k + sumIn mkSl l m : Nat) : Int) ∧ Mk L B w wr ∧ Thaw L B wr) (fun _ i _ => l.length - (intOf i).toNat)
  case atStart => exact ⟨0, Nat.zero_le _, rfl, rfl, Mk.refl _ _ _, hT⟩
  case round =>
    obtain ⟨m, hm, rfl, rfl, hmk, hTr⟩ := hrel
    by_cases hlt : m < l.length
    · obtain ⟨l', hl', hS', hn'⟩ := SlL.mk_ h hmk
      obtain ⟨ad, rfl, hL, hB, hat⟩ := hS'.2 (by omega)
      obtain ⟨v0, v1, v2, v3, ⟨c0, c1, c2, c3⟩, rfl, rfl, rfl, FA, fc, rfl, hF⟩ := hat m (by omega)
      obtain ⟨hfl, hfn⟩ := hn' m hlt
      have hstep := sumIn_step mkSl hlt
      have hsum := mkSl_sum l m
      have hs1 := sum_get slSz hlt
      have hls := Hl.out
      unfold slsSz at hls
      have hfz : fsSz l[m].fs ≤ 1050000 := by
        have : slSz l[m] = fsSz l[m].fs := rfl
        omega
      obtain ⟨t, ht⟩ : ∃ t, t = k + sumIn mkSl l m := ⟨_, rfl⟩
      rw [← ht]
      have htb : t ≤ 200000000 := by omega
      have hnext : k + sumIn mkSl l (m + 1) = t + 3 + sumIn mkFd l[m].fs l[m].fs.length := by rw [hstep, ht]; unfold mkSl; omega
      have hLp : L ≤ (ad.add (m * 4)).block := by rw [block_of_add]; exact hL
      have hBp : (ad.add (m * 4)).block < B := by rw [block_of_add]; exact hB
      have x0 : wr.frozen? (ad.add (m * 4)) = false := thaw_frozen hTr hLp hBp
      have x1 : wr.frozen? ⟨(ad.add (m * 4)).block, (ad.add (m * 4)).off + 1, none⟩ = false := thaw_frozen hTr hLp hBp
      have x2 : wr.frozen? ⟨(ad.add (m * 4)).block, (ad.add (m * 4)).off + 2, none⟩ = false := thaw_frozen hTr hLp hBp
      obtain ⟨bl, hbl⟩ : ∃ b, b = l'[m].live := ⟨_, rfl⟩
      obtain ⟨gn, hgn⟩ : ∃ b, b = l'[m].gen := ⟨_, rfl⟩
      obtain ⟨ct, hct⟩ : ∃ b, b = l'[m].count := ⟨_, rfl⟩
      obtain ⟨fs, hfs⟩ : ∃ b, b = l'[m].fs := ⟨_, rfl⟩
      rw [← hbl] at c0
      rw [← hgn] at c1
      rw [← hct] at c2
      rw [← hfs] at c3 hF hfl
      simp only [← hfs] at hfn
      have HC := Lib.hid (fun (X : World) (hX : Mk L B wr X) (hTX : Thaw L B X) => show Calls Try.prog 79 #[.slice FA fs.length fc, .int .i64 ((t + 3 : Nat) : Int)] X fun r w' => r = .returned (.int .i64 ((k + sumIn mkSl l (m + 1) : Nat) : Int)) ∧ Mk L B w w' ∧ Thaw L B w' from by
        obtain ⟨f2, hf2, hF2, hn2⟩ := FdL.mk_ hF hX
        have hall : ∀ i (hi : i < l[m].fs.length), (f2[i]'(by omega)).name.length = l[m].fs[i].name.length := fun i hi => (hn2 i (by omega)).trans (hfn i hi)
        have hc := markFieldS_m f2 FA fc L B (t + 3) X (by rw [like_sz (hf2.trans hfl) hall]; exact hfz) (by omega) hTX hF2
        rw [like_mk (hf2.trans hfl) hall, hf2, ← hnext] at hc
        exact hc.mono fun r w' ⟨e, hm2, hT2⟩ => ⟨e, (hmk.trans hX).trans hm2, hT2⟩)
      have HM := Lib.hid (fun (b : Bool) (a1 a2 : Int) => show Mk L B wr (((wr.setCell (ad.add (m * 4)) (.bool b)).setCell ⟨(ad.add (m * 4)).block, (ad.add (m * 4)).off + 1, none⟩ (.int .i64 a1)).setCell ⟨(ad.add (m * 4)).block, (ad.add (m * 4)).off + 2, none⟩ (.int .i64 a2)) ∧ Thaw L B (((wr.setCell (ad.add (m * 4)) (.bool b)).setCell ⟨(ad.add (m * 4)).block, (ad.add (m * 4)).off + 1, none⟩ (.int .i64 a1)).setCell ⟨(ad.add (m * 4)).block, (ad.add (m * 4)).off + 2, none⟩ (.int .i64 a2)) from by
        refine ⟨?_, ((hTr.set_ _ _).set_ _ _).set_ _ _⟩
        refine ((Mk.set_ (v := .bool b) hLp hBp c0 (MkC.bool_ _ _)).trans (Mk.set_ (p := ⟨(ad.add (m * 4)).block, (ad.add (m * 4)).off + 1, none⟩) (x := .int .i64 gn) (v := .int .i64 a1) hLp hBp ?_ (MkC.i64_ _ _))).trans (Mk.set_ (p := ⟨(ad.add (m * 4)).block, (ad.add (m * 4)).off + 2, none⟩) (x := .int .i64 ct) (v := .int .i64 a2) hLp hBp ?_ (MkC.i64_ _ _))
        · rw [World.cell?_setCell_other _ _ _ _ (fun e => by have := congrArg Addr.off e; simp at this)]; exact c1
        · rw [World.cell?_setCell_other _ _ _ _ (fun e => by have := congrArg Addr.off e; simp at this), World.cell?_setCell_other _ _ _ _ (fun e => by have := congrArg Addr.off e; simp at this)]; exact c2)
      clear hat hS' hn' hstep hsum hs1 hls hfz ht hnext hbl hgn hct hfs hfl hfn hF hmk hTr
      have s1 : ∀ b : Bool, (wr.setCell (ad.add (m * 4)) (.bool b)).cell? ⟨(ad.add (m * 4)).block, (ad.add (m * 4)).off + 1, none⟩ = some (.int .i64 gn) := fun b => by
        rw [World.cell?_setCell_other _ _ _ _ (fun e => by have := congrArg Addr.off e; simp at this)]; exact c1
      have s2 : ∀ (b : Bool) (a1 : Int), ((wr.setCell (ad.add (m * 4)) (.bool b)).setCell ⟨(ad.add (m * 4)).block, (ad.add (m * 4)).off + 1, none⟩ (.int .i64 a1)).cell? ⟨(ad.add (m * 4)).block, (ad.add (m * 4)).off + 2, none⟩ = some (.int .i64 ct) := fun b a1 => by
        rw [World.cell?_setCell_other _ _ _ _ (fun e => by have := congrArg Addr.off e; simp at this), World.cell?_setCell_other _ _ _ _ (fun e => by have := congrArg Addr.off e; simp at this)]; exact c2
      have s3 : ∀ (b : Bool) (a1 a2 : Int), (((wr.setCell (ad.add (m * 4)) (.bool b)).setCell ⟨(ad.add (m * 4)).block, (ad.add (m * 4)).off + 1, none⟩ (.int .i64 a1)).setCell ⟨(ad.add (m * 4)).block, (ad.add (m * 4)).off + 2, none⟩ (.int .i64 a2)).cell? ⟨(ad.add (m * 4)).block, (ad.add (m * 4)).off + 3, none⟩ = some (.slice FA fs.length fc) := fun b a1 a2 => by
        rw [World.cell?_setCell_other _ _ _ _ (fun e => by have := congrArg Addr.off e; simp at this), World.cell?_setCell_other _ _ _ _ (fun e => by have := congrArg Addr.off e; simp at this), World.cell?_setCell_other _ _ _ _ (fun e => by have := congrArg Addr.off e; simp at this)]; exact c3
      go_wp2_with fail
      rw [show ((t : Int) + 1 + 1 + 1) = ((t + 3 : Nat) : Int) from by omega]
      refine (HC.out _ (HM.out _ _ _).1 (HM.out _ _ _).2).mono ?_
      intro r w' ⟨e, hm2, hT2⟩
      subst e
      go_wp2
      go_roundw
      case rel => exact ⟨m + 1, by omega, by go_num, by go_num, hm2, hT2⟩
      case measure => simp [intOf]; omega
    · go_wp2
      go_ret
      have : m = l.length := by omega
      subst this
      exact ⟨rfl, hmk, hTr⟩
end ArnM
end Go.Proofs.Ytfmlgpnjckamjaa
