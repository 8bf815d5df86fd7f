/-
  Marks all over a code's copy: the laws' own functions.
-/
import Derived.Test.YtebgigiakfjocaaDoorUnitMark
namespace Go.Proofs.YtebgigiakfjocaaDoor
open Go.RowKit
set_option linter.unusedVariables false
namespace CodM
open Cod

/-- units marked -/
def LikeU (s t : Un) : Prop := ∃ hl : t.l.length = s.l.length, ∀ i (hi : i < s.l.length), (t.l[i]'(by omega)).name.length = s.l[i].name.length
theorem UnL.mk_ {L B : Nat} {w w' : World} {A : Option Addr} {l : List Un} (h : UnL w L B A l) (hm : Mk L B w w') : ∃ l' : List Un, ∃ hl : l'.length = l.length, UnL w' L B A l' ∧ ∀ i (hi : i < l.length), LikeU l[i] (l'[i]'(by omega)) :=
  row_mk3 (V := UnV w L B) (V' := UnV w' L B) (R := LikeU) h hm (fun v0 v1 v2 x hv u0 u1 u2 m0 m1 m2 => by
    obtain ⟨rfl, rfl, A', c, rfl, hF⟩ := hv
    obtain ⟨f', hf', hF', hn'⟩ := InL.mk_ hF hm
    obtain ⟨y0, e0⟩ := m0.i64 rfl
    injection e0 with e0
    obtain ⟨y1, e1⟩ := m1.i64 rfl
    injection e1 with e1
    have e2 := m2.slice rfl
    injection e2 with e2
    exact ⟨⟨y0, y1, f'⟩, ⟨e0, e1, A', c, by rw [e2, hf'], hF'⟩, hf', hn'⟩) mk_some
theorem sum_like {f : In → Nat} (hf : ∀ x y : In, x.name.length = y.name.length → f x = f y) {l l' : List In} (hl : l'.length = l.length) (h : ∀ i (hi : i < l.length), (l'[i]'(by omega)).name.length = l[i].name.length) : ∀ k, k ≤ l.length → sumIn f l' k = sumIn f l k := by
  intro k
  induction k with
  | zero => intro _; rfl
  | succ k ih =>
    intro hk
    rw [sumIn_step f (show k < l'.length by omega), sumIn_step f (show k < l.length by omega), ih (by omega), hf _ _ (h k (by omega))]
theorem like_sz {l l' : List In} (hl : l'.length = l.length) (h : ∀ i (hi : i < l.length), (l'[i]'(by omega)).name.length = l[i].name.length) : insSz l' = insSz l := by
  unfold insSz
  rw [← sumIn_all inSz l', ← sumIn_all inSz l, hl, sum_like (f := inSz) (fun x y e => e) hl h _ (Nat.le_refl _)]
theorem like_mk {l l' : List In} (hl : l'.length = l.length) (h : ∀ i (hi : i < l.length), (l'[i]'(by omega)).name.length = l[i].name.length) : sumIn mkIn l' l'.length = sumIn mkIn l l.length := by
  rw [hl]
  exact sum_like (f := mkIn) (fun x y e => by unfold mkIn; rw [e]) hl h _ (Nat.le_refl _)
def mkUn (s : Un) : Nat := 2 + sumIn mkIn s.l s.l.length
theorem mkUn_sum : ∀ (l : List Un) (k : Nat), sumIn mkUn l k ≤ 2 * l.length + 4 * (l.map unSz).sum
  | [], k => by simp [sumIn]
  | x :: r, 0 => by simp [sumIn]
  | x :: r, k + 1 => by
    have := mkUn_sum r k
    have h1 := mkIn_sum x.l x.l.length
    unfold sumIn at this ⊢
    have h2 : mkUn x = 2 + sumIn mkIn x.l x.l.length := rfl
    have h3 : unSz x = x.l.length + (x.l.map inSz).sum := rfl
    simp only [List.take_succ_cons, List.map_cons, List.sum_cons, List.length_cons]
    omega

set_option maxRecDepth 100000 in
set_option maxHeartbeats 2000000 in
theorem markUnitS_m (l : List Un) (A : Option Addr) (c L B k : Nat) (w : World) (hl : unsSz l ≤ 1048576) (hk : k ≤ 1000000) (hT : Thaw L B w) (h : UnL w L B A l) :
    Calls Tryd.prog 60 #[.slice A l.length c, .int .i64 (k : Int)] w fun r w' => r = .returned (.int .i64 ((k + sumIn mkUn l l.length : Nat) : Int)) ∧ Mk L B w w' ∧ Thaw L B w' := by
  have hlen : l.length ≤ 1048576 := by unfold unsSz at hl; omega
  have Hl := Lib.hid hl
  clear hl
  go_enter Tryd.func60, Tryd.ntmps60
  go_wp2
  go_loopw [1, 5] (fun s i wr => ∃ (m : Nat), m ≤ l.length ∧ i = .int .i64 m ∧ s = .int .i64 ((k + sumIn mkUn l m : Nat) : Int) ∧ Mk L B w wr ∧ Thaw L B wr) (fun _ i _ => l.length - (intOf i).toNat)
  case atStart => exact ⟨0, Nat.zero_le _, rfl, rfl, Mk.refl _ _ _, hT⟩
  case round =>
    obtain ⟨m, hm, rfl, rfl, hmk, hTr⟩ := hrel
    by_cases hlt : m < l.length
    · obtain ⟨l', hl', hS', hn'⟩ := UnL.mk_ h hmk
      obtain ⟨ad, rfl, hL, hB, hat⟩ := hS'.2 (by omega)
      obtain ⟨v0, v1, v2, ⟨c0, c1, c2⟩, rfl, rfl, NA, nc, rfl, hF⟩ := hat m (by omega)
      obtain ⟨hfl, hfn⟩ := hn' m hlt
      have hstep := sumIn_step mkUn hlt
      have hsum := mkUn_sum l m
      have hs1 := sum_get unSz hlt
      have hls := Hl.out
      unfold unsSz at hls
      have hfz : insSz l[m].l ≤ 1048576 := by
        have : unSz l[m] = insSz l[m].l := rfl
        omega
      obtain ⟨t, ht⟩ : ∃ t, t = k + sumIn mkUn l m := ⟨_, rfl⟩
      rw [← ht]
      have htb : t ≤ 20000000 := by omega
      have hnext : k + sumIn mkUn l (m + 1) = t + 2 + sumIn mkIn l[m].l l[m].l.length := by rw [hstep, ht]; unfold mkUn; omega
      have hLp : L ≤ (ad.add (m * 3)).block := by rw [block_of_add]; exact hL
      have hBp : (ad.add (m * 3)).block < B := by rw [block_of_add]; exact hB
      have x0 : wr.frozen? (ad.add (m * 3)) = false := thaw_frozen hTr hLp hBp
      have x1 : wr.frozen? ⟨(ad.add (m * 3)).block, (ad.add (m * 3)).off + 1, none⟩ = false := thaw_frozen hTr hLp hBp
      obtain ⟨f0, hf0⟩ : ∃ b, b = l'[m].params := ⟨_, rfl⟩
      rw [← hf0] at c0
      obtain ⟨f1, hf1⟩ : ∃ b, b = l'[m].regs := ⟨_, rfl⟩
      rw [← hf1] at c1
      obtain ⟨fs, hfs⟩ : ∃ b, b = l'[m].l := ⟨_, rfl⟩
      rw [← hfs] at c2 hF hfl
      simp only [← hfs] at hfn
      have HC := Lib.hid (fun (X : World) (hX : Mk L B wr X) (hTX : Thaw L B X) => show Calls Tryd.prog 90 #[.slice NA fs.length nc, .int .i64 ((t + 2 : Nat) : Int)] X fun r w' => r = .returned (.int .i64 ((k + sumIn mkUn l (m + 1) : Nat) : Int)) ∧ Mk L B w w' ∧ Thaw L B w' from by
        obtain ⟨f2, hf2, hF2, hn2⟩ := InL.mk_ hF hX
        have hall : ∀ i (hi : i < l[m].l.length), (f2[i]'(by omega)).name.length = l[m].l[i].name.length := fun i hi => (hn2 i (by omega)).trans (hfn i hi)
        have hc := markInsS_m f2 NA nc L B (t + 2) X (by rw [like_sz (hf2.trans hfl) hall]; exact hfz) (by omega) hTX hF2
        rw [like_mk (hf2.trans hfl) hall, hf2, ← hnext] at hc
        exact hc.mono fun r w' ⟨e, hm2, hT2⟩ => ⟨e, (hmk.trans hX).trans hm2, hT2⟩)
      have HM := Lib.hid (fun (a0 a1 : Int) => show Mk L B wr ((wr.setCell (ad.add (m * 3)) (.int .i64 a0)).setCell ⟨(ad.add (m * 3)).block, (ad.add (m * 3)).off + 1, none⟩ (.int .i64 a1)) ∧ Thaw L B ((wr.setCell (ad.add (m * 3)) (.int .i64 a0)).setCell ⟨(ad.add (m * 3)).block, (ad.add (m * 3)).off + 1, none⟩ (.int .i64 a1)) from by
        refine ⟨?_, ((hTr.set_ _ _).set_ _ _)⟩
        refine ((Mk.set_ (v := .int .i64 a0) hLp hBp c0 (MkC.i64_ _ _)).trans (Mk.set_ (p := ⟨(ad.add (m * 3)).block, (ad.add (m * 3)).off + 1, none⟩) (x := .int .i64 f1) (v := .int .i64 a1) hLp hBp ?_ (MkC.i64_ _ _)))
        · rw [World.cell?_setCell_other _ _ _ _ (fun e => by have := congrArg Addr.off e; simp at this)]; exact c1)
      clear hat hS' hn' hstep hsum hs1 hls hfz ht hnext hfs hfl hfn hF hmk hTr hf0 hf1
      have s1 : ∀ (a0 : Int), (wr.setCell (ad.add (m * 3)) (.int .i64 a0)).cell? ⟨(ad.add (m * 3)).block, (ad.add (m * 3)).off + 1, none⟩ = some (.int .i64 f1) := fun a0 => by
        rw [World.cell?_setCell_other _ _ _ _ (fun e => by have := congrArg Addr.off e; simp at this)]; exact c1
      have s2 : ∀ (a0 a1 : Int), ((wr.setCell (ad.add (m * 3)) (.int .i64 a0)).setCell ⟨(ad.add (m * 3)).block, (ad.add (m * 3)).off + 1, none⟩ (.int .i64 a1)).cell? ⟨(ad.add (m * 3)).block, (ad.add (m * 3)).off + 2, none⟩ = some (.slice NA fs.length nc) := fun a0 a1 => by
        rw [World.cell?_setCell_other _ _ _ _ (fun e => by have := congrArg Addr.off e; simp at this), World.cell?_setCell_other _ _ _ _ (fun e => by have := congrArg Addr.off e; simp at this)]; exact c2
      go_wp2_with fail
      rw [show ((t : Int) + 1 + 1) = ((t + 2 : Nat) : Int) from by omega]
      refine (HC.out _ (HM.out _ _).1 (HM.out _ _).2).mono ?_
      intro r w' ⟨e, hm2, hT2⟩
      subst e
      go_wp2
      go_roundw
      case rel => exact ⟨m + 1, by omega, by go_num, by go_num, hm2, hT2⟩
      case measure => simp [intOf]; omega
    · go_wp2
      go_ret
      have : m = l.length := by omega
      subst this
      exact ⟨rfl, hmk, hTr⟩

set_option maxHeartbeats 1000000 in
theorem markCode_m (l : List Un) (A : Option Addr) (c L B k : Nat) (w : World) (hB : B ≤ w.heap.size) (hLB : L ≤ B) (hl : unsSz l ≤ 1048576) (hk : k ≤ 1000000) (hT : Thaw L B w) (h : UnL w L B A l) :
    Calls Tryd.prog 31 #[.agg #[.slice A l.length c], .int .i64 (k : Int)] w fun r w' => r = .returned (.int .i64 ((k + sumIn mkUn l l.length : Nat) : Int)) ∧ Below L w w' ∧ (∀ b, b < w.heap.size → (b < L ∨ B ≤ b) → w'.heap[b]? = w.heap[b]?) := by
  have hbl := blwC w (.cells #[.slice A l.length c] 56)
  have hT0 : Thaw L B (w.alloc (.cells #[.slice A l.length c] 56)) := fun k h1 h2 => by
    obtain ⟨cs, t, e⟩ := hT k h1 h2
    exact ⟨cs, t, (hbl.block k (by omega)).trans e⟩
  have Hc := Lib.hid (markUnitS_m l A c L B k _ hl hk hT0 (h.below (hbl.mono hB)))
  have Hb := Lib.hid hbl
  have hms := mkUn_sum l l.length
  have hkb : k + sumIn mkUn l l.length ≤ 100000000 := by unfold unsSz at hl; omega
  obtain ⟨q, hq⟩ : ∃ q : Nat, k + sumIn mkUn l l.length = q := ⟨_, rfl⟩
  rw [hq] at Hc hkb
  rw [hq]
  clear hbl hT0 hT h hms hq
  go_enter Tryd.func31, Tryd.ntmps31
  go_wp2_with fail
  refine Hc.out.mono ?_
  rintro r w1 ⟨rfl, m1, T1⟩
  go_wp2
  go_ret
  exact ⟨rfl, (Hb.out.mono (by omega)).trans m1.below, fun b hb hc => (m1.block b hc).trans (Hb.out.block b hb)⟩
end CodM
end Go.Proofs.YtebgigiakfjocaaDoor
