/-
  Rows of values: marks.
-/
import Derived.Test.YtddjcjjnpidhiaaGreatDoorMfrm
import Derived.Test.YtddjcjjnpidhiaaGreatDoorArnMarkD
namespace Go.Proofs.YtddjcjjnpidhiaaGreatDoor
open Go.RowKit
set_option linter.unusedVariables false
open ArnM

theorem VlR.mk_ {L B : Nat} {w w' : World} {A : Option Addr} {l : List Vl} (h : VlR w L B A l) (hm : Mk L B w w') : ∃ l' : List Vl, l'.length = l.length ∧ VlR w' L B A l' := by
  by_cases hn : 0 < l.length
  · obtain ⟨ad, eA, hL, hB, hs⟩ := h.2 hn
    have each : ∀ i (hi : i < l.length), ∃ x : Vl, C3 w' (ad.add (i * 3)) (.int .i64 x.k) (.int .i64 x.n) (.int .i64 x.g) := fun i hi => by
      obtain ⟨v0, v1, v2, ⟨c0, c1, c2⟩, rfl, rfl, rfl⟩ := hs i hi
      obtain ⟨y0, e0⟩ := (hm.cell (ad.add (i * 3))).i64 c0
      obtain ⟨y1, e1⟩ := (hm.cell ⟨(ad.add (i * 3)).block, (ad.add (i * 3)).off + 1, none⟩).i64 c1
      obtain ⟨y2, e2⟩ := (hm.cell ⟨(ad.add (i * 3)).block, (ad.add (i * 3)).off + 2, none⟩).i64 c2
      exact ⟨⟨y0, y1, y2⟩, e0, e1, e2⟩
    let f : Fin l.length → Vl := fun i => Classical.choose (each i.1 i.2)
    have hfl : (List.ofFn f).length = l.length := by simp
    refine ⟨List.ofFn f, hfl, by rw [hfl]; exact h.1, fun _ => ⟨ad, eA, hL, hB, fun i hi => ?_⟩⟩
    have hi' : i < l.length := by rw [← hfl]; exact hi
    have hs := Classical.choose_spec (each i hi')
    have e : (List.ofFn f)[i] = f ⟨i, hi'⟩ := by simp
    rw [e]
    exact ⟨_, _, _, hs, rfl, rfl, rfl⟩
  · have h0 : l = [] := List.eq_nil_of_length_eq_zero (by omega)
    subst h0
    exact ⟨[], rfl, Row3.none_ _ _ _ _ _⟩

set_option maxRecDepth 100000 in
set_option maxHeartbeats 2000000 in
theorem markValS_m (l : List Vl) (A : Option Addr) (c L B k : Nat) (w : World) (hlen : l.length ≤ 1048576) (hk : k ≤ 1073741824) (hT : Thaw L B w) (h : VlR w L B A l) :
    Calls Tryz.prog 17 #[.slice A l.length c, .int .i64 (k : Int)] w fun r w' => r = .returned (.int .i64 ((k + 3 * l.length : Nat) : Int)) ∧ Mk L B w w' ∧ Thaw L B w' := by
  go_enter Tryz.func17, Tryz.ntmps17
  go_wp2
  go_loopw [1, 5] (fun s i wr => ∃ (m : Nat), m ≤ l.length ∧ i = .int .i64 m ∧ s = .int .i64 ((k + 3 * m : Nat) : Int) ∧ Mk L B w wr ∧ Thaw L B wr) (fun _ i _ => l.length - (intOf i).toNat)
  case atStart => exact ⟨0, Nat.zero_le _, rfl, rfl, Mk.refl _ _ _, hT⟩
  case round =>
    obtain ⟨m, hm, rfl, rfl, hmk, hTr⟩ := hrel
    by_cases hlt : m < l.length
    · obtain ⟨l', hl', hS'⟩ := VlR.mk_ h hmk
      obtain ⟨ad, rfl, hL, hB, hat⟩ := hS'.2 (by omega)
      obtain ⟨v0, v1, v2, ⟨c0, c1, c2⟩, rfl, rfl, rfl⟩ := hat m (by omega)
      obtain ⟨t, ht⟩ : ∃ t, t = k + 3 * m := ⟨_, rfl⟩
      have hnext : k + 3 * (m + 1) = t + 3 := by omega
      have htb : t ≤ 1099511627776 := by omega
      rw [← ht]
      have hLp : L ≤ (ad.add (m * 3)).block := by rw [block_of_add]; exact hL
      have hBp : (ad.add (m * 3)).block < B := by rw [block_of_add]; exact hB
      have x0 : wr.frozen? (ad.add (m * 3)) = false := thaw_frozen hTr hLp hBp
      have x1 : wr.frozen? ⟨(ad.add (m * 3)).block, (ad.add (m * 3)).off + 1, none⟩ = false := thaw_frozen hTr hLp hBp
      have x2 : wr.frozen? ⟨(ad.add (m * 3)).block, (ad.add (m * 3)).off + 2, none⟩ = false := thaw_frozen hTr hLp hBp
      obtain ⟨f0, hf0⟩ : ∃ b, b = l'[m].k := ⟨_, rfl⟩
      rw [← hf0] at c0
      obtain ⟨f1, hf1⟩ : ∃ b, b = l'[m].n := ⟨_, rfl⟩
      rw [← hf1] at c1
      obtain ⟨f2, hf2⟩ : ∃ b, b = l'[m].g := ⟨_, rfl⟩
      rw [← hf2] at c2
      have HM := Lib.hid (fun (a0 a1 a2 : Int) => show Mk L B w (((wr.setCell (ad.add (m * 3)) (.int .i64 a0)).setCell ⟨(ad.add (m * 3)).block, (ad.add (m * 3)).off + 1, none⟩ (.int .i64 a1)).setCell ⟨(ad.add (m * 3)).block, (ad.add (m * 3)).off + 2, none⟩ (.int .i64 a2)) ∧ Thaw L B (((wr.setCell (ad.add (m * 3)) (.int .i64 a0)).setCell ⟨(ad.add (m * 3)).block, (ad.add (m * 3)).off + 1, none⟩ (.int .i64 a1)).setCell ⟨(ad.add (m * 3)).block, (ad.add (m * 3)).off + 2, none⟩ (.int .i64 a2)) from by
        refine ⟨hmk.trans ?_, ((hTr.set_ _ _).set_ _ _).set_ _ _⟩
        refine (((Mk.set_ (v := .int .i64 a0) hLp hBp c0 (MkC.i64_ _ _)).trans (Mk.set_ (p := ⟨(ad.add (m * 3)).block, (ad.add (m * 3)).off + 1, none⟩) (x := .int .i64 f1) (v := .int .i64 a1) hLp hBp ?_ (MkC.i64_ _ _))).trans (Mk.set_ (p := ⟨(ad.add (m * 3)).block, (ad.add (m * 3)).off + 2, none⟩) (x := .int .i64 f2) (v := .int .i64 a2) hLp hBp ?_ (MkC.i64_ _ _)))
        · rw [World.cell?_setCell_other _ _ _ _ (fun e => by have := congrArg Addr.off e; simp at this)]; exact c1
        · rw [World.cell?_setCell_other _ _ _ _ (fun e => by have := congrArg Addr.off e; simp at this), World.cell?_setCell_other _ _ _ _ (fun e => by have := congrArg Addr.off e; simp at this)]; exact c2)
      have Hnext := Lib.hid hnext
      clear hat hS' hf0 hf1 hf2 hmk hTr ht hnext
      have s1 : ∀ (a0 : Int), (wr.setCell (ad.add (m * 3)) (.int .i64 a0)).cell? ⟨(ad.add (m * 3)).block, (ad.add (m * 3)).off + 1, none⟩ = some (.int .i64 f1) := fun a0 => by rw [World.cell?_setCell_other _ _ _ _ (fun e => by have := congrArg Addr.off e; simp at this)]; exact c1
      have s2 : ∀ (a0 a1 : Int), ((wr.setCell (ad.add (m * 3)) (.int .i64 a0)).setCell ⟨(ad.add (m * 3)).block, (ad.add (m * 3)).off + 1, none⟩ (.int .i64 a1)).cell? ⟨(ad.add (m * 3)).block, (ad.add (m * 3)).off + 2, none⟩ = some (.int .i64 f2) := fun a0 a1 => by rw [World.cell?_setCell_other _ _ _ _ (fun e => by have := congrArg Addr.off e; simp at this), World.cell?_setCell_other _ _ _ _ (fun e => by have := congrArg Addr.off e; simp at this)]; exact c2
      go_wp2
      go_roundw
      case rel => exact ⟨m + 1, by omega, by go_num, by rw [Hnext.out]; go_num, (HM.out _ _ _).1, (HM.out _ _ _).2⟩
      case measure => simp [intOf]; omega
    · go_wp2
      go_ret
      have : m = l.length := by omega
      subst this
      exact ⟨rfl, hmk, hTr⟩
end Go.Proofs.YtddjcjjnpidhiaaGreatDoor
