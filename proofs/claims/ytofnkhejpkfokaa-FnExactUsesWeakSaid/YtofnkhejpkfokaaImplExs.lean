/-
  The program's measure of expressions.
-/
import Derived.Test.YtofnkhejpkfokaaEnter
namespace Go.Proofs.Ytofnkhejpkfokaa
open Go.RowKit
set_option linter.unusedVariables false

/-- what a measure tells: yes, and what it has counted then; or no -/
def MeaP (yes : Bool) (n dp g : Nat) (a c : Int) (w : World) (r : Ending) (w' : World) : Prop :=
  ∃ b, r = .returned (.bool b) ∧ Past g w w' ∧ ∃ a' c' : Int, Blk w' g 65 #[.int .i64 a', .int .i64 c'] ∧ (b = true ↔ (yes = true ∧ a + n ≤ 90)) ∧ (b = true → a' = a + n ∧ c' = max c dp)

theorem exsSz_take : ∀ (l : List Ex) (k : Nat) (hk : k < l.length), exSz l[k] ≤ exsSz l := fun l k hk => by have := exsSz_get hk; omega

/-- a slice of expressions whose own row lies anywhere but in block g -/
def ExR (w : World) (g L B : Nat) (A : Option Addr) (l : List Ex) : Prop :=
  l.length ≤ maxLen ∧ (0 < l.length → ∃ ad, A = some ad ∧ ad.block ≠ g ∧ ad.block < w.heap.size ∧ ∀ k (h : k < l.length), ∃ v0 v1 v2 v3, At4 w (ad.add (k * 4)) v0 v1 v2 v3 ∧ ExV w L B v0 v1 v2 v3 l[k])
theorem ExL.exr {w : World} {L B g : Nat} {A : Option Addr} {l : List Ex} (h : ExL w L B A l) (hg : B ≤ g) (hB : B ≤ w.heap.size) : ExR w g L B A l :=
  ⟨h.1, fun hn => by
    obtain ⟨ad, eA, hL, hb, hs⟩ := h.2 hn
    exact ⟨ad, eA, by omega, by omega, hs⟩⟩
theorem ExR.past {w w' : World} {L B g : Nat} {A : Option Addr} {l : List Ex} (h : ExR w g L B A l) (hp : Past g w w') (hg : B ≤ g) (hB : B ≤ w.heap.size) : ExR w' g L B A l :=
  ⟨h.1, fun hn => by
    obtain ⟨ad, eA, hne, hb, hs⟩ := h.2 hn
    have := hp.size
    refine ⟨ad, eA, hne, by omega, fun k hk => ?_⟩
    obtain ⟨v0, v1, v2, v3, h4, hv⟩ := hs k hk
    refine ⟨v0, v1, v2, v3, h4.keep (fun q hq => ?_), hv.below (hp.below hg hB)⟩
    exact World.cell?_of_block (hp.block q.block (by rw [hq, block_of_add]; exact hb) (by rw [hq, block_of_add]; exact hne))⟩

def MeaExs (l : List Ex) : Prop := ∀ (A : Option Addr) (cp L B g d : Nat) (a c : Int) (w : World), ExR w g L B A l → B ≤ w.heap.size → B ≤ g → exsSz l ≤ 2097152 →
  Blk w g 65 #[.int .i64 a, .int .i64 c] → 0 ≤ a → a ≤ 90 → 0 ≤ c → c ≤ 100 → d ≤ 8 →
  Calls Try.prog 127 #[.pointer (some ⟨g, 0, none⟩), .slice A l.length cp, .int .i64 (d : Int)] w (MeaP (exsGood l d) (exsN l) (exsDeep l d) g a c w)

theorem exsDeep_le : ∀ (l : List Ex) (d : Nat), exsGood l d = true → exsDeep l d ≤ 7 := by
  intro l d h
  induction l with
  | nil => simp [exsDeep]
  | cons e r ih =>
    simp only [exsGood, Bool.and_eq_true] at h
    have h1 := ih h.2
    have h2 : ∀ (e : Ex) (d : Nat), exGood e d = true → exDeep e d ≤ 7 := fun e => Ex.ind (P := fun e => ∀ d, exGood e d = true → exDeep e d ≤ 7) (fun k n name args ihe d he => by
      rw [exGood_mk] at he
      simp only [Bool.and_eq_true, decide_eq_true_eq] at he
      rw [exDeep_mk]
      have : ∀ (l : List Ex), (∀ e ∈ l, ∀ d, exGood e d = true → exDeep e d ≤ 7) → ∀ d, exsGood l d = true → exsDeep l d ≤ 7 := by
        intro l
        induction l with
        | nil => intro _ d _; simp [exsDeep]
        | cons x t iht =>
          intro hx d hg
          simp only [exsGood, Bool.and_eq_true] at hg
          have := hx x (by simp) d hg.1
          have := iht (fun e he => hx e (by simp [he])) d hg.2
          simp only [exsDeep]; omega
      have := this args ihe (d + 1) he.2
      omega) e
    have := h2 e d h.1
    simp only [exsDeep]; omega

set_option maxHeartbeats 2000000 in
theorem measureExs_of (l : List Ex) (ih : ∀ e ∈ l, ∀ k n name args, e = .mk k n name args → MeaExs args) : MeaExs l := by
  intro A cp L B g d a c w h hB hg hsz hK ha ha' hc hc' hd
  have hn := h.1
  unfold maxLen at hn
  have Ih := Lib.hid ih
  have Hsz := Lib.hid hsz
  clear ih hsz
  go_enter Try.func127, Try.ntmps127
  go_wp2
  go_loopw [11] (fun i wr => ∃ (k : Nat) (a' c' : Int), k ≤ l.length ∧ i = .int .i64 k ∧ Past g w wr ∧ Blk wr g 65 #[.int .i64 a', .int .i64 c'] ∧ a' = a + exsN (l.take k) ∧ c' = max c (exsDeep (l.take k) d) ∧ a' ≤ 90 ∧ Hid (exsGood (l.take k) d = true)) (fun i _ => l.length - (intOf i).toNat)
  case atStart => exact ⟨0, a, c, Nat.zero_le _, rfl, Past.refl _ _, hK, by simp [exsN], by simp [exsDeep]; omega, ha', Lib.hid (by simp [exsGood])⟩
  case round =>
    obtain ⟨k, a', c', hk, rfl, hP, hKr, ea, ec, ha2, hgood⟩ := hrel
    by_cases hlt : k < l.length
    · obtain ⟨ad, rfl, _, hbk, hat⟩ := (h.past hP hg hB).2 (by omega)
      obtain ⟨v0, v1, v2, v3, ⟨c0, c1, c2, c3⟩, hv⟩ := hat k hlt
      obtain ⟨kk, n, name, args, hle⟩ : ∃ kk n name args, l[k] = .mk kk n name args := by cases l[k]; exact ⟨_, _, _, _, rfl⟩
      have hle' := Lib.hid hle
      rw [hle] at hv
      clear hle hat
      obtain ⟨xA, xc, xA', xc', rfl, rfl, rfl, rfl, xR, xm, xx⟩ := hv.open_
      have hgo := hKr.alloc (.cells #[.int .i64 kk, .int .i64 n, .slice xA name.length xc, .slice xA' args.length xc'] 78)
      have hPo : Past g wr (wr.alloc (.cells #[.int .i64 kk, .int .i64 n, .slice xA name.length xc, .slice xA' args.length xc'] 78)) := (Past.refl g wr).alloc _
      have hget := exsN_get hlt
      have hN : exN l[k] = 1 + exsN args := by rw [hle'.out, exN_mk]
      have hd0 := exsDeep_le _ _ hgood.out
      have hfac : exsGood l d = true → d ≤ 7 ∧ exOk1 kk n name args.length = true ∧ exsGood args (d + 1) = true := fun hh => by
        have := exsGood_get hlt hh
        rw [hle'.out, exGood_mk] at this
        simp only [Bool.and_eq_true, decide_eq_true_eq] at this
        exact ⟨this.1.1, this.1.2, this.2⟩
      have hxs : name.length + exsSz args ≤ 2097152 := by have := exsSz_take l k hlt; rw [hle'.out, exSz_mk] at this; have := Hsz.out; omega
      have hstep : d ≤ 7 → exOk1 kk n name args.length = true → exsGood args (d + 1) = true → exsGood (l.take (k + 1)) d = true := fun h1 h2 h3 => by
        rw [exsGood_step hlt, hgood.out, hle'.out, exGood_mk, h2, h3]; simp [h1]
      have hdeep : exsDeep (l.take (k + 1)) d = max (exsDeep (l.take k) d) (max d (exsDeep args (d + 1))) := by rw [exsDeep_step hlt, hle'.out, exDeep_mk]
      have hNs := exsN_step hlt
      rw [hN] at hget hNs
      have F : Hid (a' = a + exsN (l.take k) ∧ c' = max c (exsDeep (l.take k) d) ∧ exsN (l.take k) + (1 + exsN args) ≤ exsN l ∧ exsDeep (l.take k) d ≤ 7 ∧ (exsGood l d = true → d ≤ 7 ∧ exOk1 kk n name args.length = true ∧ exsGood args (d + 1) = true) ∧
          (d ≤ 7 → exOk1 kk n name args.length = true → exsGood args (d + 1) = true → exsGood (l.take (k + 1)) d = true) ∧ exsDeep (l.take (k + 1)) d = max (exsDeep (l.take k) d) (max d (exsDeep args (d + 1))) ∧ exsN (l.take (k + 1)) = exsN (l.take k) + (1 + exsN args)) :=
        Lib.hid ⟨ea, ec, hget, hd0, hfac, hstep, hdeep, hNs⟩
      have hc2 : c' ≤ 100 := by omega
      have hc3 : 0 ≤ c' := by omega
      have ha3 : 0 ≤ a' := by omega
      clear ea ec hget hd0 hfac hstep hdeep hNs hN hgood
      go_wp2_with fail
      refine (enter_c g a' c' d _ hgo (by omega) ha2 (by omega) (by omega) (by omega) (by omega)).mono ?_
      rintro e w1 ⟨rfl, hP1, hK1⟩
      have hP01 := hPo.trans hP1
      cases hen : enterOk a' d
      · have Hen := Lib.hid hen
        clear hen
        go_wp2
        go_ret
        refine ⟨false, rfl, hP.trans hP01, _, _, hK1, ⟨fun hh => Bool.noConfusion hh, fun hh => ?_⟩, fun hh => Bool.noConfusion hh⟩
        obtain ⟨f1, f2, f3, f4, f5, _⟩ := F.out
        have hE := Hen.out
        unfold enterOk at hE
        have h7 := (f5 hh.1).1
        simp at hE
        omega
      have Hen : Hid (a' + 1 ≤ 90 ∧ d ≤ 7) := Lib.hid (by unfold enterOk at hen; simp at hen; omega)
      clear hen
      have hne : wr.heap.size ≠ g := by have := hKr.lt; omega
      have K1 := (Blk.new wr 78 #[.int .i64 kk, .int .i64 n, .slice xA name.length xc, .slice xA' args.length xc']).past hP1 hne
      have q0 := K1.cell_of 0 rfl
      have q1 := K1.cell_of 1 rfl
      have q2 := K1.cell_of 2 rfl
      have q3 := K1.cell_of 3 rfl
      have hBr : B ≤ wr.heap.size := Nat.le_trans hB hP.size
      have hv1 := hv.below (hP01.below hg hBr)
      have hw1 := hP01.size
      go_wp2_with fail
      refine (exOk_c kk n name args _ _ _ _ L B w1 (by omega) (by omega) hv1).mono ?_
      rintro e w2 ⟨rfl, hb2⟩
      have hP02 := hP01.trans (Past.of hb2 g)
      have hK2 := hK1.below hb2 hK1.lt
      clear q0 q1 q2 q3
      cases hok : exOk1 kk n name args.length
      · have Hok := Lib.hid hok
        clear hok
        go_wp2
        go_ret
        refine ⟨false, rfl, hP.trans hP02, _, _, hK2, ⟨fun hh => Bool.noConfusion hh, fun hh => ?_⟩, fun hh => Bool.noConfusion hh⟩
        obtain ⟨f1, f2, f3, f4, f5, _⟩ := F.out
        have := (f5 hh.1).2.1
        rw [Hok.out] at this
        cases this
      have Hok := Lib.hid hok
      clear hok
      have K2 := K1.below hb2 K1.lt
      have q3 := K2.cell_of 3 rfl
      have xx2 := xx.below (hP02.below hg hBr)
      have hw2 := hP02.size
      have hc := Ih.out l[k] (List.getElem_mem hlt) kk n name args hle'.out xA' xc' L B g (d + 1) (a' + 1) (max c' d) w2 (xx2.exr hg (by omega)) (by omega) hg (by omega) hK2 (by omega) Hen.out.1 (by omega) (by have := Hen.out.2; omega) (by have := Hen.out.2; omega)
      rw [show (((d + 1 : Nat)) : Int) = (d : Int) + 1 by omega] at hc
      have Hc := Lib.hid hc
      clear hc xx2 hv1 hv xx
      have hd7 := Hen.out.2
      go_wp2_with fail
      refine Hc.out.mono ?_
      rintro e w3 ⟨b, rfl, hP3, a3, c3, hK3, hiff, himp⟩
      have Hiff := Lib.hid hiff
      have Himp := Lib.hid himp
      have hP03 := hP02.trans hP3
      clear hiff himp Hc q3
      cases b
      · go_wp2
        go_ret
        refine ⟨false, rfl, hP.trans hP03, _, _, hK3, ⟨fun hh => Bool.noConfusion hh, fun hh => ?_⟩, fun hh => Bool.noConfusion hh⟩
        obtain ⟨f1, f2, f3, f4, f5, _⟩ := F.out
        have h1 := f5 hh.1
        exact Hiff.out.2 ⟨h1.2.2, by omega⟩
      · go_wp2
        go_roundw
        case rel =>
          obtain ⟨f1, f2, f3, f4, f5, f6, f7, f8⟩ := F.out
          obtain ⟨g1, g2⟩ := Hiff.out.1 (by trivial)
          obtain ⟨m1, m2⟩ := Himp.out (by trivial)
          exact ⟨k + 1, a3, c3, by omega, by go_num, hP.trans hP03, hK3, by rw [f8]; omega, by rw [f7]; omega, by omega, Lib.hid (f6 hd7 Hok.out g1)⟩
        case measure => simp [intOf]; omega
    · go_wp2
      go_ret
      have hkl : k = l.length := by omega
      subst hkl
      rw [List.take_length] at ea ec
      have hg1 := hgood.out
      rw [List.take_length] at hg1
      exact ⟨true, rfl, hP, a', c', hKr, by simp [hg1]; omega, fun _ => ⟨ea, ec⟩⟩

theorem measureExs_c (l : List Ex) : MeaExs l := by
  have one : ∀ e : Ex, ∀ k n name args, e = .mk k n name args → MeaExs args := fun e => Ex.ind (P := fun e => ∀ k n name args, e = .mk k n name args → MeaExs args) (fun k n name args ih k' n' name' args' he => by
    injection he with _ _ _ he
    rw [← he]
    exact measureExs_of args ih) e
  exact measureExs_of l fun e _ => one e
end Go.Proofs.Ytofnkhejpkfokaa
