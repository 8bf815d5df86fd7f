/-
  The model's depth of statements.
-/
import Derived.Test.YtofnkhejpkfokaaSpecNodesEx
namespace Go.Proofs.Ytofnkhejpkfokaa
open Go.RowKit
set_option linter.unusedVariables false

theorem exDeep_ge (e : Ex) (d : Nat) : d ≤ exDeep e d := by cases e; rw [exDeep_mk]; omega
theorem none_good {f : Ex} {d : Nat} (h : exNone f = true) (hd : d ≤ 7) : exGood f d = true ∧ exDeep f d = d := by
  cases f with
  | mk k n name args =>
    simp [exNone] at h
    obtain ⟨⟨⟨rfl, rfl⟩, rfl⟩, rfl⟩ := h
    rw [exGood_mk, exDeep_mk]
    simp [exOk1, exsGood, exsDeep, hd]
theorem stOk1_none {k : Int} {name : List UInt8} {f : Ex} {nb ne : Nat} (h : stOk1 k name f nb ne = true) (hk : k ≠ 2) : exNone f = true := by
  have hkk := stOk1_kind h
  have hks : k = 0 ∨ k = 1 ∨ k = 3 ∨ k = 4 ∨ k = 5 ∨ k = 6 ∨ k = 7 := by omega
  rcases hks with rfl | rfl | rfl | rfl | rfl | rfl | rfl
  all_goals
    simp [stOk1] at h
    simp [h]

def DepSts (l : List St) : Prop := ∀ (A : Option Addr) (cp L B d : Nat) (w : World), StL w L B A l → B ≤ w.heap.size → stsGood l d = true →
  Calls Try.prog 58 #[.slice A l.length cp, .int .i64 (d : Int)] w fun r w' => r = .returned (.int .i64 (stsDeep l d)) ∧ Below w.heap.size w w'

set_option maxRecDepth 100000 in
set_option maxHeartbeats 4000000 in
theorem deepSts_of (l : List St) (ih : ∀ s ∈ l, ∀ k name e f body els, s = .mk k name e f body els → DepSts body ∧ DepSts els) : DepSts l := by
  intro A cp L B d w h hB hG
  have hn := h.1
  unfold maxLen at hn
  have Ih := Lib.hid ih
  have HG := Lib.hid hG
  clear ih hG
  go_enter Try.func58, Try.ntmps58
  go_wp2
  go_loopw [5, 6] (fun s i wr => ∃ (j : Nat) (u : Int), j ≤ l.length ∧ i = .int .i64 j ∧ s = .int .i64 u ∧ Hid (u = stsDeep (l.take j) d) ∧ Below w.heap.size w wr) (fun _ i _ => l.length - (intOf i).toNat)
  case atStart => exact ⟨0, 0, Nat.zero_le _, rfl, rfl, Lib.hid (by simp [stsDeep]), Below.refl _ _⟩
  case round =>
    obtain ⟨j, u, hj, rfl, rfl, hu, hbl⟩ := hrel
    by_cases hlt : j < l.length
    · obtain ⟨ad, rfl, _, hbk, hat⟩ := (h.below (hbl.mono hB)).2 (by omega)
      obtain ⟨vs, hcells, hv⟩ := hat j hlt
      obtain ⟨k, name, e, f, body, els, hle⟩ : ∃ k name e f body els, l[j] = .mk k name e f body els := by cases l[j]; exact ⟨_, _, _, _, _, _, rfl⟩
      rw [hle] at hv
      obtain ⟨sA, sc, e0, e1, e2, e3, f0, f1, f2, f3, A1, c1, A2, c2, rfl, hR, hm, he, hf, hb1, hb2⟩ := hv.open_
      obtain ⟨ih1, ih2⟩ := Ih.out l[j] (List.getElem_mem hlt) k name e f body els hle
      have hgd := stsGood_get hlt HG.out
      rw [hle, stGood_mk] at hgd
      simp only [Bool.and_eq_true, decide_eq_true_eq] at hgd
      obtain ⟨⟨⟨⟨⟨g1, g2⟩, g3⟩, g4⟩, g5⟩, g6⟩ := hgd
      have hd1 : d + 1 ≤ 7 := by
        cases e with
        | mk ek en ename eargs => rw [exGood_mk] at g3; simp only [Bool.and_eq_true, decide_eq_true_eq] at g3; exact g3.1.1
      have hfd : exGood f (d + 1) = true ∧ (k ≠ 2 → exDeep f (d + 1) = d + 1) := by
        by_cases hk : k = 2
        · exact ⟨by simpa [hk] using g4, fun h2 => absurd hk h2⟩
        · obtain ⟨y1, y2⟩ := none_good (stOk1_none g2 hk) hd1
          exact ⟨y1, fun _ => y2⟩
      have hBr : B ≤ wr.heap.size := Nat.le_trans hB hbl.size
      have hcast : (((d + 1 : Nat)) : Int) = (d : Int) + 1 := by omega
      have hS : ∀ W, Below wr.heap.size wr W → AtN W (ad.add (j * 12)) [.int .i64 k, .slice sA name.length sc, e0, e1, e2, e3, f0, f1, f2, f3, .slice A1 body.length c1, .slice A2 els.length c2] := fun W hW =>
        hcells.keep fun q hq => hW.cell (by rw [hq, block_of_add]; omega)
      obtain ⟨xk, xn, xA, xa, xc, xA', xa', xc', rfl, rfl, rfl, rfl⟩ := he.shape
      obtain ⟨yk, yn, yA, ya, yc, yA', ya', yc', rfl, rfl, rfl, rfl⟩ := hf.shape
      have hSS : ∀ W, Below wr.heap.size wr W → (W.cell? ⟨(ad.add (j * 12)).block, (ad.add (j * 12)).off + 2, none⟩ = some (.int .i64 xk) ∧ W.cell? ⟨(ad.add (j * 12)).block, (ad.add (j * 12)).off + 3, none⟩ = some (.int .i64 xn) ∧ W.cell? ⟨(ad.add (j * 12)).block, (ad.add (j * 12)).off + 4, none⟩ = some (.slice xA xa xc) ∧ W.cell? ⟨(ad.add (j * 12)).block, (ad.add (j * 12)).off + 5, none⟩ = some (.slice xA' xa' xc') ∧ W.cell? ⟨(ad.add (j * 12)).block, (ad.add (j * 12)).off + 6, none⟩ = some (.int .i64 yk) ∧ W.cell? ⟨(ad.add (j * 12)).block, (ad.add (j * 12)).off + 7, none⟩ = some (.int .i64 yn) ∧ W.cell? ⟨(ad.add (j * 12)).block, (ad.add (j * 12)).off + 8, none⟩ = some (.slice yA ya yc) ∧ W.cell? ⟨(ad.add (j * 12)).block, (ad.add (j * 12)).off + 9, none⟩ = some (.slice yA' ya' yc') ∧ W.cell? ⟨(ad.add (j * 12)).block, (ad.add (j * 12)).off + 10, none⟩ = some (.slice A1 body.length c1) ∧ W.cell? ⟨(ad.add (j * 12)).block, (ad.add (j * 12)).off + 11, none⟩ = some (.slice A2 els.length c2) ∧ Below wr.heap.size wr W) := fun W hW => by
        have hc := hS W hW
        have c2 := hc 2 _ rfl
        have c3 := hc 3 _ rfl
        have c4 := hc 4 _ rfl
        have c5 := hc 5 _ rfl
        have c6 := hc 6 _ rfl
        have c7 := hc 7 _ rfl
        have c8 := hc 8 _ rfl
        have c9 := hc 9 _ rfl
        have c10 := hc 10 _ rfl
        have c11 := hc 11 _ rfl
        simp only [Nat.reduceEqDiff, if_false] at c2 c3 c4 c5 c6 c7 c8 c9 c10 c11
        exact ⟨c2, c3, c4, c5, c6, c7, c8, c9, c10, c11, hW⟩
      have hx1 : ∀ W, Below wr.heap.size wr W → Calls Try.prog 93 #[.agg #[.int .i64 xk, .int .i64 xn, .slice xA xa xc, .slice xA' xa' xc'], .int .i64 ((d : Int) + 1)] W fun r W' => r = .returned (.int .i64 (exDeep e (d + 1))) ∧ (W'.cell? ⟨(ad.add (j * 12)).block, (ad.add (j * 12)).off + 2, none⟩ = some (.int .i64 xk) ∧ W'.cell? ⟨(ad.add (j * 12)).block, (ad.add (j * 12)).off + 3, none⟩ = some (.int .i64 xn) ∧ W'.cell? ⟨(ad.add (j * 12)).block, (ad.add (j * 12)).off + 4, none⟩ = some (.slice xA xa xc) ∧ W'.cell? ⟨(ad.add (j * 12)).block, (ad.add (j * 12)).off + 5, none⟩ = some (.slice xA' xa' xc') ∧ W'.cell? ⟨(ad.add (j * 12)).block, (ad.add (j * 12)).off + 6, none⟩ = some (.int .i64 yk) ∧ W'.cell? ⟨(ad.add (j * 12)).block, (ad.add (j * 12)).off + 7, none⟩ = some (.int .i64 yn) ∧ W'.cell? ⟨(ad.add (j * 12)).block, (ad.add (j * 12)).off + 8, none⟩ = some (.slice yA ya yc) ∧ W'.cell? ⟨(ad.add (j * 12)).block, (ad.add (j * 12)).off + 9, none⟩ = some (.slice yA' ya' yc') ∧ W'.cell? ⟨(ad.add (j * 12)).block, (ad.add (j * 12)).off + 10, none⟩ = some (.slice A1 body.length c1) ∧ W'.cell? ⟨(ad.add (j * 12)).block, (ad.add (j * 12)).off + 11, none⟩ = some (.slice A2 els.length c2) ∧ Below wr.heap.size wr W') := fun W hW => by
        have := deepEx_c e _ _ _ _ L B (d + 1) W (he.below (hW.mono hBr)) (Nat.le_trans hBr hW.size) g3
        rw [hcast] at this
        exact this.mono fun r W' hh => ⟨hh.1, hSS W' (hW.trans (hh.2.mono hW.size))⟩
      have hx2 : ∀ W, Below wr.heap.size wr W → Calls Try.prog 93 #[.agg #[.int .i64 yk, .int .i64 yn, .slice yA ya yc, .slice yA' ya' yc'], .int .i64 ((d : Int) + 1)] W fun r W' => r = .returned (.int .i64 (exDeep f (d + 1))) ∧ (W'.cell? ⟨(ad.add (j * 12)).block, (ad.add (j * 12)).off + 2, none⟩ = some (.int .i64 xk) ∧ W'.cell? ⟨(ad.add (j * 12)).block, (ad.add (j * 12)).off + 3, none⟩ = some (.int .i64 xn) ∧ W'.cell? ⟨(ad.add (j * 12)).block, (ad.add (j * 12)).off + 4, none⟩ = some (.slice xA xa xc) ∧ W'.cell? ⟨(ad.add (j * 12)).block, (ad.add (j * 12)).off + 5, none⟩ = some (.slice xA' xa' xc') ∧ W'.cell? ⟨(ad.add (j * 12)).block, (ad.add (j * 12)).off + 6, none⟩ = some (.int .i64 yk) ∧ W'.cell? ⟨(ad.add (j * 12)).block, (ad.add (j * 12)).off + 7, none⟩ = some (.int .i64 yn) ∧ W'.cell? ⟨(ad.add (j * 12)).block, (ad.add (j * 12)).off + 8, none⟩ = some (.slice yA ya yc) ∧ W'.cell? ⟨(ad.add (j * 12)).block, (ad.add (j * 12)).off + 9, none⟩ = some (.slice yA' ya' yc') ∧ W'.cell? ⟨(ad.add (j * 12)).block, (ad.add (j * 12)).off + 10, none⟩ = some (.slice A1 body.length c1) ∧ W'.cell? ⟨(ad.add (j * 12)).block, (ad.add (j * 12)).off + 11, none⟩ = some (.slice A2 els.length c2) ∧ Below wr.heap.size wr W') := fun W hW => by
        have := deepEx_c f _ _ _ _ L B (d + 1) W (hf.below (hW.mono hBr)) (Nat.le_trans hBr hW.size) hfd.1
        rw [hcast] at this
        exact this.mono fun r W' hh => ⟨hh.1, hSS W' (hW.trans (hh.2.mono hW.size))⟩
      have hx3 : ∀ W, Below wr.heap.size wr W → Calls Try.prog 58 #[.slice A1 body.length c1, .int .i64 ((d : Int) + 1)] W fun r W' => r = .returned (.int .i64 (stsDeep body (d + 1))) ∧ (W'.cell? ⟨(ad.add (j * 12)).block, (ad.add (j * 12)).off + 2, none⟩ = some (.int .i64 xk) ∧ W'.cell? ⟨(ad.add (j * 12)).block, (ad.add (j * 12)).off + 3, none⟩ = some (.int .i64 xn) ∧ W'.cell? ⟨(ad.add (j * 12)).block, (ad.add (j * 12)).off + 4, none⟩ = some (.slice xA xa xc) ∧ W'.cell? ⟨(ad.add (j * 12)).block, (ad.add (j * 12)).off + 5, none⟩ = some (.slice xA' xa' xc') ∧ W'.cell? ⟨(ad.add (j * 12)).block, (ad.add (j * 12)).off + 6, none⟩ = some (.int .i64 yk) ∧ W'.cell? ⟨(ad.add (j * 12)).block, (ad.add (j * 12)).off + 7, none⟩ = some (.int .i64 yn) ∧ W'.cell? ⟨(ad.add (j * 12)).block, (ad.add (j * 12)).off + 8, none⟩ = some (.slice yA ya yc) ∧ W'.cell? ⟨(ad.add (j * 12)).block, (ad.add (j * 12)).off + 9, none⟩ = some (.slice yA' ya' yc') ∧ W'.cell? ⟨(ad.add (j * 12)).block, (ad.add (j * 12)).off + 10, none⟩ = some (.slice A1 body.length c1) ∧ W'.cell? ⟨(ad.add (j * 12)).block, (ad.add (j * 12)).off + 11, none⟩ = some (.slice A2 els.length c2) ∧ Below wr.heap.size wr W') := fun W hW => by
        have := ih1 A1 c1 L B (d + 1) W (hb1.below (hW.mono hBr)) (Nat.le_trans hBr hW.size) g5
        rw [hcast] at this
        exact this.mono fun r W' hh => ⟨hh.1, hSS W' (hW.trans (hh.2.mono hW.size))⟩
      have hx4 : ∀ W, Below wr.heap.size wr W → Calls Try.prog 58 #[.slice A2 els.length c2, .int .i64 ((d : Int) + 1)] W fun r W' => r = .returned (.int .i64 (stsDeep els (d + 1))) ∧ (W'.cell? ⟨(ad.add (j * 12)).block, (ad.add (j * 12)).off + 2, none⟩ = some (.int .i64 xk) ∧ W'.cell? ⟨(ad.add (j * 12)).block, (ad.add (j * 12)).off + 3, none⟩ = some (.int .i64 xn) ∧ W'.cell? ⟨(ad.add (j * 12)).block, (ad.add (j * 12)).off + 4, none⟩ = some (.slice xA xa xc) ∧ W'.cell? ⟨(ad.add (j * 12)).block, (ad.add (j * 12)).off + 5, none⟩ = some (.slice xA' xa' xc') ∧ W'.cell? ⟨(ad.add (j * 12)).block, (ad.add (j * 12)).off + 6, none⟩ = some (.int .i64 yk) ∧ W'.cell? ⟨(ad.add (j * 12)).block, (ad.add (j * 12)).off + 7, none⟩ = some (.int .i64 yn) ∧ W'.cell? ⟨(ad.add (j * 12)).block, (ad.add (j * 12)).off + 8, none⟩ = some (.slice yA ya yc) ∧ W'.cell? ⟨(ad.add (j * 12)).block, (ad.add (j * 12)).off + 9, none⟩ = some (.slice yA' ya' yc') ∧ W'.cell? ⟨(ad.add (j * 12)).block, (ad.add (j * 12)).off + 10, none⟩ = some (.slice A1 body.length c1) ∧ W'.cell? ⟨(ad.add (j * 12)).block, (ad.add (j * 12)).off + 11, none⟩ = some (.slice A2 els.length c2) ∧ Below wr.heap.size wr W') := fun W hW => by
        have := ih2 A2 c2 L B (d + 1) W (hb2.below (hW.mono hBr)) (Nat.le_trans hBr hW.size) g6
        rw [hcast] at this
        exact this.mono fun r W' hh => ⟨hh.1, hSS W' (hW.trans (hh.2.mono hW.size))⟩
      have F : Hid (max (max u (max (exDeep e (d + 1) : Int) (exDeep f (d + 1)))) (max (stsDeep body (d + 1) : Int) (stsDeep els (d + 1))) = stsDeep (l.take (j + 1)) d) := Lib.hid (by
        have h1 := exDeep_ge e (d + 1)
        have h2 := hu.out
        have h3 := hfd.2
        rw [stsDeep_step hlt, hle, stDeep_mk]
        by_cases hk : k = 2
        · rw [if_pos hk]; omega
        · have h4 := h3 hk
          rw [if_neg hk]; omega)
      have w1 := wrapI (x := (d : Int) + 1) (by omega) (by omega)
      have Hx1 := Lib.hid hx1
      have Hx2 := Lib.hid hx2
      have Hx3 := Lib.hid hx3
      have Hx4 := Lib.hid hx4
      have HSS := Lib.hid hSS
      have Hm1 := Lib.hid (fun w => most_c (exDeep e (d + 1)) (exDeep f (d + 1)) w)
      have Hm2 := Lib.hid (fun w => most_c u (max (exDeep e (d + 1) : Int) (exDeep f (d + 1))) w)
      have Hm3 := Lib.hid (fun w => most_c (stsDeep body (d + 1)) (stsDeep els (d + 1)) w)
      have Hm4 := Lib.hid (fun w => most_c (max u (max (exDeep e (d + 1) : Int) (exDeep f (d + 1)))) (max (stsDeep body (d + 1) : Int) (stsDeep els (d + 1))) w)
      have hS0 := hSS wr (Below.refl _ _)
      clear hx1 hx2 hx3 hx4 hS hSS hcells hat hv hR hm he hf hb1 hb2 ih1 ih2 hle g1 g2 g3 g4 g5 g6 hfd hcast
      obtain ⟨c2', c3', c4', c5', c6', c7', c8', c9', c10', c11', hW0⟩ := hS0
      have hdr : Below wr.heap.size wr wr.drew := (Below.refl _ _).drew
      go_wp2_with fail
      go_region_held3 (fun W => (W.cell? ⟨(ad.add (j * 12)).block, (ad.add (j * 12)).off + 2, none⟩ = some (.int .i64 xk) ∧ W.cell? ⟨(ad.add (j * 12)).block, (ad.add (j * 12)).off + 3, none⟩ = some (.int .i64 xn) ∧ W.cell? ⟨(ad.add (j * 12)).block, (ad.add (j * 12)).off + 4, none⟩ = some (.slice xA xa xc) ∧ W.cell? ⟨(ad.add (j * 12)).block, (ad.add (j * 12)).off + 5, none⟩ = some (.slice xA' xa' xc') ∧ W.cell? ⟨(ad.add (j * 12)).block, (ad.add (j * 12)).off + 6, none⟩ = some (.int .i64 yk) ∧ W.cell? ⟨(ad.add (j * 12)).block, (ad.add (j * 12)).off + 7, none⟩ = some (.int .i64 yn) ∧ W.cell? ⟨(ad.add (j * 12)).block, (ad.add (j * 12)).off + 8, none⟩ = some (.slice yA ya yc) ∧ W.cell? ⟨(ad.add (j * 12)).block, (ad.add (j * 12)).off + 9, none⟩ = some (.slice yA' ya' yc') ∧ W.cell? ⟨(ad.add (j * 12)).block, (ad.add (j * 12)).off + 10, none⟩ = some (.slice A1 body.length c1) ∧ W.cell? ⟨(ad.add (j * 12)).block, (ad.add (j * 12)).off + 11, none⟩ = some (.slice A2 els.length c2) ∧ Below wr.heap.size wr W)) (go_keep)
        (first
          | (go_at_call 93; refine (Hx1.out _ ?_).mono ?_; (simp [*]); clear Hx1; rintro r w' ⟨rfl, hS'⟩)
          | (go_at_call 93; refine (Hx2.out _ ?_).mono ?_; (simp [*]); clear Hx2; rintro r w' ⟨rfl, hS'⟩)
          | (go_at_call 57; refine (Hm1.out _).mono ?_; clear Hm1; rintro r w'' ⟨rfl, rfl⟩)
          | (go_at_call 57; refine (Hm2.out _).mono ?_; clear Hm2; rintro r w'' ⟨rfl, rfl⟩))
      obtain ⟨d2, d3, d4, d5, d6, d7, d8, d9, d10, d11, hbW⟩ := hS'
      clear c2' c3' c4' c5' c6' c7' c8' c9' c10' c11' hW0 hdr
      have hdr2 := hbW.drew
      go_wp2_with fail
      go_region_held3 (fun W => (W.cell? ⟨(ad.add (j * 12)).block, (ad.add (j * 12)).off + 2, none⟩ = some (.int .i64 xk) ∧ W.cell? ⟨(ad.add (j * 12)).block, (ad.add (j * 12)).off + 3, none⟩ = some (.int .i64 xn) ∧ W.cell? ⟨(ad.add (j * 12)).block, (ad.add (j * 12)).off + 4, none⟩ = some (.slice xA xa xc) ∧ W.cell? ⟨(ad.add (j * 12)).block, (ad.add (j * 12)).off + 5, none⟩ = some (.slice xA' xa' xc') ∧ W.cell? ⟨(ad.add (j * 12)).block, (ad.add (j * 12)).off + 6, none⟩ = some (.int .i64 yk) ∧ W.cell? ⟨(ad.add (j * 12)).block, (ad.add (j * 12)).off + 7, none⟩ = some (.int .i64 yn) ∧ W.cell? ⟨(ad.add (j * 12)).block, (ad.add (j * 12)).off + 8, none⟩ = some (.slice yA ya yc) ∧ W.cell? ⟨(ad.add (j * 12)).block, (ad.add (j * 12)).off + 9, none⟩ = some (.slice yA' ya' yc') ∧ W.cell? ⟨(ad.add (j * 12)).block, (ad.add (j * 12)).off + 10, none⟩ = some (.slice A1 body.length c1) ∧ W.cell? ⟨(ad.add (j * 12)).block, (ad.add (j * 12)).off + 11, none⟩ = some (.slice A2 els.length c2) ∧ Below wr.heap.size wr W)) (go_keep)
        (first
          | (go_at_call 58; refine (Hx3.out _ ?_).mono ?_; (simp [*]); clear Hx3; rintro r w2 ⟨rfl, hT'⟩)
          | (go_at_call 58; refine (Hx4.out _ ?_).mono ?_; (simp [*]); clear Hx4; rintro r w2 ⟨rfl, hT'⟩)
          | (go_at_call 57; refine (Hm3.out _).mono ?_; clear Hm3; rintro r w'' ⟨rfl, rfl⟩)
          | (go_at_call 57; refine (Hm4.out _).mono ?_; clear Hm4; rintro r w'' ⟨rfl, rfl⟩))
      obtain ⟨_, _, _, _, _, _, _, _, _, _, hbT⟩ := hT'
      have hbn := hbl.trans (hbT.mono hbl.size)
      clear d2 d3 d4 d5 d6 d7 d8 d9 d10 d11 hdr2 w1
      go_wp2
      go_roundw
      case rel => exact ⟨j + 1, _, by omega, by go_num, rfl, Lib.hid (by have := F.out; omega), hbn⟩
      case measure => simp [intOf]; omega
    · go_wp2
      go_ret
      have hjl : j = l.length := by omega
      subst hjl
      have h1 := hu.out
      rw [List.take_length] at h1
      exact ⟨by rw [show ((stsDeep l d : Nat) : Int) = u by omega]; rfl, hbl⟩

theorem deepSts_c (l : List St) : DepSts l := by
  have one : ∀ s : St, ∀ k name e f body els, s = .mk k name e f body els → DepSts body ∧ DepSts els := fun s => St.ind (P := fun s => ∀ k name e f body els, s = .mk k name e f body els → DepSts body ∧ DepSts els) (fun k name e f body els ih1 ih2 k' n' e' f' b' l' he => by
    injection he with _ _ _ _ h1 h2
    rw [← h1, ← h2]
    exact ⟨deepSts_of body ih1, deepSts_of els ih2⟩) s
  exact deepSts_of l fun s _ => one s
end Go.Proofs.Ytofnkhejpkfokaa
