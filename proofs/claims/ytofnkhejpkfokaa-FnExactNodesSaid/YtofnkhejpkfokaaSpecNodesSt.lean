/-
  The model's count of statements.
-/
import Derived.Test.YtofnkhejpkfokaaSpecNodesEx
namespace Go.Proofs.Ytofnkhejpkfokaa
open Go.RowKit
set_option linter.unusedVariables false

def NodSts (l : List St) : Prop := ∀ (A : Option Addr) (cp L B : Nat) (w : World), StL w L B A l → B ≤ w.heap.size → stsN l ≤ 1000 →
  Calls Try.prog 56 #[.slice A l.length cp] w fun r w' => r = .returned (.int .i64 (stsN l)) ∧ Below w.heap.size w w'

theorem stsN_len : ∀ (l : List St), l.length ≤ stsN l
  | [] => by simp [stsN]
  | s :: r => by have := stsN_len r; have := stN_pos s; simp only [stsN, List.length_cons]; omega
theorem stsN_rest : ∀ (l : List St) (k : Nat), k ≤ l.length → l.length - k + stsN (l.take k) ≤ stsN l
  | [], k, h => by simp [stsN]
  | s :: r, 0, h => by have := stsN_len (s :: r); simp [stsN] at this ⊢; omega
  | s :: r, k + 1, h => by have := stsN_rest r k (by simpa using h); simp only [List.length_cons, List.take_succ_cons, stsN]; omega

/-- the cells of one statement that the counts read -/
def StCells (w : World) (ad : Addr) (j : Nat) (vs : List Value) : Prop := AtN w (ad.add (j * 12)) vs

set_option maxRecDepth 100000 in
set_option maxHeartbeats 4000000 in
theorem nodesSts_of (l : List St) (ih : ∀ s ∈ l, ∀ k name e f body els, s = .mk k name e f body els → NodSts body ∧ NodSts els) : NodSts l := by
  intro A cp L B w h hB hN
  have hn := h.1
  unfold maxLen at hn
  have hlen := stsN_len l
  have Ih := Lib.hid ih
  have HN := Lib.hid hN
  clear ih hN
  go_enter Try.func56, Try.ntmps56
  go_wp2
  go_loopw [3, 4] (fun s i wr => ∃ (j : Nat) (u : Int), j ≤ l.length ∧ i = .int .i64 j ∧ s = .int .i64 u ∧ Hid (u = (l.length - j : Nat) + stsN (l.take j)) ∧ 0 ≤ u ∧ u ≤ 1000 ∧ Below w.heap.size w wr) (fun _ i _ => l.length - (intOf i).toNat)
  case atStart => exact ⟨0, l.length, Nat.zero_le _, rfl, rfl, Lib.hid (by simp [stsN]), by omega, by have := HN.out; omega, Below.refl _ _⟩
  case round =>
    obtain ⟨j, u, hj, rfl, rfl, hu, hu0, hu1, hbl⟩ := hrel
    by_cases hlt : j < l.length
    · obtain ⟨ad, rfl, _, hbk, hat⟩ := (h.below (hbl.mono hB)).2 (by omega)
      obtain ⟨vs, hcells, hv⟩ := hat j hlt
      obtain ⟨k, name, e, f, body, els, hle⟩ : ∃ k name e f body els, l[j] = .mk k name e f body els := by cases l[j]; exact ⟨_, _, _, _, _, _, rfl⟩
      rw [hle] at hv
      obtain ⟨sA, sc, e0, e1, e2, e3, f0, f1, f2, f3, A1, c1, A2, c2, rfl, hR, hm, he, hf, hb1, hb2⟩ := hv.open_
      obtain ⟨ih1, ih2⟩ := Ih.out l[j] (List.getElem_mem hlt) k name e f body els hle
      have hNN := HN.out
      have hu' := hu.out
      have hstep := stsN_step hlt
      have hrest := stsN_rest l (j + 1) (by omega)
      have hone : stN l[j] = 1 + exN e + (if k = 2 then exN f else 0) + stsN body + stsN els := by rw [hle, stN_mk]
      have hBr : B ≤ wr.heap.size := Nat.le_trans hB hbl.size
      -- each callee, from any world that has the statement's cells
      have hS : ∀ W, Below wr.heap.size wr W → AtN W (ad.add (j * 12)) [.int .i64 k, .slice sA name.length sc, e0, e1, e2, e3, f0, f1, f2, f3, .slice A1 body.length c1, .slice A2 els.length c2] := fun W hW =>
        hcells.keep fun q hq => hW.cell (by rw [hq, block_of_add]; omega)
      obtain ⟨xk, xn, xA, xa, xc, xA', xa', xc', rfl, rfl, rfl, rfl⟩ := he.shape
      obtain ⟨yk, yn, yA, ya, yc, yA', ya', yc', rfl, rfl, rfl, rfl⟩ := hf.shape
      have hSS : ∀ W, Below wr.heap.size wr W → (W.cell? ⟨(ad.add (j * 12)).block, (ad.add (j * 12)).off + 2, none⟩ = some (.int .i64 xk) ∧ W.cell? ⟨(ad.add (j * 12)).block, (ad.add (j * 12)).off + 3, none⟩ = some (.int .i64 xn) ∧ W.cell? ⟨(ad.add (j * 12)).block, (ad.add (j * 12)).off + 4, none⟩ = some (.slice xA xa xc) ∧ W.cell? ⟨(ad.add (j * 12)).block, (ad.add (j * 12)).off + 5, none⟩ = some (.slice xA' xa' xc') ∧ W.cell? ⟨(ad.add (j * 12)).block, (ad.add (j * 12)).off + 10, none⟩ = some (.slice A1 body.length c1) ∧ W.cell? ⟨(ad.add (j * 12)).block, (ad.add (j * 12)).off + 11, none⟩ = some (.slice A2 els.length c2) ∧ W.cell? (ad.add (j * 12)) = some (.int .i64 k) ∧ W.cell? ⟨(ad.add (j * 12)).block, (ad.add (j * 12)).off + 6, none⟩ = some (.int .i64 yk) ∧ W.cell? ⟨(ad.add (j * 12)).block, (ad.add (j * 12)).off + 7, none⟩ = some (.int .i64 yn) ∧ W.cell? ⟨(ad.add (j * 12)).block, (ad.add (j * 12)).off + 8, none⟩ = some (.slice yA ya yc) ∧ W.cell? ⟨(ad.add (j * 12)).block, (ad.add (j * 12)).off + 9, none⟩ = some (.slice yA' ya' yc') ∧ Below wr.heap.size wr W) := fun W hW => by
        have hc := hS W hW
        have c0 := hc 0 _ rfl
        have c2 := hc 2 _ rfl
        have c3 := hc 3 _ rfl
        have c4 := hc 4 _ rfl
        have c5 := hc 5 _ rfl
        have c6 := hc 6 _ rfl
        have c7 := hc 7 _ rfl
        have c8 := hc 8 _ rfl
        have c9 := hc 9 _ rfl
        have c10 := hc 10 _ rfl
        have c11 := hc 11 _ rfl
        simp only [if_true, Nat.reduceEqDiff, if_false] at c0 c2 c3 c4 c5 c6 c7 c8 c9 c10 c11
        exact ⟨c2, c3, c4, c5, c10, c11, c0, c6, c7, c8, c9, hW⟩
      have hx1 : ∀ W, Below wr.heap.size wr W → Calls Try.prog 92 #[.agg #[.int .i64 xk, .int .i64 xn, .slice xA xa xc, .slice xA' xa' xc']] W fun r W' => r = .returned (.int .i64 (exN e)) ∧ (W'.cell? ⟨(ad.add (j * 12)).block, (ad.add (j * 12)).off + 2, none⟩ = some (.int .i64 xk) ∧ W'.cell? ⟨(ad.add (j * 12)).block, (ad.add (j * 12)).off + 3, none⟩ = some (.int .i64 xn) ∧ W'.cell? ⟨(ad.add (j * 12)).block, (ad.add (j * 12)).off + 4, none⟩ = some (.slice xA xa xc) ∧ W'.cell? ⟨(ad.add (j * 12)).block, (ad.add (j * 12)).off + 5, none⟩ = some (.slice xA' xa' xc') ∧ W'.cell? ⟨(ad.add (j * 12)).block, (ad.add (j * 12)).off + 10, none⟩ = some (.slice A1 body.length c1) ∧ W'.cell? ⟨(ad.add (j * 12)).block, (ad.add (j * 12)).off + 11, none⟩ = some (.slice A2 els.length c2) ∧ W'.cell? (ad.add (j * 12)) = some (.int .i64 k) ∧ W'.cell? ⟨(ad.add (j * 12)).block, (ad.add (j * 12)).off + 6, none⟩ = some (.int .i64 yk) ∧ W'.cell? ⟨(ad.add (j * 12)).block, (ad.add (j * 12)).off + 7, none⟩ = some (.int .i64 yn) ∧ W'.cell? ⟨(ad.add (j * 12)).block, (ad.add (j * 12)).off + 8, none⟩ = some (.slice yA ya yc) ∧ W'.cell? ⟨(ad.add (j * 12)).block, (ad.add (j * 12)).off + 9, none⟩ = some (.slice yA' ya' yc') ∧ Below wr.heap.size wr W') := fun W hW =>
        (nodesEx_c e _ _ _ _ L B W (he.below (hW.mono hBr)) (Nat.le_trans hBr hW.size) (by omega)).mono fun r W' hh => ⟨hh.1, hSS W' (hW.trans (hh.2.mono hW.size))⟩
      have hx2 : ∀ W, Below wr.heap.size wr W → Calls Try.prog 56 #[.slice A1 body.length c1] W fun r W' => r = .returned (.int .i64 (stsN body)) ∧ (W'.cell? ⟨(ad.add (j * 12)).block, (ad.add (j * 12)).off + 2, none⟩ = some (.int .i64 xk) ∧ W'.cell? ⟨(ad.add (j * 12)).block, (ad.add (j * 12)).off + 3, none⟩ = some (.int .i64 xn) ∧ W'.cell? ⟨(ad.add (j * 12)).block, (ad.add (j * 12)).off + 4, none⟩ = some (.slice xA xa xc) ∧ W'.cell? ⟨(ad.add (j * 12)).block, (ad.add (j * 12)).off + 5, none⟩ = some (.slice xA' xa' xc') ∧ W'.cell? ⟨(ad.add (j * 12)).block, (ad.add (j * 12)).off + 10, none⟩ = some (.slice A1 body.length c1) ∧ W'.cell? ⟨(ad.add (j * 12)).block, (ad.add (j * 12)).off + 11, none⟩ = some (.slice A2 els.length c2) ∧ W'.cell? (ad.add (j * 12)) = some (.int .i64 k) ∧ W'.cell? ⟨(ad.add (j * 12)).block, (ad.add (j * 12)).off + 6, none⟩ = some (.int .i64 yk) ∧ W'.cell? ⟨(ad.add (j * 12)).block, (ad.add (j * 12)).off + 7, none⟩ = some (.int .i64 yn) ∧ W'.cell? ⟨(ad.add (j * 12)).block, (ad.add (j * 12)).off + 8, none⟩ = some (.slice yA ya yc) ∧ W'.cell? ⟨(ad.add (j * 12)).block, (ad.add (j * 12)).off + 9, none⟩ = some (.slice yA' ya' yc') ∧ Below wr.heap.size wr W') := fun W hW =>
        (ih1 A1 c1 L B W (hb1.below (hW.mono hBr)) (Nat.le_trans hBr hW.size) (by omega)).mono fun r W' hh => ⟨hh.1, hSS W' (hW.trans (hh.2.mono hW.size))⟩
      have hx3 : ∀ W, Below wr.heap.size wr W → Calls Try.prog 56 #[.slice A2 els.length c2] W fun r W' => r = .returned (.int .i64 (stsN els)) ∧ (W'.cell? ⟨(ad.add (j * 12)).block, (ad.add (j * 12)).off + 2, none⟩ = some (.int .i64 xk) ∧ W'.cell? ⟨(ad.add (j * 12)).block, (ad.add (j * 12)).off + 3, none⟩ = some (.int .i64 xn) ∧ W'.cell? ⟨(ad.add (j * 12)).block, (ad.add (j * 12)).off + 4, none⟩ = some (.slice xA xa xc) ∧ W'.cell? ⟨(ad.add (j * 12)).block, (ad.add (j * 12)).off + 5, none⟩ = some (.slice xA' xa' xc') ∧ W'.cell? ⟨(ad.add (j * 12)).block, (ad.add (j * 12)).off + 10, none⟩ = some (.slice A1 body.length c1) ∧ W'.cell? ⟨(ad.add (j * 12)).block, (ad.add (j * 12)).off + 11, none⟩ = some (.slice A2 els.length c2) ∧ W'.cell? (ad.add (j * 12)) = some (.int .i64 k) ∧ W'.cell? ⟨(ad.add (j * 12)).block, (ad.add (j * 12)).off + 6, none⟩ = some (.int .i64 yk) ∧ W'.cell? ⟨(ad.add (j * 12)).block, (ad.add (j * 12)).off + 7, none⟩ = some (.int .i64 yn) ∧ W'.cell? ⟨(ad.add (j * 12)).block, (ad.add (j * 12)).off + 8, none⟩ = some (.slice yA ya yc) ∧ W'.cell? ⟨(ad.add (j * 12)).block, (ad.add (j * 12)).off + 9, none⟩ = some (.slice yA' ya' yc') ∧ Below wr.heap.size wr W') := fun W hW =>
        (ih2 A2 c2 L B W (hb2.below (hW.mono hBr)) (Nat.le_trans hBr hW.size) (by omega)).mono fun r W' hh => ⟨hh.1, hSS W' (hW.trans (hh.2.mono hW.size))⟩
      have hx4 : k = 2 → ∀ W, Below wr.heap.size wr W → Calls Try.prog 92 #[.agg #[.int .i64 yk, .int .i64 yn, .slice yA ya yc, .slice yA' ya' yc']] W fun r W' => r = .returned (.int .i64 (exN f)) ∧ (W'.cell? ⟨(ad.add (j * 12)).block, (ad.add (j * 12)).off + 2, none⟩ = some (.int .i64 xk) ∧ W'.cell? ⟨(ad.add (j * 12)).block, (ad.add (j * 12)).off + 3, none⟩ = some (.int .i64 xn) ∧ W'.cell? ⟨(ad.add (j * 12)).block, (ad.add (j * 12)).off + 4, none⟩ = some (.slice xA xa xc) ∧ W'.cell? ⟨(ad.add (j * 12)).block, (ad.add (j * 12)).off + 5, none⟩ = some (.slice xA' xa' xc') ∧ W'.cell? ⟨(ad.add (j * 12)).block, (ad.add (j * 12)).off + 10, none⟩ = some (.slice A1 body.length c1) ∧ W'.cell? ⟨(ad.add (j * 12)).block, (ad.add (j * 12)).off + 11, none⟩ = some (.slice A2 els.length c2) ∧ W'.cell? (ad.add (j * 12)) = some (.int .i64 k) ∧ W'.cell? ⟨(ad.add (j * 12)).block, (ad.add (j * 12)).off + 6, none⟩ = some (.int .i64 yk) ∧ W'.cell? ⟨(ad.add (j * 12)).block, (ad.add (j * 12)).off + 7, none⟩ = some (.int .i64 yn) ∧ W'.cell? ⟨(ad.add (j * 12)).block, (ad.add (j * 12)).off + 8, none⟩ = some (.slice yA ya yc) ∧ W'.cell? ⟨(ad.add (j * 12)).block, (ad.add (j * 12)).off + 9, none⟩ = some (.slice yA' ya' yc') ∧ Below wr.heap.size wr W') := fun hk W hW =>
        (nodesEx_c f _ _ _ _ L B W (hf.below (hW.mono hBr)) (Nat.le_trans hBr hW.size) (by rw [if_pos hk] at hone; omega)).mono fun r W' hh => ⟨hh.1, hSS W' (hW.trans (hh.2.mono hW.size))⟩
      have s1 : u + (exN e : Int) ≤ 1000 := by omega
      have s2 : u + (exN e : Int) + stsN body ≤ 1000 := by omega
      have s3 : u + (exN e : Int) + stsN body + stsN els ≤ 1000 := by omega
      have w1 := wrapI (x := u + (exN e : Int)) (by omega) (by omega)
      have w2 := wrapI (x := u + (exN e : Int) + stsN body) (by omega) (by omega)
      have w3 := wrapI (x := u + (exN e : Int) + stsN body + stsN els) (by omega) (by omega)
      have F : Hid (u + (exN e : Int) + stsN body + stsN els + (if k = 2 then (exN f : Int) else 0) = (l.length - (j + 1) : Nat) + stsN (l.take (j + 1)) ∧ (l.length - (j + 1) : Nat) + (stsN (l.take (j + 1)) : Int) ≤ 1000) := Lib.hid (by
        by_cases hk : k = 2
        · rw [if_pos hk] at hone ⊢
          omega
        · rw [if_neg hk] at hone ⊢
          omega)
      have Hx1 := Lib.hid hx1
      have Hx2 := Lib.hid hx2
      have Hx3 := Lib.hid hx3
      have Hx4 := Lib.hid hx4
      have hS0 := hSS wr (Below.refl _ _)
      clear hx1 hx2 hx3 hx4 hS hSS hcells hat hv hR hm he hf hb1 hb2 ih1 ih2 hone hu' hNN hstep hrest hle
      obtain ⟨c2', c3', c4', c5', c10', c11', c0', c6', c7', c8', c9', hW0⟩ := hS0
      have hdr : Below wr.heap.size wr wr.drew := (Below.refl _ _).drew
      go_wp2_with fail
      go_region_held3 (fun W => (W.cell? ⟨(ad.add (j * 12)).block, (ad.add (j * 12)).off + 2, none⟩ = some (.int .i64 xk) ∧ W.cell? ⟨(ad.add (j * 12)).block, (ad.add (j * 12)).off + 3, none⟩ = some (.int .i64 xn) ∧ W.cell? ⟨(ad.add (j * 12)).block, (ad.add (j * 12)).off + 4, none⟩ = some (.slice xA xa xc) ∧ W.cell? ⟨(ad.add (j * 12)).block, (ad.add (j * 12)).off + 5, none⟩ = some (.slice xA' xa' xc') ∧ W.cell? ⟨(ad.add (j * 12)).block, (ad.add (j * 12)).off + 10, none⟩ = some (.slice A1 body.length c1) ∧ W.cell? ⟨(ad.add (j * 12)).block, (ad.add (j * 12)).off + 11, none⟩ = some (.slice A2 els.length c2) ∧ W.cell? (ad.add (j * 12)) = some (.int .i64 k) ∧ W.cell? ⟨(ad.add (j * 12)).block, (ad.add (j * 12)).off + 6, none⟩ = some (.int .i64 yk) ∧ W.cell? ⟨(ad.add (j * 12)).block, (ad.add (j * 12)).off + 7, none⟩ = some (.int .i64 yn) ∧ W.cell? ⟨(ad.add (j * 12)).block, (ad.add (j * 12)).off + 8, none⟩ = some (.slice yA ya yc) ∧ W.cell? ⟨(ad.add (j * 12)).block, (ad.add (j * 12)).off + 9, none⟩ = some (.slice yA' ya' yc') ∧ Below wr.heap.size wr W)) (go_keep)
        (first
          | (go_at_call 92; refine (Hx1.out _ ?_).mono ?_; (simp [*]); clear Hx1; rintro r w' ⟨rfl, hS'⟩)
          | (go_at_call 56; refine (Hx2.out _ ?_).mono ?_; (simp [*]); clear Hx2; rintro r w' ⟨rfl, hS'⟩)
          | (go_at_call 56; refine (Hx3.out _ ?_).mono ?_; (simp [*]); clear Hx3; rintro r w' ⟨rfl, hS'⟩))
      obtain ⟨d2, d3, d4, d5, d10, d11, d0, d6, d7, d8, d9, hbW⟩ := hS'
      clear c2' c3' c4' c5' c10' c11' c0' c6' c7' c8' c9' hW0 hdr d2 d3 d4 d5 d10 d11 w1 w2 w3
      have hbn := hbl.trans (hbW.mono hbl.size)
      by_cases hk : k = 2
      · subst hk
        have F' := F.out
        rw [if_pos rfl] at F'
        have HF := Lib.hid F'
        have hle1000 : u + (exN e : Int) + stsN body + stsN els + exN f ≤ 1000 := by omega
        clear F F'
        go_wp2_with fail
        refine (Hx4.out (by trivial) _ hbW).mono ?_
        rintro r w7 ⟨rfl, _, _, _, _, _, _, _, _, _, _, _, hb7⟩
        have hbn7 := hbl.trans (hb7.mono hbl.size)
        clear d0 d6 d7 d8 d9
        go_wp2
        go_roundw
        case rel => exact ⟨j + 1, _, by omega, by go_num, rfl, Lib.hid HF.out.1, by omega, hle1000, hbn7⟩
        case measure => simp [intOf]; omega
      · have F' := F.out
        rw [if_neg hk] at F'
        have HF := Lib.hid F'
        clear F F' d6 d7 d8 d9
        go_wp2
        go_roundw
        case rel => exact ⟨j + 1, _, by omega, by go_num, rfl, Lib.hid (by have := HF.out.1; omega), by omega, s3, hbn⟩
        case measure => simp [intOf]; omega
    · go_wp2
      go_ret
      have hjl : j = l.length := by omega
      subst hjl
      have h1 := hu.out
      rw [List.take_length] at h1
      exact ⟨by rw [show ((stsN l : Nat) : Int) = u by omega]; rfl, hbl⟩

theorem nodesSts_c (l : List St) : NodSts l := by
  have one : ∀ s : St, ∀ k name e f body els, s = .mk k name e f body els → NodSts body ∧ NodSts els := fun s => St.ind (P := fun s => ∀ k name e f body els, s = .mk k name e f body els → NodSts body ∧ NodSts els) (fun k name e f body els ih1 ih2 k' n' e' f' b' l' he => by
    injection he with _ _ _ _ h1 h2
    rw [← h1, ← h2]
    exact ⟨nodesSts_of body ih1, nodesSts_of els ih2⟩) s
  exact nodesSts_of l fun s _ => one s
end Go.Proofs.Ytofnkhejpkfokaa
