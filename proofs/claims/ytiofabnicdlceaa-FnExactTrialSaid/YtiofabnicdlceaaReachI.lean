/-
  The program's walk in breadth: reachable.
-/
import Derived.Test.YtiofabnicdlceaaReach
import Derived.Test.YtiofabnicdlceaaQueue
namespace Go.Proofs.Ytiofabnicdlceaa
open Go.RowKit
set_option linter.unusedVariables false
set_option linter.unusedSimpArgs false

theorem SetV.lo_le {w : World} {lo lo' : Nat} {v : Value} {l : List Int} (h : SetV w lo v l) (hl : lo' ≤ lo) : SetV w lo' v l := by
  rcases h with h | ⟨g, cs, e, hg, h⟩
  · exact .inl h
  · exact .inr ⟨g, cs, e, Nat.le_trans hl hg, h⟩
/-- the length of a slice -/
def lenS : Value → Nat
  | .slice _ n _ => n
  | _ => 0
/-- how long the slice in a cell is -/
def lenAt (w : World) (b : Nat) : Nat := match w.cell? ⟨b, 0, none⟩ with
  | some v => lenS v
  | none => 0
theorem lenAt_eq {w : World} {b n c : Nat} {A : Option Addr} {t : TypeId} (h : Blk w b t #[.slice A n c]) : lenAt w b = n := by
  unfold lenAt
  rw [h.cel 0 rfl]
  rfl

set_option maxRecDepth 100000 in
set_option maxHeartbeats 8000000 in
theorem reachable_c (S : List Sl) (F : List Int) (A FA : Option Addr) (c fc L B LF BF : Nat) (x1 x2 x3 : Value) (hx1 : x1.cells = #[x1]) (hx2 : x2.cells = #[x2]) (hx3 : x3.cells = #[x3]) (w : World) (hsz : slsSz S ≤ 1048576) (hS16 : S.length ≤ 16) (hS : InS S)
    (hB : B ≤ w.heap.size) (hBF : BF ≤ w.heap.size) (h : SlL w L B A S) (hF : IL w LF BF FA F) (hFl : F.length ≤ 1048576) (hFin : ∀ x ∈ F, 0 ≤ x ∧ x < (S.length : Int)) :
    Calls Try.prog 77 #[.agg #[.slice A S.length c, x1, x2, x3], .slice FA F.length fc] w fun e w' => ∃ v, e = .returned v ∧ SetV w' w.heap.size v (reachL S F) ∧ Below w.heap.size w w' := by
  have hb2 : Below w.heap.size w ((w.alloc (.cells #[.slice A S.length c, x1, x2, x3] 66)).alloc (.cells #[.slice none 0 0] 64)) := ((Below.refl _ _).alloc (Nat.le_refl _) _).alloc (by simp) _
  have HKr := Lib.hid ((Blk.new w 66 #[.slice A S.length c, x1, x2, x3]).alloc (.cells #[.slice none 0 0] 64))
  have HKs : Hid (Blk ((w.alloc (.cells #[.slice A S.length c, x1, x2, x3] 66)).alloc (.cells #[.slice none 0 0] 64)) (w.heap.size + 1) 64 #[.slice none 0 0]) := Lib.hid (by
    have := Blk.new (w.alloc (.cells #[.slice A S.length c, x1, x2, x3] 66)) 64 #[.slice none 0 0]
    rwa [World.size_alloc] at this)
  have Hb2 := Lib.hid hb2
  have H := Lib.hid h
  have HF := Lib.hid hF
  have HS := Lib.hid hS
  have Hsz := Lib.hid hsz
  have Hst := Lib.hid (Bre.start hFin)
  clear h hF hS hsz hb2 hFin
  go_enter Try.func77, Try.ntmps77
  go_wp2_with fail
  generalize hW : ((w.alloc (.cells #[.slice A S.length c, x1, x2, x3] 66)).alloc (.cells #[.slice none 0 0] 64)) = W
  rw [hW] at HKr HKs Hb2
  have hWs : w.heap.size + 1 + 1 = W.heap.size := by rw [← hW]; simp
  clear hW
  obtain ⟨rB, hrB⟩ : ∃ r, r = w.heap.size + 1 := ⟨_, rfl⟩
  rw [← hrB] at HKs
  rw [← hrB]
  have HWs := Lib.hid (And.intro hrB hWs)
  have Hcl := Lib.hid (cloneI_c F FA fc LF BF W (by omega) (by omega) (HF.out.below (Hb2.out.mono hBF)))
  clear hrB hWs
  go_wp2_with fail
  refine Hcl.out.mono ?_
  rintro e w1 ⟨v0, rfl, hi, hb1⟩
  have HKr1 := Lib.hid (HKr.out.below hb1 HKr.out.lt)
  have HKs1 := Lib.hid (HKs.out.below hb1 HKs.out.lt)
  have Hb1 := Lib.hid (Hb2.out.trans (hb1.mono Hb2.out.size))
  have Hq1 := Lib.hid (QRow.of_irow (hi.lo_le (show w.heap.size ≤ W.heap.size by have := HWs.out; omega)))
  have Hn0 : Hid (∀ k, At v0 k → ¬ At (.slice none 0 0) k) := Lib.hid (fun k _ h => h.nil)
  clear hi hb1 Hcl HKr HKs Hb2
  obtain ⟨A0, c0, e0⟩ := Hq1.out.form
  subst e0
  go_wp2_with fail
  go_loopw [6] (fun x wr => ∃ (R X : List Int) (v : Value) (SA : Option Addr) (sc : Nat), x = v ∧ Hid (QRow wr w.heap.size v X) ∧ Hid (Bre S F R X) ∧ Hid (SetV wr w.heap.size (.slice SA R.length sc) R) ∧ Hid (Blk wr rB 64 #[.slice SA R.length sc]) ∧ Hid (Blk wr w.heap.size 66 #[.slice A S.length c, x1, x2, x3]) ∧ Hid (∀ k, At v k → ¬ At (.slice SA R.length sc) k) ∧ Hid (X.length ≤ F.length + R.length * 1048576) ∧ Hid (Below w.heap.size w wr)) (fun x wr => (17 - lenAt wr rB) * 2000000 + lenS x)
  case atStart => exact ⟨[], F, _, none, 0, rfl, Hq1, Hst, Lib.hid (SetV.nil _ _), HKs1, HKr1, Hn0, Lib.hid (by simp), Hb1⟩
  case round =>
    obtain ⟨R, X, v, SA, sc, rfl, hq, hbre, hset, hkS, hkR, hap, hXl, hbw⟩ := hrel
    have hR16 : R.length ≤ 16 := by have := hbre.out.few; omega
    have hlR := lenAt_eq hkS.out
    cases X with
    | nil =>
      obtain ⟨QA, qc, rfl⟩ := hq.out.form
      have E := Lib.hid hbre.out.fin
      have s0 := hkS.out.cel 0 (v := .slice SA R.length sc) rfl
      clear hq hbre hkS hkR hap hXl hlR
      simp only [List.length_nil]
      go_wp2
      go_ret
      rw [← E.out]
      exact ⟨_, rfl, hset.out, hbw.out⟩
    | cons x X =>
      obtain ⟨g, off, cap, rfl, hcap, d0, hone, hrest⟩ := hq.out.cons
      have hin := hbre.out.inX x (by simp)
      obtain ⟨n, rfl⟩ : ∃ n : Nat, x = (n : Int) := ⟨x.toNat, by omega⟩
      have hnS : n < S.length := by omega
      have Hadd := Lib.hid (setAdd2_c R (.slice SA R.length sc) w.heap.size n wr rB 0 64 #[.slice SA R.length sc] (by omega) hbre.out.sorted hset.out hbw.out.size hkS.out rfl (by decide))
      by_cases hc1 : cap = 1
      · subst hc1
        obtain rfl : X = [] := List.eq_nil_of_length_eq_zero (by omega)
        have hq2 := hone rfl
        have hat : ∀ k, At (.slice (some ⟨g, off, none⟩) 0 0) k → At (.slice (some ⟨g, off, none⟩) (([] : List Int).length + 1) 1) k := fun k hk => ⟨_, _, _, rfl, hk.some_.symm⟩
        clear hone hrest
        simp only [List.length_nil] at hq2
        have Hq2 : Hid (QRow wr w.heap.size (.slice (some ⟨g, off, none⟩) 0 0) ([] : List Int)) := Lib.hid hq2
        have Hap2 : Hid (∀ k, At (.slice (some ⟨g, off, none⟩) 0 0) k → k < wr.heap.size ∧ k ≠ rB ∧ ¬ At (.slice SA R.length sc) k) := Lib.hid (fun k hk => by
          obtain ⟨_, h1, cs, h2⟩ := hq2.at_lt hk
          exact ⟨h1, (hkS.out.ne_ h2 (by decide)).symm, hap.out k (hat k hk)⟩)
        have Hnr : Hid (w.heap.size < rB ∧ ∀ k, At (.slice SA R.length sc) k → w.heap.size ≤ k ∧ k ≠ w.heap.size) := Lib.hid ⟨by have := HWs.out; omega, fun k hk => by
          obtain ⟨h0, h1, cs, h2⟩ := hset.out.at_lt hk
          exact ⟨h0, (hkR.out.ne_ h2 (by decide)).symm⟩⟩
        clear hq2 hat hq hap hkS hset hin
        go_wp2_with fail
        refine Hadd.out.mono ?_
        rintro e w2 ⟨rfl, v', hs2, hk2, ha2, hn2⟩
        obtain ⟨SA2, sc2, rfl⟩ := hs2.form
        have hq2 := Hq2.out.apart ha2 (fun k hk => by
          have := Hap2.out k hk
          rintro (h | h)
          · exact this.2.1 h
          · exact this.2.2 h)
        have hkR2 := hkR.out.apart ha2 (by
          have := Hnr.out
          rintro (h | h)
          · omega
          · exact (this.2 _ h).2 rfl)
        have hbw2 : Below w.heap.size w w2 := hbw.out.trans (ha2.below hbw.out.size (fun k hk => by
          have := Hnr.out
          rintro (h | h)
          · omega
          · have := (this.2 _ h).1; omega))
        have hap3 : ∀ k, At (.slice (some ⟨g, off, none⟩) 0 0) k → ¬ At (.slice SA2 (insI R n).length sc2) k := fun k hk h => by
          have h1 := Hap2.out k hk
          rcases hn2 k h with h2 | h2
          · exact h1.2.2 h2
          · omega
        have Hk2 : Hid (Blk w2 rB 64 #[.slice SA2 (insI R n).length sc2]) := Lib.hid hk2
        have Hs2 := Lib.hid hs2
        have HkR2 := Lib.hid hkR2
        have Hbw2 := Lib.hid hbw2
        have Hq3 := Lib.hid hq2
        have Hap3 := Lib.hid hap3
        clear hk2 hs2 hkR2 hbw2 hq2 hap3 ha2 hn2 Hq2 Hap2 Hnr Hadd hkR hbw
        cases hh : hasI R n
        · have Hb3 : Hid (Bre S F (insI R n) (([] : List Int) ++ kidsOf S n)) := Lib.hid (by have := hbre.out.add HS.out; rwa [Int.toNat_natCast] at this)
          have hl3 : (insI R n).length = R.length + 1 := insI_new R n ((hasI_not R n).1 hh)
          have hfz : S[n].fs.length ≤ 1048576 := by
            have h1 := sum_get slSz hnS
            have h2 : S[n].fs.length ≤ slSz S[n] := by unfold slSz fsSz; omega
            have h3 := Hsz.out
            unfold slsSz at h3
            omega
          have hkl := refsTo_le S[n].fs S[n].fs.length
          have hkid := kidsOf_get hnS
          obtain ⟨ad, rfl, _, hbk, hatS⟩ := (H.out.below (Hbw2.out.mono hB)).2 (by omega)
          obtain ⟨y0, y1, y2, y3, ⟨e0, e1, e2, e3⟩, rfl, rfl, rfl, KA, kc, rfl, hKf⟩ := hatS n hnS
          have Hkc := Lib.hid (slotKids_c S[n] KA kc L B w2 (Nat.le_trans hB Hbw2.out.size) hfz hKf)
          rw [← hkid] at Hkc hkl
          obtain ⟨sl, hsl⟩ : ∃ s, s = S[n] := ⟨_, rfl⟩
          rw [← hsl] at e0 e1 e2 e3 Hkc hkl hfz
          obtain ⟨K, hK⟩ : ∃ k, k = kidsOf S n := ⟨_, rfl⟩
          rw [← hK] at Hkc hkl Hb3
          obtain ⟨lv, gn, ct, fs⟩ := sl
          dsimp only at e0 e1 e2 e3 Hkc hkl hfz
          obtain ⟨fl, hfl⟩ : ∃ m, m = fs.length := ⟨_, rfl⟩
          rw [← hfl] at e3 Hkc hkl hfz
          have p0 := HkR2.out.cel 0 (v := .slice (some ad) S.length c) rfl
          have hXl2 := hXl.out
          simp only [List.length_cons, List.length_nil] at hXl2
          clear hatS hKf hsl hK hkid hfl hbre hh
          go_wp2_with fail
          refine Hkc.out.mono ?_
          rintro e w3 ⟨KB, kb, rfl, hko, hb3⟩
          obtain ⟨v3, w4, hrun, hq4, ha4, hn4⟩ := (Hq3.out.below hb3).app (Nat.le_trans Hbw2.out.size hb3.size) kb (hko.ilg (by unfold maxLen; omega)) (by first | omega | (simp only [List.length_nil]; omega)) 23
          have hq3l : ∀ k, At (.slice (some ⟨g, off, none⟩) 0 0) k → w.heap.size ≤ k ∧ k ≠ rB ∧ k ≠ w.heap.size ∧ k < w2.heap.size := fun k hk => by
            obtain ⟨h0, h1, cs, h2⟩ := Hq3.out.at_lt hk
            exact ⟨h0, (Hk2.out.ne_ h2 (by decide)).symm, (HkR2.out.ne_ h2 (by decide)).symm, h1⟩
          have hs4 : SetV w4 w.heap.size (.slice SA2 (insI R n).length sc2) (insI R n) := (Hs2.out.below hb3).apart ha4 (fun k hk h => Hap3.out k h hk)
          have hk4 := (Hk2.out.below hb3 Hk2.out.lt).apart ha4 (fun h => (hq3l rB h).2.1 rfl)
          have hkR4 := (HkR2.out.below hb3 HkR2.out.lt).apart ha4 (fun h => (hq3l w.heap.size h).2.2.1 rfl)
          have hbw4 : Below w.heap.size w w4 := (Hbw2.out.trans (hb3.mono Hbw2.out.size)).trans (ha4.below (Nat.le_trans Hbw2.out.size hb3.size) (fun k hk h => by have := (hq3l k h).1; omega))
          have hap4 : ∀ k, At v3 k → ¬ At (.slice SA2 (insI R n).length sc2) k := fun k hk h => by
            rcases hn4 k hk with h2 | h2
            · exact Hap3.out k h2 h
            · have := (Hs2.out.at_lt h).2.1
              have := hb3.size
              omega
          obtain ⟨Y, hY⟩ : ∃ y, y = ([] : List Int) ++ K := ⟨_, rfl⟩
          rw [← hY] at hq4 Hb3
          have hYl : Y.length = (([] : List Int)).length + K.length := by rw [hY, List.length_append]
          clear hY
          obtain ⟨QA, qc, rfl⟩ := hq4.form
          have Hrun := Lib.hid hrun
          have Hq4 := Lib.hid hq4
          have Hs4 := Lib.hid hs4
          have Hk4 := Lib.hid hk4
          have HkR4 := Lib.hid hkR4
          have Hbw4 := Lib.hid hbw4
          have Hap4 := Lib.hid hap4
          have hlR4 := lenAt_eq hk4
          have hXl4 : Hid (Y.length ≤ F.length + (insI R n).length * 1048576) := Lib.hid (by rw [hl3, hYl]; first | omega | (simp only [List.length_nil]; omega))
          have hXK : Y.length < 2000000 + 1 + (([] : List Int)).length := by rw [hYl]; first | omega | (simp only [List.length_nil]; omega)
          clear hrun hq4 hs4 hk4 hkR4 hbw4 hap4 hq3l hko hb3 ha4 hn4 hYl Hkc Hq3 Hs2 Hk2 HkR2 Hbw2 Hap3 hXl
          go_wp2_with (at_builtin; refine Lib.wpList_append_run _ rfl _ _ _ _ rfl _ _ rfl rfl _ _ Hrun.out ?_)
          go_roundw
          case rel => exact ⟨insI R n, Y, _, SA2, sc2, rfl, Hq4, Hb3, Hs4, Hk4, HkR4, Hap4, hXl4, Hbw4⟩
          case measure =>
            rw [hlR4, hlR, hl3]
            simp only [lenS] at hXK ⊢
            first | omega | (simp only [List.length_nil] at hXK ⊢; omega)
        · have Hb3 : Hid (Bre S F (insI R n) ([] : List Int)) := Lib.hid (by rw [insI_has R n hbre.out.sorted ((hasI_mem R n).1 hh)]; exact hbre.out.old ((hasI_mem R n).1 hh))
          have hl3 : (insI R n).length = R.length := by rw [insI_has R n hbre.out.sorted ((hasI_mem R n).1 hh)]
          have hlR2 := lenAt_eq Hk2.out
          have hXl2 : Hid ((([] : List Int)).length ≤ F.length + (insI R n).length * 1048576) := Lib.hid (by have := hXl.out; simp only [List.length_cons, List.length_nil] at this ⊢; omega)
          clear hh hbre hXl
          go_wp2
          go_roundw
          case rel => exact ⟨insI R n, ([] : List Int), (.slice (some ⟨g, off, none⟩) 0 0), SA2, sc2, rfl, Hq3, Hb3, Hs2, Hk2, HkR2, Hap3, hXl2, Hbw2⟩
          case measure =>
            rw [hlR2, hlR, hl3]
            simp only [lenS, List.length_nil]
            omega

      · have hq2 := hrest
        have hat : ∀ k, At (.slice (some ⟨g, off + 1, none⟩) X.length (cap - 1)) k → At (.slice (some ⟨g, off, none⟩) (X.length + 1) cap) k := fun k hk => ⟨_, _, _, rfl, hk.some_.symm⟩
        clear hone hrest
        have Hq2 : Hid (QRow wr w.heap.size (.slice (some ⟨g, off + 1, none⟩) X.length (cap - 1)) X) := Lib.hid hq2
        have Hap2 : Hid (∀ k, At (.slice (some ⟨g, off + 1, none⟩) X.length (cap - 1)) k → k < wr.heap.size ∧ k ≠ rB ∧ ¬ At (.slice SA R.length sc) k) := Lib.hid (fun k hk => by
          obtain ⟨_, h1, cs, h2⟩ := hq2.at_lt hk
          exact ⟨h1, (hkS.out.ne_ h2 (by decide)).symm, hap.out k (hat k hk)⟩)
        have Hnr : Hid (w.heap.size < rB ∧ ∀ k, At (.slice SA R.length sc) k → w.heap.size ≤ k ∧ k ≠ w.heap.size) := Lib.hid ⟨by have := HWs.out; omega, fun k hk => by
          obtain ⟨h0, h1, cs, h2⟩ := hset.out.at_lt hk
          exact ⟨h0, (hkR.out.ne_ h2 (by decide)).symm⟩⟩
        clear hq2 hat hq hap hkS hset hin
        go_wp2_with fail
        refine Hadd.out.mono ?_
        rintro e w2 ⟨rfl, v', hs2, hk2, ha2, hn2⟩
        obtain ⟨SA2, sc2, rfl⟩ := hs2.form
        have hq2 := Hq2.out.apart ha2 (fun k hk => by
          have := Hap2.out k hk
          rintro (h | h)
          · exact this.2.1 h
          · exact this.2.2 h)
        have hkR2 := hkR.out.apart ha2 (by
          have := Hnr.out
          rintro (h | h)
          · omega
          · exact (this.2 _ h).2 rfl)
        have hbw2 : Below w.heap.size w w2 := hbw.out.trans (ha2.below hbw.out.size (fun k hk => by
          have := Hnr.out
          rintro (h | h)
          · omega
          · have := (this.2 _ h).1; omega))
        have hap3 : ∀ k, At (.slice (some ⟨g, off + 1, none⟩) X.length (cap - 1)) k → ¬ At (.slice SA2 (insI R n).length sc2) k := fun k hk h => by
          have h1 := Hap2.out k hk
          rcases hn2 k h with h2 | h2
          · exact h1.2.2 h2
          · omega
        have Hk2 : Hid (Blk w2 rB 64 #[.slice SA2 (insI R n).length sc2]) := Lib.hid hk2
        have Hs2 := Lib.hid hs2
        have HkR2 := Lib.hid hkR2
        have Hbw2 := Lib.hid hbw2
        have Hq3 := Lib.hid hq2
        have Hap3 := Lib.hid hap3
        clear hk2 hs2 hkR2 hbw2 hq2 hap3 ha2 hn2 Hq2 Hap2 Hnr Hadd hkR hbw
        cases hh : hasI R n
        · have Hb3 : Hid (Bre S F (insI R n) (X ++ kidsOf S n)) := Lib.hid (by have := hbre.out.add HS.out; rwa [Int.toNat_natCast] at this)
          have hl3 : (insI R n).length = R.length + 1 := insI_new R n ((hasI_not R n).1 hh)
          have hfz : S[n].fs.length ≤ 1048576 := by
            have h1 := sum_get slSz hnS
            have h2 : S[n].fs.length ≤ slSz S[n] := by unfold slSz fsSz; omega
            have h3 := Hsz.out
            unfold slsSz at h3
            omega
          have hkl := refsTo_le S[n].fs S[n].fs.length
          have hkid := kidsOf_get hnS
          obtain ⟨ad, rfl, _, hbk, hatS⟩ := (H.out.below (Hbw2.out.mono hB)).2 (by omega)
          obtain ⟨y0, y1, y2, y3, ⟨e0, e1, e2, e3⟩, rfl, rfl, rfl, KA, kc, rfl, hKf⟩ := hatS n hnS
          have Hkc := Lib.hid (slotKids_c S[n] KA kc L B w2 (Nat.le_trans hB Hbw2.out.size) hfz hKf)
          rw [← hkid] at Hkc hkl
          obtain ⟨sl, hsl⟩ : ∃ s, s = S[n] := ⟨_, rfl⟩
          rw [← hsl] at e0 e1 e2 e3 Hkc hkl hfz
          obtain ⟨K, hK⟩ : ∃ k, k = kidsOf S n := ⟨_, rfl⟩
          rw [← hK] at Hkc hkl Hb3
          obtain ⟨lv, gn, ct, fs⟩ := sl
          dsimp only at e0 e1 e2 e3 Hkc hkl hfz
          obtain ⟨fl, hfl⟩ : ∃ m, m = fs.length := ⟨_, rfl⟩
          rw [← hfl] at e3 Hkc hkl hfz
          have p0 := HkR2.out.cel 0 (v := .slice (some ad) S.length c) rfl
          have hXl2 := hXl.out
          simp only [List.length_cons, List.length_nil] at hXl2
          clear hatS hKf hsl hK hkid hfl hbre hh
          go_wp2_with fail
          refine Hkc.out.mono ?_
          rintro e w3 ⟨KB, kb, rfl, hko, hb3⟩
          obtain ⟨v3, w4, hrun, hq4, ha4, hn4⟩ := (Hq3.out.below hb3).app (Nat.le_trans Hbw2.out.size hb3.size) kb (hko.ilg (by unfold maxLen; omega)) (by first | omega | (simp only [List.length_nil]; omega)) 23
          have hq3l : ∀ k, At (.slice (some ⟨g, off + 1, none⟩) X.length (cap - 1)) k → w.heap.size ≤ k ∧ k ≠ rB ∧ k ≠ w.heap.size ∧ k < w2.heap.size := fun k hk => by
            obtain ⟨h0, h1, cs, h2⟩ := Hq3.out.at_lt hk
            exact ⟨h0, (Hk2.out.ne_ h2 (by decide)).symm, (HkR2.out.ne_ h2 (by decide)).symm, h1⟩
          have hs4 : SetV w4 w.heap.size (.slice SA2 (insI R n).length sc2) (insI R n) := (Hs2.out.below hb3).apart ha4 (fun k hk h => Hap3.out k h hk)
          have hk4 := (Hk2.out.below hb3 Hk2.out.lt).apart ha4 (fun h => (hq3l rB h).2.1 rfl)
          have hkR4 := (HkR2.out.below hb3 HkR2.out.lt).apart ha4 (fun h => (hq3l w.heap.size h).2.2.1 rfl)
          have hbw4 : Below w.heap.size w w4 := (Hbw2.out.trans (hb3.mono Hbw2.out.size)).trans (ha4.below (Nat.le_trans Hbw2.out.size hb3.size) (fun k hk h => by have := (hq3l k h).1; omega))
          have hap4 : ∀ k, At v3 k → ¬ At (.slice SA2 (insI R n).length sc2) k := fun k hk h => by
            rcases hn4 k hk with h2 | h2
            · exact Hap3.out k h2 h
            · have := (Hs2.out.at_lt h).2.1
              have := hb3.size
              omega
          obtain ⟨Y, hY⟩ : ∃ y, y = X ++ K := ⟨_, rfl⟩
          rw [← hY] at hq4 Hb3
          have hYl : Y.length = (X).length + K.length := by rw [hY, List.length_append]
          clear hY
          obtain ⟨QA, qc, rfl⟩ := hq4.form
          have Hrun := Lib.hid hrun
          have Hq4 := Lib.hid hq4
          have Hs4 := Lib.hid hs4
          have Hk4 := Lib.hid hk4
          have HkR4 := Lib.hid hkR4
          have Hbw4 := Lib.hid hbw4
          have Hap4 := Lib.hid hap4
          have hlR4 := lenAt_eq hk4
          have hXl4 : Hid (Y.length ≤ F.length + (insI R n).length * 1048576) := Lib.hid (by rw [hl3, hYl]; first | omega | (simp only [List.length_nil]; omega))
          have hXK : Y.length < 2000000 + 1 + (X).length := by rw [hYl]; first | omega | (simp only [List.length_nil]; omega)
          clear hrun hq4 hs4 hk4 hkR4 hbw4 hap4 hq3l hko hb3 ha4 hn4 hYl Hkc Hq3 Hs2 Hk2 HkR2 Hbw2 Hap3 hXl
          go_wp2_with (at_builtin; refine Lib.wpList_append_run _ rfl _ _ _ _ rfl _ _ rfl rfl _ _ Hrun.out ?_)
          go_roundw
          case rel => exact ⟨insI R n, Y, _, SA2, sc2, rfl, Hq4, Hb3, Hs4, Hk4, HkR4, Hap4, hXl4, Hbw4⟩
          case measure =>
            rw [hlR4, hlR, hl3]
            simp only [lenS] at hXK ⊢
            first | omega | (simp only [List.length_nil] at hXK ⊢; omega)
        · have Hb3 : Hid (Bre S F (insI R n) X) := Lib.hid (by rw [insI_has R n hbre.out.sorted ((hasI_mem R n).1 hh)]; exact hbre.out.old ((hasI_mem R n).1 hh))
          have hl3 : (insI R n).length = R.length := by rw [insI_has R n hbre.out.sorted ((hasI_mem R n).1 hh)]
          have hlR2 := lenAt_eq Hk2.out
          have hXl2 : Hid ((X).length ≤ F.length + (insI R n).length * 1048576) := Lib.hid (by have := hXl.out; simp only [List.length_cons, List.length_nil] at this ⊢; omega)
          clear hh hbre hXl
          go_wp2
          go_roundw
          case rel => exact ⟨insI R n, X, (.slice (some ⟨g, off + 1, none⟩) X.length (cap - 1)), SA2, sc2, rfl, Hq3, Hb3, Hs2, Hk2, HkR2, Hap3, hXl2, Hbw2⟩
          case measure =>
            rw [hlR2, hlR, hl3]
            simp only [lenS, List.length_nil]
            omega

end Go.Proofs.Ytiofabnicdlceaa
