/-
  The program's copyOf: its first statement.
-/
import Derived.Test.YtfmlgpnjckamjaaMgrow
import Derived.Deep.RegionHeld3
import Derived.Deep.DeepCutAuto
namespace Go.Proofs.Ytfmlgpnjckamjaa
open Go.RowKit
set_option linter.unusedVariables false
set_option linter.unusedSimpArgs false
namespace CopyOfJ
theorem blw1 (w : World) (o : Obj) : Below w.heap.size w (w.alloc o) := (Below.refl _ _).alloc (Nat.le_refl _) o

/-- a copy: an arena of its own, whose queue and purple grow apart -/
def CopyAns (S : List Sl) (Q P : List Int) (w : World) (e : Ending) (w' : World) : Prop := ∃ A0' A1' A2' c0' c1' c2' g fb nb g1 g2, e = .returned (.agg #[.slice A0' S.length c0', .slice A1' Q.length c1', .slice A2' P.length c2']) ∧
      ArnM.OwnAr w' w.heap.size A0' A1' A2' ⟨S, Q, P⟩ g fb nb g1 g2 ∧ (∀ b, ArnM.asOf ⟨S, Q, P⟩ g fb nb g1 g2 b → b < w'.heap.size) ∧ Below w.heap.size w w' ∧ ∃ s1 s2 s3 : Nat, (w.heap.size ≤ s1 ∧ w.heap.size ≤ s2) ∧ ArnM.BkJ w' s1 s2 A1' c1' g1 Q ∧ ArnM.BkJ w' s2 s3 A2' c2' g2 P
set_option maxRecDepth 100000 in
set_option maxHeartbeats 16000000 in
theorem copyOfJ_c (S : List Sl) (Q P : List Int) (A0 A1 A2 : Option Addr) (c0 c1 c2 L B : Nat) (w : World) (hB : B ≤ w.heap.size) (hsz : arSz ⟨S, Q, P⟩ ≤ 1050000) (h : ArL w L B A0 A1 A2 ⟨S, Q, P⟩) :
    Calls Try.prog 81 #[.agg #[.slice A0 S.length c0, .slice A1 Q.length c1, .slice A2 P.length c2]] w (CopyAns S Q P w) := by
  have hS : S.length ≤ 1050000 := by unfold arSz slsSz at hsz; dsimp only at hsz; omega
  have hQ : Q.length ≤ 1050000 := by unfold arSz at hsz; dsimp only at hsz; omega
  have hP : P.length ≤ 1050000 := by unfold arSz at hsz; dsimp only at hsz; omega
  have hbW : Below w.heap.size w ((w.alloc (.cells #[.slice A0 S.length c0, .slice A1 Q.length c1, .slice A2 P.length c2] 32)).alloc (.cells #[.slice none 0 0, .slice none 0 0, .slice none 0 0] 32)) := ((Below.refl _ _).alloc (Nat.le_refl _) _).alloc (by simp) _
  have HKA := Lib.hid ((Blk.new w 32 #[.slice A0 S.length c0, .slice A1 Q.length c1, .slice A2 P.length c2]).alloc (.cells #[.slice none 0 0, .slice none 0 0, .slice none 0 0] 32))
  have HKR : Hid (Blk ((w.alloc (.cells #[.slice A0 S.length c0, .slice A1 Q.length c1, .slice A2 P.length c2] 32)).alloc (.cells #[.slice none 0 0, .slice none 0 0, .slice none 0 0] 32)) (w.heap.size + 1) 32 #[.slice none 0 0, .slice none 0 0, .slice none 0 0]) := Lib.hid (by
    have := Blk.new (w.alloc (.cells #[.slice A0 S.length c0, .slice A1 Q.length c1, .slice A2 P.length c2] 32)) 32 #[.slice none 0 0, .slice none 0 0, .slice none 0 0]
    rwa [World.size_alloc] at this)
  have hsz2 : ((w.alloc (.cells #[.slice A0 S.length c0, .slice A1 Q.length c1, .slice A2 P.length c2] 32)).alloc (.cells #[.slice none 0 0, .slice none 0 0, .slice none 0 0] 32)).heap.size = w.heap.size + 2 := by simp
  have HbW := Lib.hid hbW
  have H := Lib.hid h
  have Hsz := Lib.hid hsz
  have HB := Lib.hid hB
  clear h hsz hbW
  go_enter Try.func81, Try.ntmps81
  go_wp2_with fail
  generalize hW2 : (w.alloc (.cells #[.slice A0 S.length c0, .slice A1 Q.length c1, .slice A2 P.length c2] 32)).alloc (.cells #[.slice none 0 0, .slice none 0 0, .slice none 0 0] 32) = w2
  rw [hW2] at HKA HKR HbW hsz2
  obtain ⟨bA, hbA⟩ : ∃ r, r = w.heap.size := ⟨_, rfl⟩
  have HA2 := Lib.hid (H.out.below (HbW.out.mono hB))
  have HB2 : Hid (B ≤ w2.heap.size) := Lib.hid (by omega)
  have Hcs := Lib.hid (fun W (hW : Below w2.heap.size w2 W) => cloneSl_c S A0 c0 L B W (Nat.le_trans HB2.out hW.size) hS (HA2.out.1.below (hW.mono HB2.out)))
  have Hci := Lib.hid (fun W (hW : Below w2.heap.size w2 W) => cloneI_c Q A1 c1 L B W (Nat.le_trans HB2.out hW.size) (by omega) (HA2.out.2.1.below (hW.mono HB2.out)))
  have Hcp := Lib.hid (fun W (hW : Below w2.heap.size w2 W) => cloneI_c P A2 c2 L B W (Nat.le_trans HB2.out hW.size) (by omega) (HA2.out.2.2.below (hW.mono HB2.out)))
  have Hsz2 := Lib.hid hsz2
  have HbAlt : Hid (bA < w2.heap.size) := Lib.hid (by omega)
  have HbA := Lib.hid hbA
  rw [← hbA] at HKA HKR
  rw [← hbA]
  clear hW2 hbA hsz2 hB H
  have HKA9 := HKA
  go_upto_region 1 with fail
  go_cut [3] (fun p wx => ∃ (gb : Nat) (B0 B1 B2 : Option Addr) (d0 d1 d2 g0 g1 g2 : Nat), p = .pointer (some ⟨gb, 0, none⟩) ∧ Hid (Blk wx gb 32 #[.slice B0 S.length d0, .slice B1 Q.length d1, .slice B2 P.length d2]) ∧ Hid (Below w2.heap.size w2 wx) ∧ Hid (w2.heap.size ≤ gb) ∧ Hid (ArnM.StS wx w2.heap.size L B B0 g0 S) ∧ ∃ s1 s2 s3 : Nat, Hid (ArnM.BkJ wx s1 s2 B1 d1 g1 Q) ∧ Hid (ArnM.BkJ wx s2 s3 B2 d2 g2 P) ∧
      Hid (w2.heap.size ≤ s1 ∧ s1 ≤ s2 ∧ s2 ≤ s3 ∧ s3 ≤ wx.heap.size) ∧ Hid ((0 < S.length → g0 < s1) ∧ (0 < Q.length → g1 < s2 ∧ s1 ≤ g1) ∧ (0 < P.length → g2 < s3 ∧ s2 ≤ g2)))
  case first =>
    have HKA := Lib.hid HKA.out.drew
    have HbP := Lib.hid (show Below w2.heap.size w2 w2.drew from ⟨rfl, rfl, rfl, Nat.le_refl _, fun _ _ => rfl⟩)
    refine wp_region_noPanic ?_
    refine wp_region_held_drew (S := (fun W => Blk W bA 32 #[.slice A0 S.length c0, .slice A1 Q.length c1, .slice A2 P.length c2])) (by kernel_rfl) ?_ (fun hHeld => ?_)
    · exact HKA.out
    refine wpAnyH_take (i := 0) (oi := _) (v := ?_) rfl (by kernel_rfl) (by kernel_rfl) (by kernel_rfl) (fun _ _ _ h => h) (Or.inl ⟨by rfl, ?_⟩) (by assumption) ?_
    rotate_left
    focus
      intro w hSw
      have hS2 : Blk w bA 32 #[.slice A0 S.length c0, .slice A1 Q.length c1, .slice A2 P.length c2] := hSw
      have qs0 := hS2.cel 0 rfl
      have qs1 := hS2.cel 1 rfl
      have qs2 := hS2.cel 2 rfl
      go_simp
      try with_reducible rfl
    try simp only [List.getElem_toArray, List.getElem_cons_succ, List.getElem_cons_zero, Act.put, List.setIfInBounds_toArray, List.set_cons_zero, List.set_cons_succ]
    refine wpAnyH_take (i := 1) (oi := _) (v := ?_) rfl (by kernel_rfl) (by kernel_rfl) (by kernel_rfl) (fun _ _ _ h => h) (Or.inl ⟨by rfl, ?_⟩) (by assumption) ?_
    rotate_left
    focus
      intro w hSw
      have hS2 : Blk w bA 32 #[.slice A0 S.length c0, .slice A1 Q.length c1, .slice A2 P.length c2] := hSw
      have qs0 := hS2.cel 0 rfl
      have qs1 := hS2.cel 1 rfl
      have qs2 := hS2.cel 2 rfl
      go_simp
      try with_reducible rfl
    try simp only [List.getElem_toArray, List.getElem_cons_succ, List.getElem_cons_zero, Act.put, List.setIfInBounds_toArray, List.set_cons_zero, List.set_cons_succ]
    refine wpAnyH_take (i := 3) (oi := _) (v := ?_) rfl (by kernel_rfl) (by kernel_rfl) (by kernel_rfl) (fun _ _ _ h => h) (Or.inl ⟨by rfl, ?_⟩) (by assumption) ?_
    rotate_left
    focus
      intro w hSw
      have hS2 : Blk w bA 32 #[.slice A0 S.length c0, .slice A1 Q.length c1, .slice A2 P.length c2] := hSw
      have qs0 := hS2.cel 0 rfl
      have qs1 := hS2.cel 1 rfl
      have qs2 := hS2.cel 2 rfl
      go_simp
      try with_reducible rfl
    try simp only [List.getElem_toArray, List.getElem_cons_succ, List.getElem_cons_zero, Act.put, List.setIfInBounds_toArray, List.set_cons_zero, List.set_cons_succ]
    refine wpAnyH_take (i := 4) (oi := _) (v := ?_) rfl (by kernel_rfl) (by kernel_rfl) (by kernel_rfl) (fun _ _ _ h => h) (Or.inl ⟨by rfl, ?_⟩) (by assumption) ?_
    rotate_left
    focus
      intro w hSw
      have hS2 : Blk w bA 32 #[.slice A0 S.length c0, .slice A1 Q.length c1, .slice A2 P.length c2] := hSw
      have qs0 := hS2.cel 0 rfl
      have qs1 := hS2.cel 1 rfl
      have qs2 := hS2.cel 2 rfl
      go_simp
      try with_reducible rfl
    try simp only [List.getElem_toArray, List.getElem_cons_succ, List.getElem_cons_zero, Act.put, List.setIfInBounds_toArray, List.set_cons_zero, List.set_cons_succ]
    refine wpAnyH_take (i := 6) (oi := _) (v := ?_) rfl (by kernel_rfl) (by kernel_rfl) (by kernel_rfl) (fun _ _ _ h => h) (Or.inl ⟨by rfl, ?_⟩) (by assumption) ?_
    rotate_left
    focus
      intro w hSw
      have hS2 : Blk w bA 32 #[.slice A0 S.length c0, .slice A1 Q.length c1, .slice A2 P.length c2] := hSw
      have qs0 := hS2.cel 0 rfl
      have qs1 := hS2.cel 1 rfl
      have qs2 := hS2.cel 2 rfl
      go_simp
      try with_reducible rfl
    try simp only [List.getElem_toArray, List.getElem_cons_succ, List.getElem_cons_zero, Act.put, List.setIfInBounds_toArray, List.set_cons_zero, List.set_cons_succ]
    refine wpAnyH_take (i := 7) (oi := _) (v := ?_) rfl (by kernel_rfl) (by kernel_rfl) (by kernel_rfl) (fun _ _ _ h => h) (Or.inl ⟨by rfl, ?_⟩) (by assumption) ?_
    rotate_left
    focus
      intro w hSw
      have hS2 : Blk w bA 32 #[.slice A0 S.length c0, .slice A1 Q.length c1, .slice A2 P.length c2] := hSw
      have qs0 := hS2.cel 0 rfl
      have qs1 := hS2.cel 1 rfl
      have qs2 := hS2.cel 2 rfl
      go_simp
      try with_reducible rfl
    try simp only [List.getElem_toArray, List.getElem_cons_succ, List.getElem_cons_zero, Act.put, List.setIfInBounds_toArray, List.set_cons_zero, List.set_cons_succ]
    refine wpAnyH_ready (rs := [2, 10]) (by kernel_rfl) (by simp) ?_
    refine AllReadyH.cons (o := _) rfl (fun K hK => ?_) ?_
    · go_simp
      refine Calls.mono (Hcs.out w2.drew HbP.out) ?_
      rintro e w3 ⟨v3, xs3, rfl, hown, hxl, hall, hb⟩
      have hsz0 := HbP.out.size
      have hst := hb
      have HKA := Lib.hid (HKA.out.below hst HKA.out.lt)
      have HbP := Lib.hid (HbP.out.trans (hst.mono HbP.out.size))
      obtain ⟨B0, d0, g0, rfl, hst0⟩ := ArnM.StS.of hown hall hb (Nat.le_trans HB2.out hsz0)
      have HS0 := Lib.hid (hst0.lo_le hsz0)
      have Hg0 : Hid (0 < S.length → g0 < w3.heap.size) := Lib.hid (fun h0 => (hst0.2 h0).2.2.1)
      clear hst hb hsz0 hown hxl hall hst0
      refine hK.out _ _ ?_ (fun hHeld => ?_)
      · exact HKA.out
      · clear hK K
        try simp only [List.getElem_toArray, List.getElem_cons_succ, List.getElem_cons_zero, Act.put, List.setIfInBounds_toArray, List.set_cons_zero, List.set_cons_succ]
        refine wpAnyH_ready (rs := [5, 10]) (by kernel_rfl) (by simp) ?_
        refine AllReadyH.cons (o := _) rfl (fun K hK => ?_) ?_
        · go_simp
          refine Calls.mono (Hci.out w3 HbP.out) ?_
          rintro e w4 ⟨v4, rfl, hrow, hb⟩
          have hsz0 := HbP.out.size
          have hst := hb
          have HKA := Lib.hid (HKA.out.below hst HKA.out.lt)
          have HbP := Lib.hid (HbP.out.trans (hst.mono HbP.out.size))
          have HS0 := Lib.hid (HS0.out.below hst)
          obtain ⟨B1, d1, g1, rfl, hqj⟩ := ArnM.BkJ.of hrow
          have hq := hqj.toI
          have hql : 0 < Q.length → g1 < w4.heap.size := fun h0 => (hqj.lt h0).2
          have HQ0 : Hid (ArnM.BkJ w4 w3.heap.size w4.heap.size B1 d1 g1 Q) := Lib.hid (hqj.lo_le (by first | exact Nat.le_refl _ | (simp only [World.size_alloc]; omega)))
          have HlQ : Hid (w2.heap.size ≤ w3.heap.size) := Lib.hid (by have := hsz0; first | exact hboxg.out | exact this | (simp only [World.size_alloc] at this; omega) | omega)
          have Hg1 : Hid (0 < Q.length → g1 < w4.heap.size ∧ w3.heap.size ≤ g1) := Lib.hid (fun h0 => ⟨hql h0, Nat.le_trans (by first | exact Nat.le_refl _ | (simp only [World.size_alloc]; omega)) (hq h0).2.1⟩)
          have Hs34 : Hid (w3.heap.size ≤ w4.heap.size) := Lib.hid (Nat.le_trans (by first | exact Nat.le_refl _ | (simp only [World.size_alloc]; omega)) hb.size)
          clear hst hb hsz0 hrow hq hql hqj
          refine hK.out _ _ ?_ (fun hHeld => ?_)
          · exact HKA.out
          · clear hK K
            try simp only [List.getElem_toArray, List.getElem_cons_succ, List.getElem_cons_zero, Act.put, List.setIfInBounds_toArray, List.set_cons_zero, List.set_cons_succ]
            refine wpAnyH_ready (rs := [8, 10]) (by kernel_rfl) (by simp) ?_
            refine AllReadyH.cons (o := _) rfl (fun K hK => ?_) ?_
            · go_simp
              refine Calls.mono (Hcp.out w4 HbP.out) ?_
              rintro e w5 ⟨v5, rfl, hrow, hb⟩
              have hsz0 := HbP.out.size
              have hst := hb
              have HKA := Lib.hid (HKA.out.below hst HKA.out.lt)
              have HbP := Lib.hid (HbP.out.trans (hst.mono HbP.out.size))
              have HS0 := Lib.hid (HS0.out.below hst)
              have HQ0 := Lib.hid (HQ0.out.below hst)
              obtain ⟨B2, d2, g2, rfl, hpj⟩ := ArnM.BkJ.of hrow
              have hp := hpj.toI
              have hpl : 0 < P.length → g2 < w5.heap.size := fun h0 => (hpj.lt h0).2
              have HP0 : Hid (ArnM.BkJ w5 w4.heap.size w5.heap.size B2 d2 g2 P) := Lib.hid (hpj.lo_le (by first | exact Nat.le_refl _ | (simp only [World.size_alloc]; omega)))
              have Hg2 : Hid (0 < P.length → g2 < w5.heap.size ∧ w4.heap.size ≤ g2) := Lib.hid (fun h0 => ⟨hpl h0, Nat.le_trans (by first | exact Nat.le_refl _ | (simp only [World.size_alloc]; omega)) (hp h0).2.1⟩)
              have Hlt : Hid (Hid (w3.heap.size ≤ w4.heap.size) ∧ Hid (w4.heap.size ≤ w5.heap.size)) := Lib.hid ⟨Lib.hid Hs34.out, Lib.hid (Nat.le_trans (by first | exact Nat.le_refl _ | (simp only [World.size_alloc]; omega)) hb.size)⟩
              clear hst hb hsz0 hrow hp hpl hpj
              refine hK.out _ _ ?_ (fun hHeld => ?_)
              · exact HKA.out
              · clear hK K
                try simp only [List.getElem_toArray, List.getElem_cons_succ, List.getElem_cons_zero, Act.put, List.setIfInBounds_toArray, List.set_cons_zero, List.set_cons_succ]
                refine wpAnyH_take (i := 9) (oi := _) (v := ?_) rfl (by kernel_rfl) (by kernel_rfl) (by kernel_rfl) (fun _ _ _ h => h) (Or.inl ⟨by rfl, ?_⟩) (by assumption) ?_
                rotate_left
                focus
                  intro w hSw
                  have hS2 : Blk w bA 32 #[.slice A0 S.length c0, .slice A1 Q.length c1, .slice A2 P.length c2] := hSw
                  have qs0 := hS2.cel 0 rfl
                  have qs1 := hS2.cel 1 rfl
                  have qs2 := hS2.cel 2 rfl
                  go_simp
                  try with_reducible rfl
                try simp only [List.getElem_toArray, List.getElem_cons_succ, List.getElem_cons_zero, Act.put, List.setIfInBounds_toArray, List.set_cons_zero, List.set_cons_succ]
                refine wpAnyH_ready (rs := [10]) (by kernel_rfl) (by simp) ?_
                refine AllReadyH.cons (o := _) rfl (fun K hK => ?_) ?_
                · go_simp
                  have HKAB := HKA
                  have HbPB := HbP
                  have HS0B := HS0
                  have HQ0B := HQ0
                  have HP0B := HP0
                  have hst := blw1 w5 (.cells #[.slice none 0 0, .slice none 0 0, .slice none 0 0] 32)
                  have hbox : Hid (Blk (w5.alloc (.cells #[.slice none 0 0, .slice none 0 0, .slice none 0 0] 32)) (w5.heap.size) 32 #[.slice none 0 0, .slice none 0 0, .slice none 0 0]) := Lib.hid (by have := Blk.new w5 32 #[.slice none 0 0, .slice none 0 0, .slice none 0 0]; first | exact this | (simp only [World.size_alloc] at this; exact this) | (simp only [World.size_alloc] at this ⊢; omega))
                  have hboxg : Hid (w2.heap.size ≤ w5.heap.size) := Lib.hid (by have := HbP.out.size; first | exact this | (simp only [World.size_alloc] at this; exact this) | (simp only [World.size_alloc] at this ⊢; omega))
                  have HKA := Lib.hid (HKA.out.below hst HKA.out.lt)
                  have HbP := Lib.hid (HbP.out.trans (hst.mono HbP.out.size))
                  have HS0 := Lib.hid (HS0.out.below hst)
                  have HQ0 := Lib.hid (HQ0.out.below hst)
                  have HP0 := Lib.hid (HP0.out.below hst)
                  clear hst
                  refine hK.out _ _ ?_ (fun hHeld => ?_)
                  · exact HKA.out
                  · clear hK K
                    try simp only [List.getElem_toArray, List.getElem_cons_succ, List.getElem_cons_zero, Act.put, List.setIfInBounds_toArray, List.set_cons_zero, List.set_cons_succ]
                    refine wpAnyH_ready (rs := [11]) (by kernel_rfl) (by simp) ?_
                    refine AllReadyH.cons (o := _) rfl (fun K hK => ?_) ?_
                    · have z10_0 := hbox.out.cel 0 rfl
                      have z10_1 := hbox.out.cel 1 rfl
                      have z10_2 := hbox.out.cel 2 rfl
                      have y10_0 := hbox.out.frozen 0
                      have y10_1 := hbox.out.frozen 1
                      have y10_2 := hbox.out.frozen 2
                      go_simp
                      have HKA := HKAB
                      have HbP := HbPB
                      have HS0 := HS0B
                      have HQ0 := HQ0B
                      have HP0 := HP0B
                      have hst := blw1 w5 (.cells #[.slice B0 S.length d0, .slice B1 Q.length d1, .slice B2 P.length d2] 32)
                      have hbox : Hid (Blk (w5.alloc (.cells #[.slice B0 S.length d0, .slice B1 Q.length d1, .slice B2 P.length d2] 32)) (w5.heap.size) 32 #[.slice B0 S.length d0, .slice B1 Q.length d1, .slice B2 P.length d2]) := Lib.hid (by have := Blk.new w5 32 #[.slice B0 S.length d0, .slice B1 Q.length d1, .slice B2 P.length d2]; first | exact this | (simp only [World.size_alloc] at this; exact this) | (simp only [World.size_alloc] at this ⊢; omega))
                      have hboxg : Hid (w2.heap.size ≤ w5.heap.size) := Lib.hid (by have := HbP.out.size; first | exact this | (simp only [World.size_alloc] at this; exact this) | (simp only [World.size_alloc] at this ⊢; omega))
                      have HKA := Lib.hid (HKA.out.below hst HKA.out.lt)
                      have HbP := Lib.hid (HbP.out.trans (hst.mono HbP.out.size))
                      have HS0 := Lib.hid (HS0.out.below hst)
                      have HQ0 := Lib.hid (HQ0.out.below hst)
                      have HP0 := Lib.hid (HP0.out.below hst)
                      clear hst
                      refine hK.out _ _ ?_ (fun hHeld => ?_)
                      · exact HKA.out
                      · clear hK K
                        try simp only [List.getElem_toArray, List.getElem_cons_succ, List.getElem_cons_zero, Act.put, List.setIfInBounds_toArray, List.set_cons_zero, List.set_cons_succ]
                        refine wpAnyH_done (by kernel_rfl) ?_ _
                        refine NoPanic.normal ?_
                        try go_wp2_with fail
                        go_meet
                        case rel => exact ⟨w5.heap.size, B0, B1, B2, d0, d1, d2, g0, g1, g2, rfl, hbox, HbP, hboxg, HS0, w3.heap.size, w4.heap.size, w5.heap.size, HQ0, HP0, Lib.hid ⟨HlQ.out, Hlt.out.1.out, Hlt.out.2.out, by simp only [World.size_setCell, World.size_alloc]; omega⟩, Lib.hid ⟨Hg0.out, Hg1.out, Hg2.out⟩⟩
                    exact AllReadyH.nil
                exact AllReadyH.nil
            refine AllReadyH.cons (o := _) rfl (fun K hK => ?_) ?_
            · go_simp
              have HKAB := HKA
              have HbPB := HbP
              have HS0B := HS0
              have HQ0B := HQ0
              have hst := blw1 w4 (.cells #[.slice none 0 0, .slice none 0 0, .slice none 0 0] 32)
              have hbox : Hid (Blk (w4.alloc (.cells #[.slice none 0 0, .slice none 0 0, .slice none 0 0] 32)) (w4.heap.size) 32 #[.slice none 0 0, .slice none 0 0, .slice none 0 0]) := Lib.hid (by have := Blk.new w4 32 #[.slice none 0 0, .slice none 0 0, .slice none 0 0]; first | exact this | (simp only [World.size_alloc] at this; exact this) | (simp only [World.size_alloc] at this ⊢; omega))
              have hboxg : Hid (w2.heap.size ≤ w4.heap.size) := Lib.hid (by have := HbP.out.size; first | exact this | (simp only [World.size_alloc] at this; exact this) | (simp only [World.size_alloc] at this ⊢; omega))
              have HKA := Lib.hid (HKA.out.below hst HKA.out.lt)
              have HbP := Lib.hid (HbP.out.trans (hst.mono HbP.out.size))
              have HS0 := Lib.hid (HS0.out.below hst)
              have HQ0 := Lib.hid (HQ0.out.below hst)
              clear hst
              refine hK.out _ _ ?_ (fun hHeld => ?_)
              · exact HKA.out
              · clear hK K
                try simp only [List.getElem_toArray, List.getElem_cons_succ, List.getElem_cons_zero, Act.put, List.setIfInBounds_toArray, List.set_cons_zero, List.set_cons_succ]
                refine wpAnyH_ready (rs := [8]) (by kernel_rfl) (by simp) ?_
                refine AllReadyH.cons (o := _) rfl (fun K hK => ?_) ?_
                · go_simp
                  refine Calls.mono (Hcp.out (w4.alloc (.cells #[.slice none 0 0, .slice none 0 0, .slice none 0 0] 32)) HbP.out) ?_
                  rintro e w5 ⟨v5, rfl, hrow, hb⟩
                  have hsz0 := HbP.out.size
                  have hst := hb
                  have HKA := Lib.hid (HKA.out.below hst HKA.out.lt)
                  have HbP := Lib.hid (HbP.out.trans (hst.mono HbP.out.size))
                  have HS0 := Lib.hid (HS0.out.below hst)
                  have HQ0 := Lib.hid (HQ0.out.below hst)
                  have hbox := Lib.hid (hbox.out.below hst hbox.out.lt)
                  obtain ⟨B2, d2, g2, rfl, hpj⟩ := ArnM.BkJ.of hrow
                  have hp := hpj.toI
                  have hpl : 0 < P.length → g2 < w5.heap.size := fun h0 => (hpj.lt h0).2
                  have HP0 : Hid (ArnM.BkJ w5 w4.heap.size w5.heap.size B2 d2 g2 P) := Lib.hid (hpj.lo_le (by first | exact Nat.le_refl _ | (simp only [World.size_alloc]; omega)))
                  have Hg2 : Hid (0 < P.length → g2 < w5.heap.size ∧ w4.heap.size ≤ g2) := Lib.hid (fun h0 => ⟨hpl h0, Nat.le_trans (by first | exact Nat.le_refl _ | (simp only [World.size_alloc]; omega)) (hp h0).2.1⟩)
                  have Hlt : Hid (Hid (w3.heap.size ≤ w4.heap.size) ∧ Hid (w4.heap.size ≤ w5.heap.size)) := Lib.hid ⟨Lib.hid Hs34.out, Lib.hid (Nat.le_trans (by first | exact Nat.le_refl _ | (simp only [World.size_alloc]; omega)) hb.size)⟩
                  clear hst hb hsz0 hrow hp hpl hpj
                  refine hK.out _ _ ?_ (fun hHeld => ?_)
                  · exact HKA.out
                  · clear hK K
                    try simp only [List.getElem_toArray, List.getElem_cons_succ, List.getElem_cons_zero, Act.put, List.setIfInBounds_toArray, List.set_cons_zero, List.set_cons_succ]
                    refine wpAnyH_take (i := 9) (oi := _) (v := ?_) rfl (by kernel_rfl) (by kernel_rfl) (by kernel_rfl) (fun _ _ _ h => h) (Or.inl ⟨by rfl, ?_⟩) (by assumption) ?_
                    rotate_left
                    focus
                      intro w hSw
                      have hS2 : Blk w bA 32 #[.slice A0 S.length c0, .slice A1 Q.length c1, .slice A2 P.length c2] := hSw
                      have qs0 := hS2.cel 0 rfl
                      have qs1 := hS2.cel 1 rfl
                      have qs2 := hS2.cel 2 rfl
                      go_simp
                      try with_reducible rfl
                    try simp only [List.getElem_toArray, List.getElem_cons_succ, List.getElem_cons_zero, Act.put, List.setIfInBounds_toArray, List.set_cons_zero, List.set_cons_succ]
                    refine wpAnyH_ready (rs := [11]) (by kernel_rfl) (by simp) ?_
                    refine AllReadyH.cons (o := _) rfl (fun K hK => ?_) ?_
                    · have z10_0 := hbox.out.cel 0 rfl
                      have z10_1 := hbox.out.cel 1 rfl
                      have z10_2 := hbox.out.cel 2 rfl
                      have y10_0 := hbox.out.frozen 0
                      have y10_1 := hbox.out.frozen 1
                      have y10_2 := hbox.out.frozen 2
                      go_simp
                      have HKA := Lib.hid ((((HKA.out.far (p := ⟨w4.heap.size, 0, none⟩) (fun e => by have h1 := hboxg.out; have h2 := HbAlt.out; dsimp only at e; omega) (.slice B0 S.length d0)).far (p := ⟨w4.heap.size, 1, none⟩) (fun e => by have h1 := hboxg.out; have h2 := HbAlt.out; dsimp only at e; omega) (.slice B1 Q.length d1)).far (p := ⟨w4.heap.size, 2, none⟩) (fun e => by have h1 := hboxg.out; have h2 := HbAlt.out; dsimp only at e; omega) (.slice B2 P.length d2)))
                      have HbP := Lib.hid (((HbP.out.setCell (p := ⟨w4.heap.size, 0, none⟩) hboxg.out (.slice B0 S.length d0)).setCell (p := ⟨w4.heap.size, 1, none⟩) hboxg.out (.slice B1 Q.length d1)).setCell (p := ⟨w4.heap.size, 2, none⟩) hboxg.out (.slice B2 P.length d2))
                      have HS0 := Lib.hid ((((HS0.out.far hbox.out (by decide) (Nat.le_trans HB2.out hboxg.out) 0 (.slice B0 S.length d0)).far (hbox.out.set_ 0 (.slice B0 S.length d0)) (by decide) (Nat.le_trans HB2.out hboxg.out) 1 (.slice B1 Q.length d1)).far ((hbox.out.set_ 0 (.slice B0 S.length d0)).set_ 1 (.slice B1 Q.length d1)) (by decide) (Nat.le_trans HB2.out hboxg.out) 2 (.slice B2 P.length d2)))
                      have HQ0 := Lib.hid ((((HQ0.out.far hbox.out (by decide) 0 (.slice B0 S.length d0)).far (hbox.out.set_ 0 (.slice B0 S.length d0)) (by decide) 1 (.slice B1 Q.length d1)).far ((hbox.out.set_ 0 (.slice B0 S.length d0)).set_ 1 (.slice B1 Q.length d1)) (by decide) 2 (.slice B2 P.length d2)))
                      have HP0 := Lib.hid ((((HP0.out.far hbox.out (by decide) 0 (.slice B0 S.length d0)).far (hbox.out.set_ 0 (.slice B0 S.length d0)) (by decide) 1 (.slice B1 Q.length d1)).far ((hbox.out.set_ 0 (.slice B0 S.length d0)).set_ 1 (.slice B1 Q.length d1)) (by decide) 2 (.slice B2 P.length d2)))
                      have hbox := Lib.hid (((hbox.out.set_ 0 (.slice B0 S.length d0)).set_ 1 (.slice B1 Q.length d1)).set_ 2 (.slice B2 P.length d2))
                      refine hK.out _ _ ?_ (fun hHeld => ?_)
                      · exact HKA.out
                      · clear hK K
                        try simp only [List.getElem_toArray, List.getElem_cons_succ, List.getElem_cons_zero, Act.put, List.setIfInBounds_toArray, List.set_cons_zero, List.set_cons_succ]
                        refine wpAnyH_done (by kernel_rfl) ?_ _
                        refine NoPanic.normal ?_
                        try go_wp2_with fail
                        go_meet
                        case rel => exact ⟨w4.heap.size, B0, B1, B2, d0, d1, d2, g0, g1, g2, rfl, hbox, HbP, hboxg, HS0, w3.heap.size, w4.heap.size, w5.heap.size, HQ0, HP0, Lib.hid ⟨HlQ.out, Hlt.out.1.out, Hlt.out.2.out, by simp only [World.size_setCell, World.size_alloc]; omega⟩, Lib.hid ⟨Hg0.out, Hg1.out, Hg2.out⟩⟩
                    exact AllReadyH.nil
                exact AllReadyH.nil
            exact AllReadyH.nil
        refine AllReadyH.cons (o := _) rfl (fun K hK => ?_) ?_
        · go_simp
          have HKAB := HKA
          have HbPB := HbP
          have HS0B := HS0
          have hst := blw1 w3 (.cells #[.slice none 0 0, .slice none 0 0, .slice none 0 0] 32)
          have hbox : Hid (Blk (w3.alloc (.cells #[.slice none 0 0, .slice none 0 0, .slice none 0 0] 32)) (w3.heap.size) 32 #[.slice none 0 0, .slice none 0 0, .slice none 0 0]) := Lib.hid (by have := Blk.new w3 32 #[.slice none 0 0, .slice none 0 0, .slice none 0 0]; first | exact this | (simp only [World.size_alloc] at this; exact this) | (simp only [World.size_alloc] at this ⊢; omega))
          have hboxg : Hid (w2.heap.size ≤ w3.heap.size) := Lib.hid (by have := HbP.out.size; first | exact this | (simp only [World.size_alloc] at this; exact this) | (simp only [World.size_alloc] at this ⊢; omega))
          have HKA := Lib.hid (HKA.out.below hst HKA.out.lt)
          have HbP := Lib.hid (HbP.out.trans (hst.mono HbP.out.size))
          have HS0 := Lib.hid (HS0.out.below hst)
          clear hst
          refine hK.out _ _ ?_ (fun hHeld => ?_)
          · exact HKA.out
          · clear hK K
            try simp only [List.getElem_toArray, List.getElem_cons_succ, List.getElem_cons_zero, Act.put, List.setIfInBounds_toArray, List.set_cons_zero, List.set_cons_succ]
            refine wpAnyH_ready (rs := [5]) (by kernel_rfl) (by simp) ?_
            refine AllReadyH.cons (o := _) rfl (fun K hK => ?_) ?_
            · go_simp
              refine Calls.mono (Hci.out (w3.alloc (.cells #[.slice none 0 0, .slice none 0 0, .slice none 0 0] 32)) HbP.out) ?_
              rintro e w4 ⟨v4, rfl, hrow, hb⟩
              have hsz0 := HbP.out.size
              have hst := hb
              have HKA := Lib.hid (HKA.out.below hst HKA.out.lt)
              have HbP := Lib.hid (HbP.out.trans (hst.mono HbP.out.size))
              have HS0 := Lib.hid (HS0.out.below hst)
              have hbox := Lib.hid (hbox.out.below hst hbox.out.lt)
              obtain ⟨B1, d1, g1, rfl, hqj⟩ := ArnM.BkJ.of hrow
              have hq := hqj.toI
              have hql : 0 < Q.length → g1 < w4.heap.size := fun h0 => (hqj.lt h0).2
              have HQ0 : Hid (ArnM.BkJ w4 w3.heap.size w4.heap.size B1 d1 g1 Q) := Lib.hid (hqj.lo_le (by first | exact Nat.le_refl _ | (simp only [World.size_alloc]; omega)))
              have HlQ : Hid (w2.heap.size ≤ w3.heap.size) := Lib.hid (by have := hsz0; first | exact hboxg.out | exact this | (simp only [World.size_alloc] at this; omega) | omega)
              have Hg1 : Hid (0 < Q.length → g1 < w4.heap.size ∧ w3.heap.size ≤ g1) := Lib.hid (fun h0 => ⟨hql h0, Nat.le_trans (by first | exact Nat.le_refl _ | (simp only [World.size_alloc]; omega)) (hq h0).2.1⟩)
              have Hs34 : Hid (w3.heap.size ≤ w4.heap.size) := Lib.hid (Nat.le_trans (by first | exact Nat.le_refl _ | (simp only [World.size_alloc]; omega)) hb.size)
              clear hst hb hsz0 hrow hq hql hqj
              refine hK.out _ _ ?_ (fun hHeld => ?_)
              · exact HKA.out
              · clear hK K
                try simp only [List.getElem_toArray, List.getElem_cons_succ, List.getElem_cons_zero, Act.put, List.setIfInBounds_toArray, List.set_cons_zero, List.set_cons_succ]
                refine wpAnyH_ready (rs := [8]) (by kernel_rfl) (by simp) ?_
                refine AllReadyH.cons (o := _) rfl (fun K hK => ?_) ?_
                · go_simp
                  refine Calls.mono (Hcp.out w4 HbP.out) ?_
                  rintro e w5 ⟨v5, rfl, hrow, hb⟩
                  have hsz0 := HbP.out.size
                  have hst := hb
                  have HKA := Lib.hid (HKA.out.below hst HKA.out.lt)
                  have HbP := Lib.hid (HbP.out.trans (hst.mono HbP.out.size))
                  have HS0 := Lib.hid (HS0.out.below hst)
                  have hbox := Lib.hid (hbox.out.below hst hbox.out.lt)
                  have HQ0 := Lib.hid (HQ0.out.below hst)
                  obtain ⟨B2, d2, g2, rfl, hpj⟩ := ArnM.BkJ.of hrow
                  have hp := hpj.toI
                  have hpl : 0 < P.length → g2 < w5.heap.size := fun h0 => (hpj.lt h0).2
                  have HP0 : Hid (ArnM.BkJ w5 w4.heap.size w5.heap.size B2 d2 g2 P) := Lib.hid (hpj.lo_le (by first | exact Nat.le_refl _ | (simp only [World.size_alloc]; omega)))
                  have Hg2 : Hid (0 < P.length → g2 < w5.heap.size ∧ w4.heap.size ≤ g2) := Lib.hid (fun h0 => ⟨hpl h0, Nat.le_trans (by first | exact Nat.le_refl _ | (simp only [World.size_alloc]; omega)) (hp h0).2.1⟩)
                  have Hlt : Hid (Hid (w3.heap.size ≤ w4.heap.size) ∧ Hid (w4.heap.size ≤ w5.heap.size)) := Lib.hid ⟨Lib.hid Hs34.out, Lib.hid (Nat.le_trans (by first | exact Nat.le_refl _ | (simp only [World.size_alloc]; omega)) hb.size)⟩
                  clear hst hb hsz0 hrow hp hpl hpj
                  refine hK.out _ _ ?_ (fun hHeld => ?_)
                  · exact HKA.out
                  · clear hK K
                    try simp only [List.getElem_toArray, List.getElem_cons_succ, List.getElem_cons_zero, Act.put, List.setIfInBounds_toArray, List.set_cons_zero, List.set_cons_succ]
                    refine wpAnyH_take (i := 9) (oi := _) (v := ?_) rfl (by kernel_rfl) (by kernel_rfl) (by kernel_rfl) (fun _ _ _ h => h) (Or.inl ⟨by rfl, ?_⟩) (by assumption) ?_
                    rotate_left
                    focus
                      intro w hSw
                      have hS2 : Blk w bA 32 #[.slice A0 S.length c0, .slice A1 Q.length c1, .slice A2 P.length c2] := hSw
                      have qs0 := hS2.cel 0 rfl
                      have qs1 := hS2.cel 1 rfl
                      have qs2 := hS2.cel 2 rfl
                      go_simp
                      try with_reducible rfl
                    try simp only [List.getElem_toArray, List.getElem_cons_succ, List.getElem_cons_zero, Act.put, List.setIfInBounds_toArray, List.set_cons_zero, List.set_cons_succ]
                    refine wpAnyH_ready (rs := [11]) (by kernel_rfl) (by simp) ?_
                    refine AllReadyH.cons (o := _) rfl (fun K hK => ?_) ?_
                    · have z10_0 := hbox.out.cel 0 rfl
                      have z10_1 := hbox.out.cel 1 rfl
                      have z10_2 := hbox.out.cel 2 rfl
                      have y10_0 := hbox.out.frozen 0
                      have y10_1 := hbox.out.frozen 1
                      have y10_2 := hbox.out.frozen 2
                      go_simp
                      have HKA := Lib.hid ((((HKA.out.far (p := ⟨w3.heap.size, 0, none⟩) (fun e => by have h1 := hboxg.out; have h2 := HbAlt.out; dsimp only at e; omega) (.slice B0 S.length d0)).far (p := ⟨w3.heap.size, 1, none⟩) (fun e => by have h1 := hboxg.out; have h2 := HbAlt.out; dsimp only at e; omega) (.slice B1 Q.length d1)).far (p := ⟨w3.heap.size, 2, none⟩) (fun e => by have h1 := hboxg.out; have h2 := HbAlt.out; dsimp only at e; omega) (.slice B2 P.length d2)))
                      have HbP := Lib.hid (((HbP.out.setCell (p := ⟨w3.heap.size, 0, none⟩) hboxg.out (.slice B0 S.length d0)).setCell (p := ⟨w3.heap.size, 1, none⟩) hboxg.out (.slice B1 Q.length d1)).setCell (p := ⟨w3.heap.size, 2, none⟩) hboxg.out (.slice B2 P.length d2))
                      have HS0 := Lib.hid ((((HS0.out.far hbox.out (by decide) (Nat.le_trans HB2.out hboxg.out) 0 (.slice B0 S.length d0)).far (hbox.out.set_ 0 (.slice B0 S.length d0)) (by decide) (Nat.le_trans HB2.out hboxg.out) 1 (.slice B1 Q.length d1)).far ((hbox.out.set_ 0 (.slice B0 S.length d0)).set_ 1 (.slice B1 Q.length d1)) (by decide) (Nat.le_trans HB2.out hboxg.out) 2 (.slice B2 P.length d2)))
                      have HQ0 := Lib.hid ((((HQ0.out.far hbox.out (by decide) 0 (.slice B0 S.length d0)).far (hbox.out.set_ 0 (.slice B0 S.length d0)) (by decide) 1 (.slice B1 Q.length d1)).far ((hbox.out.set_ 0 (.slice B0 S.length d0)).set_ 1 (.slice B1 Q.length d1)) (by decide) 2 (.slice B2 P.length d2)))
                      have HP0 := Lib.hid ((((HP0.out.far hbox.out (by decide) 0 (.slice B0 S.length d0)).far (hbox.out.set_ 0 (.slice B0 S.length d0)) (by decide) 1 (.slice B1 Q.length d1)).far ((hbox.out.set_ 0 (.slice B0 S.length d0)).set_ 1 (.slice B1 Q.length d1)) (by decide) 2 (.slice B2 P.length d2)))
                      have hbox := Lib.hid (((hbox.out.set_ 0 (.slice B0 S.length d0)).set_ 1 (.slice B1 Q.length d1)).set_ 2 (.slice B2 P.length d2))
                      refine hK.out _ _ ?_ (fun hHeld => ?_)
                      · exact HKA.out
                      · clear hK K
                        try simp only [List.getElem_toArray, List.getElem_cons_succ, List.getElem_cons_zero, Act.put, List.setIfInBounds_toArray, List.set_cons_zero, List.set_cons_succ]
                        refine wpAnyH_done (by kernel_rfl) ?_ _
                        refine NoPanic.normal ?_
                        try go_wp2_with fail
                        go_meet
                        case rel => exact ⟨w3.heap.size, B0, B1, B2, d0, d1, d2, g0, g1, g2, rfl, hbox, HbP, hboxg, HS0, w3.heap.size, w4.heap.size, w5.heap.size, HQ0, HP0, Lib.hid ⟨HlQ.out, Hlt.out.1.out, Hlt.out.2.out, by simp only [World.size_setCell, World.size_alloc]; omega⟩, Lib.hid ⟨Hg0.out, Hg1.out, Hg2.out⟩⟩
                    exact AllReadyH.nil
                exact AllReadyH.nil
            exact AllReadyH.nil
        exact AllReadyH.nil
    refine AllReadyH.cons (o := _) rfl (fun K hK => ?_) ?_
    · go_simp
      have HKAB := HKA
      have HbPB := HbP
      have hst := blw1 w2.drew (.cells #[.slice none 0 0, .slice none 0 0, .slice none 0 0] 32)
      have hbox : Hid (Blk (w2.drew.alloc (.cells #[.slice none 0 0, .slice none 0 0, .slice none 0 0] 32)) (w2.heap.size) 32 #[.slice none 0 0, .slice none 0 0, .slice none 0 0]) := Lib.hid (by have := Blk.new w2.drew 32 #[.slice none 0 0, .slice none 0 0, .slice none 0 0]; first | exact this | (simp only [World.size_alloc] at this; exact this) | (simp only [World.size_alloc] at this ⊢; omega))
      have hboxg : Hid (w2.heap.size ≤ w2.heap.size) := Lib.hid (by have := HbP.out.size; first | exact this | (simp only [World.size_alloc] at this; exact this) | (simp only [World.size_alloc] at this ⊢; omega))
      have HKA := Lib.hid (HKA.out.below hst HKA.out.lt)
      have HbP := Lib.hid (HbP.out.trans (hst.mono HbP.out.size))
      clear hst
      refine hK.out _ _ ?_ (fun hHeld => ?_)
      · exact HKA.out
      · clear hK K
        try simp only [List.getElem_toArray, List.getElem_cons_succ, List.getElem_cons_zero, Act.put, List.setIfInBounds_toArray, List.set_cons_zero, List.set_cons_succ]
        refine wpAnyH_ready (rs := [2]) (by kernel_rfl) (by simp) ?_
        refine AllReadyH.cons (o := _) rfl (fun K hK => ?_) ?_
        · go_simp
          refine Calls.mono (Hcs.out (w2.drew.alloc (.cells #[.slice none 0 0, .slice none 0 0, .slice none 0 0] 32)) HbP.out) ?_
          rintro e w3 ⟨v3, xs3, rfl, hown, hxl, hall, hb⟩
          have hsz0 := HbP.out.size
          have hst := hb
          have HKA := Lib.hid (HKA.out.below hst HKA.out.lt)
          have HbP := Lib.hid (HbP.out.trans (hst.mono HbP.out.size))
          have hbox := Lib.hid (hbox.out.below hst hbox.out.lt)
          obtain ⟨B0, d0, g0, rfl, hst0⟩ := ArnM.StS.of hown hall hb (Nat.le_trans HB2.out hsz0)
          have HS0 := Lib.hid (hst0.lo_le hsz0)
          have Hg0 : Hid (0 < S.length → g0 < w3.heap.size) := Lib.hid (fun h0 => (hst0.2 h0).2.2.1)
          clear hst hb hsz0 hown hxl hall hst0
          refine hK.out _ _ ?_ (fun hHeld => ?_)
          · exact HKA.out
          · clear hK K
            try simp only [List.getElem_toArray, List.getElem_cons_succ, List.getElem_cons_zero, Act.put, List.setIfInBounds_toArray, List.set_cons_zero, List.set_cons_succ]
            refine wpAnyH_ready (rs := [5]) (by kernel_rfl) (by simp) ?_
            refine AllReadyH.cons (o := _) rfl (fun K hK => ?_) ?_
            · go_simp
              refine Calls.mono (Hci.out w3 HbP.out) ?_
              rintro e w4 ⟨v4, rfl, hrow, hb⟩
              have hsz0 := HbP.out.size
              have hst := hb
              have HKA := Lib.hid (HKA.out.below hst HKA.out.lt)
              have HbP := Lib.hid (HbP.out.trans (hst.mono HbP.out.size))
              have hbox := Lib.hid (hbox.out.below hst hbox.out.lt)
              have HS0 := Lib.hid (HS0.out.below hst)
              obtain ⟨B1, d1, g1, rfl, hqj⟩ := ArnM.BkJ.of hrow
              have hq := hqj.toI
              have hql : 0 < Q.length → g1 < w4.heap.size := fun h0 => (hqj.lt h0).2
              have HQ0 : Hid (ArnM.BkJ w4 w3.heap.size w4.heap.size B1 d1 g1 Q) := Lib.hid (hqj.lo_le (by first | exact Nat.le_refl _ | (simp only [World.size_alloc]; omega)))
              have HlQ : Hid (w2.heap.size ≤ w3.heap.size) := Lib.hid (by have := hsz0; first | exact hboxg.out | exact this | (simp only [World.size_alloc] at this; omega) | omega)
              have Hg1 : Hid (0 < Q.length → g1 < w4.heap.size ∧ w3.heap.size ≤ g1) := Lib.hid (fun h0 => ⟨hql h0, Nat.le_trans (by first | exact Nat.le_refl _ | (simp only [World.size_alloc]; omega)) (hq h0).2.1⟩)
              have Hs34 : Hid (w3.heap.size ≤ w4.heap.size) := Lib.hid (Nat.le_trans (by first | exact Nat.le_refl _ | (simp only [World.size_alloc]; omega)) hb.size)
              clear hst hb hsz0 hrow hq hql hqj
              refine hK.out _ _ ?_ (fun hHeld => ?_)
              · exact HKA.out
              · clear hK K
                try simp only [List.getElem_toArray, List.getElem_cons_succ, List.getElem_cons_zero, Act.put, List.setIfInBounds_toArray, List.set_cons_zero, List.set_cons_succ]
                refine wpAnyH_ready (rs := [8]) (by kernel_rfl) (by simp) ?_
                refine AllReadyH.cons (o := _) rfl (fun K hK => ?_) ?_
                · go_simp
                  refine Calls.mono (Hcp.out w4 HbP.out) ?_
                  rintro e w5 ⟨v5, rfl, hrow, hb⟩
                  have hsz0 := HbP.out.size
                  have hst := hb
                  have HKA := Lib.hid (HKA.out.below hst HKA.out.lt)
                  have HbP := Lib.hid (HbP.out.trans (hst.mono HbP.out.size))
                  have hbox := Lib.hid (hbox.out.below hst hbox.out.lt)
                  have HS0 := Lib.hid (HS0.out.below hst)
                  have HQ0 := Lib.hid (HQ0.out.below hst)
                  obtain ⟨B2, d2, g2, rfl, hpj⟩ := ArnM.BkJ.of hrow
                  have hp := hpj.toI
                  have hpl : 0 < P.length → g2 < w5.heap.size := fun h0 => (hpj.lt h0).2
                  have HP0 : Hid (ArnM.BkJ w5 w4.heap.size w5.heap.size B2 d2 g2 P) := Lib.hid (hpj.lo_le (by first | exact Nat.le_refl _ | (simp only [World.size_alloc]; omega)))
                  have Hg2 : Hid (0 < P.length → g2 < w5.heap.size ∧ w4.heap.size ≤ g2) := Lib.hid (fun h0 => ⟨hpl h0, Nat.le_trans (by first | exact Nat.le_refl _ | (simp only [World.size_alloc]; omega)) (hp h0).2.1⟩)
                  have Hlt : Hid (Hid (w3.heap.size ≤ w4.heap.size) ∧ Hid (w4.heap.size ≤ w5.heap.size)) := Lib.hid ⟨Lib.hid Hs34.out, Lib.hid (Nat.le_trans (by first | exact Nat.le_refl _ | (simp only [World.size_alloc]; omega)) hb.size)⟩
                  clear hst hb hsz0 hrow hp hpl hpj
                  refine hK.out _ _ ?_ (fun hHeld => ?_)
                  · exact HKA.out
                  · clear hK K
                    try simp only [List.getElem_toArray, List.getElem_cons_succ, List.getElem_cons_zero, Act.put, List.setIfInBounds_toArray, List.set_cons_zero, List.set_cons_succ]
                    refine wpAnyH_take (i := 9) (oi := _) (v := ?_) rfl (by kernel_rfl) (by kernel_rfl) (by kernel_rfl) (fun _ _ _ h => h) (Or.inl ⟨by rfl, ?_⟩) (by assumption) ?_
                    rotate_left
                    focus
                      intro w hSw
                      have hS2 : Blk w bA 32 #[.slice A0 S.length c0, .slice A1 Q.length c1, .slice A2 P.length c2] := hSw
                      have qs0 := hS2.cel 0 rfl
                      have qs1 := hS2.cel 1 rfl
                      have qs2 := hS2.cel 2 rfl
                      go_simp
                      try with_reducible rfl
                    try simp only [List.getElem_toArray, List.getElem_cons_succ, List.getElem_cons_zero, Act.put, List.setIfInBounds_toArray, List.set_cons_zero, List.set_cons_succ]
                    refine wpAnyH_ready (rs := [11]) (by kernel_rfl) (by simp) ?_
                    refine AllReadyH.cons (o := _) rfl (fun K hK => ?_) ?_
                    · have z10_0 := hbox.out.cel 0 rfl
                      have z10_1 := hbox.out.cel 1 rfl
                      have z10_2 := hbox.out.cel 2 rfl
                      have y10_0 := hbox.out.frozen 0
                      have y10_1 := hbox.out.frozen 1
                      have y10_2 := hbox.out.frozen 2
                      go_simp
                      have HKA := Lib.hid ((((HKA.out.far (p := ⟨w2.heap.size, 0, none⟩) (fun e => by have h1 := hboxg.out; have h2 := HbAlt.out; dsimp only at e; omega) (.slice B0 S.length d0)).far (p := ⟨w2.heap.size, 1, none⟩) (fun e => by have h1 := hboxg.out; have h2 := HbAlt.out; dsimp only at e; omega) (.slice B1 Q.length d1)).far (p := ⟨w2.heap.size, 2, none⟩) (fun e => by have h1 := hboxg.out; have h2 := HbAlt.out; dsimp only at e; omega) (.slice B2 P.length d2)))
                      have HbP := Lib.hid (((HbP.out.setCell (p := ⟨w2.heap.size, 0, none⟩) hboxg.out (.slice B0 S.length d0)).setCell (p := ⟨w2.heap.size, 1, none⟩) hboxg.out (.slice B1 Q.length d1)).setCell (p := ⟨w2.heap.size, 2, none⟩) hboxg.out (.slice B2 P.length d2))
                      have HS0 := Lib.hid ((((HS0.out.far hbox.out (by decide) (Nat.le_trans HB2.out hboxg.out) 0 (.slice B0 S.length d0)).far (hbox.out.set_ 0 (.slice B0 S.length d0)) (by decide) (Nat.le_trans HB2.out hboxg.out) 1 (.slice B1 Q.length d1)).far ((hbox.out.set_ 0 (.slice B0 S.length d0)).set_ 1 (.slice B1 Q.length d1)) (by decide) (Nat.le_trans HB2.out hboxg.out) 2 (.slice B2 P.length d2)))
                      have HQ0 := Lib.hid ((((HQ0.out.far hbox.out (by decide) 0 (.slice B0 S.length d0)).far (hbox.out.set_ 0 (.slice B0 S.length d0)) (by decide) 1 (.slice B1 Q.length d1)).far ((hbox.out.set_ 0 (.slice B0 S.length d0)).set_ 1 (.slice B1 Q.length d1)) (by decide) 2 (.slice B2 P.length d2)))
                      have HP0 := Lib.hid ((((HP0.out.far hbox.out (by decide) 0 (.slice B0 S.length d0)).far (hbox.out.set_ 0 (.slice B0 S.length d0)) (by decide) 1 (.slice B1 Q.length d1)).far ((hbox.out.set_ 0 (.slice B0 S.length d0)).set_ 1 (.slice B1 Q.length d1)) (by decide) 2 (.slice B2 P.length d2)))
                      have hbox := Lib.hid (((hbox.out.set_ 0 (.slice B0 S.length d0)).set_ 1 (.slice B1 Q.length d1)).set_ 2 (.slice B2 P.length d2))
                      refine hK.out _ _ ?_ (fun hHeld => ?_)
                      · exact HKA.out
                      · clear hK K
                        try simp only [List.getElem_toArray, List.getElem_cons_succ, List.getElem_cons_zero, Act.put, List.setIfInBounds_toArray, List.set_cons_zero, List.set_cons_succ]
                        refine wpAnyH_done (by kernel_rfl) ?_ _
                        refine NoPanic.normal ?_
                        try go_wp2_with fail
                        go_meet
                        case rel => exact ⟨w2.heap.size, B0, B1, B2, d0, d1, d2, g0, g1, g2, rfl, hbox, HbP, hboxg, HS0, w3.heap.size, w4.heap.size, w5.heap.size, HQ0, HP0, Lib.hid ⟨HlQ.out, Hlt.out.1.out, Hlt.out.2.out, by simp only [World.size_setCell, World.size_alloc]; omega⟩, Lib.hid ⟨Hg0.out, Hg1.out, Hg2.out⟩⟩
                    exact AllReadyH.nil
                exact AllReadyH.nil
            exact AllReadyH.nil
        exact AllReadyH.nil
    exact AllReadyH.nil
  case rest =>
    obtain ⟨gb, B0, B1, B2, d0, d1, d2, g0, g1, g2, rfl, hbox, HbP, hgb, HS0, s1, s2, s3, HQ0, HP0, Hs, Hsep⟩ := hcut
    obtain ⟨W, hW⟩ : ∃ x, x = wc := ⟨_, rfl⟩
    subst hW
    have HKRW := Lib.hid (HKR.out.below HbP.out HKR.out.lt)
    have q0 := hbox.out.cel 0 rfl
    have HBW : Hid (B ≤ W.heap.size) := Lib.hid (Nat.le_trans HB2.out HbP.out.size)
    have Hne : Hid (0 < S.length → gb ≠ g0) := Lib.hid (fun h0 => by
      obtain ⟨_, _, _, cs, hK, _⟩ := HS0.out.2 h0
      exact hbox.out.ne_ hK (by decide))
    clear HKA HKA9 Hcs Hci Hcp HKR
    go_wp2_with fail
    go_loopw [20] (fun i wr => ∃ (m : Nat) (fb : Nat → Nat) (nb : Nat → Nat → Nat), m ≤ S.length ∧ i = .int .i64 m ∧ Hid (ArnM.CpS wr W.heap.size g0 L B S fb nb m) ∧ Hid (Apart (fun b => 0 < S.length ∧ b = g0) W wr)) (fun i _ => S.length - (intOf i).toNat)
    case atStart => exact ⟨0, fun _ => 0, fun _ _ => 0, Nat.zero_le _, rfl, Lib.hid (ArnM.CpS.start HS0.out _ _), Lib.hid (Apart.refl _ _)⟩
    case round =>
      obtain ⟨m, fb, nb, hm, rfl, hC, hAp⟩ := hrel
      have Hbx := Lib.hid (hbox.out.apart hAp.out (fun h => Hne.out h.1 h.2))
      by_cases hlt : m < S.length
      · have hS0 : 0 < S.length := by omega
        obtain ⟨eB0, hlo0, hlt0, -⟩ := HS0.out.2 hS0
        subst eB0
        obtain ⟨cs, hK, hat⟩ := hC.out.row hS0
        obtain ⟨e0, e1, e2, FA0, fc0, e3, hF⟩ := (hat m hlt).2 (Nat.le_refl _)
        have q3 : wr.cell? ⟨g0, m * 4 + 3, none⟩ = some (.slice FA0 S[m].fs.length fc0) := by rw [hK.cell]; exact e3
        have b0 := Hbx.out.cel 0 (v := .slice (some ⟨g0, 0, none⟩) S.length d0) rfl
        have hfs : fsSz S[m].fs ≤ 1050000 := by
          have h1 : fsSz S[m].fs ≤ (S.map slSz).sum := sum_get slSz hlt
          have h2 := Hsz.out
          unfold arSz slsSz at h2
          dsimp only at h2
          omega
        have hfl : S[m].fs.length ≤ 1050000 := by unfold fsSz at hfs; omega
        have hBr : B ≤ wr.heap.size := Nat.le_trans HBW.out hAp.out.size
        have Hcf := Lib.hid (cloneFd_c S[m].fs FA0 fc0 L B wr hBr hfl hF)
        have HKS := Lib.hid hK
        have HE3 := Lib.hid e3
        obtain ⟨fs, hfsd⟩ : ∃ f, f = S[m].fs := ⟨_, rfl⟩
        rw [← hfsd] at q3 Hcf hfs hfl HE3
        have Hfs := Lib.hid hfsd
        have HBr := Lib.hid hBr
        have Hfz := Lib.hid hfs
        obtain ⟨wo, hwo⟩ : ∃ x, x = wr := ⟨_, rfl⟩
        subst hwo
        clear hat e0 e1 e2 e3 hF hK hfsd hfs
        go_wp2_with fail
        refine Hcf.out.mono ?_
        rintro e w6 ⟨v6, xs6, rfl, hown, hxl, hall, hb6⟩
        obtain ⟨FA, fc, f, rfl, hst⟩ := ArnM.StF.of hown hall hb6 HBr.out
        have Hst := Lib.hid hst
        have Hb6 := Lib.hid hb6
        clear hown hxl hall hst hb6 q3 Hcf b0 hBr
        go_wp2_with fail
        go_loopw [32] (fun j wr => ∃ (q : Nat) (nq : Nat → Nat), q ≤ fs.length ∧ j = .int .i64 q ∧ Hid (ArnM.CpF wr w6.heap.size f L B fs nq q) ∧ Hid (Below wo.heap.size wo wr) ∧ Hid (w6.heap.size ≤ wr.heap.size)) (fun j _ => fs.length - (intOf j).toNat)
        case atStart => exact ⟨0, fun _ => 0, Nat.zero_le _, rfl, Lib.hid (ArnM.CpF.start Hst.out _), Hb6, Lib.hid (Nat.le_refl _)⟩
        case round =>
          obtain ⟨q, nq, hq, rfl, hCF, hBl, hsz6⟩ := hrel
          by_cases hql : q < fs.length
          · have hf0 : 0 < fs.length := by omega
            obtain ⟨eFA, hlof, hltf, -⟩ := Hst.out.2 hf0
            subst eFA
            obtain ⟨cf, hKf, hatf⟩ := hCF.out.row hf0
            obtain ⟨NA, nc, n0, hN, hnl, n1, n2, n3⟩ := (hatf q hql).2 (Nat.le_refl _)
            have p0 : wr.cell? ⟨f, q * 4, none⟩ = some (.slice NA fs[q].name.length nc) := by rw [hKf.cell]; exact n0
            have hname : fs[q].name.length ≤ 1050000 := by
              have h1 : fs[q].name.length ≤ (fs.map fdSz).sum := sum_get fdSz hql
              have h2 := Hfz.out
              unfold fsSz at h2
              omega
            have hBr2 : B ≤ wr.heap.size := Nat.le_trans HBr.out hBl.out.size
            have Hcb := Lib.hid (bytesCloneB_c fs[q].name NA nc B wr hBr2 hname hN.1)
            have HKf := Lib.hid hKf
            have Hn0 := Lib.hid n0
            clear hatf n0 n1 n2 n3 hN hKf hnl
            go_wp2_with fail
            refine Hcb.out.mono ?_
            rintro e w7 ⟨A', c', g', rfl, hBk, hb7⟩
            have hKf7 := HKf.out.below hb7 HKf.out.lt
            have p7 : w7.cell? ⟨f, q * 4, none⟩ = some (.slice NA fs[q].name.length nc) := by rw [hKf7.cell]; exact Hn0.out
            have z7 : w7.frozen? ⟨f, q * 4, none⟩ = false := hKf7.frozen _
            have Hstep := Lib.hid (hCF.out.step (g := g') (c := c') (A := A') hql hltf hsz6.out (Nat.le_trans HBr.out hlof) hb7 hBk (fun h0 => by obtain ⟨_, _, tc, h3, _⟩ := hBk h0; exact h3.lt))
            have Hb7 := Lib.hid ((hBl.out.trans (hb7.mono hBl.out.size)).setCell (p := ⟨f, q * 4, none⟩) hlof (.slice A' fs[q].name.length c'))
            have Hs7 : Hid (w6.heap.size ≤ w7.heap.size) := Lib.hid (Nat.le_trans hsz6.out hb7.size)
            clear hBk hb7 hKf7 p0 Hcb HKf Hn0
            go_wp2
            go_roundw
            case rel => exact ⟨q + 1, _, by omega, by go_num, Hstep, Hb7, Lib.hid (by rw [World.size_setCell]; exact Hs7.out)⟩
            case measure => simp [intOf]; omega
          · obtain rfl : q = fs.length := by omega
            have hKS := HKS.out.below hBl.out HKS.out.lt
            have hbx := Hbx.out.below hBl.out Hbx.out.lt
            have b0 := hbx.cel 0 (v := .slice (some ⟨g0, 0, none⟩) S.length d0) rfl
            have q3 : wr.cell? ⟨g0, m * 4 + 3, none⟩ = some (.slice FA0 fs.length fc0) := by rw [hKS.cell]; exact HE3.out
            have z3 : wr.frozen? ⟨g0, m * 4 + 3, none⟩ = false := hKS.frozen _
            have hFin : ArnM.OwnFs wr wo.heap.size FA fs f nq := by
              by_cases hf0 : 0 < fs.length
              · obtain ⟨eFA, hlof, hltf, -⟩ := Hst.out.2 hf0
                exact hCF.out.fin hltf (fun _ => eFA) hlof
              · exact ⟨fun h0 => absurd h0 hf0, fun i j hi => absurd (Nat.lt_of_le_of_lt (Nat.zero_le _) hi) hf0, fun i hi => absurd (Nat.lt_of_le_of_lt (Nat.zero_le _) hi) hf0⟩
            have hbl : ∀ b, ArnM.blOf S[m] f nq b → b < wr.heap.size := fun b hb => by
              rcases hb with ⟨h0, rfl⟩ | ⟨i, hi, h0, rfl⟩
              · rw [← Hfs.out] at h0
                obtain ⟨_, _, hltf, _⟩ := Hst.out.2 h0
                exact Nat.lt_of_lt_of_le hltf hsz6.out
              · have hi' : i < fs.length := by rw [Hfs.out]; exact hi
                have e : S[m].fs[i] = fs[i] := by simp [Hfs.out]
                rw [e] at h0
                exact hCF.out.lt i hi' hi' h0
            rw [Hfs.out] at hFin
            have Hstep := Lib.hid (hC.out.step (c := fc) hlt (Nat.lt_of_lt_of_le hlt0 (Nat.le_refl _)) hAp.out.size (Nat.le_trans HB2.out hlo0) hBl.out hFin hbl)
            rw [← Hfs.out] at Hstep
            have Hap2 := Lib.hid ((hAp.out.trans (Apart.of_below hBl.out)).setCell (p := ⟨g0, m * 4 + 3, none⟩) ⟨hS0, rfl⟩ (.slice FA fs.length fc))
            clear hFin hbl hKS hbx
            go_wp2
            go_roundw
            case rel => exact ⟨m + 1, _, _, by omega, by go_num, Hstep, Hap2⟩
            case measure => simp [intOf]; omega
      · obtain rfl : m = S.length := by omega
        obtain ⟨hs01, hs12, hs23, hsW⟩ := Hs.out
        obtain ⟨hg0, hg1, hg2⟩ := Hsep.out
        have hWr := hAp.out.size
        have hlo0 : 0 < S.length → w2.heap.size ≤ g0 := fun h0 => (HS0.out.2 h0).2.1
        have heB : 0 < S.length → B0 = some ⟨g0, 0, none⟩ := fun h0 => (HS0.out.2 h0).1
        have hlo1 : 0 < Q.length → w2.heap.size ≤ g1 := fun h0 => by have := (HQ0.out.lt h0).1; omega
        have hlo2 : 0 < P.length → w2.heap.size ≤ g2 := fun h0 => by have := (HP0.out.lt h0).1; omega
        have hw2 : w.heap.size + 2 = w2.heap.size := Hsz2.out.symm
        have hW2 := HbP.out.size
        have hblk : ∀ i (hi : i < S.length) b, ArnM.blOf S[i] (fb i) (nb i) b → W.heap.size ≤ b ∧ b < wr.heap.size := fun i hi b hb => hC.out.lt i hi hi b hb
        have hbs : ∀ b, ArnM.bsOf S g0 fb nb b → (0 < S.length ∧ b = g0) ∨ (W.heap.size ≤ b ∧ b < wr.heap.size) := fun b hb => by
          rcases hb with h1 | ⟨i, hi, h1⟩
          · exact .inl h1
          · exact .inr (hblk i hi b h1)
        have HOwn : Hid (ArnM.OwnAr wr w.heap.size B0 B1 B2 ⟨S, Q, P⟩ g0 fb nb g1 g2) := Lib.hid ⟨by
            by_cases h0 : 0 < S.length
            · exact hC.out.fin (by have := hg0 h0; omega) heB (by have := hlo0 h0; omega)
            · exact ⟨fun h => absurd h h0, fun i j hi => absurd (Nat.lt_of_le_of_lt (Nat.zero_le _) hi) h0, fun i hi => absurd (Nat.lt_of_le_of_lt (Nat.zero_le _) hi) h0⟩,
          (HQ0.out.toI.apart hAp.out (fun h1 h => by have := hg0 h.1; have := hg1 h1; omega)).lo_le (by omega),
          (HP0.out.toI.apart hAp.out (fun h1 h => by have := hg0 h.1; have := hg2 h1; omega)).lo_le (by omega),
          fun h1 b hb e => by
            have := hg1 h1
            rcases hbs b hb with ⟨h0, e2⟩ | h2
            · have := hg0 h0; omega
            · omega,
          fun h1 b hb e => by
            have := hg2 h1
            rcases hbs b hb with ⟨h0, e2⟩ | h2
            · have := hg0 h0; omega
            · omega,
          fun h1 h2 e => by have := hg1 h1; have := hg2 h2; omega⟩
        have HAs : Hid (∀ b, ArnM.asOf ⟨S, Q, P⟩ g0 fb nb g1 g2 b → w2.heap.size ≤ b ∧ b < wr.heap.size) := Lib.hid (fun b hb => by
          rcases hb with hb | ⟨h1, rfl⟩ | ⟨h1, rfl⟩
          · rcases hbs b hb with ⟨h0, rfl⟩ | h2
            · have := hg0 h0; have := hlo0 h0; omega
            · omega
          · have := hg1 h1; have := hlo1 h1; omega
          · have := hg2 h1; have := hlo2 h1; omega)
        have HBel : Hid (Below w.heap.size w wr) := Lib.hid ((HbW.out.trans (HbP.out.mono (by omega))).trans (hAp.out.below (by omega) (fun k hk h => by have := hlo0 h.1; have := h.2; omega)))
        have HQJ := Lib.hid (HQ0.out.apart hAp.out (fun b h1 h2 h => by have := hg0 h.1; have := h.2; omega))
        have HPJ := Lib.hid (HP0.out.apart hAp.out (fun b h1 h2 h => by have := hg0 h.1; have := h.2; omega))
        have hs0 : w.heap.size + 2 ≤ s1 := by omega
        have hs02 : w.heap.size + 2 ≤ s2 := by omega
        obtain rfl := HbA.out
        have hKR := HKRW.out.apart hAp.out (fun h => by have := hlo0 h.1; have := h.2; omega)
        have n0 := Hbx.out.cel 0 rfl
        have n1 := Hbx.out.cel 1 rfl
        have n2 := Hbx.out.cel 2 rfl
        have m0 := hKR.cel 0 rfl
        have m1 := hKR.cel 1 rfl
        have m2 := hKR.cel 2 rfl
        have y0 : wr.frozen? ⟨w.heap.size + 1, 0, none⟩ = false := hKR.frozen 0
        have y1 : wr.frozen? ⟨w.heap.size + 1, 1, none⟩ = false := hKR.frozen 1
        have y2 : wr.frozen? ⟨w.heap.size + 1, 2, none⟩ = false := hKR.frozen 2
        clear hs01 hs12 hs23 hsW hg0 hg1 hg2 hWr hlo0 heB hlo1 hlo2 hW2 hblk hbs hKR hC hAp Hs Hsep HS0 HQ0 HP0 Hbx hgb
        go_wp2_with fail
        refine bodyPost_ret (v := .agg #[.slice B0 S.length d0, .slice B1 Q.length d1, .slice B2 P.length d2]) (by simp [results, Try.results81, go_sem, m0, m1, m2]) rfl
          ⟨B0, B1, B2, d0, d1, d2, g0, fb, nb, g1, g2, rfl, ?_, ?_, ?_, s1, s2, s3, by omega, ?_, ?_⟩
        · exact HOwn.out.apart ((((Apart.refl (fun b => b = w.heap.size + 1) wr).setCell (p := ⟨w.heap.size + 1, 0, none⟩) rfl _).setCell (p := ⟨w.heap.size + 1, 1, none⟩) rfl _).setCell (p := ⟨w.heap.size + 1, 2, none⟩) rfl _) (fun b hb e => by have := (HAs.out b hb).1; omega)
        · intro b hb
          have := (HAs.out b hb).2
          simpa using this
        · exact ((HBel.out.setCell (by simp) _).setCell (by simp) _).setCell (by simp) _
        · exact HQJ.out.apart ((((Apart.refl (fun b => b = w.heap.size + 1) wr).setCell (p := ⟨w.heap.size + 1, 0, none⟩) rfl _).setCell (p := ⟨w.heap.size + 1, 1, none⟩) rfl _).setCell (p := ⟨w.heap.size + 1, 2, none⟩) rfl _) (fun b h1 h2 e => by omega)
        · exact HPJ.out.apart ((((Apart.refl (fun b => b = w.heap.size + 1) wr).setCell (p := ⟨w.heap.size + 1, 0, none⟩) rfl _).setCell (p := ⟨w.heap.size + 1, 1, none⟩) rfl _).setCell (p := ⟨w.heap.size + 1, 2, none⟩) rfl _) (fun b h1 h2 e => by omega)
end CopyOfJ
end Go.Proofs.Ytfmlgpnjckamjaa
