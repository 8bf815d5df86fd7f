/-
  The program's room: fields that may be.
-/
import Derived.Test.YtebgigiakfjocaaDoorRoomR
import Derived.Test.YtebgigiakfjocaaDoorCmpB
import Derived.Test.YtebgigiakfjocaaDoorArnOk
namespace Go.Proofs.YtebgigiakfjocaaDoor
open Go.RowKit
set_option linter.unusedVariables false
set_option linter.unusedSimpArgs false

theorem fdsOk_yes {S : List Sl} {fs : List Fd} (h : (List.range fs.length).all (fdAt S fs) = true) : fdsOk S fs = true := h
theorem fdsOk_no {S : List Sl} {fs : List Fd} {j : Nat} (hj : j < fs.length) (h : fdAt S fs j = false) : fdsOk S fs = false := range_not hj h
theorem sum_fd {fs : List Fd} {n j : Nat} (h : (fs.map fdSz).sum ≤ n) (hj : j < fs.length) : fs[j].name.length ≤ n := by
  have h2 := sum_get fdSz hj
  have h4 : fdSz fs[j] = fs[j].name.length := rfl
  omega

section
variable (A0 : Option Addr) (c0 : Nat) (v1 v2 v3 : Value) (h1 : v1.cells = #[v1]) (h2 : v2.cells = #[v2]) (h3 : v3.cells = #[v3])

include h1 h2 h3 in
set_option maxRecDepth 100000 in
set_option maxHeartbeats 8000000 in
theorem fieldsOk_c (S : List Sl) (L B : Nat) (FA : Option Addr) (fc : Nat) (fs : List Fd) (w : World) (hB : B ≤ w.heap.size) (h : SlL w L B A0 S) (L' B' : Nat) (hB' : B' ≤ w.heap.size) (hF : FdL w L' B' FA fs) (hsz : (fs.map fdSz).sum ≤ 1048576) :
    Calls Tryd.prog 101 #[.agg #[.slice A0 S.length c0, v1, v2, v3], .slice FA fs.length fc] w fun e w' => e = .returned (.bool (fdsOk S fs)) ∧ Below w.heap.size w w' := by
  have hfm := hF.1
  unfold maxLen at hfm
  have KA := Blk.new w 82 #[.slice A0 S.length c0, v1, v2, v3]
  have hbW := blw1 w (.cells #[.slice A0 S.length c0, v1, v2, v3] 82)
  have HKA := Lib.hid KA
  have HbW := Lib.hid hbW
  have H := Lib.hid h
  have HF := Lib.hid hF
  have Hsz := Lib.hid hsz
  clear KA hbW h hF hsz
  go_enter Tryd.func101, Tryd.ntmps101
  go_wp2_with fail
  generalize hW : w.alloc (.cells #[.slice A0 S.length c0, v1, v2, v3] 82) = W
  rw [hW] at HKA HbW
  have hWsz : W.heap.size = w.heap.size + 1 := by rw [← hW]; simp
  have HWs := Lib.hid hWsz
  clear hW hWsz
  go_loopw [9] (fun i wr => ∃ j : Nat, j ≤ fs.length ∧ i = .int .i64 j ∧ (List.range j).all (fdAt S fs) = true ∧ Below w.heap.size w wr ∧ Blk wr w.heap.size 82 #[.slice A0 S.length c0, v1, v2, v3]) (fun i _ => fs.length - (intOf i).toNat)
  case atStart => exact ⟨0, Nat.zero_le _, rfl, rfl, HbW.out, HKA.out⟩
  case round =>
    obtain ⟨j, hj, rfl, hfa, hbi, KPi⟩ := hrel
    have Hfa := Lib.hid hfa
    clear hfa HbW HKA
    by_cases hjl : j < fs.length
    · obtain ⟨fd, rfl, _, hfb, hfat⟩ := HF.out.2 (by omega)
      obtain ⟨y0, y1, y2, y3, hy4, NA, nc, rfl, hN, hnm, rfl, rfl, rfl⟩ := hfat j hjl
      obtain ⟨⟨nm, fk, fn, fg⟩, hf⟩ : ∃ f, f = fs[j] := ⟨_, rfl⟩
      rw [← hf] at hy4 hN hnm
      dsimp only at hy4 hN hnm
      have Hf := Lib.hid hf
      have hnm4 : nm.length ≤ 4294967296 := by have := sum_fd Hsz.out hjl; simp only [← Hf.out] at this; omega
      have hsize := hbi.size
      obtain ⟨c0', c1', c2', c3'⟩ := hy4.keep (w' := wr) (fun q hq => hbi.cell (by rw [hq, block_of_add]; omega))
      have KF := Blk.new wr 76 #[.slice NA nm.length nc, .int .i64 fk, .int .i64 fn, .int .i64 fg]
      have KR := KPi.alloc (.cells #[.slice NA nm.length nc, .int .i64 fk, .int .i64 fn, .int .i64 fg] 76)
      have hb1 := hbi.alloc hsize (.cells #[.slice NA nm.length nc, .int .i64 fk, .int .i64 fn, .int .i64 fg] 76)
      have HKF := Lib.hid KF
      have HKR := Lib.hid KR
      have Hb1 := Lib.hid hb1
      have HN := Lib.hid hN
      have Hhat := Lib.hid hfat
      clear hfat hf KF KR hb1 hN hy4 hbi KPi
      go_wp2_with fail
      generalize hW1 : wr.alloc (.cells #[.slice NA nm.length nc, .int .i64 fk, .int .i64 fn, .int .i64 fg] 76) = W1
      rw [hW1] at HKF HKR Hb1
      clear hW1 c0' c1' c2' c3'
      have hB1 : B ≤ W1.heap.size := Nat.le_trans hB Hb1.out.size
      have f0 : ∀ u : Wn W1, u.val.cell? ⟨wr.heap.size, 0, none⟩ = some (.slice NA nm.length nc) := fun u => (HKF.out.below u.prop HKF.out.lt).cel 0 rfl
      have f1 : ∀ u : Wn W1, u.val.cell? ⟨wr.heap.size, 1, none⟩ = some (.int .i64 fk) := fun u => (HKF.out.below u.prop HKF.out.lt).cel 1 rfl
      have f2 : ∀ u : Wn W1, u.val.cell? ⟨wr.heap.size, 2, none⟩ = some (.int .i64 fn) := fun u => (HKF.out.below u.prop HKF.out.lt).cel 2 rfl
      have f3 : ∀ u : Wn W1, u.val.cell? ⟨wr.heap.size, 3, none⟩ = some (.int .i64 fg) := fun u => (HKF.out.below u.prop HKF.out.lt).cel 3 rfl
      have r0 : ∀ u : Wn W1, u.val.cell? ⟨w.heap.size, 0, none⟩ = some (.slice A0 S.length c0) := fun u => (HKR.out.below u.prop HKR.out.lt).cel 0 rfl
      have r1 : ∀ u : Wn W1, u.val.cell? ⟨w.heap.size, 1, none⟩ = some v1 := fun u => (HKR.out.below u.prop HKR.out.lt).cel 1 rfl
      have r2 : ∀ u : Wn W1, u.val.cell? ⟨w.heap.size, 2, none⟩ = some v2 := fun u => (HKR.out.below u.prop HKR.out.lt).cel 2 rfl
      have r3 : ∀ u : Wn W1, u.val.cell? ⟨w.heap.size, 3, none⟩ = some v3 := fun u => (HKR.out.below u.prop HKR.out.lt).cel 3 rfl
      have hlow : ∀ u : Wn W1, Below w.heap.size w u.val := fun u => Hb1.out.trans (u.prop.mono Hb1.out.size)
      have HL := Lib.hid hlow
      clear hlow
      have hwo : ∀ u : Wn W1, Calls Tryd.prog 120 #[.slice NA nm.length nc] u.val fun e w' => e = .returned (.bool (wordOk nm)) ∧ Below u.val.heap.size u.val w' := fun u => by
        refine (implWordOk_c nm NA nc B' u.val hnm4 (HN.out.1.below ((HL.out u).mono hB'))).mono ?_
        rintro e w' ⟨rfl, rfl⟩
        exact ⟨rfl, Below.refl _ _⟩
      have hvl : ∀ u : Wn W1, Calls Tryd.prog 121 #[.agg #[.slice A0 S.length c0, v1, v2, v3], .agg #[.int .i64 fk, .int .i64 fn, .int .i64 fg]] u.val fun e w' => e = .returned (.bool (valOk S fk fn fg)) ∧ Below u.val.heap.size u.val w' := fun u =>
        roomRight_c A0 c0 v1 v2 v3 h1 h2 h3 S L B fk fn fg u.val (Nat.le_trans hB1 u.prop.size) (H.out.below ((HL.out u).mono hB))
      cases hw : wordOk nm
      · have E := Lib.hid (fdsOk_no hjl (fdAt_word (S := S) hjl (by simp only [← Hf.out, hw])))
        rw [hw] at hwo
        have Hwo := Lib.hid (fun u => Calls.there u (hwo u))
        clear hwo hvl hw
        refine region_below (by kernel_rfl) (by kernel_rfl) ?_
        repeat (go_big_quiet_step ((go_at_call 120; exact Hwo.out _)))
        refine wpQuiet_nil ?_
        intro w2 hw2
        obtain ⟨⟨w2, hb2⟩, rfl⟩ := hw2
        clear f0 f1 f2 f3 r0 r1 r2 r3
        go_wp2
        go_ret
        exact ⟨by rw [E.out]; rfl, HL.out ⟨w2, hb2⟩⟩
      rw [hw] at hwo
      have Hw := Lib.hid hw
      have Hwo := Lib.hid (fun u => Calls.there u (hwo u))
      clear hwo hw
      cases hv : valOk S fk fn fg
      · have E := Lib.hid (fdsOk_no hjl (fdAt_val (S := S) hjl (by simp only [← Hf.out, hv])))
        rw [hv] at hvl
        have Hvl := Lib.hid (fun u => Calls.there u (hvl u))
        clear hvl hv
        refine region_below (by kernel_rfl) (by kernel_rfl) ?_
        repeat (go_big_quiet_step ((first | (go_at_call 120; exact Hwo.out _) | (go_at_call 121; exact Hvl.out _))))
        refine wpQuiet_nil ?_
        intro w2 hw2
        obtain ⟨⟨w2, hb2⟩, rfl⟩ := hw2
        clear f0 f1 f2 f3 r0 r1 r2 r3
        go_wp2
        go_ret
        exact ⟨by rw [E.out]; rfl, HL.out ⟨w2, hb2⟩⟩
      rw [hv] at hvl
      have Hv := Lib.hid hv
      have Hvl := Lib.hid (fun u => Calls.there u (hvl u))
      clear hvl hv
      rcases Nat.eq_zero_or_pos j with h0j | h0j
      · subst h0j
        have Hok := Lib.hid (show fdAt S fs 0 = true by rw [fdAt_zero hjl]; simp only [← Hf.out, Hw.out, Hv.out]; rfl)
        refine region_below (by kernel_rfl) (by kernel_rfl) ?_
        repeat (go_big_quiet_step ((first | (go_at_call 120; exact Hwo.out _) | (go_at_call 121; exact Hvl.out _))))
        refine wpQuiet_nil ?_
        intro w2 hw2
        obtain ⟨⟨w2, hb2⟩, rfl⟩ := hw2
        clear f0 f1 f2 f3 r0 r1 r2 r3
        go_wp2
        go_roundw
        case rel => exact ⟨1, by omega, by go_num, range_next Hfa.out Hok.out, HL.out ⟨w2, hb2⟩, HKR.out.below hb2 HKR.out.lt⟩
        case measure => simp [intOf]; omega
      · obtain ⟨i, hij⟩ : ∃ i, j = i + 1 := ⟨j - 1, by omega⟩
        obtain ⟨z0, z1, z2, z3, hz4, NA0, nc0, rfl, hN0, hnm0, rfl, rfl, rfl⟩ := Hhat.out i (by omega)
        obtain ⟨⟨nm0, fk0, fn0, fg0⟩, hf0⟩ : ∃ f, f = fs[i] := ⟨_, rfl⟩
        rw [← hf0] at hz4 hN0 hnm0
        dsimp only at hz4 hN0 hnm0
        have p0 : ∀ u : Wn W1, u.val.cell? (fd.add (i * 4)) = some (.slice NA0 nm0.length nc0) := fun u => (hz4.keep (w' := u.val) fun q hq => (HL.out u).cell (by rw [hq, block_of_add]; omega)).1
        have hcm : ∀ u : Wn W1, Calls Tryd.prog 122 #[.slice NA0 nm0.length nc0, .slice NA nm.length nc] u.val fun e w' => e = .returned (.int .i64 (Lib.compareBytes nm0 nm)) ∧ Below u.val.heap.size u.val w' := fun u => by
          refine (bytesCompare_c nm0 nm NA0 NA nc0 nc B' B' u.val (hN0.1.below ((HL.out u).mono hB')) (HN.out.1.below ((HL.out u).mono hB'))).mono ?_
          rintro e w' ⟨rfl, rfl⟩
          exact ⟨rfl, Below.refl _ _⟩
        have hsub : IntKind.i64.wrap ((j : Int) - 1) = (i : Int) := by rw [show (j : Int) - 1 = i by omega]; exact IntWalk.i64_in _ (by omega)
        have hi1 : i < fs.length := by omega
        have hjp : 0 < (j : Int) := by omega
        have hless := compare_less nm0 nm
        obtain ⟨z, hz⟩ : ∃ z, z = Lib.compareBytes nm0 nm := ⟨_, rfl⟩
        rw [← hz] at hcm hless
        have Hcm := Lib.hid (fun u => Calls.there u (hcm u))
        have hfe : fdAt S fs j = Op.bytesLess nm0 nm := by subst hij; rw [fdAt_succ hjl]; simp only [← Hf.out, ← hf0, Hw.out, Hv.out]; rfl
        have Hfe := Lib.hid hfe
        have Hless := Lib.hid hless
        clear hcm hless hz hfe hz4 hN0 hf0 hij
        by_cases hz0 : 0 ≤ z
        · have hc : Op.bytesLess nm0 nm = false := by rw [← Hless.out]; exact hz0
          have E := Lib.hid (fdsOk_no hjl (Hfe.out.trans hc))
          clear hc
          refine region_below (by kernel_rfl) (by kernel_rfl) ?_
          repeat (go_big_quiet_step ((first | (go_at_call 120; exact Hwo.out _) | (go_at_call 121; exact Hvl.out _) | (go_at_call 122; exact Hcm.out _))))
          refine wpQuiet_nil ?_
          intro w2 hw2
          obtain ⟨⟨w2, hb2⟩, rfl⟩ := hw2
          clear f0 f1 f2 f3 r0 r1 r2 r3 p0 hsub
          go_wp2
          go_ret
          exact ⟨by rw [E.out]; rfl, HL.out ⟨w2, hb2⟩⟩
        · have hc : Op.bytesLess nm0 nm = true := by
            cases hx : Op.bytesLess nm0 nm
            · rw [← Hless.out] at hx; exact absurd hx hz0
            · rfl
          have Hok := Lib.hid (Hfe.out.trans hc)
          have hz0' : decide (0 ≤ z) = false := decide_eq_false hz0
          clear hc hz0
          refine region_below (by kernel_rfl) (by kernel_rfl) ?_
          repeat (go_big_quiet_step ((first | (go_at_call 120; exact Hwo.out _) | (go_at_call 121; exact Hvl.out _) | (go_at_call 122; exact Hcm.out _))))
          refine wpQuiet_nil ?_
          intro w2 hw2
          obtain ⟨⟨w2, hb2⟩, rfl⟩ := hw2
          clear f0 f1 f2 f3 r0 r1 r2 r3 p0 hsub
          go_wp2
          go_roundw
          case rel => exact ⟨j + 1, by omega, by go_num, range_next Hfa.out Hok.out, HL.out ⟨w2, hb2⟩, HKR.out.below hb2 HKR.out.lt⟩
          case measure => simp [intOf]; omega
    · have hjl2 : j = fs.length := by omega
      have hok : fdsOk S fs = true := by subst hjl2; exact Hfa.out
      have Hok := Lib.hid hok
      clear hok
      go_wp2
      go_ret
      exact ⟨by rw [Hok.out]; rfl, hbi⟩
end
end Go.Proofs.YtebgigiakfjocaaDoor
