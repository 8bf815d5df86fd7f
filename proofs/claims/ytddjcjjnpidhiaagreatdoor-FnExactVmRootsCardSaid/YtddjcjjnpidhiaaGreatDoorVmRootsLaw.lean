/-
  At every machine VmRoots answers as its model, writes into no argument, and its answer shares no memory with an argument or another answer. No condition but that the table of orders holds what the text lays.
-/
import Derived.Test.YtddjcjjnpidhiaaGreatDoorVmRts
import Derived.Test.YtddjcjjnpidhiaaGreatDoorVmMk
import Derived.Test.YtddjcjjnpidhiaaGreatDoorMvm
import Derived.Test.YtddjcjjnpidhiaaGreatDoorMopen
import Derived.Test.YtddjcjjnpidhiaaGreatDoorLaidT
import Derived.Test.YtddjcjjnpidhiaaGreatDoorCards
import Derived.Test.YtddjcjjnpidhiaaGreatDoorTie
import Derived.JoinedCond
import Derived.Deep.DeepHandedRow
import Derived.Deep.CondSized
import Derived.Lib.LaidTab
import Derived.Stop.LaidErr
import Derived.SevenTiedAt
import Derived.SevenTiedPlain
namespace Go.Proofs.YtddjcjjnpidhiaaGreatDoor
open Go.ChangeShapes Go.WideShapes Go.ChangeAt Go.RowKit
set_option linter.unusedVariables false
namespace VmRootsLaw

theorem oct {w : World} {g : Nat} {t : TypeId} {a b c d e f x y : Value} (h : Blk w g t #[a, b, c, d, e, f, x, y]) : w.cell? ⟨g, 0, none⟩ = some a ∧ w.cell? ⟨g, 1, none⟩ = some b ∧ w.cell? ⟨g, 2, none⟩ = some c ∧ w.cell? ⟨g, 3, none⟩ = some d ∧ w.cell? ⟨g, 4, none⟩ = some e ∧ w.cell? ⟨g, 5, none⟩ = some f ∧ w.cell? ⟨g, 6, none⟩ = some x ∧ w.cell? ⟨g, 7, none⟩ = some y :=
  ⟨h.cel 0 rfl, h.cel 1 rfl, h.cel 2 rfl, h.cel 3 rfl, h.cel 4 rfl, h.cel 5 rfl, h.cel 6 rfl, h.cel 7 rfl⟩
theorem maV_eq (A0 A1 A2 A3 A4 A5 : Option Addr) (c0 c1 c2 c3 c4 c5 : Nat) (co : List Un) (a : Ar) (F : List Fr) (lg : List UInt8) (tk st : Int) : maV A0 A1 A2 A3 A4 A5 c0 c1 c2 c3 c4 c5 ⟨co, a, F, lg, tk, st⟩ = #[.slice A0 co.length c0, .slice A1 a.slots.length c1, .slice A2 a.queue.length c2, .slice A3 a.purple.length c3, .slice A4 F.length c4, .slice A5 lg.length c5, .int .i64 tk, .int .i64 st] := rfl

set_option maxRecDepth 100000 in
set_option maxHeartbeats 16000000 in
theorem walk (m : Ma) (A0 A1 A2 A3 A4 A5 : Option Addr) (c0 c1 c2 c3 c4 c5 : Nat) (w : World) (hR : MaL w 0 w.heap.size A0 A1 A2 A3 A4 A5 m) (hF : Cod.Forms w w.heap.size) :
    Calls Tryz.prog 4 #[.agg (maV A0 A1 A2 A3 A4 A5 c0 c1 c2 c3 c4 c5 m)] w fun e w' => e = .returned (.bool true) ∧ Below w.heap.size w w' := by
  obtain ⟨co, a, F, lg, tk, st⟩ := m
  rw [maV_eq]
  have hbA := (Below.refl w.heap.size w).alloc (Nat.le_refl _) (.cells #[.slice A0 co.length c0, .slice A1 a.slots.length c1, .slice A2 a.queue.length c2, .slice A3 a.purple.length c3, .slice A4 F.length c4, .slice A5 lg.length c5, .int .i64 tk, .int .i64 st] 32)
  have KA := Blk.new w 32 #[.slice A0 co.length c0, .slice A1 a.slots.length c1, .slice A2 a.queue.length c2, .slice A3 a.purple.length c3, .slice A4 F.length c4, .slice A5 lg.length c5, .int .i64 tk, .int .i64 st]
  have hszc := szVm_c ⟨co, a, F, lg, tk, st⟩ A0 A1 A2 A3 A4 A5 c0 c1 c2 c3 c4 c5 0 w.heap.size 1048576 (w.alloc (.cells #[.slice A0 co.length c0, .slice A1 a.slots.length c1, .slice A2 a.queue.length c2, .slice A3 a.purple.length c3, .slice A4 F.length c4, .slice A5 lg.length c5, .int .i64 tk, .int .i64 st] 32)) hbA.size (by omega) (by omega) (hR.below hbA)
  have htoc := fun (X : World) (hl : maSz ⟨co, a, F, lg, tk, st⟩ ≤ 1048576) (hs : w.heap.size ≤ X.heap.size) (h : MaL X 0 w.heap.size A0 A1 A2 A3 A4 A5 ⟨co, a, F, lg, tk, st⟩) => FrmN.toVm_n ⟨co, a, F, lg, tk, st⟩ A0 A1 A2 A3 A4 A5 c0 c1 c2 c3 c4 c5 0 w.heap.size X hs hl h
  have htoi := fun (X : World) (hl : maSz ⟨co, a, F, lg, tk, st⟩ ≤ 1048576) (hs : w.heap.size ≤ X.heap.size) (h : MaL X 0 w.heap.size A0 A1 A2 A3 A4 A5 ⟨co, a, F, lg, tk, st⟩) => FrmN.toVm_i ⟨co, a, F, lg, tk, st⟩ A0 A1 A2 A3 A4 A5 c0 c1 c2 c3 c4 c5 0 w.heap.size X hs hl h
  have heqc := fun (X : World) (x0 x1 x2 x3 x4 x5 y0 y1 y2 y3 y4 y5 : Nat) (L B L' B' : Nat) (hB : B ≤ X.heap.size) (hB' : B' ≤ X.heap.size) (hl : maSz ⟨co, a, F, lg, tk, st⟩ ≤ 1048576) (h : MaL X L B (some ⟨x0, 0, none⟩) (some ⟨x1, 0, none⟩) (some ⟨x2, 0, none⟩) (some ⟨x3, 0, none⟩) (some ⟨x4, 0, none⟩) (some ⟨x5, 0, none⟩) ⟨co, a, F, lg, tk, st⟩) (h' : MaL X L' B' (some ⟨y0, 0, none⟩) (some ⟨y1, 0, none⟩) (some ⟨y2, 0, none⟩) (some ⟨y3, 0, none⟩) (some ⟨y4, 0, none⟩) (some ⟨y5, 0, none⟩) ⟨co, a, F, lg, tk, st⟩) =>
    eqVm_c ⟨co, a, F, lg, tk, st⟩ (some ⟨x0, 0, none⟩) (some ⟨x1, 0, none⟩) (some ⟨x2, 0, none⟩) (some ⟨x3, 0, none⟩) (some ⟨x4, 0, none⟩) (some ⟨x5, 0, none⟩) (some ⟨y0, 0, none⟩) (some ⟨y1, 0, none⟩) (some ⟨y2, 0, none⟩) (some ⟨y3, 0, none⟩) (some ⟨y4, 0, none⟩) (some ⟨y5, 0, none⟩) co.length a.slots.length a.queue.length a.purple.length F.length lg.length co.length a.slots.length a.queue.length a.purple.length F.length lg.length L B L' B' X hB hB' hl h h'
  have hspc := fun (X : World) (x0 x1 x2 x3 x4 x5 : Nat) (L B : Nat) (hB : B ≤ X.heap.size) (hl : maSz ⟨co, a, F, lg, tk, st⟩ ≤ 1048576) (h : MaL X L B (some ⟨x0, 0, none⟩) (some ⟨x1, 0, none⟩) (some ⟨x2, 0, none⟩) (some ⟨x3, 0, none⟩) (some ⟨x4, 0, none⟩) (some ⟨x5, 0, none⟩) ⟨co, a, F, lg, tk, st⟩) =>
    specVmRoots_c ⟨co, a, F, lg, tk, st⟩ (some ⟨x0, 0, none⟩) (some ⟨x1, 0, none⟩) (some ⟨x2, 0, none⟩) (some ⟨x3, 0, none⟩) (some ⟨x4, 0, none⟩) (some ⟨x5, 0, none⟩) co.length a.slots.length a.queue.length a.purple.length F.length lg.length L B X hB hl (Nat.le_refl _) h
  have himc := fun (X : World) (x0 x1 x2 x3 x4 x5 : Nat) (L B : Nat) (hB : B ≤ X.heap.size) (hl : maSz ⟨co, a, F, lg, tk, st⟩ ≤ 1048576) (h : MaL X L B (some ⟨x0, 0, none⟩) (some ⟨x1, 0, none⟩) (some ⟨x2, 0, none⟩) (some ⟨x3, 0, none⟩) (some ⟨x4, 0, none⟩) (some ⟨x5, 0, none⟩) ⟨co, a, F, lg, tk, st⟩) (hT : Cod.Forms X B) =>
    implVmRoots_c ⟨co, a, F, lg, tk, st⟩ (some ⟨x0, 0, none⟩) (some ⟨x1, 0, none⟩) (some ⟨x2, 0, none⟩) (some ⟨x3, 0, none⟩) (some ⟨x4, 0, none⟩) (some ⟨x5, 0, none⟩) co.length a.slots.length a.queue.length a.purple.length F.length lg.length L B X hB hl h hT
  have hmkc := fun (X : World) (x0 x1 x2 x3 x4 x5 : Nat) (L B1 B2 B3 B : Nat) (hB : B ≤ X.heap.size) (hl : maSz ⟨co, a, F, lg, tk, st⟩ ≤ 1048576) (hT : ArnM.Thaw L B X) (h : MaI X L B1 B2 B3 B (some ⟨x0, 0, none⟩) (some ⟨x1, 0, none⟩) (some ⟨x2, 0, none⟩) (some ⟨x3, 0, none⟩) (some ⟨x4, 0, none⟩) (some ⟨x5, 0, none⟩) ⟨co, a, F, lg, tk, st⟩) =>
    FrmM.markVm_m ⟨co, a, F, lg, tk, st⟩ (some ⟨x0, 0, none⟩) (some ⟨x1, 0, none⟩) (some ⟨x2, 0, none⟩) (some ⟨x3, 0, none⟩) (some ⟨x4, 0, none⟩) (some ⟨x5, 0, none⟩) co.length a.slots.length a.queue.length a.purple.length F.length lg.length L B1 B2 B3 B 1 X hB hl (by omega) hT h
  simp only [maV_eq] at hszc htoc htoi heqc hspc himc hmkc
  have hlm0 := fun (hl : maSz ⟨co, a, F, lg, tk, st⟩ ≤ 1048576) => vmRootsV_le (m := ⟨co, a, F, lg, tk, st⟩) hl
  obtain ⟨l, hl⟩ : ∃ r, r = vmRootsV ⟨co, a, F, lg, tk, st⟩ := ⟨_, rfl⟩
  rw [← hl] at hspc himc hlm0
  obtain ⟨sz, hsz⟩ : ∃ s, s = maSz ⟨co, a, F, lg, tk, st⟩ := ⟨_, rfl⟩
  rw [← hsz] at hszc htoc htoi heqc hspc himc hmkc hlm0
  have Hsz := Lib.hid hszc
  have Htoc := Lib.hid htoc
  have Htoi := Lib.hid htoi
  have Heqc := Lib.hid heqc
  have Hspc := Lib.hid hspc
  have Himc := Lib.hid himc
  have Hmkc := Lib.hid hmkc
  have HR := Lib.hid hR
  have HbA := Lib.hid hbA
  have HKA := Lib.hid KA
  have HF := Lib.hid hF
  clear hR hbA KA hF hszc htoc htoi heqc hspc himc hmkc hl hsz
  go_enter Tryz.func4, Tryz.ntmps4
  go_wp2_with fail
  refine Hsz.out.mono ?_
  rintro e w0 ⟨r, rfl, hr1, hr2, hr3, hbx⟩
  have hb0 := HbA.out.trans (hbx.mono HbA.out.size)
  have KA0 := HKA.out.below hbx HKA.out.lt
  have Hb0 := Lib.hid hb0
  by_cases hr : r < 0
  · clear hr3 hb0 KA0 hbx Hsz HbA HKA
    go_wp2
    go_ret
    exact ⟨rfl, Hb0.out⟩
  have hr' : 0 ≤ r := by omega
  have hsz : sz ≤ 1048576 := by have := hr3 hr'; omega
  have hr0 : decide (r < 0) = false := decide_eq_false hr
  have hlm := hlm0 hsz
  have Hszz := Lib.hid hsz
  have Ht := Lib.hid (Htoc.out w0 Hszz.out hb0.size (HR.out.below hb0))
  obtain ⟨qA0, qA1, qA2, qA3, qA4, qA5, qA6, qA7⟩ := oct KA0
  have HKA0 := Lib.hid KA0
  clear hr3 hbx KA0 hb0 Hsz HbA HKA hr hsz hlm0
  go_wp2_with fail
  refine Ht.out.mono ?_
  rintro e w1 ⟨s0, s1, s2, s3, s4, s5, rfl, hL1, hb1, -⟩
  have hb01 := Hb0.out.trans (hb1.mono Hb0.out.size)
  have KA1 := HKA0.out.below hb1 HKA0.out.lt
  have Hsp := Lib.hid (Hspc.out w1 s0 s1 s2 s3 s4 s5 w0.heap.size w1.heap.size (Nat.le_refl _) Hszz.out hL1)
  have HKA1 := Lib.hid KA1
  have Hb1 := Lib.hid hb01
  clear hL1 hb1 hb01 KA1 qA0 qA1 qA2 qA3 qA4 qA5 qA6 qA7 HKA0 Hb0 Ht
  go_wp2_with fail
  refine Hsp.out.mono ?_
  rintro e w2 ⟨As, cs, rfl, hos, hb2⟩
  have Rs := Lib.hid (hos.vlr (by unfold maxLen; omega))
  have hb02 := Hb1.out.trans (hb2.mono Hb1.out.size)
  have KA2 := HKA1.out.below hb2 HKA1.out.lt
  obtain ⟨qA0, qA1, qA2, qA3, qA4, qA5, qA6, qA7⟩ := oct KA2
  have Ht := Lib.hid (Htoi.out w2 Hszz.out hb02.size (HR.out.below hb02))
  have HKA2 := Lib.hid KA2
  have HlA := Lib.hid KA2.lt
  have Hb2 := Lib.hid hb02
  clear hb2 hb02 KA2 HKA1 Hb1 Hsp hos
  go_wp2_with fail
  refine Ht.out.mono ?_
  rintro e w3 ⟨x0, x1, x2, x3, x4, x5, B1, B2, B3, rfl, hL3, hb3, hnw⟩
  have Hnw := Lib.hid hnw
  have hb03 := Hb2.out.trans (hb3.mono Hb2.out.size)
  have KA3 := HKA2.out.below hb3 HKA2.out.lt
  have hbX := (Below.refl w3.heap.size w3).alloc (Nat.le_refl _) (.cells #[.slice (some ⟨x0, 0, none⟩) co.length co.length, .slice (some ⟨x1, 0, none⟩) a.slots.length a.slots.length, .slice (some ⟨x2, 0, none⟩) a.queue.length a.queue.length, .slice (some ⟨x3, 0, none⟩) a.purple.length a.purple.length, .slice (some ⟨x4, 0, none⟩) F.length F.length, .slice (some ⟨x5, 0, none⟩) lg.length lg.length, .int .i64 tk, .int .i64 st] 43)
  have KX := Blk.new w3 43 #[.slice (some ⟨x0, 0, none⟩) co.length co.length, .slice (some ⟨x1, 0, none⟩) a.slots.length a.slots.length, .slice (some ⟨x2, 0, none⟩) a.queue.length a.queue.length, .slice (some ⟨x3, 0, none⟩) a.purple.length a.purple.length, .slice (some ⟨x4, 0, none⟩) F.length F.length, .slice (some ⟨x5, 0, none⟩) lg.length lg.length, .int .i64 tk, .int .i64 st]
  have hb03X := hb03.trans (hbX.mono hb03.size)
  have Him := Lib.hid (Himc.out (w3.alloc (.cells #[.slice (some ⟨x0, 0, none⟩) co.length co.length, .slice (some ⟨x1, 0, none⟩) a.slots.length a.slots.length, .slice (some ⟨x2, 0, none⟩) a.queue.length a.queue.length, .slice (some ⟨x3, 0, none⟩) a.purple.length a.purple.length, .slice (some ⟨x4, 0, none⟩) F.length F.length, .slice (some ⟨x5, 0, none⟩) lg.length lg.length, .int .i64 tk, .int .i64 st] 43)) x0 x1 x2 x3 x4 x5 w2.heap.size w3.heap.size (by simp) Hszz.out (hL3.mal.below hbX) ((HF.out.below hb03X).more hb03.size))
  have HKA3 := Lib.hid (KA3.below hbX KA3.lt)
  have HKX := Lib.hid KX
  have HL3 := Lib.hid (hL3.below hbX)
  have Hb3 := Lib.hid hb03X
  have hs3 : w3.heap.size < (w3.alloc (.cells #[.slice (some ⟨x0, 0, none⟩) co.length co.length, .slice (some ⟨x1, 0, none⟩) a.slots.length a.slots.length, .slice (some ⟨x2, 0, none⟩) a.queue.length a.queue.length, .slice (some ⟨x3, 0, none⟩) a.purple.length a.purple.length, .slice (some ⟨x4, 0, none⟩) F.length F.length, .slice (some ⟨x5, 0, none⟩) lg.length lg.length, .int .i64 tk, .int .i64 st] 43)).heap.size := by simp
  have Hb23 := Lib.hid (hb3.trans (hbX.mono hb3.size))
  have hB23 := hb3.size
  have HbX := Lib.hid hbX
  clear hL3 hb3 hb03 KA3 hbX KX qA0 qA1 qA2 qA3 qA4 qA5 qA6 qA7 HKA2 Hb2 Ht hnw hb03X
  go_wp2_with fail
  refine Him.out.mono ?_
  rintro e w4 ⟨Ag, cg, rfl, hog0, hb4⟩
  have hog := hog0.lo_le (Nat.le_of_lt hs3)
  have hb04 := Hb3.out.trans (hb4.mono Hb3.out.size)
  have hb24 := Hb23.out.trans (hb4.mono Hb23.out.size)
  have hb34 := HbX.out.trans (hb4.mono HbX.out.size)
  have KA4 := HKA3.out.below hb4 HKA3.out.lt
  have KX4 := HKX.out.below hb4 HKX.out.lt
  have hL4 := HL3.out.below (hb4.mono (Nat.le_of_lt hs3))
  have hX4 : w3.heap.size ≤ w4.heap.size := Nat.le_trans (Nat.le_of_lt hs3) hb4.size
  have Hq1 := Lib.hid (eqValS_c l Ag As cg cs _ _ _ _ w4 (Nat.le_refl _) hb24.size hlm (hog.vlr (by unfold maxLen; omega)) (Rs.out.below hb24))
  have HKA4 := Lib.hid KA4
  have HKX4 := Lib.hid KX4
  have HL4 := Lib.hid hL4
  have Hog := Lib.hid hog
  have Hb4 := Lib.hid hb04
  have Hb24 := Lib.hid hb24
  have Hb34 := Lib.hid hb34
  clear hb4 hb04 hb24 hb34 KA4 KX4 hL4 HKA3 HKX HL3 Hb3 hs3 Him hog hog0 Hb23 HbX
  go_wp2_with fail
  refine Hq1.out.mono ?_
  rintro e w5 ⟨rfl, hb45⟩
  have hb05 := Hb4.out.trans (hb45.mono Hb4.out.size)
  have KA5 := HKA4.out.below hb45 HKA4.out.lt
  have KX5 := HKX4.out.below hb45 HKX4.out.lt
  have hL5 := HL4.out.below (hb45.mono hX4)
  have hX5 : w3.heap.size ≤ w5.heap.size := Nat.le_trans hX4 hb45.size
  obtain ⟨qA0, qA1, qA2, qA3, qA4, qA5, qA6, qA7⟩ := oct KA5
  obtain ⟨qX0, qX1, qX2, qX3, qX4, qX5, qX6, qX7⟩ := oct KX5
  have Ht := Lib.hid (fun n => Htoc.out (w5.drewN n) Hszz.out hb05.size ((HR.out.below hb05).keep (w' := w5.drewN n) fun _ _ _ => rfl))
  have HKA5 := Lib.hid KA5
  have HKX5 := Lib.hid KX5
  have HL5 := Lib.hid hL5
  have Hb5 := Lib.hid hb05
  have Hb25 := Lib.hid (Hb24.out.trans (hb45.mono Hb24.out.size))
  have Hb35 := Lib.hid (Hb34.out.trans (hb45.mono Hb34.out.size))
  have Hog5 := Lib.hid (Hog.out.below hb45)
  have HX5 := Lib.hid hX5
  clear hb45 hb05 KA5 KX5 hL5 hX5 hX4 HKA4 HKX4 HL4 Hb4 Hb24 Hb34 Hog Hq1
  go_upto_region 10 with fail
  go_cut [31] (fun b wx => b = .bool false ∧ Hid (Below w5.heap.size w5 wx))
  case first =>
    go_region_with (first
      | (go_at_call 10; refine (Ht.out 1).mono ?_; rintro e w6 ⟨y0, y1, y2, y3, y4, y5, rfl, hL6, hb6, -⟩; have hb56 : Below w5.heap.size w5 w6 := ⟨hb6.os, hb6.tape, hb6.output, hb6.size, hb6.block⟩; obtain ⟨qY0, qY1, qY2, qY3, qY4, qY5, qY6, qY7⟩ := oct (HKX5.out.below hb56 HKX5.out.lt); have Heq := Lib.hid (Heqc.out w6 x0 x1 x2 x3 x4 x5 y0 y1 y2 y3 y4 y5 _ w3.heap.size _ w6.heap.size (Nat.le_trans HX5.out hb56.size) (Nat.le_refl _) Hszz.out (HL5.out.mal.below (hb56.mono HX5.out)) hL6); have Hb56 := Lib.hid hb56; clear hL6 hb6 hb56 Ht)
      | (go_at_call 12; refine Heq.out.mono ?_; rintro e w7 ⟨rfl, hb7⟩))
    all_goals
      try go_wp2_with fail
      go_meet
      case rel => exact ⟨by simp, Lib.hid (Hb56.out.trans (hb7.mono Hb56.out.size))⟩
  case rest =>
    obtain ⟨rfl, hb57⟩ := hcut
    obtain ⟨w7, hw7⟩ : ∃ x, x = wc := ⟨_, rfl⟩
    subst hw7
    have h57 := hb57.out
    have KX7 := HKX5.out.below h57 HKX5.out.lt
    have KA7 := HKA5.out.below h57 HKA5.out.lt
    obtain ⟨qX0, qX1, qX2, qX3, qX4, qX5, qX6, qX7⟩ := oct KX7
    have hL7 := HL5.out.below (h57.mono HX5.out)
    have h37 := Hb35.out.trans (h57.mono Hb35.out.size)
    have hT7 : ArnM.Thaw w2.heap.size w3.heap.size w7 := fun k h1 h2 => by
      obtain ⟨cs', t', e'⟩ := Hnw.out k h1 h2
      exact ⟨cs', t', (h37.block k h2).trans e'⟩
    have Hmk := Lib.hid (Hmkc.out w7 x0 x1 x2 x3 x4 x5 w2.heap.size B1 B2 B3 w3.heap.size h37.size Hszz.out hT7 hL7)
    have Hog7 := Lib.hid (Hog5.out.below h57)
    have Hb07 := Lib.hid (Hb5.out.trans (h57.mono Hb5.out.size))
    have Hb27 := Lib.hid (Hb25.out.trans (h57.mono Hb25.out.size))
    have HKA7 := Lib.hid KA7
    have hwk := KA7.lt
    have h02 : w.heap.size < w2.heap.size := HlA.out
    clear KX7 KA7 hL7 h37 hT7 h57 hb57 HKX5 HKA5 HL5 Hb35 Hog5 Hb25 Hb5 HX5 Ht
    go_wp2_with fail
    refine Hmk.out.mono ?_
    rintro e w8 ⟨⟨u, rfl⟩, hb78, hap⟩
    have hu0 : decide ((u : Int) < 0) = false := decide_eq_false (by omega)
    have hog8 := Hog7.out.keep (w' := w8) (fun b h1 h2 => hap b h2 (.inr h1))
    have h28 := Hb27.out.trans hb78
    have h08 := Hb07.out.trans (hb78.mono (Nat.le_of_lt h02))
    have KA8 := HKA7.out.below hb78 h02
    have Hq2 := Lib.hid (eqValS_c l Ag As cg cs _ _ _ _ w8 (Nat.le_refl _) h28.size hlm (hog8.vlr (by unfold maxLen; omega)) (Rs.out.below h28))
    have Hog8 := Lib.hid hog8
    have H28 := Lib.hid h28
    have H08 := Lib.hid h08
    have HKA8 := Lib.hid KA8
    clear Hmk hb78 hap hog8 h28 h08 KA8 Hog7 Hb07 Hb27 HKA7 qX0 qX1 qX2 qX3 qX4 qX5 qX6 qX7
    go_wp2_with fail
    refine Hq2.out.mono ?_
    rintro e w9 ⟨rfl, h89⟩
    have hog9 := Hog8.out.below h89
    have Hm := Lib.hid (markValS_o l.length Ag cg w3.heap.size 1 (gV l) w9 (by omega) hog9)
    have H29 := Lib.hid (H28.out.trans (h89.mono H28.out.size))
    have H09 := Lib.hid (H08.out.trans (h89.mono H08.out.size))
    have HKA9 := Lib.hid (HKA8.out.below h89 HKA8.out.lt)
    clear h89 hog9 Hq2 Hog8 H28 H08 HKA8
    go_wp2_with fail
    refine Hm.out.mono ?_
    rintro e w10 ⟨rfl, hoa, hsa, hba, -⟩
    have Hh := Lib.hid (fun W (hx : OwnV W w3.heap.size Ag l.length (fun i => ((1 + i : Nat) : Int))) => heldValS_o l.length Ag cg w3.heap.size 1 W (by omega) hx)
    obtain ⟨m, hm⟩ : ∃ m : Nat, 1 + 3 * l.length = m := ⟨_, rfl⟩
    rw [hm] at Hh
    rw [hm]
    have hm0 : decide ((m : Int) < 0) = false := decide_eq_false (by omega)
    have h2a := H29.out.trans (hba.mono hB23)
    have h0a := H09.out.trans (hba.mono (by omega))
    have KAa := HKA9.out.below (hba.mono (by omega : w.heap.size + 1 ≤ w3.heap.size)) (by omega)
    obtain ⟨qA0, qA1, qA2, qA3, qA4, qA5, qA6, qA7⟩ := oct KAa
    have Ht := Lib.hid (Htoc.out w10 Hszz.out h0a.size (HR.out.below h0a))
    have Hoa := Lib.hid hoa
    have H2a := Lib.hid h2a
    have H0a := Lib.hid h0a
    clear Hm hm hoa hsa hba h2a h0a KAa H29 H09 HKA9
    go_wp2_with fail
    refine (Hh.out w10 Hoa.out).mono ?_
    rintro e w' ⟨rfl, rfl⟩
    go_wp2_with fail
    refine Ht.out.mono ?_
    rintro e w11 ⟨y0, y1, y2, y3, y4, y5, rfl, hLb, hb11, -⟩
    have hb0b := H0a.out.trans (hb11.mono H0a.out.size)
    have Hi2 := Lib.hid (Himc.out w11 y0 y1 y2 y3 y4 y5 w10.heap.size w11.heap.size (Nat.le_refl _) Hszz.out hLb ((HF.out.below hb0b).more hb0b.size))
    have Hb11 := Lib.hid hb11
    clear hLb hb11 hb0b Ht qA0 qA1 qA2 qA3 qA4 qA5 qA6 qA7
    go_wp2_with fail
    refine Hi2.out.mono ?_
    rintro e w12 ⟨Ah, ch, rfl, hoh, hb12⟩
    have hbac := Hb11.out.trans (hb12.mono Hb11.out.size)
    have h2c := H2a.out.trans (hbac.mono H2a.out.size)
    have Hq3 := Lib.hid (eqValS_c l Ah As ch cs _ _ _ _ w12 (Nat.le_refl _) h2c.size hlm (hoh.vlr (by unfold maxLen; omega)) (Rs.out.below h2c))
    have Hbac := Lib.hid hbac
    clear hoh hbac h2c hb12 Hi2 Hb11
    go_wp2_with fail
    refine Hq3.out.mono ?_
    rintro e w13 ⟨rfl, hcd⟩
    have had := Hbac.out.trans (hcd.mono Hbac.out.size)
    have Hh2 := Lib.hid (Hh.out w13 (Hoa.out.below had))
    have H0d := Lib.hid (H0a.out.trans (had.mono H0a.out.size))
    clear hcd had Hbac Hq3
    go_wp2_with fail
    refine Hh2.out.mono ?_
    rintro e w' ⟨rfl, rfl⟩
    go_wp2
    go_ret
    exact ⟨rfl, H0d.out⟩

theorem table {W : World} (h : laidMetH Tryz.prog Rows.fnExactVmRootsRow.laid W) : Cod.Forms W W.heap.size := by
  have h' : laidMet Tryz.prog Rows.fnExactVmRootsRow.laid W := by
    rw [MakeChecks.laidMetH_plain _ _ _ (by kernel_rfl)] at h
    exact h
  exact Cod.forms_of h'

set_option maxRecDepth 100000 in
theorem contract (H : Type) (enc : TypeId × Value → H) (W : World) (base : Nat) (args : Array Value) (ds gs : List (DataW H)) (before : List MemPlace)
    (hval : ∀ (j : Nat) t v, Tryz.f4.params[j]? = some t → args[j]? = some v → Value.okWide Tryz.prog W .any base t v)
    (hW : DataW.Whole enc Tryz.prog Tryz.f4.params.toList Rows.fnExactVmRootsSpec.vars false W args.toList ds gs before) (hL : laidMetH Tryz.prog Rows.fnExactVmRootsRow.laid W) :
    Calls Tryz.prog 4 args W fun e W' => ∃ v, e = .returned v ∧ Rows.fnExactVmRootsSpec.post enc Tryz.prog Tryz.f4 false true false false W args v W' := by
  have hW' := hW
  obtain ⟨p, q, hA0, hV, rfl, hfz, hnd⟩ := hW
  have hA : DataW.TrodAll enc Tryz.prog W 0 (fun _ => true) true Tryz.f4.params.toList args.toList ds p := hA0
  replace hval : ∀ (j : Nat) t v, Tryz.f4.params[j]? = some t → args[j]? = some v → Value.okWide Tryz.prog W .any base t v := hval
  rw [Tryz.params4] at hA hval
  obtain ⟨v0, vs0, d0, ds0, p0, q0, hargs0, rfl, rfl, h0, r0⟩ := trodAll_cons hA
  obtain ⟨rfl, rfl, rfl⟩ := trodAll_nil r0
  obtain rfl : args = #[v0] := by cases args; simp_all
  obtain ⟨A0, A1, A2, A3, A4, A5, m, c0, c1, c2, c3, c4, c5, rfl, hR⟩ := FrmOpen.open_vm (hval 0 32 v0 rfl rfl) h0
  refine (walk m A0 A1 A2 A3 A4 A5 c0 c1 c2 c3 c4 c5 W hR (table hL)).mono fun e W' ⟨he, hb⟩ => ?_
  subst he
  have hgs : ∃ g, gs = [g] := by
    obtain ⟨g, t, cs, fuel, d, p, rfl, _⟩ := trodVars_one hV
    exact ⟨d, rfl⟩
  obtain ⟨g, rfl⟩ := hgs
  exact ⟨_, rfl, Cod.post_var hW' rfl Cod.gTab Cod.gTabType (by kernel_rfl) (of_decide_eq_true (by kernel_rfl)) rfl rfl rfl rfl Tryz.underlying4 laidOut (by kernel_rfl) hb⟩

/-- a table's cells out of its listed datum -/
def litsOf : List (DataW Unit) → List Value
  | [] => []
  | .lit (.int k n) :: r => .int k n :: litsOf r
  | .lit (.bool b) :: r => .bool b :: litsOf r
  | .lit (.string s) :: r => .string ⟨s.toArray⟩ :: litsOf r
  | _ :: r => litsOf r
def rowsOf : List (DataW Unit) → List Value
  | [] => []
  | .agg l :: r => litsOf l ++ rowsOf r
  | _ :: r => rowsOf r
def partsOf : DataW Unit → Array Value
  | .agg l => (rowsOf l).toArray
  | _ => #[]
def layAt (cs : Array Value) : Obj → Obj
  | .cells _ t frozen => .cells cs t frozen
  | o => o
/-- A WORLD FOR THE WITNESS: the settled one, the table holding what its initialiser lays. -/
noncomputable def laidWorld (os : Os) : World :=
  { World.holding Tryz.prog os ⟨#[], #[], []⟩ with heap := ((World.holding Tryz.prog os ⟨#[], #[], []⟩).heap.modify 0 (layAt (partsOf Rows.laid_loop_example_g00547_impl_orderForms))) }
theorem laid_met (os : Os) : laidMet Tryz.prog Rows.fnExactVmRootsRow.laid ((laidWorld os).forCall (fun _ _ => 0) ⟨#[], #[.agg #[.slice none 0 0, .slice none 0 0, .slice none 0 0, .slice none 0 0, .slice none 0 0, .slice none 0 0, .int .i64 0, .int .i64 0]], []⟩).memory :=
  laidMet_of_run' 8 (by kernel_rfl) (by kernel_rfl)
theorem reads (os : Os) {H : Type} (enc : TypeId × Value → H) : ∃ places, DataW.whole enc Tryz.prog ((laidWorld os).forCall (fun _ _ => 0) ⟨#[], #[.agg #[.slice none 0 0, .slice none 0 0, .slice none 0 0, .slice none 0 0, .slice none 0 0, .slice none 0 0, .int .i64 0, .int .i64 0]], []⟩).memory Tryz.f4.params.toList Rows.fnExactVmRootsSpec.vars false #[.agg #[.slice none 0 0, .slice none 0 0, .slice none 0 0, .slice none 0 0, .slice none 0 0, .slice none 0 0, .int .i64 0, .int .i64 0]].toList 8 = some ([.agg [.agg [.nil], .agg [.nil, .nil, .nil], .nil, .nil, .lit (.int .i64 0), .lit (.int .i64 0)]], [Rows.laid_loop_example_g00547_impl_orderForms], places) :=
  ⟨MemPlace.row ⟨0, 0, none⟩ 75, by kernel_rfl⟩

set_option maxRecDepth 100000 in
theorem lifted (os : Os) (started : os.Started) (H : Type) (enc : TypeId × Value → H) (F0 : Stop.Interp) :
    ReturnsInHanded {} Tryz.checked os 4 .any ((OpenSpec.ofChange Rows.fnExactVmRootsSpec).preRow enc Tryz.prog Tryz.f4 Rows.fnExactVmRootsRow.domain false Rows.fnExactVmRootsRow.laid) (((OpenSpec.ofChange Rows.fnExactVmRootsSpec).at F0).post enc Tryz.prog Tryz.f4 false true false false) := by
  obtain ⟨places, hx⟩ := reads os enc
  refine returnsInHanded_of_row (C := Tryz.checked) (s := OpenSpec.ofChange Rows.fnExactVmRootsSpec) own started (by kernel_rfl) Tryz.func4
    (witness_row_at (enc := enc) (C := Tryz.checked) false (laidWorld os) #[.agg #[.slice none 0 0, .slice none 0 0, .slice none 0 0, .slice none 0 0, .slice none 0 0, .slice none 0 0, .int .i64 0, .int .i64 0]] rfl (by kernel_rfl) (by kernel_rfl) (by kernel_rfl)
      (OpenSpec.preRow_of_cond 8 hx (by kernel_rfl) (fun k hk => by cases hk) (by kernel_rfl) (laid_met os))) ?_
  intro W base args ds gs before hval hW _ _ _ hL _ _
  exact contract H enc W base args ds gs before hval hW hL

theorem said : Rows.FnExactVmRootsSaid :=
  OpenClaim.holds_of_cond 4 Tryz.f4 rfl rfl rfl rfl rfl rfl rfl ⟨rfl, rfl, rfl, rfl, rfl⟩ rfl rfl rfl rfl rfl (by kernel_rfl) Tryz.func4 (by kernel_rfl)
    (of_decide_eq_true (by kernel_rfl)) (by unfold Func.isWrapper; first | (rw [if_pos (by decide +kernel)]; kernel_rfl) | (rw [if_neg (by decide +kernel)]; exact ⟨rfl, rfl⟩))
    (fun os started H enc _ F0 => by rw [OpenClaim.pre_eq_preRow]; exact lifted os started H enc F0)

theorem plain (f : FuncId) (fn : Func) (hf : Tryz.pinned.checked.prog.funcNamed "loop.example/g00547/laws.FnExactVmRoots" = some f) (hfn : Tryz.pinned.checked.prog.funcs[f]? = some fn) :
    false = Tryz.pinned.checked.prog.looks [] ∧ ∀ (j : Nat) t, fn.params[j]? = some t → Tryz.pinned.checked.prog.wantsStandIn t = false := by
  obtain rfl : f = 4 := Option.some.inj ((show Tryz.prog.funcNamed "loop.example/g00547/laws.FnExactVmRoots" = some 4 by kernel_rfl).symm.trans hf) |>.symm
  obtain rfl : fn = Tryz.f4 := (Option.some.inj (Tryz.func4.symm.trans hfn)).symm
  refine ⟨by kernel_rfl, fun j t ht => ?_⟩
  rw [Tryz.params4] at ht
  have hm := Array.mem_of_getElem? ht
  simp only [List.mem_toArray, List.mem_cons, List.not_mem_nil, or_false] at hm
  subst hm
  exact (show Tryz.prog.wantsStandIn 32 = false by kernel_rfl)

theorem card : Rows.FnExactVmRootsCardSaid :=
  Claim7.holds_tied_plain_at .later [] _ _ _ _ said (fun _ h => by cases h) (by kernel_rfl) (fun _ h => by cases h) fnExactVmRoots_row_tie rfl ⟨rfl, rfl⟩ (by kernel_rfl) rfl plain (by kernel_rfl)
end VmRootsLaw
end Go.Proofs.YtddjcjjnpidhiaaGreatDoor
