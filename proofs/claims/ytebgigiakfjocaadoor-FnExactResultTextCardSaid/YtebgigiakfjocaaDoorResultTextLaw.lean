/-
  At every result ResultText answers as its model, writes into no argument, and its answer shares no memory with an argument or another answer. No condition but that the table of words and the library's tables hold what their texts lay.
-/
import Derived.Test.YtebgigiakfjocaaDoorResTxt
import Derived.Test.YtebgigiakfjocaaDoorRes
import Derived.Test.YtebgigiakfjocaaDoorLaidW
import Derived.Deep.DeepCutAuto
import Derived.Deep.RegionWith
import Derived.Test.YtebgigiakfjocaaDoorCards
import Derived.Test.YtebgigiakfjocaaDoorTie
import Derived.JoinedCond
import Derived.Deep.DeepHandedRow
import Derived.Deep.CondSized
import Derived.Lib.LaidTab
import Derived.Stop.LaidErr
import Derived.SevenTiedAt
import Derived.SevenTiedPlain
namespace Go.Proofs.YtebgigiakfjocaaDoor
open Go.ChangeShapes Go.WideShapes Go.ChangeAt Go.RowKit
set_option linter.unusedVariables false
namespace ResultTextLaw

theorem tab_more {P : Program} {B B' : Nat} {w w1 : World} {name : String} {k : IntKind} {zs : List Int} (h : Lib.TabBelow P B w name k zs) (hb : Below B w w1) (hB : B ≤ B') : Lib.TabBelow P B' w1 name k zs :=
  fun w' h' => h w' (hb.trans (h'.mono hB))
theorem blk_rb {w : World} {g : Nat} {l : List UInt8} (h : Blk w g 5 (vb l).toArray) : RB w w.heap.size (some ⟨g, 0, none⟩) l := RB.of_blk h h.lt
theorem blk_ou {w : World} {g lo : Nat} {l : List UInt8} (h : Blk w g 5 (vb l).toArray) (hlo : lo ≤ g) : OwnU w lo (some ⟨g, 0, none⟩) l.length (gU l) := fun hn =>
  ⟨g, _, rfl, h.toT, hlo, by simp [vb], fun i hi => by rw [← gU_at hi]; simp⟩

set_option maxRecDepth 100000 in
set_option maxHeartbeats 8000000 in
theorem walk (code ticks : Int) (log : List UInt8) (A : Option Addr) (c : Nat) (w : World) (hlm : log.length ≤ 9223372036854775807) (h0 : -9223372036854775808 ≤ ticks) (h1 : ticks ≤ 9223372036854775807) (hR : RB w w.heap.size A log) (hF : CodeWd.Words w w.heap.size) (htab : Lib.TabBelow Tryd.prog w.heap.size w "internal/strconv.uint64pow10" .u64 Lib.pow10Tab) :
    Calls Tryd.prog 5 #[.agg #[.int .i64 code, .slice A log.length c, .int .i64 ticks]] w fun e w' => e = .returned (.bool true) ∧ Below w.heap.size w w' := by
  have hbA : Below w.heap.size w (w.alloc (.cells #[.int .i64 code, .slice A log.length c, .int .i64 ticks] 41)) := (Below.refl _ _).alloc (Nat.le_refl _) _
  have KA := Blk.new w 41 #[.int .i64 code, .slice A log.length c, .int .i64 ticks]
  have Hsz := Lib.hid (Res.szResult_c code ticks log A c (w.alloc (.cells #[.int .i64 code, .slice A log.length c, .int .i64 ticks] 41)) hlm)
  have HR := Lib.hid hR
  have HbA := Lib.hid hbA
  have HKA := Lib.hid KA
  have HF := Lib.hid hF
  have Htab := Lib.hid htab
  have hsA : (w.alloc (.cells #[.int .i64 code, .slice A log.length c, .int .i64 ticks] 41)).heap.size = w.heap.size + 1 := by simp
  clear hR hbA KA hF htab
  go_enter Tryd.func5, Tryd.ntmps5
  go_wp2_with fail
  refine Hsz.out.mono ?_
  rintro e w0 ⟨r, rfl, hr1, hbx⟩
  have hb0 := HbA.out.trans (hbx.mono HbA.out.size)
  have KA0 := HKA.out.below hbx HKA.out.lt
  have Hb0 := Lib.hid hb0
  have hs0 : w.heap.size + 1 ≤ w0.heap.size := hsA ▸ hbx.size
  by_cases hr : r < 0
  · clear hr1 hb0 KA0 hbx Hsz HbA HKA hsA
    go_wp2
    go_ret
    exact ⟨rfl, Hb0.out⟩
  have hsz : log.length ≤ 1048576 := hr1 (by omega)
  have hr0 : decide (r < 0) = false := decide_eq_false hr
  have hll : (ResTxt.resTxt code ticks log).length ≤ 1048676 := by have := ResTxt.resTxt_len code ticks log h1; omega
  have hspec := fun A c B w hB h => ResTxt.specResultText_c code ticks log A c B w hB h0 h1 hsz h
  have himpl := fun A c B w hB h hF ht => ResTxt.implResultText_c code ticks log A c B w hB h0 h1 hsz h hF ht
  obtain ⟨l, hl⟩ : ∃ l, ResTxt.resTxt code ticks log = l := ⟨_, rfl⟩
  rw [hl] at hll
  simp only [hl] at hspec himpl
  have Hspec := Lib.hid hspec
  have Himpl := Lib.hid himpl
  have Hto := Lib.hid (fun B w hB h => Res.toResult_c code ticks log A c B w hB (by omega) h)
  have HR0 := Lib.hid (HR.out.below hb0)
  obtain ⟨q0, q1, q2⟩ := KA0.three
  have Ht := Lib.hid (Hto.out w.heap.size w0 (by omega) HR0.out)
  have HKA0 := Lib.hid KA0
  clear hr1 hb0 KA0 hbx Hsz HbA HKA hsA hr hspec himpl hl
  go_wp2_with fail
  refine Ht.out.mono ?_
  rintro e w1 ⟨s0, rfl, hK1, hlo1, hlt1, hb1⟩
  have Hb1 := Lib.hid (Hb0.out.trans (hb1.mono (by omega)))
  have HKA1 := Lib.hid (HKA0.out.below hb1 (by omega))
  have Hsp := Lib.hid (Hspec.out (some ⟨s0, 0, none⟩) log.length w1.heap.size w1 (Nat.le_refl _) (blk_rb hK1))
  have hs1 := hb1.size
  clear hK1 hb1 Ht HKA0 HR0 q0 q1 q2
  go_wp2_with fail
  refine Hsp.out.mono ?_
  rintro e w2 ⟨As, cs, rfl, hOs, hb2⟩
  have Hb2 := Lib.hid (Hb1.out.trans (hb2.mono (by omega)))
  have hK2 := HKA1.out.below hb2 (by omega)
  obtain ⟨q0, q1, q2⟩ := hK2.three
  have HKA2 := Lib.hid hK2
  have Rs := Lib.hid hOs.ownU.rb
  have hs2 := hb2.size
  have Ht := Lib.hid (Hto.out w.heap.size w2 (by omega) (HR.out.below Hb2.out))
  clear hb2 hOs hK2 Hsp HKA1
  go_wp2_with fail
  refine Ht.out.mono ?_
  rintro e w3 ⟨x0, rfl, hK3, hlo3, hlt3, hb3⟩
  have hbX : Below w3.heap.size w3 (w3.alloc (.cells #[.int .i64 code, .slice (some ⟨x0, 0, none⟩) log.length log.length, .int .i64 ticks] 44)) := (Below.refl _ _).alloc (Nat.le_refl _) _
  have hsX : (w3.alloc (.cells #[.int .i64 code, .slice (some ⟨x0, 0, none⟩) log.length log.length, .int .i64 ticks] 44)).heap.size = w3.heap.size + 1 := by simp
  have hb3X := hb3.trans (hbX.mono hb3.size)
  have Hb3 := Lib.hid (Hb2.out.trans (hb3X.mono (by omega)))
  have hs3 := hb3.size
  have hKx := hK3.alloc (.cells #[.int .i64 code, .slice (some ⟨x0, 0, none⟩) log.length log.length, .int .i64 ticks] 44)
  have Him := Lib.hid (Himpl.out (some ⟨x0, 0, none⟩) log.length (w3.alloc (.cells #[.int .i64 code, .slice (some ⟨x0, 0, none⟩) log.length log.length, .int .i64 ticks] 44)).heap.size (w3.alloc (.cells #[.int .i64 code, .slice (some ⟨x0, 0, none⟩) log.length log.length, .int .i64 ticks] 44)) (Nat.le_refl _) (blk_rb hKx) ((HF.out.below Hb3.out).more (by rw [hsX]; omega)) (tab_more Htab.out Hb3.out (by rw [hsX]; omega)))
  have HKx := Lib.hid hKx
  have HKX := Lib.hid (Blk.new w3 44 #[.int .i64 code, .slice (some ⟨x0, 0, none⟩) log.length log.length, .int .i64 ticks])
  have HKA3 := Lib.hid (HKA2.out.below hb3X (by omega))
  have Rs3 := Lib.hid (Rs.out.below hb3X)
  have Hb23 := Lib.hid hb3X
  clear hb3 hbX hb3X hK3 hKx q0 q1 q2 HKA2 Ht Rs
  go_wp2_with fail
  refine Him.out.mono ?_
  rintro e w4 ⟨Ag, cg, rfl, hOg, hb4⟩
  have hs4 := hb4.size
  rw [hsX] at hs4 hOg
  have hog := hOg.ownU
  have Hq1 := Lib.hid (eqByteS_c l Ag As cg cs _ _ w4 (by omega) hog.rb (Rs3.out.below (hb4.mono (by omega))))
  have Hb4 := Lib.hid (Hb3.out.trans (hb4.mono (by omega)))
  have Hb24 := Lib.hid (Hb23.out.trans (hb4.mono (by rw [hsX]; omega)))
  have HKA4 := Lib.hid (HKA3.out.below hb4 (by omega))
  have HKX4 := Lib.hid (HKX.out.below hb4 (by omega))
  have HKx4 := Lib.hid (HKx.out.below hb4 (by omega))
  have Rs4 := Lib.hid (Rs3.out.below (hb4.mono (by omega)))
  have Hog := Lib.hid hog
  clear hb4 hOg hog Him HKA3 HKX HKx Rs3 Hb23 Hb3 hsX
  go_wp2_with fail
  refine Hq1.out.mono ?_
  rintro e w5 ⟨rfl, n5, hw5⟩
  have h45 : Below w4.heap.size w4 w5 := by subst hw5; exact ⟨rfl, rfl, rfl, Nat.le_refl _, fun _ _ => rfl⟩
  have hs5 := h45.size
  have hKA5 := HKA4.out.below h45 (by omega)
  have hKX5 := HKX4.out.below h45 (by omega)
  obtain ⟨q0, q1, q2⟩ := hKA5.three
  obtain ⟨x0c, x1c, x2c⟩ := hKX5.three
  have HKA5 := Lib.hid hKA5
  have HKX5 := Lib.hid hKX5
  have HKx5 := Lib.hid (HKx4.out.below h45 (by omega))
  have Hb5 := Lib.hid (Hb4.out.trans (h45.mono (by omega)))
  have Hb25 := Lib.hid (Hb24.out.trans (h45.mono (by omega)))
  have Rs5 := Lib.hid (Rs4.out.below (h45.mono (by omega)))
  have Hog5 := Lib.hid (Hog.out.below h45)
  have Ht := Lib.hid (fun d => Hto.out w.heap.size (w5.drewN d) (by show w.heap.size ≤ w5.heap.size; omega) ((HR.out.below Hb5.out).drewN d))
  clear hw5 h45 hKA5 hKX5 Hq1 HKA4 HKX4 HKx4 Hb4 Hb24 Rs4 Hog
  go_upto_region 10 with fail
  go_cut [31] (fun b wx => b = .bool false ∧ Hid (Below w5.heap.size w5 wx))
  case first =>
    go_region_with (first
      | (go_at_call 22; refine (Ht.out 1).mono ?_; rintro e w6 ⟨y0, rfl, hK6, hlo6, hlt6, hb6⟩; have hb56 : Below w5.heap.size w5 w6 := ⟨hb6.os, hb6.tape, hb6.output, hb6.size, hb6.block⟩; obtain ⟨y0c, y1c, y2c⟩ := (HKX5.out.below hb56 HKX5.out.lt).three; have Heq := Lib.hid (Res.eqResult_c code ticks log (some ⟨x0, 0, none⟩) log.length w6.heap.size w6 (some ⟨y0, 0, none⟩) log.length w6.heap.size (Nat.le_refl _) (Nat.le_refl _) (by omega) (blk_rb (HKx5.out.below hb56 HKx5.out.lt)) (blk_rb hK6)); have Hb56 := Lib.hid hb56; clear hK6 hb6 hb56 Ht)
      | (go_at_call 24; refine Heq.out.mono ?_; rintro e w7 ⟨rfl, hb7⟩))
    all_goals
      try go_wp2_with fail
      go_meet
      case rel => exact ⟨by simp, Lib.hid (Hb56.out.trans (hb7.mono Hb56.out.size))⟩
  case rest =>
    obtain ⟨rfl, hb57⟩ := hcut
    obtain ⟨w7, hw7⟩ : ∃ x, x = wc := ⟨_, rfl⟩
    subst hw7
    have h57 := hb57.out
    have hs7 := h57.size
    obtain ⟨p0, p1, p2⟩ := (HKX5.out.below h57 HKX5.out.lt).three
    have HKA7 := Lib.hid (HKA5.out.below h57 HKA5.out.lt)
    have hKx7 := HKx5.out.below h57 HKx5.out.lt
    have Hmk := Lib.hid (Res.markResult_o code ticks (some ⟨x0, 0, none⟩) log.length w7 w2.heap.size 1 (gU log) log.length (by omega) (blk_ou hKx7 hlo3) (by omega))
    have Hog7 := Lib.hid (Hog5.out.below h57)
    have Hb7 := Lib.hid (Hb5.out.trans (h57.mono (by omega)))
    have Hb27 := Lib.hid (Hb25.out.trans (h57.mono (by omega)))
    have Rs7 := Lib.hid (Rs5.out.below (h57.mono (by omega)))
    clear h57 hb57 hKx7 HKA5 HKX5 HKx5 Hog5 Hb5 Hb25 Rs5 x0c x1c x2c q0 q1 q2
    go_wp2_with fail
    refine Hmk.out.mono ?_
    rintro e w8 ⟨rfl, hO8, hb8, hot⟩
    obtain ⟨u, hu⟩ : ∃ u : Nat, 1 + log.length = u := ⟨_, rfl⟩
    rw [hu]
    have hu0 : decide ((u : Int) < 0) = false := decide_eq_false (by omega)
    have hs8 := hb8.size
    have Hog8 := Lib.hid (Hog7.out.keep (w' := w8) (fun b h1 h2 => hot b h2 (fun ad e => by cases e; show x0 ≠ b; omega)))
    have Hb28 := Lib.hid (Hb27.out.trans hb8)
    have Hb8 := Lib.hid (Hb7.out.trans (hb8.mono (by omega)))
    have HKA8 := Lib.hid (HKA7.out.below hb8 (by omega))
    have Rs8 := Lib.hid (Rs7.out.below hb8)
    have Hq2 := Lib.hid (eqByteS_c l Ag As cg cs _ _ w8 (by omega) Hog8.out.rb Rs8.out)
    clear Hmk hb8 hot hO8 hu Hog7 Hb7 Hb27 HKA7 Rs7 p0 p1 p2
    go_wp2_with fail
    refine Hq2.out.mono ?_
    rintro e w9 ⟨rfl, n9, hw9⟩
    have h89 : Below w8.heap.size w8 w9 := by subst hw9; exact ⟨rfl, rfl, rfl, Nat.le_refl _, fun _ _ => rfl⟩
    have hs9 := h89.size
    have Hm := Lib.hid (markByteS_o l.length Ag cg (w3.heap.size + 1) 1 (gU l) w9 (by omega) (Hog8.out.below h89))
    have Hb9 := Lib.hid (Hb8.out.trans (h89.mono (by omega)))
    have Rs9 := Lib.hid (Rs8.out.below (h89.mono (by omega)))
    have HKA9 := Lib.hid (HKA8.out.below h89 HKA8.out.lt)
    clear hw9 h89 Hq2 Hog8 Hb8 Rs8 HKA8 Hb28
    go_wp2_with fail
    refine Hm.out.mono ?_
    rintro e w10 ⟨rfl, hoa, hsa, hba, -⟩
    have Hh := Lib.hid (fun W (hx : OwnU W (w3.heap.size + 1) Ag l.length (fun i => (((1 + i) % 256 : Nat) : Int))) => heldByteS_o l.length Ag cg (w3.heap.size + 1) 1 W (by omega) hx)
    obtain ⟨m, hm⟩ : ∃ m : Nat, 1 + l.length = m := ⟨_, rfl⟩
    rw [hm] at Hh
    rw [hm]
    have hm0 : decide ((m : Int) < 0) = false := decide_eq_false (by omega)
    have Hba := Lib.hid (Hb9.out.trans (hba.mono (by omega)))
    have hKAa := HKA9.out.below hba (by omega)
    obtain ⟨q0, q1, q2⟩ := hKAa.three
    have Rsa := Lib.hid (Rs9.out.below (hba.mono (by omega)))
    have Ht := Lib.hid (Hto.out w.heap.size w10 (by omega) (HR.out.below Hba.out))
    have Hoa := Lib.hid hoa
    clear Hm hm hoa hba hKAa Hb9 Rs9 HKA9
    go_wp2_with fail
    refine (Hh.out w10 Hoa.out).mono ?_
    rintro e w' ⟨rfl, rfl⟩
    go_wp2_with fail
    refine Ht.out.mono ?_
    rintro e w11 ⟨y0, rfl, hK11, hlo11, hlt11, hb11⟩
    have hs11 := hb11.size
    have Hb11 := Lib.hid (Hba.out.trans (hb11.mono (by omega)))
    have Hi2 := Lib.hid (Himpl.out (some ⟨y0, 0, none⟩) log.length w11.heap.size w11 (Nat.le_refl _) (blk_rb hK11) ((HF.out.below Hb11.out).more (by omega)) (tab_more Htab.out Hb11.out (by omega)))
    have Ho11 := Lib.hid (Hoa.out.below hb11)
    have Rs11 := Lib.hid (Rsa.out.below (hb11.mono (by omega)))
    clear hK11 hb11 Ht q0 q1 q2 Hba Hoa Rsa
    go_wp2_with fail
    refine Hi2.out.mono ?_
    rintro e w12 ⟨Ah, ch, rfl, hoh, hb12⟩
    have hs12 := hb12.size
    have Hb12 := Lib.hid (Hb11.out.trans (hb12.mono (by omega)))
    have Ho12 := Lib.hid (Ho11.out.below hb12)
    have Hq3 := Lib.hid (eqByteS_c l Ah As ch cs _ _ w12 (by omega) hoh.ownU.rb (Rs11.out.below (hb12.mono (by omega))))
    clear hoh hb12 Hi2 Hb11 Ho11 Rs11
    go_wp2_with fail
    refine Hq3.out.mono ?_
    rintro e w13 ⟨rfl, n13, hw13⟩
    have hcd : Below w12.heap.size w12 w13 := by subst hw13; exact ⟨rfl, rfl, rfl, Nat.le_refl _, fun _ _ => rfl⟩
    have Hh2 := Lib.hid (Hh.out w13 (Ho12.out.below hcd))
    have Hb13 := Lib.hid (Hb12.out.trans (hcd.mono (by omega)))
    clear hw13 hcd Hq3 Hb12 Ho12
    go_wp2_with fail
    refine Hh2.out.mono ?_
    rintro e w' ⟨rfl, rfl⟩
    go_wp2
    go_ret
    exact ⟨rfl, Hb13.out⟩

theorem cellsI : Tryd.prog.cellsOf 3 = 1 := by kernel_rfl
theorem cellsBs : Tryd.prog.cellsOf 27 = 1 := by kernel_rfl
theorem cellsRes : Tryd.prog.cellsOf 41 = 3 := by kernel_rfl
theorem list3 {α : Type} {l : List α} (h : l.length = 3) : ∃ a b c, l = [a, b, c] := by
  match l, h with
  | [a, b, c], _ => exact ⟨a, b, c, rfl⟩
theorem some_at {α : Type} {l : List α} {n i : Nat} (h : l.length = n) (hi : i < n) : ∃ x, l[i]? = some x := ⟨l[i]'(by omega), List.getElem?_eq_getElem (by omega)⟩
set_option maxRecDepth 100000 in
/-- a result that is handed in -/
theorem open_result {H : Type} {enc : TypeId × Value → H} {W : World} {base : Nat} {v : Value} {d : DataW H} {p : List MemPlace}
    (hval : Value.okWide Tryd.prog W .any base 41 v) (h : DataW.Trod enc Tryd.prog W 0 (fun _ => true) true 41 v d p) :
    ∃ (code ticks : Int) (log : List UInt8) (A : Option Addr) (c : Nat), v = .agg #[.int .i64 code, .slice A log.length c, .int .i64 ticks] ∧ log.length ≤ maxLen ∧ -9223372036854775808 ≤ ticks ∧ ticks ≤ 9223372036854775807 ∧ RB W W.heap.size A log := by
  obtain ⟨cs, rfl, hsz⟩ := okWide_struct Tryd.underlying41 hval
  obtain ⟨fuel, hf⟩ := h
  obtain ⟨xs, n, _, hx, hlen, hxl, hfs⟩ := DataW.trod_struct Tryd.underlying41 hf
  rw [cellsRes] at hlen
  obtain ⟨l⟩ := cs
  have hlen' : l.length = 3 := hlen
  obtain ⟨v0, v1, v2, rfl⟩ := list3 hlen'
  have hxl' : xs.length = 3 := hxl
  obtain ⟨y0, e0⟩ := some_at hxl' (i := 0) (by omega)
  obtain ⟨y1, e1⟩ := some_at hxl' (i := 1) (by omega)
  obtain ⟨y2, e2⟩ := some_at hxl' (i := 2) (by omega)
  have t0 : DataW.trod enc Tryd.prog W 0 (fun _ => true) true n 3 [v0] = some y0 := by
    have : DataW.trod enc Tryd.prog W 0 (fun _ => true) true n 3 (([v0, v1, v2].drop 0).take (Tryd.prog.cellsOf 3)) = xs[0]? := hfs 0 _ rfl
    rw [e0, cellsI] at this
    exact this
  have t1 : DataW.trod enc Tryd.prog W 0 (fun _ => true) true n 27 [v1] = some y1 := by
    have : DataW.trod enc Tryd.prog W 0 (fun _ => true) true n 27 (([v0, v1, v2].drop 1).take (Tryd.prog.cellsOf 27)) = xs[1]? := hfs 1 _ rfl
    rw [e1, cellsBs] at this
    exact this
  have t2 : DataW.trod enc Tryd.prog W 0 (fun _ => true) true n 3 [v2] = some y2 := by
    have : DataW.trod enc Tryd.prog W 0 (fun _ => true) true n 3 (([v0, v1, v2].drop 2).take (Tryd.prog.cellsOf 3)) = xs[2]? := hfs 2 _ rfl
    rw [e2, cellsI] at this
    exact this
  obtain ⟨n0, q0, _, w0⟩ := DataW.trod_int Tryd.underlying3 t0
  obtain ⟨A, log, c, rfl, hm, hR⟩ := trod_bytes Tryd.underlying27 Tryd.underlying5 cellsU8 t1
  obtain ⟨n2, q2, _, w2⟩ := DataW.trod_int Tryd.underlying3 t2
  simp only [List.cons.injEq, and_true] at q0 q2
  subst q0 q2
  obtain ⟨b0, b1⟩ := bounds_i64 w2
  exact ⟨n0, n2, log, A, c, rfl, hm, b0, b1, hR⟩

theorem gTabP : Tryd.prog.globalNamed "internal/strconv.uint64pow10" = some 2 := by kernel_rfl
theorem gTabTypeP : (Tryd.prog.globals[2]?).map (·.type) = some 188 := by kernel_rfl
theorem cellsTabP : Tryd.prog.cellsOf 188 = 20 := by kernel_rfl
theorem cellsU64P : Tryd.prog.cellsOf 158 = 1 := by kernel_rfl

theorem tablePow {W : World} (h : laidMetH Tryd.prog Rows.fnExactResultTextRow.laid W) : Lib.TabIs Tryd.prog W "internal/strconv.uint64pow10" .u64 Lib.pow10Tab := by
  have h' : laidMet Tryd.prog Rows.fnExactResultTextRow.laid W := by
    rw [MakeChecks.laidMetH_plain _ _ _ (by kernel_rfl)] at h
    exact h
  exact Lib.tabIs_of_head gTabP gTabTypeP Tryd.underlying188 Tryd.underlying158 cellsU64P cellsTabP (laidMet.tail (laidMet.tail h'))

theorem table_words {W : World} (h : laidMetH Tryd.prog Rows.fnExactResultTextRow.laid W) : CodeWd.Words W W.heap.size := by
  have h' : laidMet Tryd.prog Rows.fnExactResultTextRow.laid W := by
    rw [MakeChecks.laidMetH_plain _ _ _ (by kernel_rfl)] at h
    exact h
  exact CodeWd.words_of (laidMet.tail (laidMet.tail (laidMet.tail h')))

set_option maxRecDepth 100000 in
theorem contract (H : Type) (enc : TypeId × Value → H) (W : World) (base : Nat) (args : Array Value) (ds gs : List (DataW H)) (before : List MemPlace)
    (hval : ∀ (j : Nat) t v, Tryd.f5.params[j]? = some t → args[j]? = some v → Value.okWide Tryd.prog W .any base t v)
    (hW : DataW.Whole enc Tryd.prog Tryd.f5.params.toList Rows.fnExactResultTextSpec.vars false W args.toList ds gs before) (hL : laidMetH Tryd.prog Rows.fnExactResultTextRow.laid W) :
    Calls Tryd.prog 5 args W fun e W' => ∃ v, e = .returned v ∧ Rows.fnExactResultTextSpec.post enc Tryd.prog Tryd.f5 false true false false W args v W' := by
  have hW' := hW
  obtain ⟨p, q, hA0, hV, rfl, hfz, hnd⟩ := hW
  have hA : DataW.TrodAll enc Tryd.prog W 0 (fun _ => true) true Tryd.f5.params.toList args.toList ds p := hA0
  replace hval : ∀ (j : Nat) t v, Tryd.f5.params[j]? = some t → args[j]? = some v → Value.okWide Tryd.prog W .any base t v := hval
  rw [Tryd.params5] at hA hval
  obtain ⟨v0, vs0, d0, ds0, p0, q0, hargs0, rfl, rfl, h0, r0⟩ := trodAll_cons hA
  obtain ⟨rfl, rfl, rfl⟩ := trodAll_nil r0
  obtain rfl : args = #[v0] := by cases args; simp_all
  obtain ⟨code, ticks, log, A, c, rfl, hm, hb0, hb1, hR⟩ := open_result (hval 0 41 v0 rfl rfl) h0
  refine (walk code ticks log A c W (by unfold maxLen at hm; omega) hb0 hb1 hR (table_words hL) (Lib.tabBelow_of_tabIs (tablePow hL))).mono fun e W' ⟨he, hb⟩ => ?_
  subst he
  have hgs : ∃ g, gs = [g] := by
    obtain ⟨g, t, cs, fuel, d, p, rfl, _⟩ := trodVars_one hV
    exact ⟨d, rfl⟩
  obtain ⟨g, rfl⟩ := hgs
  exact ⟨_, rfl, PV.post_var hW' rfl CodeWd.gTab CodeWd.gTabType (by kernel_rfl) (of_decide_eq_true (by kernel_rfl)) rfl rfl rfl rfl Tryd.underlying4 laidOut (by kernel_rfl) hb⟩

/-- a table's cells out of its listed datum -/
def litsOf : List (DataW Unit) → List Value
  | [] => []
  | .lit (.int k n) :: r => .int k n :: litsOf r
  | .lit (.bool b) :: r => .bool b :: litsOf r
  | .lit (.string s) :: r => .string ⟨s.toArray⟩ :: litsOf r
  | _ :: r => litsOf r
def rowsOf : List (DataW Unit) → List Value
  | [] => []
  | .agg l :: r => litsOf l ++ rowsOf r
  | _ :: r => rowsOf r
def partsOf : DataW Unit → Array Value
  | .agg l => (litsOf l).toArray
  | _ => #[]
def partsOfR : DataW Unit → Array Value
  | .agg l => (rowsOf l).toArray
  | _ => #[]
def layAt (cs : Array Value) : Obj → Obj
  | .cells _ t frozen => .cells cs t frozen
  | o => o
/-- A WORLD FOR THE WITNESS: the settled one, the tables holding what their initialisers lay. -/
noncomputable def laidWorld (os : Os) : World :=
  { World.holding Tryd.prog os ⟨#[], #[], []⟩ with heap := (((((World.holding Tryd.prog os ⟨#[], #[], []⟩).heap.modify 4 (layAt (partsOf Rows.laid_math_bits_deBruijn32tab))).modify 5 (layAt (partsOf Rows.laid_math_bits_deBruijn64tab))).modify 2 (layAt (partsOf Rows.laid_internal_strconv_uint64pow10))).modify 0 (layAt (partsOf Rows.laid_loop_example_g00547_impl_codeWords))) }
theorem laid_met (os : Os) : laidMet Tryd.prog Rows.fnExactResultTextRow.laid ((laidWorld os).forCall (fun _ _ => 0) ⟨#[], #[.agg #[.int .i64 0, .slice none 0 0, .int .i64 0]], []⟩).memory :=
  laidMet_of_run' 8 (by kernel_rfl) (by kernel_rfl)
theorem reads (os : Os) {H : Type} (enc : TypeId × Value → H) : ∃ places, DataW.whole enc Tryd.prog ((laidWorld os).forCall (fun _ _ => 0) ⟨#[], #[.agg #[.int .i64 0, .slice none 0 0, .int .i64 0]], []⟩).memory Tryd.f5.params.toList Rows.fnExactResultTextSpec.vars false #[.agg #[.int .i64 0, .slice none 0 0, .int .i64 0]].toList 8 = some ([.agg [.lit (.int .i64 0), .nil, .lit (.int .i64 0)]], [Rows.laid_loop_example_g00547_impl_codeWords], places) :=
  ⟨MemPlace.row ⟨0, 0, none⟩ 6, by kernel_rfl⟩

set_option maxRecDepth 100000 in
theorem lifted (os : Os) (started : os.Started) (H : Type) (enc : TypeId × Value → H) (F0 : Stop.Interp) :
    ReturnsInHanded {} Tryd.checked os 5 .any ((OpenSpec.ofChange Rows.fnExactResultTextSpec).preRow enc Tryd.prog Tryd.f5 Rows.fnExactResultTextRow.domain false Rows.fnExactResultTextRow.laid) (((OpenSpec.ofChange Rows.fnExactResultTextSpec).at F0).post enc Tryd.prog Tryd.f5 false true false false) := by
  obtain ⟨places, hx⟩ := reads os enc
  refine returnsInHanded_of_row (C := Tryd.checked) (s := OpenSpec.ofChange Rows.fnExactResultTextSpec) own started (by kernel_rfl) Tryd.func5
    (witness_row_at (enc := enc) (C := Tryd.checked) false (laidWorld os) #[.agg #[.int .i64 0, .slice none 0 0, .int .i64 0]] rfl (by kernel_rfl) (by kernel_rfl) (by kernel_rfl)
      (OpenSpec.preRow_of_cond 8 hx (by kernel_rfl) (fun k hk => by cases hk) (by kernel_rfl) (laid_met os))) ?_
  intro W base args ds gs before hval hW _ _ _ hL _ _
  exact contract H enc W base args ds gs before hval hW hL

theorem said : Rows.FnExactResultTextSaid :=
  OpenClaim.holds_of_cond 5 Tryd.f5 rfl rfl rfl rfl rfl rfl rfl ⟨rfl, rfl, rfl, rfl, rfl⟩ rfl rfl rfl rfl rfl (by kernel_rfl) Tryd.func5 (by kernel_rfl)
    (of_decide_eq_true (by kernel_rfl)) (by unfold Func.isWrapper; first | (rw [if_pos (by decide +kernel)]; kernel_rfl) | (rw [if_neg (by decide +kernel)]; exact ⟨rfl, rfl⟩))
    (fun os started H enc _ F0 => by rw [OpenClaim.pre_eq_preRow]; exact lifted os started H enc F0)

theorem plain (f : FuncId) (fn : Func) (hf : Tryd.pinned.checked.prog.funcNamed "loop.example/g00547/laws.FnExactResultText" = some f) (hfn : Tryd.pinned.checked.prog.funcs[f]? = some fn) :
    false = Tryd.pinned.checked.prog.looks [] ∧ ∀ (j : Nat) t, fn.params[j]? = some t → Tryd.pinned.checked.prog.wantsStandIn t = false := by
  obtain rfl : f = 5 := Option.some.inj ((show Tryd.prog.funcNamed "loop.example/g00547/laws.FnExactResultText" = some 5 by kernel_rfl).symm.trans hf) |>.symm
  obtain rfl : fn = Tryd.f5 := (Option.some.inj (Tryd.func5.symm.trans hfn)).symm
  refine ⟨by kernel_rfl, fun j t ht => ?_⟩
  rw [Tryd.params5] at ht
  have hm := Array.mem_of_getElem? ht
  simp only [List.mem_toArray, List.mem_cons, List.not_mem_nil, or_false] at hm
  subst hm
  exact (show Tryd.prog.wantsStandIn 41 = false by kernel_rfl)

theorem card : Rows.FnExactResultTextCardSaid :=
  Claim7.holds_tied_plain_at .later [] _ _ _ _ said (fun _ h => by cases h) (by kernel_rfl) (fun _ h => by cases h) fnExactResultText_row_tie rfl ⟨rfl, rfl⟩ (by kernel_rfl) rfl plain (by kernel_rfl)
end ResultTextLaw
end Go.Proofs.YtebgigiakfjocaaDoor
