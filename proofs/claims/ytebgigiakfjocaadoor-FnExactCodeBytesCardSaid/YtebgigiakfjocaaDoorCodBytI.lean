/-
  The program's CodeBytes.
-/
import Derived.Test.YtebgigiakfjocaaDoorLong
import Derived.Test.YtebgigiakfjocaaDoorImplCode2
import Derived.Test.YtebgigiakfjocaaDoorRes
namespace Go.Proofs.YtebgigiakfjocaaDoor
open Go.RowKit
set_option linter.unusedVariables false
set_option linter.unusedSimpArgs false
namespace CodBI
open Cod

/-- an answer of bytes and whether there are any -/
def AnsTB (w : World) (l : List UInt8) (b : Bool) (e : Ending) (w' : World) : Prop := ∃ A c, e = .returned (.tuple #[.slice A l.length c, .bool b]) ∧ OwnT w' w.heap.size (.slice A l.length c) l ∧ Below w.heap.size w w'
theorem Blk.five {w : World} {g : Nat} {t : TypeId} {a b c d e : Value} (h : Blk w g t #[a, b, c, d, e]) : w.cell? ⟨g, 0, none⟩ = some a ∧ w.cell? ⟨g, 1, none⟩ = some b ∧ w.cell? ⟨g, 2, none⟩ = some c ∧ w.cell? ⟨g, 3, none⟩ = some d ∧ w.cell? ⟨g, 4, none⟩ = some e :=
  ⟨by rw [h.cell]; rfl, by rw [h.cell]; rfl, by rw [h.cell]; rfl, by rw [h.cell]; rfl, by rw [h.cell]; rfl⟩
theorem of_cast (m : Nat) : ((UInt8.ofNat m).toNat : Int) = (m : Int) % 256 := by rw [UInt8.toNat_ofNat']; omega
theorem cell1 (m : Nat) : (#[.int .u8 ((m : Int) % 256)] : Array Value).toList = vb [UInt8.ofNat m] := by
  unfold vb; rw [List.map_cons, List.map_nil, of_cast]
theorem cell1' {m : Nat} (h : m < 256) : (#[.int .u8 (m : Int)] : Array Value).toList = vb [UInt8.ofNat m] := by
  have e : (m : Int) % 256 = m := by omega
  have := cell1 m
  rwa [e] at this
theorem cell2 (m n : Nat) : (#[.int .u8 ((m : Int) % 256), .int .u8 ((n : Int) % 256)] : Array Value).toList = vb [UInt8.ofNat m, UInt8.ofNat n] := by
  unfold vb; rw [List.map_cons, List.map_cons, List.map_nil, of_cast, of_cast]
theorem cell2' {m n : Nat} (h : m < 256) (h' : n < 256) : (#[.int .u8 (m : Int), .int .u8 (n : Int)] : Array Value).toList = vb [UInt8.ofNat m, UInt8.ofNat n] := by
  have e : (m : Int) % 256 = m := by omega
  have e' : (n : Int) % 256 = n := by omega
  have := cell2 m n
  rwa [e, e'] at this
def nameT (nm : List UInt8) : List UInt8 := [UInt8.ofNat nm.length] ++ nm
section
variable (l nm : List UInt8) (v : Value) (B BN : Nat) (NA : Option Addr) (nc : Nat) (w : World)
set_option maxRecDepth 100000 in
set_option maxHeartbeats 2000000 in
theorem appendName_c (hn : nm.length ≤ 6) (hB : B ≤ w.heap.size) (hBN : BN ≤ B) (hl : l.length ≤ 140737488350000) (h : OwnT w B v l) (hN : RB w BN NA nm) :
    Calls Tryd.prog 63 #[v, .slice NA nm.length nc] w fun e w' => ∃ A c, e = .returned (.slice A (l ++ nameT nm).length c) ∧ OwnT w' B (.slice A (l ++ nameT nm).length c) (l ++ nameT nm) ∧ Say B w w' := by
  obtain ⟨A0, c0, rfl, _⟩ := h.form
  obtain ⟨r, hr⟩ : ∃ r, r = [UInt8.ofNat nm.length] := ⟨_, rfl⟩
  obtain ⟨y, hy⟩ : ∃ y, l ++ r = y := ⟨_, rfl⟩
  obtain ⟨z, hz⟩ : ∃ z, y ++ nm = z := ⟨_, rfl⟩
  have hrl : r.length = 1 := by rw [hr]; rfl
  have hyl : y.length ≤ 140737488350001 := by rw [← hy, List.length_append]; omega
  rw [show l ++ nameT nm = z by unfold nameT; rw [← hr, ← hz, ← hy]; simp]
  have Hy := Lib.hid hy
  have Hz := Lib.hid hz
  have Hr := Lib.hid hr
  have Hrl := Lib.hid hrl
  have HO := Lib.hid h
  have HN := Lib.hid hN
  clear h hy hz hr hrl hN
  go_enter Tryd.func63, Tryd.ntmps63
  go_wp2_with (first
    | (at_builtin; refine wpList_litT (r := r) rfl (.tmp 5) (.tmp 9) rfl rfl HO.out (by rw [Hr.out]; first | exact cell1 _ | exact cell1' (by omega)) rfl Hrl.out rfl Hy.out (by have := Hrl.out; omega) hB ?_; intro A1 c1 w1 hO1 hS1; have HO1 := Lib.hid hO1; have HN1 := Lib.hid (HN.out.below (hS1.below.mono hBN)); have hs1 : B ≤ w1.heap.size := Nat.le_trans hB hS1.size; have HS1 := Lib.hid hS1; clear hO1 hS1)
    | (at_builtin; refine wpList_rowT (r := nm) rfl (.tmp 11) (.tmp 12) rfl rfl HO1.out rfl HN1.out Hz.out (by omega) hs1 ?_; intro A2 c2 w2 hO2 hS2; have HO2 := Lib.hid hO2; have HS2 := Lib.hid (HS1.out.trans hS2); clear hO2 hS2))
  go_ret
  exact ⟨A2, c2, rfl, HO2.out, HS2.out⟩
end

section
variable (C : List Un) (CA : Option Addr) (cc L B : Nat) (w : World)
set_option maxRecDepth 100000 in
set_option maxHeartbeats 8000000 in
theorem implCodeBytes_c (hB : B ≤ w.heap.size) (hsz : unsSz C ≤ 1048576) (hC : UnL w L B CA C) (hF : Forms w B) :
    Calls Tryd.prog 33 #[.agg #[.slice CA C.length cc]] w (AnsTB w (codB C) (codeOk C)) := by
  have hbW := blwC w (.cells #[.slice CA C.length cc] 56)
  have HR := Lib.hid (implCodeOk_c C CA cc L B (w.alloc (.cells #[.slice CA C.length cc] 56)) (Nat.le_trans hB hbW.size) hsz (hC.below (hbW.mono hB)) (hF.below (hbW.mono hB)))
  have HKA := Lib.hid (Blk.new w 56 #[.slice CA C.length cc])
  have HbW := Lib.hid hbW
  have HC := Lib.hid hC
  clear hsz hC hF hbW
  go_enter Tryd.func33, Tryd.ntmps33
  go_wp2_with fail
  refine HR.out.mono ?_
  rintro e W ⟨rfl, hb⟩
  have Hb := Lib.hid (HbW.out.trans (hb.mono HbW.out.size))
  have hs1 := Hb.out.size
  have hKA := HKA.out.below hb HKA.out.lt
  cases hok : codeOk C
  · have Hok := Lib.hid hok
    have E := Lib.hid (show codB C = [] by unfold codB; rw [hok]; rfl)
    clear hb HbW HR hok hKA HKA
    go_wp2
    refine bodyPost_ret (v := .tuple #[.slice none 0 0, .bool false]) (by simp [results, Tryd.results33, go_sem]) rfl ?_
    rw [E.out, Hok.out]
    exact ⟨none, 0, rfl, OwnT.nil _ _, Hb.out⟩
  · have Hok := Lib.hid hok
    have E := Lib.hid (show codB C = [UInt8.ofNat C.length] ++ unsB C C.length by unfold codB; rw [hok]; rfl)
    obtain ⟨⟨hC1, hC4⟩, hUn⟩ := codeOk_bd hok
    have HUn := Lib.hid hUn
    have hbd := Lib.hid (unsB_len hUn)
    obtain ⟨q0, -⟩ := hKA.uno
    have q1 := fun o => (hKA.alloc o).uno.1
    have HL := Lib.hid (HC.out.below (Hb.out.mono hB))
    have hBW : B ≤ W.heap.size := by omega
    obtain ⟨h0, hh0⟩ : ∃ r, r = [UInt8.ofNat C.length] := ⟨_, rfl⟩
    have hl0 : h0.length = 1 := by rw [hh0]; rfl
    rw [← hh0] at E
    have Hlit := Lib.hid (show OwnT (W.alloc (.cells #[.int .u8 (C.length : Int)] 5)) W.heap.size (.slice (some ⟨W.heap.size, 0, none⟩) h0.length h0.length) h0 from (OwnB.lit W h0 _ (by rw [hh0]; exact cell1' (by omega)) (by rw [hl0]; decide)).toT)
    have Hl0 := Lib.hid hl0
    have Hh0 := Lib.hid hh0
    obtain ⟨n0, hn0⟩ : ∃ n, n = h0.length := ⟨_, rfl⟩
    clear hb HbW HR hok hKA HKA hUn HC hl0 hh0
    go_wp2_with fail
    go_loopw [4, 20] (fun t i wr => ∃ (k : Nat) (x : List UInt8) (A : Option Addr) (c : Nat), k ≤ C.length ∧ i = .int .i64 k ∧ t = .slice A x.length c ∧ Hid (x = h0 ++ unsB C k) ∧ Hid (OwnT wr W.heap.size (.slice A x.length c) x) ∧ Hid (Say W.heap.size W wr)) (fun _ i _ => C.length - (intOf i).toNat)
    case atStart => exact ⟨0, h0, _, 1, Nat.zero_le _, rfl, by rw [Hl0.out], Lib.hid (by simp [unsB]), Lib.hid (by have := Hlit.out; rw [Hl0.out] at this ⊢; exact this), Lib.hid ((Say.refl W.heap.size W).alloc (Nat.le_refl _) _)⟩
    case round =>
      obtain ⟨k, x, At, ct, hk, rfl, rfl, hx, hO, hY⟩ := hrel
      have hxl : x.length ≤ 1 + 5105 * k := by
        have := hbd.out k hk
        rw [hx.out, List.length_append, Hl0.out]
        omega
      have hsz := hY.out.size
      by_cases hlt : k < C.length
      · obtain ⟨ad, rfl, _, hbk, hat⟩ := (HL.out.below (hY.out.below.mono hBW)).2 (by omega)
        obtain ⟨v0, v1, v2, ⟨d0, d1, d2⟩, rfl, rfl, UA, uc, rfl, hI⟩ := hat k hlt
        obtain ⟨⟨hp0, hp3⟩, ⟨hr1, hr24⟩, ⟨hu1, hu300⟩, hin⟩ := HUn.out k hlt
        have hnext : h0 ++ unsB C (k + 1) = x ++ [UInt8.ofNat C[k].params.toNat, UInt8.ofNat C[k].regs.toNat] ++ long C[k].l.length ++ insB C[k].l C[k].l.length := by rw [unsB_succ hlt, hx.out]; unfold unB1 unH; simp
        obtain ⟨ul, hul⟩ : ∃ y, C[k].l = y := ⟨_, rfl⟩
        obtain ⟨ui, hup⟩ : ∃ y, C[k].params = y := ⟨_, rfl⟩
        obtain ⟨ri, hur⟩ : ∃ y, C[k].regs = y := ⟨_, rfl⟩
        have hin' : ∀ j (hj : j < ul.length), InB ul[j] := by subst hul; exact hin
        rw [hul] at d2 hI hnext hu1 hu300
        rw [hup] at d0 hnext hp0 hp3
        rw [hur] at d1 hnext hr1 hr24
        obtain ⟨up, rfl⟩ : ∃ n : Nat, ui = n := ⟨ui.toNat, by omega⟩
        obtain ⟨ur, rfl⟩ : ∃ n : Nat, ri = n := ⟨ri.toNat, by omega⟩
        rw [Int.toNat_natCast, Int.toNat_natCast] at hnext
        obtain ⟨nu, hnu⟩ : ∃ n, ul.length = n := ⟨_, rfl⟩
        rw [hnu] at d2 hu1 hu300 hnext
        obtain ⟨r2, hr2⟩ : ∃ y, [UInt8.ofNat up, UInt8.ofNat ur] = y := ⟨_, rfl⟩
        rw [hr2] at hnext
        have hr2l : r2.length = 2 := by rw [← hr2]; rfl
        obtain ⟨y, hy⟩ : ∃ y, x ++ r2 = y := ⟨_, rfl⟩
        obtain ⟨z, hz⟩ : ∃ z, y ++ long nu = z := ⟨_, rfl⟩
        have hyl : y.length ≤ 3 + 5105 * k := by rw [← hy, List.length_append]; omega
        have hzl : z.length ≤ 6 + 5105 * k := by rw [← hz, List.length_append]; show _ + 3 ≤ _; omega
        have Hnext := Lib.hid (show h0 ++ unsB C (k + 1) = z ++ insB ul nu by rw [hnext, ← hz, ← hy])
        have Hin := Lib.hid hin'
        have Hy := Lib.hid hy
        have Hz := Lib.hid hz
        have Hr2 := Lib.hid hr2
        have Hr2l := Lib.hid hr2l
        have Hnu := Lib.hid hnu
        have hHI : Hid _ := Lib.hid (hI.below ((blOne wr (.cells #[.int .i64 up, .int .i64 ur, .slice UA nu uc] 102)).mono (by omega)))
        have HOa := Lib.hid (hO.out.alloc (.cells #[.int .i64 up, .int .i64 ur, .slice UA nu uc] 102))
        have HYa := Lib.hid (hY.out.alloc hsz (.cells #[.int .i64 up, .int .i64 ur, .slice UA nu uc] 102))
        have HKu := Lib.hid (Blk.new wr 102 #[.int .i64 up, .int .i64 ur, .slice UA nu uc])
        have hBr : B ≤ wr.heap.size := by omega
        have HLong := Lib.hid (fun v w => appendLong_c y v nu W.heap.size w)
        have hsa : W.heap.size ≤ (wr.alloc (.cells #[.int .i64 up, .int .i64 ur, .slice UA nu uc] 102)).heap.size := by rw [World.size_alloc]; omega
        clear hat hnext hx hO hY hul hup hur hy hz hr2 hr2l hI hnu hin hin'
        go_wp2_with (first
          | (at_builtin; refine wpList_litT (r := r2) rfl (.tmp 24) (.tmp 31) rfl rfl HOa.out (by rw [← Hr2.out]; first | exact cell2 _ _ | exact cell2' (by omega) (by omega)) rfl Hr2l.out (by first | rfl | simp) Hy.out (by have := Hr2l.out; omega) hsa ?_; intro A3 c3 w3 hO3 hY3; have HO3 := Lib.hid hO3; have hK3 := HKu.out.say hY3 (by decide); obtain ⟨r0, r1, r2'⟩ := hK3.three; have HK3 := Lib.hid hK3; have HY3 := Lib.hid (HYa.out.trans hY3); have hs3 : W.heap.size ≤ w3.heap.size := HY3.out.size; have HI3 := Lib.hid (hHI.out.below (hY3.below.mono hBW)); clear hO3 hY3 hK3)
          | (go_at_call 62; refine (HLong.out _ w3 (by omega) hs3 (by omega) HO3.out).mono ?_; rintro e w4 ⟨A4, c4, rfl, hO4, hY4⟩; rw [Hz.out] at hO4; have hK4 := HK3.out.say hY4 (by decide); obtain ⟨s0, s1, s2⟩ := hK4.three; have HY4 := Lib.hid (HY3.out.trans hY4); have HI4 := Lib.hid (HI3.out.below (hY4.below.mono hBW)); rw [Hz.out]; have HO4 := Lib.hid hO4; clear hO4 hY4 hK4 HLong))
        clear HOa HYa HKu hHI HK3 HO3 HY3 HI3 hsz d0 d1 d2 hxl hyl hsa
        go_loopw [4, 41] (fun t i wr => ∃ (j : Nat) (y : List UInt8) (A : Option Addr) (c : Nat), j ≤ nu ∧ i = .int .i64 j ∧ t = .slice A y.length c ∧ Hid (y = z ++ insB ul j) ∧ Hid (OwnT wr W.heap.size (.slice A y.length c) y) ∧ Hid (Say W.heap.size W wr) ∧ Hid (InL wr L B UA ul)) (fun _ i _ => nu - (intOf i).toNat)
        case atStart => exact ⟨0, z, A4, c4, Nat.zero_le _, rfl, rfl, Lib.hid (by simp [insB]), HO4, HY4, HI4⟩
        case round =>
          obtain ⟨j, yy, Aj, cj, hj, rfl, rfl, hx, hO, hY, hI⟩ := hrel
          have hyyl : yy.length ≤ 6 + 5105 * k + 17 * j := by
            rw [hx.out, List.length_append]
            have := insB_len Hin.out j (by rw [Hnu.out]; exact hj)
            omega
          have hszi := hY.out.size
          by_cases hltj : j < nu
          · have hltf : j < ul.length := by rw [Hnu.out]; exact hltj
            obtain ⟨fd, rfl, _, hfdb, hfat⟩ := hI.out.2 (by omega)
            obtain ⟨y0, y1, y2, y3, y4, ⟨f0, f1, f2, f3, f4⟩, rfl, rfl, rfl, rfl, NA, nc, rfl, hN, hnm⟩ := hfat j hltf
            obtain ⟨⟨ho0, ho1⟩, ⟨ha0, ha1⟩, ⟨hb0, hb1⟩, ⟨hc0, hc1⟩, hn6⟩ := Hin.out j hltf
            have hnext : z ++ insB ul (j + 1) = yy ++ [UInt8.ofNat ul[j].op.toNat] ++ long ul[j].a.toNat ++ long ul[j].b.toNat ++ long ul[j].c.toNat ++ nameT ul[j].name := by rw [insB_succ hltf, hx.out]; unfold inB1 nameT; simp
            obtain ⟨nm, hnme⟩ : ∃ n, ul[j].name = n := ⟨_, rfl⟩
            obtain ⟨oi, hoi⟩ : ∃ n, ul[j].op = n := ⟨_, rfl⟩
            obtain ⟨ia, hia⟩ : ∃ n, ul[j].a = n := ⟨_, rfl⟩
            obtain ⟨ib, hib⟩ : ∃ n, ul[j].b = n := ⟨_, rfl⟩
            obtain ⟨ic, hic⟩ : ∃ n, ul[j].c = n := ⟨_, rfl⟩
            rw [hnme] at f4 hn6 hN hnext
            rw [hoi] at f0 ho0 ho1 hnext
            rw [hia] at f1 ha0 ha1 hnext
            rw [hib] at f2 hb0 hb1 hnext
            rw [hic] at f3 hc0 hc1 hnext
            obtain ⟨op, rfl⟩ : ∃ n : Nat, oi = n := ⟨oi.toNat, by omega⟩
            obtain ⟨oa, rfl⟩ : ∃ n : Nat, ia = n := ⟨ia.toNat, by omega⟩
            obtain ⟨ob, rfl⟩ : ∃ n : Nat, ib = n := ⟨ib.toNat, by omega⟩
            obtain ⟨oc, rfl⟩ : ∃ n : Nat, ic = n := ⟨ic.toNat, by omega⟩
            rw [Int.toNat_natCast, Int.toNat_natCast, Int.toNat_natCast, Int.toNat_natCast] at hnext
            obtain ⟨r1, hr1'⟩ : ∃ y, [UInt8.ofNat op] = y := ⟨_, rfl⟩
            rw [hr1'] at hnext
            have hr1l : r1.length = 1 := by rw [← hr1']; rfl
            obtain ⟨u1, hu1'⟩ : ∃ y, yy ++ r1 = y := ⟨_, rfl⟩
            obtain ⟨u2, hu2'⟩ : ∃ y, u1 ++ long oa = y := ⟨_, rfl⟩
            obtain ⟨u3, hu3'⟩ : ∃ y, u2 ++ long ob = y := ⟨_, rfl⟩
            obtain ⟨u4, hu4'⟩ : ∃ y, u3 ++ long oc = y := ⟨_, rfl⟩
            obtain ⟨u5, hu5'⟩ : ∃ y, u4 ++ nameT nm = y := ⟨_, rfl⟩
            have hul1 : u1.length ≤ 7 + 5105 * k + 17 * j := by rw [← hu1', List.length_append]; omega
            have hul2 : u2.length ≤ 10 + 5105 * k + 17 * j := by rw [← hu2', List.length_append]; show _ + 3 ≤ _; omega
            have hul3 : u3.length ≤ 13 + 5105 * k + 17 * j := by rw [← hu3', List.length_append]; show _ + 3 ≤ _; omega
            have hul4 : u4.length ≤ 16 + 5105 * k + 17 * j := by rw [← hu4', List.length_append]; show _ + 3 ≤ _; omega
            rw [hu1', hu2', hu3', hu4', hu5'] at hnext
            have Hnx := Lib.hid hnext
            have Hr1 := Lib.hid hr1'
            have Hr1l := Lib.hid hr1l
            have Hu1 := Lib.hid hu1'
            have Hu2 := Lib.hid hu2'
            have Hu3 := Lib.hid hu3'
            have Hu4 := Lib.hid hu4'
            have Hu5 := Lib.hid hu5'
            have HLa := Lib.hid (fun v w => appendLong_c u1 v oa W.heap.size w)
            have HLb := Lib.hid (fun v w => appendLong_c u2 v ob W.heap.size w)
            have HLc := Lib.hid (fun v w => appendLong_c u3 v oc W.heap.size w)
            have HLn := Lib.hid (fun v w => appendName_c u4 nm v W.heap.size B NA nc w hn6)
            have hop : op < 256 := by omega
            have hBr : B ≤ wr.heap.size := by omega
            have HXO := Lib.hid (hO.out.alloc (.cells #[.int .i64 op, .int .i64 oa, .int .i64 ob, .int .i64 oc, .slice NA nm.length nc] 104))
            have HXY := Lib.hid (hY.out.alloc hszi (.cells #[.int .i64 op, .int .i64 oa, .int .i64 ob, .int .i64 oc, .slice NA nm.length nc] 104))
            have HXK := Lib.hid (Blk.new wr 104 #[.int .i64 op, .int .i64 oa, .int .i64 ob, .int .i64 oc, .slice NA nm.length nc])
            have HXI := Lib.hid (hI.out.below ((blOne wr (.cells #[.int .i64 op, .int .i64 oa, .int .i64 ob, .int .i64 oc, .slice NA nm.length nc] 104)).mono hBr))
            have HXN := Lib.hid (hN.1.below ((blOne wr (.cells #[.int .i64 op, .int .i64 oa, .int .i64 ob, .int .i64 oc, .slice NA nm.length nc] 104)).mono hBr))
            have hsX : W.heap.size ≤ (wr.alloc (.cells #[.int .i64 op, .int .i64 oa, .int .i64 ob, .int .i64 oc, .slice NA nm.length nc] 104)).heap.size := by rw [World.size_alloc]; omega
            clear hfat hu1' hu2' hu3' hu4' hu5' hnext hN hx hnme hoi hia hib hic hO hY hI hr1' hr1l
            go_wp2_with (first
              | (at_builtin; refine wpList_litT (r := r1) rfl (.tmp 45) (.tmp 49) rfl rfl HXO.out (by rw [← Hr1.out]; first | exact cell1 _ | exact cell1' (by omega)) rfl Hr1l.out (by first | rfl | simp) Hu1.out (by have := Hr1l.out; omega) hsX ?_; intro A5 c5 w5 hO5 hY5; have HO5 := Lib.hid hO5; have hK5 := HXK.out.say hY5 (by decide); obtain ⟨e0, e1, e2, e3, e4⟩ := Blk.five hK5; have HK5 := Lib.hid hK5; have HY5 := Lib.hid (HXY.out.trans hY5); have hs5 : W.heap.size ≤ w5.heap.size := HY5.out.size; have HI5 := Lib.hid (HXI.out.below (hY5.below.mono hBW)); have HN5 := Lib.hid (HXN.out.below (hY5.below.mono hBW)); clear hO5 hY5 hK5 HXO HXK HXY HXI HXN hsX)
              | (go_at_call 62; refine (HLc.out _ w7 (by omega) hs7 (by omega) HO7.out).mono ?_; rintro e w8 ⟨A8, c8, rfl, hO8, hY8⟩; rw [Hu4.out] at hO8; have hK8 := HK7.out.say hY8 (by decide); obtain ⟨g70, g71, g72, g73, g74⟩ := Blk.five hK8; have HK8 := Lib.hid hK8; have HY8 := Lib.hid (HY7.out.trans hY8); have hs8 : W.heap.size ≤ w8.heap.size := HY8.out.size; have HI8 := Lib.hid (HI7.out.below (hY8.below.mono hBW)); have HN8 := Lib.hid (HN7.out.below (hY8.below.mono hBW)); rw [Hu4.out]; have HO8 := Lib.hid hO8; clear hO8 hY8 hK8 HLc HO7 HK7 HY7 HI7 HN7)
              | (go_at_call 62; refine (HLb.out _ w6 (by omega) hs6 (by omega) HO6.out).mono ?_; rintro e w7 ⟨A7, c7, rfl, hO7, hY7⟩; rw [Hu3.out] at hO7; have hK7 := HK6.out.say hY7 (by decide); obtain ⟨g60, g61, g62, g63, g64⟩ := Blk.five hK7; have HK7 := Lib.hid hK7; have HY7 := Lib.hid (HY6.out.trans hY7); have hs7 : W.heap.size ≤ w7.heap.size := HY7.out.size; have HI7 := Lib.hid (HI6.out.below (hY7.below.mono hBW)); have HN7 := Lib.hid (HN6.out.below (hY7.below.mono hBW)); rw [Hu3.out]; have HO7 := Lib.hid hO7; clear hO7 hY7 hK7 HLb HO6 HK6 HY6 HI6 HN6)
              | (go_at_call 62; refine (HLa.out _ w5 (by omega) hs5 (by omega) HO5.out).mono ?_; rintro e w6 ⟨A6, c6, rfl, hO6, hY6⟩; rw [Hu2.out] at hO6; have hK6 := HK5.out.say hY6 (by decide); obtain ⟨g50, g51, g52, g53, g54⟩ := Blk.five hK6; have HK6 := Lib.hid hK6; have HY6 := Lib.hid (HY5.out.trans hY6); have hs6 : W.heap.size ≤ w6.heap.size := HY6.out.size; have HI6 := Lib.hid (HI5.out.below (hY6.below.mono hBW)); have HN6 := Lib.hid (HN5.out.below (hY6.below.mono hBW)); rw [Hu2.out]; have HO6 := Lib.hid hO6; clear hO6 hY6 hK6 HLa HO5 HK5 HY5 HI5 HN5)
              | (go_at_call 63; refine (HLn.out _ w8 hs8 hBW (by omega) HO8.out HN8.out).mono ?_; rintro e w9 ⟨A9, c9, rfl, hO9, hY9⟩; rw [Hu5.out] at hO9; have HI9 := Lib.hid (HI8.out.below (hY9.below.mono hBW)); have HY9 := Lib.hid (HY8.out.trans hY9); rw [Hu5.out]; have HO9 := Lib.hid hO9; clear hO9 hY9 HLn HK8))
            go_roundw
            case rel => exact ⟨j + 1, u5, A9, c9, by omega, by go_num, rfl, Lib.hid Hnx.out.symm, HO9, HY9, HI9⟩
            case measure => simp [intOf]; omega
          · obtain rfl : j = nu := by omega
            go_wp2
            go_roundw
            case rel => exact ⟨k + 1, yy, Aj, cj, by omega, by go_num, rfl, Lib.hid (by rw [Hnext.out, hx.out]), hO, hY⟩
            case measure => simp [intOf]; omega
      · obtain rfl : k = C.length := by omega
        go_wp2
        refine bodyPost_ret (v := .tuple #[.slice At x.length ct, .bool true]) (by simp [results, Tryd.results33, go_sem]) rfl ?_
        rw [E.out, Hok.out, ← hx.out]
        exact ⟨_, _, rfl, hO.out.less Hb.out.size, Hb.out.trans (hY.out.below.mono Hb.out.size)⟩
end
end CodBI
end Go.Proofs.YtebgigiakfjocaaDoor
