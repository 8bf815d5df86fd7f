/-
  The program's CodeText.
-/
import Derived.Test.YtebgigiakfjocaaDoorCodTxt
import Derived.Test.YtebgigiakfjocaaDoorAppW
import Derived.Test.YtebgigiakfjocaaDoorImplCode2
import Derived.Test.YtebgigiakfjocaaDoorRes
import Derived.Deep.RegionLaw
import Derived.Deep.RegionHeld3
import Derived.Deep.DeepCutAuto
namespace Go.Proofs.YtebgigiakfjocaaDoor
open Go.RowKit
set_option linter.unusedVariables false
set_option linter.unusedSimpArgs false
namespace Cod

/-- the table's words -/
def WordsF (w : World) (B : Nat) : Prop := 1 < B ∧ ∀ k, k < 15 → w.cell? ⟨1, k * 5, none⟩ = some (.string ⟨(opW k).toArray⟩)
theorem WordsF.below {w w' : World} {B : Nat} (h : WordsF w B) (hb : Below B w w') : WordsF w' B := ⟨h.1, fun k hk => (hb.cell (p := ⟨1, k * 5, none⟩) h.1).trans (h.2 k hk)⟩
theorem WordsF.more {w : World} {B B' : Nat} (h : WordsF w B) (hB : B ≤ B') : WordsF w B' := ⟨by have := h.1; omega, h.2⟩
theorem Blk.five {w : World} {g : Nat} {t : TypeId} {a b c d e : Value} (h : Blk w g t #[a, b, c, d, e]) : w.cell? ⟨g, 0, none⟩ = some a ∧ w.cell? ⟨g, 1, none⟩ = some b ∧ w.cell? ⟨g, 2, none⟩ = some c ∧ w.cell? ⟨g, 3, none⟩ = some d ∧ w.cell? ⟨g, 4, none⟩ = some e :=
  ⟨by rw [h.cell]; rfl, by rw [h.cell]; rfl, by rw [h.cell]; rfl, by rw [h.cell]; rfl, by rw [h.cell]; rfl⟩
theorem numsT_two (a b : Int) (ha : 0 ≤ a) (hb : 0 ≤ b) : numsT [a, b] = [32] ++ Lib.decDigits a.toNat ++ [32] ++ Lib.decDigits b.toNat := by
  obtain ⟨a, rfl⟩ : ∃ n : Nat, a = n := ⟨a.toNat, by omega⟩
  obtain ⟨b, rfl⟩ : ∃ n : Nat, b = n := ⟨b.toNat, by omega⟩
  simp [numsT, Lib.itoa_nonneg]
theorem numsT_three (a b c : Int) (ha : 0 ≤ a) (hb : 0 ≤ b) (hc : 0 ≤ c) : numsT [a, b, c] = [32] ++ Lib.decDigits a.toNat ++ [32] ++ Lib.decDigits b.toNat ++ [32] ++ Lib.decDigits c.toNat := by
  obtain ⟨a, rfl⟩ : ∃ n : Nat, a = n := ⟨a.toNat, by omega⟩
  obtain ⟨b, rfl⟩ : ∃ n : Nat, b = n := ⟨b.toNat, by omega⟩
  obtain ⟨c, rfl⟩ : ∃ n : Nat, c = n := ⟨c.toNat, by omega⟩
  simp [numsT, Lib.itoa_nonneg]
theorem numsT_ends {ns : List Int} (h : ∀ n ∈ ns, 0 ≤ n ∧ n ≤ 9223372036854775807) : ∀ n ∈ ns, -9223372036854775808 ≤ n ∧ n ≤ 9223372036854775807 := fun n hn => by have := h n hn; omega

section
variable (C : List Un) (CA : Option Addr) (cc L B : Nat) (w : World)
set_option maxRecDepth 100000 in
set_option maxHeartbeats 8000000 in
theorem implCodeText_c (hB : B ≤ w.heap.size) (hsz : unsSz C ≤ 1048576) (hC : UnL w L B CA C) (hF : Forms w B) (hW : WordsF w B) (htab : Lib.TabBelow Tryd.prog w.heap.size w "internal/strconv.uint64pow10" .u64 Lib.pow10Tab) :
    Calls Tryd.prog 29 #[.agg #[.slice CA C.length cc]] w (AnsT w (codTxt C)) := by
  have hbW := blwC w (.cells #[.slice CA C.length cc] 56)
  have HR := Lib.hid (implCodeOk_c C CA cc L B (w.alloc (.cells #[.slice CA C.length cc] 56)) (Nat.le_trans hB hbW.size) hsz (hC.below (hbW.mono hB)) (hF.below (hbW.mono hB)))
  have HKA := Lib.hid (Blk.new w 56 #[.slice CA C.length cc])
  have HbW := Lib.hid hbW
  have HC := Lib.hid hC
  have HWd := Lib.hid hW
  have Htab := Lib.hid htab
  clear hsz hC hF hW htab hbW
  go_enter Tryd.func29, Tryd.ntmps29
  go_wp2_with fail
  refine HR.out.mono ?_
  rintro e W ⟨rfl, hb⟩
  have Hb := Lib.hid (HbW.out.trans (hb.mono HbW.out.size))
  have hs1 := Hb.out.size
  have hKA := HKA.out.below hb HKA.out.lt
  cases hok : codeOk C
  · have E := Lib.hid (show codTxt C = [] by unfold codTxt; rw [hok]; rfl)
    clear hb HbW HR hok hKA HKA
    go_wp2
    go_ret
    rw [E.out]
    exact AnsT.nil Hb.out
  · have E := Lib.hid (show codTxt C = unsTo C C.length by unfold codTxt; rw [hok]; rfl)
    obtain ⟨⟨hC1, hC4⟩, hUn⟩ := codeOk_bd hok
    have HUn := Lib.hid hUn
    have hbd := Lib.hid (unsTo_len hUn)
    obtain ⟨q0, -⟩ := hKA.uno
    have HL := Lib.hid (HC.out.below (Hb.out.mono hB))
    have HWW := Lib.hid (HWd.out.below (Hb.out.mono hB))
    have hBW : B ≤ W.heap.size := by omega
    have HtabW := Lib.hid (show Lib.TabBelow Tryd.prog W.heap.size W "internal/strconv.uint64pow10" .u64 Lib.pow10Tab from fun w' h' => Htab.out w' (Hb.out.trans (h'.mono hs1)))
    clear hb HbW HR hok hKA HKA hUn HC HWd Htab
    go_wp2_with fail
    go_loopw [3, 14] (fun t i wr => ∃ (k : Nat) (x : List UInt8) (A : Option Addr) (c : Nat), k ≤ C.length ∧ i = .int .i64 k ∧ t = .slice A x.length c ∧ Hid (x = unsTo C k) ∧ Hid (OwnB wr W.heap.size (.slice A x.length c) x) ∧ Hid (Say W.heap.size W wr)) (fun _ i _ => C.length - (intOf i).toNat)
    case atStart => exact ⟨0, [], none, 0, Nat.zero_le _, rfl, rfl, Lib.hid rfl, Lib.hid (OwnB.nil _ _), Lib.hid (Say.refl _ _)⟩
    case round =>
      obtain ⟨k, x, At, ct, hk, rfl, rfl, hx, hO, hY⟩ := hrel
      have hxl : x.length ≤ 24060 * k := hx.out ▸ hbd.out k hk
      have hsz := hY.out.size
      by_cases hlt : k < C.length
      · obtain ⟨ad, rfl, _, hbk, hat⟩ := (HL.out.below (hY.out.below.mono hBW)).2 (by omega)
        obtain ⟨v0, v1, v2, ⟨d0, d1, d2⟩, rfl, rfl, UA, uc, rfl, hI⟩ := hat k hlt
        obtain ⟨⟨hp0, hp3⟩, ⟨hr1, hr24⟩, ⟨hu1, hu300⟩, hin⟩ := HUn.out k hlt
        have hnext : unsTo C (k + 1) = x ++ unHead C[k] ++ insTo C[k].l C[k].l.length := by rw [unsTo_succ hlt, ← hx.out]; unfold unTxt; simp
        have hhead : unHead C[k] = unitW ++ numsT [C[k].params, C[k].regs] ++ [10] := by rw [numsT_two _ _ hp0 (by omega)]; unfold unHead; simp
        rw [hhead] at hnext
        obtain ⟨ul, hul⟩ : ∃ y, C[k].l = y := ⟨_, rfl⟩
        obtain ⟨up, hup⟩ : ∃ y, C[k].params = y := ⟨_, rfl⟩
        obtain ⟨ur, hur⟩ : ∃ y, C[k].regs = y := ⟨_, rfl⟩
        have hin' : ∀ j (hj : j < ul.length), InB ul[j] := by subst hul; exact hin
        rw [hul] at d2 hI hnext hu1 hu300
        rw [hup] at d0 hnext hp0 hp3
        rw [hur] at d1 hnext hr1 hr24
        have hnl : (numsT [up, ur]).length ≤ 44 := numsT_len (ns := [up, ur]) (fun n hn => by simp at hn; rcases hn with rfl | rfl <;> omega)
        obtain ⟨y, hy⟩ : ∃ y, x ++ unitW ++ numsT [up, ur] = y := ⟨_, rfl⟩
        obtain ⟨z, hz⟩ : ∃ z, y ++ [10] = z := ⟨_, rfl⟩
        have hyl : y.length ≤ 24060 * k + 48 := by rw [← hy, List.length_append, List.length_append]; show _ + 4 + _ ≤ _; omega
        have hzl : z.length ≤ 24060 * k + 49 := by rw [← hz, List.length_append]; simp only [List.length_cons, List.length_nil]; omega
        have Hnext := Lib.hid (show unsTo C (k + 1) = z ++ insTo ul ul.length by rw [hnext, ← hz, ← hy]; simp)
        have Hin := Lib.hid hin'
        have Hz := Lib.hid hz
        obtain ⟨nu, hnu⟩ : ∃ n, ul.length = n := ⟨_, rfl⟩
        rw [hnu] at d2 hu1 hu300
        have Hnu := Lib.hid hnu
        have HI := Lib.hid hI
        have HKu := Lib.hid (Blk.new wr 102 #[.int .i64 up, .int .i64 ur, .slice UA nu uc])
        have hsa : (wr.alloc (.cells #[.int .i64 up, .int .i64 ur, .slice UA nu uc] 102)).heap.size = wr.heap.size + 1 := by simp
        have HYa := Lib.hid (hY.out.alloc hsz (.cells #[.int .i64 up, .int .i64 ur, .slice UA nu uc] 102))
        have hg2 := Blk.new (wr.alloc (.cells #[.int .i64 up, .int .i64 ur, .slice UA nu uc] 102)) 3 #[.int .i64 up, .int .i64 ur]
        rw [hsa] at hg2
        have Happ := Lib.hid (appendWords_c x unitW [up, ur] (.slice At x.length ct) (wr.heap.size + 1) 2 W.heap.size ⟨#[117, 110, 105, 116]⟩ ((wr.alloc (.cells #[.int .i64 up, .int .i64 ur, .slice UA nu uc] 102)).alloc (.cells #[.int .i64 up, .int .i64 ur] 3)) rfl (by simp; omega) (by omega) (by decide) (by simp) (fun n hn => by simp at hn; rcases hn with rfl | rfl <;> omega) hg2 (OwnB.alloc (OwnB.alloc hO.out _) _) (tab_say HtabW.out ((hY.out.alloc hsz _).alloc (by simp; omega) _)))
        rw [hy] at Happ
        have HYb := Lib.hid ((hY.out.alloc hsz (.cells #[.int .i64 up, .int .i64 ur, .slice UA nu uc] 102)).alloc (by simp; omega) (.cells #[.int .i64 up, .int .i64 ur] 3))
        have HKb := Lib.hid (HKu.out.alloc (.cells #[.int .i64 up, .int .i64 ur] 3))
        have HIb := Lib.hid ((hI.below ((blOne wr (.cells #[.int .i64 up, .int .i64 ur, .slice UA nu uc] 102)).mono (by omega))).below ((blOne (wr.alloc (.cells #[.int .i64 up, .int .i64 ur, .slice UA nu uc] 102)) (.cells #[.int .i64 up, .int .i64 ur] 3)).mono (by rw [hsa]; omega)))
        have hsb : ((wr.alloc (.cells #[.int .i64 up, .int .i64 ur, .slice UA nu uc] 102)).alloc (.cells #[.int .i64 up, .int .i64 ur] 3)).heap.size = wr.heap.size + 2 := by simp
        have hszo := hsz
        clear hat hnext hhead hx hO hY hul hup hur hy hz hI hnu hin hin' HKu HYa hg2
        go_wp2_with (first
          | (go_at_call 53; refine Happ.out.mono ?_; rintro e w3 ⟨A3, c3, rfl, hO3, hY3⟩; have HO3 := Lib.hid hO3; have HK3 := Lib.hid (HKb.out.say hY3 (by decide)); have HY3 := Lib.hid (HYb.out.trans hY3); have hs3 := hY3.size; rw [hsb] at hs3; have HI3 := Lib.hid (HIb.out.below (hY3.below.mono hBW)); clear hO3 hY3 Happ)
          | (at_builtin; refine wpList_oneB (b := 10) rfl (.tmp 25) (.tmp 26) rfl rfl HO3.out 10 rfl rfl (by first | rfl | simp) Hz.out (by omega) (by omega) ?_; intro A4 c4 w4 hO4 hY4; have HO4 := Lib.hid hO4; have hK4 := HK3.out.say hY4 (by decide); obtain ⟨r0, r1, r2⟩ := hK4.three; have HY4 := Lib.hid (HY3.out.trans hY4); have hs4 := hY4.size; have HI4 := Lib.hid (HI3.out.below (hY4.below.mono hBW)); clear hO4 hY4 hK4))
        clear HYb HKb HIb hsa hsb HK3 HO3 HY3 HI3 hsz d0 d1 d2 hxl hyl
        go_loopw [3, 31] (fun t i wr => ∃ (j : Nat) (y : List UInt8) (A : Option Addr) (c : Nat), j ≤ nu ∧ i = .int .i64 j ∧ t = .slice A y.length c ∧ Hid (y = z ++ insTo ul j) ∧ Hid (OwnB wr W.heap.size (.slice A y.length c) y) ∧ Hid (Say W.heap.size W wr) ∧ Hid (InL wr L B UA ul)) (fun _ i _ => nu - (intOf i).toNat)
        case atStart => exact ⟨0, z, A4, c4, Nat.zero_le _, rfl, rfl, Lib.hid (by simp [insTo]), HO4, HY4, HI4⟩
        case round =>
          obtain ⟨j, yy, Aj, cj, hj, rfl, rfl, hx, hO, hY, hI⟩ := hrel
          have hxl : yy.length ≤ 24060 * k + 49 + 80 * j := by
            rw [hx.out, List.length_append]
            have := insTo_len Hin.out j (by rw [Hnu.out]; exact hj)
            omega
          have hszi := hY.out.size
          by_cases hltj : j < nu
          · have hltf : j < ul.length := by rw [Hnu.out]; exact hltj
            obtain ⟨fd, rfl, _, hfdb, hfat⟩ := hI.out.2 (by omega)
            obtain ⟨y0, y1, y2, y3, y4, ⟨f0, f1, f2, f3, f4⟩, rfl, rfl, rfl, rfl, NA, nc, rfl, hN, hnm⟩ := hfat j hltf
            obtain ⟨⟨ho0, ho1⟩, ⟨ha0, ha1⟩, ⟨hb0, hb1⟩, ⟨hc0, hc1⟩, hn6⟩ := Hin.out j hltf
            have hnext : z ++ insTo ul (j + 1) = yy ++ opW ul[j].op.toNat ++ numsT [ul[j].a, ul[j].b, ul[j].c] ++ nmT ul[j].name ++ [10] := by rw [insTo_succ hltf, numsT_three _ _ _ ha0 hb0 hc0, hx.out]; unfold inTxt; simp
            obtain ⟨nm, hnme⟩ : ∃ n, ul[j].name = n := ⟨_, rfl⟩
            obtain ⟨oi, hoi⟩ : ∃ n, ul[j].op = n := ⟨_, rfl⟩
            obtain ⟨oa, hoa⟩ : ∃ n, ul[j].a = n := ⟨_, rfl⟩
            obtain ⟨ob, hob⟩ : ∃ n, ul[j].b = n := ⟨_, rfl⟩
            obtain ⟨oc, hoc⟩ : ∃ n, ul[j].c = n := ⟨_, rfl⟩
            rw [hnme] at f4 hn6 hN hnext
            rw [hoi] at f0 ho0 ho1 hnext
            rw [hoa] at f1 ha0 ha1 hnext
            rw [hob] at f2 hb0 hb1 hnext
            rw [hoc] at f3 hc0 hc1 hnext
            obtain ⟨op, rfl⟩ : ∃ n : Nat, oi = n := ⟨oi.toNat, by omega⟩
            rw [Int.toNat_natCast] at hnext
            have hwl := opW_len op
            have hnl : (numsT [oa, ob, oc]).length ≤ 66 := numsT_len (ns := [oa, ob, oc]) (fun n hn => by simp at hn; rcases hn with rfl | rfl | rfl <;> omega)
            obtain ⟨p1, hp1⟩ : ∃ y, yy ++ opW op ++ numsT [oa, ob, oc] = y := ⟨_, rfl⟩
            have hpl1 : p1.length ≤ 24060 * k + 119 + 80 * j := by rw [← hp1, List.length_append, List.length_append]; omega
            rw [hp1] at hnext
            have Hnx := Lib.hid hnext
            have hBr : B ≤ wr.heap.size := by omega
            have HX := Lib.hid (hY.out.alloc hszi (.cells #[.int .i64 op, .int .i64 oa, .int .i64 ob, .int .i64 oc, .slice NA nm.length nc] 104))
            have HXO := Lib.hid (OwnB.alloc hO.out (.cells #[.int .i64 op, .int .i64 oa, .int .i64 ob, .int .i64 oc, .slice NA nm.length nc] 104))
            have HXI := Lib.hid (hI.out.below ((blOne wr (.cells #[.int .i64 op, .int .i64 oa, .int .i64 ob, .int .i64 oc, .slice NA nm.length nc] 104)).mono hBr))
            have HXK := Lib.hid (Blk.new wr 104 #[.int .i64 op, .int .i64 oa, .int .i64 ob, .int .i64 oc, .slice NA nm.length nc])
            have HN := Lib.hid (hN.1.below ((blOne wr (.cells #[.int .i64 op, .int .i64 oa, .int .i64 ob, .int .i64 oc, .slice NA nm.length nc] 104)).mono hBr))
            have HWX := Lib.hid (HWW.out.below (HX.out.below.mono hBW))
            have hop : op < 15 := by omega
            obtain ⟨X, hX⟩ : ∃ X, X = wr.alloc (.cells #[.int .i64 op, .int .i64 oa, .int .i64 ob, .int .i64 oc, .slice NA nm.length nc] 104) := ⟨_, rfl⟩
            have hsX : X.heap.size = wr.heap.size + 1 := by rw [hX]; simp
            rw [← hX] at HX HXO HXI HXK HN HWX
            have tb := HWX.out.2 op hop
            have tb1 := fun o => (HWX.out.below ((Below.refl B X).alloc (by omega) o)).2 op hop
            obtain ⟨r0, r1, r2, r3, r4⟩ := Blk.five HXK.out
            have r01 := fun o => (Blk.five (HXK.out.alloc o)).1
            have HgX := Lib.hid hX
            have hBX : B ≤ X.heap.size := by rw [hsX]; omega
            have hg3 := Blk.new X.drew 3 #[.int .i64 oa, .int .i64 ob, .int .i64 oc]
            have HXa := Lib.hid (HX.out.drew.alloc (by show W.heap.size ≤ X.heap.size; omega) (.cells #[.int .i64 oa, .int .i64 ob, .int .i64 oc] 3))
            have HKa := Lib.hid (show Blk (X.drew.alloc (.cells #[.int .i64 oa, .int .i64 ob, .int .i64 oc] 3)) wr.heap.size 104 #[.int .i64 op, .int .i64 oa, .int .i64 ob, .int .i64 oc, .slice NA nm.length nc] from HXK.out.drew.alloc _)
            have HIa := Lib.hid (show InL (X.drew.alloc (.cells #[.int .i64 oa, .int .i64 ob, .int .i64 oc] 3)) L B (some fd) ul from (HXI.out.below (((Below.refl B X).drew).alloc hBX (.cells #[.int .i64 oa, .int .i64 ob, .int .i64 oc] 3))))
            have HNa := Lib.hid (show RB (X.drew.alloc (.cells #[.int .i64 oa, .int .i64 ob, .int .i64 oc] 3)) B NA nm from HN.out.below (((Below.refl B X).drew).alloc hBX (.cells #[.int .i64 oa, .int .i64 ob, .int .i64 oc] 3)))
            have Happ := Lib.hid (appendWords_c yy (opW op) [oa, ob, oc] (.slice Aj yy.length cj) X.heap.size 3 W.heap.size ⟨(opW op).toArray⟩ (X.drew.alloc (.cells #[.int .i64 oa, .int .i64 ob, .int .i64 oc] 3)) (by simp) (by rw [World.size_alloc]; show W.heap.size ≤ X.heap.size + 1; omega) (by omega) (by omega) (by simp) (fun n hn => by simp at hn; rcases hn with rfl | rfl | rfl <;> omega) hg3 (show OwnB (X.drew.alloc (.cells #[.int .i64 oa, .int .i64 ob, .int .i64 oc] 3)) _ _ _ from OwnB.alloc (w := X.drew) HXO.out _) (tab_say HtabW.out HXa.out))
            rw [hp1, hsX] at Happ
            have hsa : (X.drew.alloc (.cells #[.int .i64 oa, .int .i64 ob, .int .i64 oc] 3)).heap.size = wr.heap.size + 2 := by rw [World.size_alloc]; show X.heap.size + 1 = _; omega
            have HS0 := Lib.hid (show Blk X.drew wr.heap.size 104 #[.int .i64 op, .int .i64 oa, .int .i64 ob, .int .i64 oc, .slice NA nm.length nc] ∧ X.drew.cell? ⟨1, op * 5, none⟩ = some (.string ⟨(opW op).toArray⟩) from ⟨HXK.out, HWX.out.2 op hop⟩)
            have HTa := Lib.hid (HWX.out.below (((Below.refl B X).drew).alloc hBX (.cells #[.int .i64 oa, .int .i64 ob, .int .i64 oc] 3)))
            have HS1 := Lib.hid (And.intro HKa.out (HTa.out.2 op hop))
            rw [hX] at HS0 HTa HS1
            rw [hX] at tb tb1 r0 r1 r2 r3 r4 r01 Happ HXa HKa HIa HNa hsa
            clear hfat hp1 hnext hN hx hnme hoi hoa hob hoc hX hO hY hI HX HXO HXI HXK HN HWX hg3 hsX
            go_upto_region 12 with fail
            go_cut [3] (fun t wx => ∃ A c, t = .slice A p1.length c ∧ Hid (OwnB wx W.heap.size (.slice A p1.length c) p1) ∧ Hid (Say W.heap.size W wx) ∧ Hid (Blk wx wr.heap.size 104 #[.int .i64 op, .int .i64 oa, .int .i64 ob, .int .i64 oc, .slice NA nm.length nc]) ∧ Hid (InL wx L B (some fd) ul) ∧ Hid (RB wx B NA nm) ∧ Hid (wr.heap.size ≤ wx.heap.size))
            case first =>
              refine wp_region_noPanic ?_
              refine wp_region_held_drew (S := (fun W => Blk W wr.heap.size 104 #[.int .i64 op, .int .i64 oa, .int .i64 ob, .int .i64 oc, .slice NA nm.length nc] ∧ W.cell? ⟨1, op * 5, none⟩ = some (.string ⟨(opW op).toArray⟩))) (by kernel_rfl) ?_ (fun hHeld => ?_)
              · exact HS0.out
              refine wpAnyH_take (i := 0) (oi := _) (v := ?_) rfl (by kernel_rfl) (by kernel_rfl) (by kernel_rfl) (fun _ _ _ h => h) (Or.inl ⟨by rfl, ?_⟩) (by assumption) ?_
              rotate_left
              focus
                intro w hSw
                obtain ⟨qs0, qs1, qs2, qs3, qs4⟩ := Blk.five hSw.1
                have qsT := hSw.2
                go_simp
                try with_reducible rfl
              try simp only [List.getElem_toArray, List.getElem_cons_succ, List.getElem_cons_zero, Act.put, List.setIfInBounds_toArray, List.set_cons_zero, List.set_cons_succ]
              refine wpAnyH_take (i := 1) (oi := _) (v := ?_) rfl (by kernel_rfl) (by kernel_rfl) (by kernel_rfl) (fun _ _ _ h => h) (Or.inl ⟨by rfl, ?_⟩) (by assumption) ?_
              rotate_left
              focus
                intro w hSw
                obtain ⟨qs0, qs1, qs2, qs3, qs4⟩ := Blk.five hSw.1
                have qsT := hSw.2
                go_simp
                try with_reducible rfl
              try simp only [List.getElem_toArray, List.getElem_cons_succ, List.getElem_cons_zero, Act.put, List.setIfInBounds_toArray, List.set_cons_zero, List.set_cons_succ]
              refine wpAnyH_take (i := 2) (oi := _) (v := ?_) rfl (by kernel_rfl) (by kernel_rfl) (by kernel_rfl) (fun _ _ _ h => h) (Or.inl ⟨by rfl, ?_⟩) (by assumption) ?_
              rotate_left
              focus
                intro w hSw
                obtain ⟨qs0, qs1, qs2, qs3, qs4⟩ := Blk.five hSw.1
                have qsT := hSw.2
                go_simp
                try with_reducible rfl
              try simp only [List.getElem_toArray, List.getElem_cons_succ, List.getElem_cons_zero, Act.put, List.setIfInBounds_toArray, List.set_cons_zero, List.set_cons_succ]
              refine wpAnyH_take (i := 3) (oi := _) (v := ?_) rfl (by kernel_rfl) (by kernel_rfl) (by kernel_rfl) (fun _ _ _ h => h) (Or.inl ⟨by rfl, ?_⟩) (by assumption) ?_
              rotate_left
              focus
                intro w hSw
                obtain ⟨qs0, qs1, qs2, qs3, qs4⟩ := Blk.five hSw.1
                have qsT := hSw.2
                go_simp
                try with_reducible rfl
              try simp only [List.getElem_toArray, List.getElem_cons_succ, List.getElem_cons_zero, Act.put, List.setIfInBounds_toArray, List.set_cons_zero, List.set_cons_succ]
              refine wpAnyH_take (i := 4) (oi := _) (v := ?_) rfl (by kernel_rfl) (by kernel_rfl) (by kernel_rfl) (fun _ _ _ h => h) (Or.inl ⟨by rfl, ?_⟩) (by assumption) ?_
              rotate_left
              focus
                intro w hSw
                obtain ⟨qs0, qs1, qs2, qs3, qs4⟩ := Blk.five hSw.1
                have qsT := hSw.2
                go_simp
                try with_reducible rfl
              try simp only [List.getElem_toArray, List.getElem_cons_succ, List.getElem_cons_zero, Act.put, List.setIfInBounds_toArray, List.set_cons_zero, List.set_cons_succ]
              refine wpAnyH_take (i := 5) (oi := _) (v := ?_) rfl (by kernel_rfl) (by kernel_rfl) (by kernel_rfl) (fun _ _ _ h => h) (Or.inl ⟨by rfl, ?_⟩) (by assumption) ?_
              rotate_left
              focus
                intro w hSw
                obtain ⟨qs0, qs1, qs2, qs3, qs4⟩ := Blk.five hSw.1
                have qsT := hSw.2
                go_simp
                try with_reducible rfl
              try simp only [List.getElem_toArray, List.getElem_cons_succ, List.getElem_cons_zero, Act.put, List.setIfInBounds_toArray, List.set_cons_zero, List.set_cons_succ]
              refine wpAnyH_take (i := 6) (oi := _) (v := ?_) rfl (by kernel_rfl) (by kernel_rfl) (by kernel_rfl) (fun _ _ _ h => h) (Or.inl ⟨by rfl, ?_⟩) (by assumption) ?_
              rotate_left
              focus
                intro w hSw
                obtain ⟨qs0, qs1, qs2, qs3, qs4⟩ := Blk.five hSw.1
                have qsT := hSw.2
                go_simp
                try with_reducible rfl
              try simp only [List.getElem_toArray, List.getElem_cons_succ, List.getElem_cons_zero, Act.put, List.setIfInBounds_toArray, List.set_cons_zero, List.set_cons_succ]
              refine wpAnyH_take (i := 7) (oi := _) (v := ?_) rfl (by kernel_rfl) (by kernel_rfl) (by kernel_rfl) (fun _ _ _ h => h) (Or.inl ⟨by rfl, ?_⟩) (by assumption) ?_
              rotate_left
              focus
                intro w hSw
                obtain ⟨qs0, qs1, qs2, qs3, qs4⟩ := Blk.five hSw.1
                have qsT := hSw.2
                go_simp
                try with_reducible rfl
              try simp only [List.getElem_toArray, List.getElem_cons_succ, List.getElem_cons_zero, Act.put, List.setIfInBounds_toArray, List.set_cons_zero, List.set_cons_succ]
              refine wpAnyH_take (i := 8) (oi := _) (v := ?_) rfl (by kernel_rfl) (by kernel_rfl) (by kernel_rfl) (fun _ _ _ h => h) (Or.inl ⟨by rfl, ?_⟩) (by assumption) ?_
              rotate_left
              focus
                intro w hSw
                obtain ⟨qs0, qs1, qs2, qs3, qs4⟩ := Blk.five hSw.1
                have qsT := hSw.2
                go_simp
                try with_reducible rfl
              try simp only [List.getElem_toArray, List.getElem_cons_succ, List.getElem_cons_zero, Act.put, List.setIfInBounds_toArray, List.set_cons_zero, List.set_cons_succ]
              refine wpAnyH_take (i := 9) (oi := _) (v := ?_) rfl (by kernel_rfl) (by kernel_rfl) (by kernel_rfl) (fun _ _ _ h => h) (Or.inl ⟨by rfl, ?_⟩) (by assumption) ?_
              rotate_left
              focus
                intro w hSw
                obtain ⟨qs0, qs1, qs2, qs3, qs4⟩ := Blk.five hSw.1
                have qsT := hSw.2
                go_simp
                try with_reducible rfl
              try simp only [List.getElem_toArray, List.getElem_cons_succ, List.getElem_cons_zero, Act.put, List.setIfInBounds_toArray, List.set_cons_zero, List.set_cons_succ]
              refine wpAnyH_take (i := 10) (oi := _) (v := ?_) rfl (by kernel_rfl) (by kernel_rfl) (by kernel_rfl) (fun _ _ _ h => h) (Or.inl ⟨by rfl, ?_⟩) (by assumption) ?_
              rotate_left
              focus
                intro w hSw
                obtain ⟨qs0, qs1, qs2, qs3, qs4⟩ := Blk.five hSw.1
                have qsT := hSw.2
                go_simp
                try with_reducible rfl
              try simp only [List.getElem_toArray, List.getElem_cons_succ, List.getElem_cons_zero, Act.put, List.setIfInBounds_toArray, List.set_cons_zero, List.set_cons_succ]
              refine wpAnyH_take (i := 11) (oi := _) (v := ?_) rfl (by kernel_rfl) (by kernel_rfl) (by kernel_rfl) (fun _ _ _ h => h) (Or.inl ⟨by rfl, ?_⟩) (by assumption) ?_
              rotate_left
              focus
                intro w hSw
                obtain ⟨qs0, qs1, qs2, qs3, qs4⟩ := Blk.five hSw.1
                have qsT := hSw.2
                go_simp
                try with_reducible rfl
              try simp only [List.getElem_toArray, List.getElem_cons_succ, List.getElem_cons_zero, Act.put, List.setIfInBounds_toArray, List.set_cons_zero, List.set_cons_succ]
              refine wpAnyH_ready (rs := [12]) (by kernel_rfl) (by simp) ?_
              refine AllReadyH.cons (o := _) rfl (fun K hK => ?_) ?_
              · go_simp
                refine hK.out _ _ ?_ (fun hHeld => ?_)
                · exact HS1.out
                · clear hK K
                  try simp only [List.getElem_toArray, List.getElem_cons_succ, List.getElem_cons_zero, Act.put, List.setIfInBounds_toArray, List.set_cons_zero, List.set_cons_succ]
                  refine wpAnyH_ready (rs := [13]) (by kernel_rfl) (by simp) ?_
                  refine AllReadyH.cons (o := _) rfl (fun K hK => ?_) ?_
                  · go_simp
                    refine Calls.mono Happ.out ?_
                    rintro e w3 ⟨A3, c3, rfl, hO3, hY3⟩
                    have hs3 : wr.heap.size + 2 ≤ w3.heap.size := Nat.le_trans (Nat.le_of_eq hsa.symm) hY3.size
                    have HO3 := Lib.hid hO3
                    have hK3 := HKa.out.say hY3 (by decide)
                    have HI3 := Lib.hid (HIa.out.below (hY3.below.mono hBW))
                    have HN3 := Lib.hid (HNa.out.below (hY3.below.mono hBW))
                    have hT3 := (HTa.out.below (hY3.below.mono hBW)).2 op hop
                    have HY3 := Lib.hid (HXa.out.trans hY3)
                    have HK3 := Lib.hid hK3
                    clear hO3 hY3
                    refine hK.out _ _ ?_ (fun hHeld => ?_)
                    · exact ⟨hK3, hT3⟩
                    · clear hK K
                      try simp only [List.getElem_toArray, List.getElem_cons_succ, List.getElem_cons_zero, Act.put, List.setIfInBounds_toArray, List.set_cons_zero, List.set_cons_succ]
                      refine wpAnyH_take (i := 14) (oi := _) (v := ?_) rfl (by kernel_rfl) (by kernel_rfl) (by kernel_rfl) (fun _ _ _ h => h) (Or.inl ⟨by rfl, ?_⟩) (by assumption) ?_
                      rotate_left
                      focus
                        intro w hSw
                        obtain ⟨qs0, qs1, qs2, qs3, qs4⟩ := Blk.five hSw.1
                        have qsT := hSw.2
                        go_simp
                        try with_reducible rfl
                      try simp only [List.getElem_toArray, List.getElem_cons_succ, List.getElem_cons_zero, Act.put, List.setIfInBounds_toArray, List.set_cons_zero, List.set_cons_succ]
                      refine wpAnyH_done (by kernel_rfl) ?_ _
                      refine NoPanic.normal ?_
                      try go_wp2_with fail
                      go_meet
                      case rel => exact ⟨A3, c3, rfl, HO3, HY3, HK3, HI3, HN3, Lib.hid (by omega)⟩
                  exact AllReadyH.nil
              exact AllReadyH.nil
            case rest =>
              obtain ⟨A5, c5, rfl, HO5, HY5, HK5, HI5, HN5, hs5⟩ := hcut
              have hs5' := hs5.out
              obtain ⟨t0, t1, t2, t3, t4⟩ := Blk.five HK5.out
              clear tb tb1 r0 r1 r2 r3 r4 r01 f0 f1 f2 f3 f4 HXa HKa HIa HNa Happ hsa hs5 HS0 HTa HS1
              by_cases hn0 : 0 < nm.length
              · obtain ⟨p2, hp2⟩ : ∃ y, p1 ++ [32] = y := ⟨_, rfl⟩
                obtain ⟨p3, hp3⟩ : ∃ y, p2 ++ nm = y := ⟨_, rfl⟩
                obtain ⟨p4, hp4⟩ : ∃ y, p3 ++ [10] = y := ⟨_, rfl⟩
                have hpl2 : p2.length ≤ 24060 * k + 120 + 80 * j := by rw [← hp2, List.length_append]; simp only [List.length_cons, List.length_nil]; omega
                have hpl3 : p3.length ≤ 24060 * k + 126 + 80 * j := by rw [← hp3, List.length_append]; omega
                have Hend := Lib.hid (show z ++ insTo ul (j + 1) = p4 by rw [Hnx.out, ← hp4, ← hp3, ← hp2]; unfold nmT; rw [if_pos hn0]; simp)
                have Hp2 := Lib.hid hp2
                have Hp3 := Lib.hid hp3
                have Hp4 := Lib.hid hp4
                have hn0' : ¬ nm = [] := by intro e; rw [e] at hn0; exact absurd hn0 (Nat.lt_irrefl 0)
                clear hp2 hp3 hp4
                go_wp2_with (first
                  | (at_builtin; refine wpList_oneB (b := 32) rfl (.tmp 53) (.tmp 54) rfl rfl HO5.out 32 rfl rfl (by first | rfl | simp) Hp2.out (by omega) (by omega) ?_; intro A6 c6 w6 hO6 hY6; have HO6 := Lib.hid hO6; have hK6 := HK5.out.say hY6 (by decide); obtain ⟨s0, s1, s2, s3, s4⟩ := Blk.five hK6; have HY6 := Lib.hid (HY5.out.trans hY6); have hs6 := hY6.size; have HN6 := Lib.hid (HN5.out.below (hY6.below.mono hBW)); have HI6 := Lib.hid (HI5.out.below (hY6.below.mono hBW)); clear hO6 hY6 hK6)
                  | (at_builtin; refine wpList_rowB rfl (.tmp 56) (.tmp 58) rfl rfl HO6.out rfl HN6.out Hp3.out (by omega) (by omega) ?_; intro A7 c7 w7 hO7 hY7; have HO7 := Lib.hid hO7; have HY7 := Lib.hid (HY6.out.trans hY7); have hs7 := hY7.size; have HI7 := Lib.hid (HI6.out.below (hY7.below.mono hBW)); clear hO7 hY7)
                  | (at_builtin; refine wpList_oneB (b := 10) rfl (.tmp 60) (.tmp 61) rfl rfl HO7.out 10 rfl rfl (by first | rfl | simp) Hp4.out (by omega) (by omega) ?_; intro A8 c8 w8 hO8 hY8; have HO8 := Lib.hid hO8; have HY8 := Lib.hid (HY7.out.trans hY8); have HI8 := Lib.hid (HI7.out.below (hY8.below.mono hBW)); clear hO8 hY8))
                go_roundw
                case rel => exact ⟨j + 1, p4, A8, c8, by omega, by go_num, rfl, Lib.hid Hend.out.symm, HO8, HY8, HI8⟩
                case measure => simp [intOf]; omega
              · have hn1 : nm = [] := List.eq_nil_of_length_eq_zero (by omega)
                obtain ⟨p4, hp4⟩ : ∃ y, p1 ++ [10] = y := ⟨_, rfl⟩
                have Hend := Lib.hid (show z ++ insTo ul (j + 1) = p4 by rw [Hnx.out, ← hp4]; unfold nmT; rw [if_neg hn0]; simp)
                have Hp4 := Lib.hid hp4
                subst hn1
                clear hp4 hn0
                go_wp2_with (at_builtin; refine wpList_oneB (b := 10) rfl (.tmp 60) (.tmp 61) rfl rfl HO5.out 10 rfl rfl (by first | rfl | simp) Hp4.out (by omega) (by omega) ?_; intro A8 c8 w8 hO8 hY8; have HO8 := Lib.hid hO8; have HY8 := Lib.hid (HY5.out.trans hY8); have HI8 := Lib.hid (HI5.out.below (hY8.below.mono hBW)); clear hO8 hY8)
                go_roundw
                case rel => exact ⟨j + 1, p4, A8, c8, by omega, by go_num, rfl, Lib.hid Hend.out.symm, HO8, HY8, HI8⟩
                case measure => simp [intOf]; omega
          · obtain rfl : j = nu := by omega
            go_wp2
            go_roundw
            case rel => exact ⟨k + 1, yy, Aj, cj, by omega, by go_num, rfl, Lib.hid (by rw [Hnext.out, hx.out, Hnu.out]), hO, hY⟩
            case measure => simp [intOf]; omega
      · obtain rfl : k = C.length := by omega
        go_wp2
        go_ret
        rw [E.out, ← hx.out]
        exact ⟨_, _, rfl, (hO.out.toT).less Hb.out.size, Hb.out.trans (hY.out.below.mono Hb.out.size)⟩
end
end Cod
end Go.Proofs.YtebgigiakfjocaaDoor
