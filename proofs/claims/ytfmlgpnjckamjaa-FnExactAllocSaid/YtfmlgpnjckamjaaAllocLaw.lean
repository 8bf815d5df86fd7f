/-
  At every arena Alloc answers as its model, writes into no argument, and its answer shares no memory with an argument or another answer. No condition.
-/
import Derived.Test.YtfmlgpnjckamjaaAllocK
import Derived.Test.YtfmlgpnjckamjaaL4own
import Derived.Test.YtfmlgpnjckamjaaArnMarkD
import Derived.Test.YtfmlgpnjckamjaaMmark
import Derived.Test.YtfmlgpnjckamjaaMarn
import Derived.Test.YtfmlgpnjckamjaaArnOpen
import Derived.Test.YtfmlgpnjckamjaaBytes
import Derived.Test.YtfmlgpnjckamjaaOpen
namespace Go.Proofs.Ytfmlgpnjckamjaa
open Go.ChangeShapes Go.WideShapes Go.ChangeAt Go.RowKit
set_option linter.unusedVariables false
set_option linter.unusedSimpArgs false
namespace AllocLaw
open ArnM (OwnAr asOf)

theorem blw1 (w : World) (o : Obj) : Below w.heap.size w (w.alloc o) := (Below.refl _ _).alloc (Nat.le_refl _) o
theorem three3 {w : World} {g : Nat} {t : TypeId} {a b c : Value} (h : Blk w g t #[a, b, c]) : w.cell? ⟨g, 0, none⟩ = some a ∧ w.cell? ⟨g, 1, none⟩ = some b ∧ w.cell? ⟨g, 2, none⟩ = some c := ⟨h.cel 0 rfl, h.cel 1 rfl, h.cel 2 rfl⟩
theorem blk_three {w : World} {g g' : Nat} {t : TypeId} {cs : Array Value} (hK : Blk w g' t cs) (h : g' ≠ g) (x y z : Value) : Blk (((w.setCell ⟨g, 0, none⟩ x).setCell ⟨g, 1, none⟩ y).setCell ⟨g, 2, none⟩ z) g' t cs := ((hK.far (p := ⟨g, 0, none⟩) h x).far (p := ⟨g, 1, none⟩) h y).far (p := ⟨g, 2, none⟩) h z
/-- an arena of its own, in a box -/
def BoxA (w : World) (lo gb : Nat) (R : Ar) : Prop :=
  ∃ (A0 A1 A2 : Option Addr) (c0 c1 c2 g : Nat) (fb : Nat → Nat) (nb : Nat → Nat → Nat) (g1 g2 : Nat),
    Blk w gb 32 #[.slice A0 R.slots.length c0, .slice A1 R.queue.length c1, .slice A2 R.purple.length c2] ∧ lo ≤ gb ∧
    OwnAr w lo A0 A1 A2 R g fb nb g1 g2 ∧ ∀ b, asOf R g fb nb g1 g2 b → b < w.heap.size ∧ ¬ b = gb
theorem BoxA.below {w w' : World} {lo gb : Nat} {R : Ar} (h : BoxA w lo gb R) (hb : Below w.heap.size w w') : BoxA w' lo gb R := by
  obtain ⟨A0, A1, A2, c0, c1, c2, g, fb, nb, g1, g2, hK, hlo, hO, hl⟩ := h
  exact ⟨A0, A1, A2, c0, c1, c2, g, fb, nb, g1, g2, hK.below hb hK.lt, hlo, hO.apart (S := fun _ => False) (Apart.of_below hb) (fun _ _ h => h), fun b hb' => ⟨Nat.lt_of_lt_of_le (hl b hb').1 hb.size, (hl b hb').2⟩⟩
theorem BoxA.of_store {w : World} {lo lo' gb g g1 g2 : Nat} {R : Ar} {A0 A1 A2 : Option Addr} {fb : Nat → Nat} {nb : Nat → Nat → Nat} (hK : Blk w gb 32 #[.slice none 0 0, .slice none 0 0, .slice none 0 0]) (hg : lo ≤ gb) (hO : OwnAr w lo' A0 A1 A2 R g fb nb g1 g2) (hl : ∀ b, asOf R g fb nb g1 g2 b → b < w.heap.size ∧ ¬ b = gb) (hlo : lo ≤ lo') (c0 c1 c2 : Nat) :
    BoxA (((w.setCell ⟨gb, 0, none⟩ (.slice A0 R.slots.length c0)).setCell ⟨gb, 1, none⟩ (.slice A1 R.queue.length c1)).setCell ⟨gb, 2, none⟩ (.slice A2 R.purple.length c2)) lo gb R :=
  ⟨A0, A1, A2, c0, c1, c2, g, fb, nb, g1, g2, ((hK.set_ 0 _).set_ 1 _).set_ 2 _, hg,
    (hO.apart (S := fun b => b = gb) ((((Apart.refl (fun b => b = gb) w).setCell (p := ⟨gb, 0, none⟩) rfl _).setCell (p := ⟨gb, 1, none⟩) rfl _).setCell (p := ⟨gb, 2, none⟩) rfl _) (fun b hb => (hl b hb).2)).lo_le hlo, fun b hb => ⟨by simpa using (hl b hb).1, (hl b hb).2⟩⟩
/-- what lies in a box is an arena -/
theorem arl_of {w : World} {lo g g1 g2 : Nat} {R : Ar} {A0 A1 A2 : Option Addr} {fb : Nat → Nat} {nb : Nat → Nat → Nat} (h : OwnAr w lo A0 A1 A2 R g fb nb g1 g2) (hR : arSz R ≤ 1050000) : ArL w lo w.heap.size A0 A1 A2 R := h.arlz hR
theorem mkAr_le {a : Ar} (h : arSz a ≤ 1050000) : ArnM.mkAr a ≤ 100000000 := by
  have h1 := ArnM.mkSl_sum a.slots a.slots.length
  have h2 : slsSz a.slots ≤ 1050000 := by unfold arSz at h; omega
  have h3 : a.queue.length ≤ 1050000 := by unfold arSz at h; omega
  have h4 : a.purple.length ≤ 1050000 := by unfold arSz at h; omega
  unfold ArnM.mkAr
  unfold slsSz at h2
  omega
theorem mkN_le {a : Ar} (h : arSz a ≤ 1050000) : ArnM.mkN a ≤ 100000000 := by
  have h1 := ArnM.mkSl_sum a.slots a.slots.length
  have h2 : slsSz a.slots ≤ 1050000 := by unfold arSz at h; omega
  have h3 : a.queue.length ≤ 1050000 := by unfold arSz at h; omega
  have h4 : a.purple.length ≤ 1050000 := by unfold arSz at h; omega
  unfold ArnM.mkN
  unfold slsSz at h2
  omega

set_option maxRecDepth 100000 in
set_option maxHeartbeats 32000000 in
theorem walk (a : Ar) (A0 A1 A2 : Option Addr) (c0 c1 c2 : Nat) (w : World) (hR : ArL w 0 w.heap.size A0 A1 A2 a) :
    Calls Try.prog 6 #[.agg #[.slice A0 a.slots.length c0, .slice A1 a.queue.length c1, .slice A2 a.purple.length c2]] w fun e w' => e = .returned (.bool true) ∧ Below w.heap.size w w' := by
  have hbA : Below w.heap.size w (w.alloc (.cells #[.slice A0 a.slots.length c0, .slice A1 a.queue.length c1, .slice A2 a.purple.length c2] 25)) := (Below.refl _ _).alloc (Nat.le_refl _) _
  have KA : Blk (w.alloc (.cells #[.slice A0 a.slots.length c0, .slice A1 a.queue.length c1, .slice A2 a.purple.length c2] 25)) w.heap.size 25 #[.slice A0 a.slots.length c0, .slice A1 a.queue.length c1, .slice A2 a.purple.length c2] := Blk.new w 25 #[.slice A0 a.slots.length c0, .slice A1 a.queue.length c1, .slice A2 a.purple.length c2]
  have Hsz := Lib.hid (szArena_c a A0 A1 A2 c0 c1 c2 0 w.heap.size 0x100000 (w.alloc (.cells #[.slice A0 a.slots.length c0, .slice A1 a.queue.length c1, .slice A2 a.purple.length c2] 25)) (by simp; try omega) (by omega) (by omega) (hR.below hbA))
  have HR := Lib.hid hR
  have HbA := Lib.hid hbA
  have HKA := Lib.hid KA
  clear hR hbA KA
  go_enter Try.func6, Try.ntmps6
  go_wp2_with fail
  refine Hsz.out.mono ?_
  rintro e w0 ⟨r0, rfl, hr1, hr2, hr3, hbx⟩
  have hb0 := HbA.out.trans (hbx.mono HbA.out.size)
  have KA0 := HKA.out.below hbx HKA.out.lt
  have Hb0 := Lib.hid hb0
  by_cases hr : r0 < 0
  · clear hr3 hb0 KA0 hbx Hsz HbA HKA
    go_wp2
    go_ret
    exact ⟨rfl, Hb0.out⟩
  have hr' : 0 ≤ r0 := by omega
  have hsz0 : arSz a ≤ 0x100000 := by have := hr3 hr'; omega
  have hsz : arSz a ≤ 1050000 := Nat.le_trans hsz0 (by decide)
  have hr0 : decide (r0 < 0) = false := decide_eq_false hr
  have hspec := fun A0 A1 A2 c0 c1 c2 L B w (hB : B ≤ w.heap.size) (h : ArL w L B A0 A1 A2 a) (hcap : a.purple.length ≤ c2) => specAllocJ_c a A0 A1 A2 c0 c1 c2 L B w hB h hsz hcap
  have himpl := fun A0 A1 A2 c0 c1 c2 L B w (hB : B ≤ w.heap.size) (h : ArL w L B A0 A1 A2 a) => implAllocJ_c a A0 A1 A2 c0 c1 c2 L B w hB h hsz
  have hRb : arSz (alA a) ≤ 1050000 := alA_sz hsz
  obtain ⟨R, hRe⟩ : ∃ x, alA a = x := ⟨_, rfl⟩
  obtain ⟨r, hre⟩ : ∃ x, alB a = x := ⟨_, rfl⟩
  simp only [hRe, hre] at hspec himpl hRb
  obtain ⟨vk, hvk⟩ : ∃ x, alK a = x := ⟨_, rfl⟩
  obtain ⟨vn, hvn⟩ : ∃ x, alN a = x := ⟨_, rfl⟩
  obtain ⟨vg, hvg⟩ : ∃ x, alG a = x := ⟨_, rfl⟩
  simp only [hvk, hvn, hvg] at hspec himpl
  clear hvk hvn hvg
  have Hspec := Lib.hid hspec
  have Himpl := Lib.hid himpl
  have HRb := Lib.hid hRb
  have Hta := Lib.hid (fun W (hW : Below w0.heap.size w0 W) => toArena_c a A0 A1 A2 c0 c1 c2 0 w.heap.size W (Nat.le_trans hb0.size hW.size) hsz ((HR.out.below hb0).below (hW.mono hb0.size)))
  have Htn := Lib.hid (fun W (hW : Below w0.heap.size w0 W) => ArnN.toArena_n a A0 A1 A2 c0 c1 c2 0 w.heap.size W (Nat.le_trans hb0.size hW.size) hsz ((HR.out.below hb0).below (hW.mono hb0.size)))
  obtain ⟨qA0, qA1, qA2⟩ := (three3 KA0)
  have HKA0 := Lib.hid KA0
  have Hszz := Lib.hid hsz
  have Hmka := Lib.hid (mkAr_le hsz)
  have Hmkn := Lib.hid (mkN_le hRb)
  have hne : (r != r) = false := by cases r <;> rfl
  have hlA : w.heap.size + 1 ≤ w0.heap.size := by have := KA0.lt; omega
  clear hspec himpl hRe hre hr3 hbx KA0 hb0 Hsz HbA HKA hr hsz hsz0 hRb
  have Ht0 := Lib.hid (Hta.out w0 (Below.refl _ _))
  go_wp2_with fail
  refine Ht0.out.mono ?_
  rintro e va ⟨s0, s1, s2, rfl, hL, hb⟩
  have Hs1 := Lib.hid (Hspec.out (some ⟨s0, 0, none⟩) (some ⟨s1, 0, none⟩) (some ⟨s2, 0, none⟩) a.slots.length a.queue.length a.purple.length _ _ va (Nat.le_refl _) hL (Nat.le_refl _))
  have Hba := Lib.hid hb
  clear hL hb Ht0
  go_wp2_with fail
  refine Hs1.out.mono ?_
  rintro e vb ⟨v, rfl, ⟨As0, As1, As2, cs0, cs1, cs2, gg, fb, nb, g1, g2, rfl, hO, hl⟩, hb⟩
  have HO := Lib.hid hO
  have Hl := Lib.hid hl
  have Hbvb := Lib.hid hb
  clear hO hl hb
  go_upto_region 6 with fail
  have hbx := blw1 vb (.cells #[.slice As0 R.slots.length cs0, .slice As1 R.queue.length cs1, .slice As2 R.purple.length cs2] 32)
  have hbz := blw1 (vb.alloc (.cells #[.slice As0 R.slots.length cs0, .slice As1 R.queue.length cs1, .slice As2 R.purple.length cs2] 32)) (.cells #[.int .i64 vk, .int .i64 vn, .int .i64 vg] 43)
  have hB1 : BoxA (vb.alloc (.cells #[.slice As0 R.slots.length cs0, .slice As1 R.queue.length cs1, .slice As2 R.purple.length cs2] 32)) w0.heap.size vb.heap.size R := ⟨As0, As1, As2, cs0, cs1, cs2, gg, fb, nb, g1, g2, Blk.new vb _ _, by have := Hbvb.out.size; have := Hba.out.size; omega, (HO.out.apart (S := fun _ => False) (Apart.of_below hbx) (fun _ _ h => h)).lo_le (by have := Hba.out.size; omega), fun b hb => ⟨by have := Hl.out b hb; simp; omega, by have := Hl.out b hb; omega⟩⟩
  have hB2 := hB1.below hbz
  have hV2 : Blk ((vb.alloc (.cells #[.slice As0 R.slots.length cs0, .slice As1 R.queue.length cs1, .slice As2 R.purple.length cs2] 32)).alloc (.cells #[.int .i64 vk, .int .i64 vn, .int .i64 vg] 43)) (vb.heap.size + 1) 43 #[.int .i64 vk, .int .i64 vn, .int .i64 vg] := by
    have := Blk.new (vb.alloc (.cells #[.slice As0 R.slots.length cs0, .slice As1 R.queue.length cs1, .slice As2 R.purple.length cs2] 32)) 43 #[.int .i64 vk, .int .i64 vn, .int .i64 vg]
    rwa [World.size_alloc] at this
  have hbA : Below vb.heap.size vb ((vb.alloc (.cells #[.slice As0 R.slots.length cs0, .slice As1 R.queue.length cs1, .slice As2 R.purple.length cs2] 32)).alloc (.cells #[.int .i64 vk, .int .i64 vn, .int .i64 vg] 43)) := hbx.trans (hbz.mono (by simp))
  obtain ⟨w1, hw1⟩ : ∃ x, x = ((vb.alloc (.cells #[.slice As0 R.slots.length cs0, .slice As1 R.queue.length cs1, .slice As2 R.purple.length cs2] 32)).alloc (.cells #[.int .i64 vk, .int .i64 vn, .int .i64 vg] 43)) := ⟨_, rfl⟩
  obtain ⟨gw, hgw⟩ : ∃ x, x = vb.heap.size := ⟨_, rfl⟩
  rw [← hw1, ← hgw]
  rw [← hw1, ← hgw] at hB2 hV2
  rw [← hw1] at hbA
  have HBw := Lib.hid hB2
  have HVw := Lib.hid hV2
  have H01 := Lib.hid (Hba.out.trans ((Hbvb.out.trans (hbA.mono Hbvb.out.size)).mono Hba.out.size))
  clear hbx hB1 hB2 hbA hw1 hgw HO Hl Hbvb hbz hV2
  clear Hba Hs1 qA0 qA1 qA2 hr0 hr' hr1 hr2
  focus
    have KA1 := HKA0.out.below H01.out HKA0.out.lt
    obtain ⟨qA0, qA1, qA2⟩ := (three3 KA1)
    have Ht1 := Lib.hid (Htn.out w1 H01.out)
    clear KA1
    go_wp2_with fail
    refine Ht1.out.mono ?_
    rintro e w2 ⟨x0, x1, x2, rfl, hL2, hb2, hnw⟩
    have Hnw := Lib.hid hnw
    have hbX := blw1 w2 (.cells #[.slice (some ⟨x0, 0, none⟩) a.slots.length a.slots.length, .slice (some ⟨x1, 0, none⟩) a.queue.length a.queue.length, .slice (some ⟨x2, 0, none⟩) a.purple.length a.purple.length] 32)
    have HKX := Lib.hid (Blk.new w2 32 #[.slice (some ⟨x0, 0, none⟩) a.slots.length a.slots.length, .slice (some ⟨x1, 0, none⟩) a.queue.length a.queue.length, .slice (some ⟨x2, 0, none⟩) a.purple.length a.purple.length])
    have HLX := Lib.hid (hL2.below hbX)
    have H12 := Lib.hid (hb2.trans (hbX.mono hb2.size))
    have hs12 : w1.heap.size ≤ w2.heap.size := hb2.size
    clear hL2 hb2 hnw Ht1 qA0 qA1 qA2
    go_upto_region 7 with fail
    obtain ⟨w3, hw3⟩ : ∃ x, x = w2.alloc (.cells #[.slice (some ⟨x0, 0, none⟩) a.slots.length a.slots.length, .slice (some ⟨x1, 0, none⟩) a.queue.length a.queue.length, .slice (some ⟨x2, 0, none⟩) a.purple.length a.purple.length] 32) := ⟨_, rfl⟩
    rw [← hw3] at HKX HLX H12 hbX ⊢
    have hs23 : w2.heap.size + 1 ≤ w3.heap.size := by rw [hw3]; simp
    have H02 := Lib.hid (H01.out.trans (H12.out.mono H01.out.size))
    have HbX := Lib.hid hbX
    have hs13 := H12.out.size
    clear hw3 hbX H01
    have Hi1 := Lib.hid (Himpl.out (some ⟨x0, 0, none⟩) (some ⟨x1, 0, none⟩) (some ⟨x2, 0, none⟩) a.slots.length a.queue.length a.purple.length w1.heap.size w2.heap.size w3 (by omega) HLX.out)
    obtain ⟨qX0, qX1, qX2⟩ := (three3 HKX.out)
    go_wp2_with fail
    refine Hi1.out.mono ?_
    rintro e vc ⟨v, rfl, ⟨As0, As1, As2, cs0, cs1, cs2, gg, fb, nb, g1, g2, rfl, hO, hl⟩, hb⟩
    have HO := Lib.hid hO
    have Hl := Lib.hid hl
    have Hr3 := Lib.hid (Below.refl w3.heap.size w3)
    have Hbvc := Lib.hid hb
    clear hO hl hb
    go_upto_region 8 with fail
    have hbx := blw1 vc (.cells #[.slice As0 R.slots.length cs0, .slice As1 R.queue.length cs1, .slice As2 R.purple.length cs2] 32)
    have hbz := blw1 (vc.alloc (.cells #[.slice As0 R.slots.length cs0, .slice As1 R.queue.length cs1, .slice As2 R.purple.length cs2] 32)) (.cells #[.int .i64 vk, .int .i64 vn, .int .i64 vg] 43)
    have hB1 : BoxA (vc.alloc (.cells #[.slice As0 R.slots.length cs0, .slice As1 R.queue.length cs1, .slice As2 R.purple.length cs2] 32)) w3.heap.size vc.heap.size R := ⟨As0, As1, As2, cs0, cs1, cs2, gg, fb, nb, g1, g2, Blk.new vc _ _, by have := Hbvc.out.size; have := Hr3.out.size; omega, (HO.out.apart (S := fun _ => False) (Apart.of_below hbx) (fun _ _ h => h)).lo_le (by have := Hr3.out.size; omega), fun b hb => ⟨by have := Hl.out b hb; simp; omega, by have := Hl.out b hb; omega⟩⟩
    have hB2 := hB1.below hbz
    have hV2 : Blk ((vc.alloc (.cells #[.slice As0 R.slots.length cs0, .slice As1 R.queue.length cs1, .slice As2 R.purple.length cs2] 32)).alloc (.cells #[.int .i64 vk, .int .i64 vn, .int .i64 vg] 43)) (vc.heap.size + 1) 43 #[.int .i64 vk, .int .i64 vn, .int .i64 vg] := by
      have := Blk.new (vc.alloc (.cells #[.slice As0 R.slots.length cs0, .slice As1 R.queue.length cs1, .slice As2 R.purple.length cs2] 32)) 43 #[.int .i64 vk, .int .i64 vn, .int .i64 vg]
      rwa [World.size_alloc] at this
    have hbA : Below vc.heap.size vc ((vc.alloc (.cells #[.slice As0 R.slots.length cs0, .slice As1 R.queue.length cs1, .slice As2 R.purple.length cs2] 32)).alloc (.cells #[.int .i64 vk, .int .i64 vn, .int .i64 vg] 43)) := hbx.trans (hbz.mono (by simp))
    obtain ⟨w4, hw4⟩ : ∃ x, x = ((vc.alloc (.cells #[.slice As0 R.slots.length cs0, .slice As1 R.queue.length cs1, .slice As2 R.purple.length cs2] 32)).alloc (.cells #[.int .i64 vk, .int .i64 vn, .int .i64 vg] 43)) := ⟨_, rfl⟩
    obtain ⟨gi, hgi⟩ : ∃ x, x = vc.heap.size := ⟨_, rfl⟩
    rw [← hw4, ← hgi]
    rw [← hw4, ← hgi] at hB2 hV2
    rw [← hw4] at hbA
    have HBi := Lib.hid hB2
    have HVi := Lib.hid hV2
    have H34 := Lib.hid (Hr3.out.trans ((Hbvc.out.trans (hbA.mono Hbvc.out.size)).mono Hr3.out.size))
    clear hbx hB1 hB2 hbA hw4 hgi HO Hl Hbvc hbz hV2
    clear Hi1 Hr3 qX0 qX1 qX2
    focus
      obtain ⟨i0, i1, i2, ci0, ci1, ci2, si, fi, ni, si1, si2, Ki, loi, Oi, li⟩ := HBi.out
      obtain ⟨m0, m1, m2, cm0, cm1, cm2, sm, fm, nm, sm1, sm2, Km, lom, Om, lm⟩ := HBw.out
      have H14 := H12.out.trans (H34.out.mono hs13)
      have Km4 := Km.below H14 Km.lt
      have HKi := Lib.hid Ki
      have HOi := Lib.hid Oi
      have Hli := Lib.hid li
      have HKm := Lib.hid Km4
      have hgw : gw < w1.heap.size := Km.lt
      have H04 := Lib.hid (H02.out.trans (H34.out.mono H02.out.size))
      have hs34 := H34.out.size
      have HLm := Lib.hid (fun W (hW : Below w4.heap.size w4 W) => (((arl_of Om HRb.out).below H14).below (hW.mono (Nat.le_trans hs13 hs34))))
      have Heq := Lib.hid (eqArena_c R i0 i1 i2 m0 m1 m2 ci0 ci1 ci2 cm0 cm1 cm2 _ _ _ _ w4 (Nat.le_refl _) (Nat.le_trans hs13 hs34) HRb.out (arl_of Oi HRb.out) (HLm.out w4 (Below.refl _ _)))
      obtain ⟨ui0, ui1, ui2⟩ := (three3 Ki)
      obtain ⟨um0, um1, um2⟩ := (three3 Km4)
      have HVw4 := Lib.hid (HVw.out.below H14 HVw.out.lt)
      have hgvw : gw + 1 < w1.heap.size := HVw.out.lt
      have HKX4 := Lib.hid (HKX.out.below H34.out HKX.out.lt)
      have HLX4 := Lib.hid (HLX.out.below (H34.out.mono (by omega)))
      clear Ki Oi li Km Km4 Om lm HBi HBw H02 HKX HLX H12 H14
      go_wp2_with fail
      refine Heq.out.mono ?_
      rintro e w5a ⟨rfl, hb5a⟩
      have hvi := three3 (HVi.out.below hb5a HVi.out.lt)
      have hvw := three3 (HVw4.out.below hb5a HVw4.out.lt)
      obtain ⟨pi0, pi1, pi2⟩ := hvi
      obtain ⟨pw0, pw1, pw2⟩ := hvw
      have Hev := Lib.hid (eqVal_c vk vn vg w5a)
      have Hhb5a := Lib.hid hb5a
      clear hb5a
      go_wp2_with fail
      refine Hev.out.mono ?_
      rintro e w5 ⟨rfl, hb5b⟩
      have hb5 := Hhb5a.out.trans (hb5b.mono Hhb5a.out.size)
      clear hb5b Hhb5a Hev pi0 pi1 pi2 pw0 pw1 pw2
      have H45 := Lib.hid hb5
      have hs45 := hb5.size
      have H05 := Lib.hid (H04.out.trans (hb5.mono H04.out.size))
      have KA5 := HKA0.out.below H05.out HKA0.out.lt
      have KX5 := HKX4.out.below hb5 HKX4.out.lt
      obtain ⟨qA0, qA1, qA2⟩ := (three3 KA5)
      obtain ⟨qX0, qX1, qX2⟩ := (three3 KX5)
      have HKX5 := Lib.hid KX5
      have HLX5 := Lib.hid (HLX4.out.below (hb5.mono (by omega)))
      have Ht5 := Lib.hid (fun m => Hta.out (w5.drewN m) (by have := H05.out; exact ⟨this.os, this.tape, this.output, this.size, this.block⟩))
      clear hb5 Heq KA5 KX5 ui0 ui1 ui2 um0 um1 um2
      go_upto_region 10 with fail
      go_cut [56] (fun b wx => b = .bool false ∧ Hid (Below w5.heap.size w5 wx))
      case first =>
        go_region_with (first
          | (go_at_call 11; refine (Ht5.out 1).mono ?_; rintro e w6 ⟨y0, y1, y2, rfl, hL6, hb6⟩; have hb56 : Below w5.heap.size w5 w6 := ⟨hb6.os, hb6.tape, hb6.output, hb6.size, hb6.block⟩; obtain ⟨qY0, qY1, qY2⟩ := (three3 (HKX5.out.below hb56 HKX5.out.lt)); have Heq := Lib.hid (eqArena_c a (some ⟨x0, 0, none⟩) (some ⟨x1, 0, none⟩) (some ⟨x2, 0, none⟩) (some ⟨y0, 0, none⟩) (some ⟨y1, 0, none⟩) (some ⟨y2, 0, none⟩) a.slots.length a.queue.length a.purple.length a.slots.length a.queue.length a.purple.length _ w2.heap.size _ w6.heap.size w6 (Nat.le_trans (by omega) hb56.size) (Nat.le_refl _) Hszz.out (HLX5.out.below (hb56.mono (by omega))) hL6); have Hb56 := Lib.hid hb56; clear hL6 hb6 hb56 Ht5)
          | (go_at_call 14; refine Heq.out.mono ?_; rintro e w7 ⟨rfl, hb7⟩))
        all_goals
          try go_wp2_with fail
          go_meet
          case rel => exact ⟨by simp, Lib.hid (Hb56.out.trans (hb7.mono Hb56.out.size))⟩
      case rest =>
        obtain ⟨rfl, H56⟩ := hcut
        obtain ⟨w6, hw6⟩ : ∃ x, x = wc := ⟨_, rfl⟩
        subst hw6
        have hs56 := H56.out.size
        have h46 := H45.out.trans (H56.out.mono H45.out.size)
        have h36 := H34.out.trans (h46.mono hs34)
        have h06 := H04.out.trans (h46.mono H04.out.size)
        have KX6 := HKX5.out.below H56.out HKX5.out.lt
        obtain ⟨qY0, qY1, qY2⟩ := (three3 KX6)
        have hT6 : ArnM.Thaw w1.heap.size w2.heap.size w6 := fun k h1 h2 => by
          obtain ⟨cs', t', e'⟩ := Hnw.out k h1 h2
          exact ⟨cs', t', (((HbX.out.trans (h36.mono HbX.out.size)).block k h2)).trans e'⟩
        have Hmk := Lib.hid (ArnM.markArena_m a (some ⟨x0, 0, none⟩) (some ⟨x1, 0, none⟩) (some ⟨x2, 0, none⟩) a.slots.length a.queue.length a.purple.length w1.heap.size w2.heap.size 1 w6 (by omega) hs12 Hszz.out (by omega) hT6 (HLX5.out.below (H56.out.mono (by omega))))
        have HKi6 := Lib.hid (HKi.out.below h46 HKi.out.lt)
        have HKm6 := Lib.hid (HKm.out.below h46 HKm.out.lt)
        have HOi6 := Lib.hid (HOi.out.apart (S := fun _ => False) (Apart.of_below h46) (fun _ _ h => h))
        have HLm6 := Lib.hid (HLm.out w6 h46)
        have hloi := loi
        have H06 := Lib.hid h06
        have HVi6 := Lib.hid (HVi.out.below h46 HVi.out.lt)
        have HVw6 := Lib.hid (HVw4.out.below h46 HVw4.out.lt)
        have hu0 : ArnM.mkAr a ≤ 100000000 := Hmka.out
        have HOi := HOi
        clear h46 h36 h06 KX6 hT6 Ht5 qA0 qA1 qA2 qX0 qX1 qX2 H45 H56 HKX5 HLX5 HKX4 HLX4 H05 H34 HKi HKm HLm H04
        go_wp2_with fail
        refine Hmk.out.mono ?_
        rintro e w7 ⟨rfl, hb67, hap⟩
        obtain ⟨u, hu⟩ : ∃ u : Nat, 1 + ArnM.mkAr a = u := ⟨_, rfl⟩
        rw [hu]
        have hud : decide ((u : Int) < 0) = false := decide_eq_false (by omega)
        have hs67 := hb67.size
        have hgi : gi < w6.heap.size := HKi6.out.lt
        have hl0 : w0.heap.size ≤ w1.heap.size := by omega
        have hap67 : Apart (fun b => w1.heap.size ≤ b ∧ b < w2.heap.size) w6 w7 := ⟨hb67.os, hb67.tape, hb67.output, hb67.size, fun k hk hn => hap k hk (by omega)⟩
        have Ki7 := HKi6.out.apart hap67 (fun h => by omega)
        have Km7 := HKm6.out.apart hap67 (fun h => by omega)
        have Oi7 := HOi6.out.apart hap67 (fun b hb h => by have := HOi6.out.low b hb; omega)
        have H07 := Lib.hid (H06.out.trans (hb67.mono hl0))
        have Lm7 := HLm6.out.below hb67
        have Heq := Lib.hid (eqArena_c R i0 i1 i2 m0 m1 m2 ci0 ci1 ci2 cm0 cm1 cm2 _ _ _ _ w7 (Nat.le_refl _) (by omega) HRb.out (arl_of Oi7 HRb.out) Lm7)
        obtain ⟨ui0, ui1, ui2⟩ := (three3 Ki7)
        obtain ⟨um0, um1, um2⟩ := (three3 Km7)
        have HKi7 := Lib.hid Ki7
        have HVi7 := Lib.hid (HVi6.out.apart hap67 (fun h => by omega))
        have HVw7 := Lib.hid (HVw6.out.apart hap67 (fun h => by omega))
        have HKm7 := Lib.hid Km7
        have HOi7 := Lib.hid Oi7
        have HLm7 := Lib.hid Lm7
        clear Ki7 Km7 Oi7 Lm7 hap67 hb67 hap hu Hmk HKi6 HKm6 HOi6 HLm6 H06 qY0 qY1 qY2
        go_wp2_with fail
        refine Heq.out.mono ?_
        rintro e w8a ⟨rfl, hb78a⟩
        have hvi := three3 (HVi7.out.below hb78a HVi7.out.lt)
        have hvw := three3 (HVw7.out.below hb78a HVw7.out.lt)
        obtain ⟨pi0, pi1, pi2⟩ := hvi
        obtain ⟨pw0, pw1, pw2⟩ := hvw
        have Hev := Lib.hid (eqVal_c vk vn vg w8a)
        have Hhb78a := Lib.hid hb78a
        clear hb78a
        go_wp2_with fail
        refine Hev.out.mono ?_
        rintro e w8 ⟨rfl, hb78b⟩
        have hb78 := Hhb78a.out.trans (hb78b.mono Hhb78a.out.size)
        clear hb78b Hhb78a Hev pi0 pi1 pi2 pw0 pw1 pw2
        have hs78 := hb78.size
        have Ki8 := HKi7.out.below hb78 HKi7.out.lt
        have Oi8 := HOi7.out.apart (S := fun _ => False) (Apart.of_below hb78) (fun _ _ h => h)
        have HKi8 := Lib.hid Ki8
        have HKm8 := Lib.hid (HKm7.out.below hb78 HKm7.out.lt)
        have HVw8 := Lib.hid (HVw7.out.below hb78 HVw7.out.lt)
        have HLm8 := Lib.hid (HLm7.out.below (hb78.mono (by omega)))
        have H08 := Lib.hid (H07.out.trans (hb78.mono H07.out.size))
        have Hm := Lib.hid (ArnM.markArena_o R i0 i1 i2 si fi ni si1 si2 ci0 ci1 ci2 w3.heap.size 1 w8 HRb.out (by omega) (fun b hb => by have := (Hli.out b hb).1; omega) Oi8)
        clear ui0 ui1 ui2 um0 um1 um2 Heq
        obtain ⟨ui0, ui1, ui2⟩ := (three3 Ki8)
        clear Ki8 Oi8 hb78 HKi7 HKm7 HOi7 HLm7 H07
        go_wp2_with fail
        refine Hm.out.mono ?_
        rintro e w9 ⟨rfl, Oi9, ha⟩
        have hq0 : ArnM.mkN R ≤ 100000000 := Hmkn.out
        obtain ⟨q, hq⟩ : ∃ q : Nat, 1 + ArnM.mkN R = q := ⟨_, rfl⟩
        rw [hq]
        have hqd : decide ((q : Int) < 0) = false := decide_eq_false (by omega)
        have hb89 : Below w3.heap.size w8 w9 := ha.below (by omega) (fun k hk h => by have := HOi.out.low k h; omega)
        have hs89 := hb89.size
        have Ki9 := HKi8.out.apart ha (fun h => (Hli.out gi h).2 rfl)
        have HKi9 := Lib.hid Ki9
        have HKm9 := Lib.hid (HKm8.out.below hb89 (by omega))
        have HVw9 := Lib.hid (HVw8.out.below hb89 (by omega))
        have HLm9 := Lib.hid (HLm8.out.below (hb89.mono (by omega)))
        have H09 := Lib.hid (H08.out.trans (hb89.mono (by omega)))
        have Hmd := Lib.hid (Oi9.marked HRb.out)
        have Hh := Lib.hid (fun W B (hB : B ≤ W.heap.size) (h : ArL W w3.heap.size B i0 i1 i2 (ArnM.mkdA R 1)) => ArnM.heldArena_d R i0 i1 i2 ci0 ci1 ci2 w3.heap.size B 1 W hB HRb.out (by omega) h)
        simp only [hq] at Hh
        clear ui0 ui1 ui2 Hm
        obtain ⟨ui0, ui1, ui2⟩ := (three3 Ki9)
        clear Ki9 Oi9 ha hb89 HKi8 HKm8 HLm8 H08 hq
        go_wp2_with fail
        refine (Hh.out w9 w9.heap.size (Nat.le_refl _) Hmd.out).mono ?_
        rintro e w10 ⟨rfl, hb9a⟩
        have hs9a := hb9a.size
        have HKi10 := Lib.hid (HKi9.out.below hb9a HKi9.out.lt)
        have HKm10 := Lib.hid (HKm9.out.below hb9a HKm9.out.lt)
        have HVw10 := Lib.hid (HVw9.out.below hb9a HVw9.out.lt)
        have HLm10 := Lib.hid (HLm9.out.below (hb9a.mono (by omega)))
        have Hmd10 := Lib.hid (Hmd.out.below hb9a)
        have H010 := Lib.hid (H09.out.trans (hb9a.mono H09.out.size))
        have HKA10 := Lib.hid (HKA0.out.below H010.out HKA0.out.lt)
        have Hta := Lib.hid (fun W (hW : Below w10.heap.size w10 W) => Hta.out W (H010.out.trans (hW.mono H010.out.size)))
        clear ui0 ui1 ui2 hb9a HKi9 HKm9 HLm9 Hmd H09
        obtain ⟨qA0, qA1, qA2⟩ := (three3 HKA10.out)
        have Ht2 := Lib.hid (Hta.out w10 (Below.refl _ _))
        go_wp2_with fail
        refine Ht2.out.mono ?_
        rintro e vd ⟨s0, s1, s2, rfl, hL, hb⟩
        have Hs2 := Lib.hid (Himpl.out (some ⟨s0, 0, none⟩) (some ⟨s1, 0, none⟩) (some ⟨s2, 0, none⟩) a.slots.length a.queue.length a.purple.length _ _ vd (Nat.le_refl _) hL)
        have Hbd := Lib.hid hb
        clear hL hb Ht2
        go_wp2_with fail
        refine Hs2.out.mono ?_
        rintro e ve ⟨v, rfl, ⟨As0, As1, As2, cs0, cs1, cs2, gg, fb, nb, g1, g2, rfl, hO, hl⟩, hb⟩
        have HO := Lib.hid hO
        have Hl := Lib.hid hl
        have Hbve := Lib.hid hb
        clear hO hl hb
        go_upto_region 25 with fail
        have hbx := blw1 ve (.cells #[.slice As0 R.slots.length cs0, .slice As1 R.queue.length cs1, .slice As2 R.purple.length cs2] 32)
        have hbz := blw1 (ve.alloc (.cells #[.slice As0 R.slots.length cs0, .slice As1 R.queue.length cs1, .slice As2 R.purple.length cs2] 32)) (.cells #[.int .i64 vk, .int .i64 vn, .int .i64 vg] 43)
        have hB1 : BoxA (ve.alloc (.cells #[.slice As0 R.slots.length cs0, .slice As1 R.queue.length cs1, .slice As2 R.purple.length cs2] 32)) w10.heap.size ve.heap.size R := ⟨As0, As1, As2, cs0, cs1, cs2, gg, fb, nb, g1, g2, Blk.new ve _ _, by have := Hbve.out.size; have := Hbd.out.size; omega, (HO.out.apart (S := fun _ => False) (Apart.of_below hbx) (fun _ _ h => h)).lo_le (by have := Hbd.out.size; omega), fun b hb => ⟨by have := Hl.out b hb; simp; omega, by have := Hl.out b hb; omega⟩⟩
        have hB2 := hB1.below hbz
        have hV2 : Blk ((ve.alloc (.cells #[.slice As0 R.slots.length cs0, .slice As1 R.queue.length cs1, .slice As2 R.purple.length cs2] 32)).alloc (.cells #[.int .i64 vk, .int .i64 vn, .int .i64 vg] 43)) (ve.heap.size + 1) 43 #[.int .i64 vk, .int .i64 vn, .int .i64 vg] := by
          have := Blk.new (ve.alloc (.cells #[.slice As0 R.slots.length cs0, .slice As1 R.queue.length cs1, .slice As2 R.purple.length cs2] 32)) 43 #[.int .i64 vk, .int .i64 vn, .int .i64 vg]
          rwa [World.size_alloc] at this
        have hbA : Below ve.heap.size ve ((ve.alloc (.cells #[.slice As0 R.slots.length cs0, .slice As1 R.queue.length cs1, .slice As2 R.purple.length cs2] 32)).alloc (.cells #[.int .i64 vk, .int .i64 vn, .int .i64 vg] 43)) := hbx.trans (hbz.mono (by simp))
        obtain ⟨w11, hw11⟩ : ∃ x, x = ((ve.alloc (.cells #[.slice As0 R.slots.length cs0, .slice As1 R.queue.length cs1, .slice As2 R.purple.length cs2] 32)).alloc (.cells #[.int .i64 vk, .int .i64 vn, .int .i64 vg] 43)) := ⟨_, rfl⟩
        obtain ⟨gh, hgh⟩ : ∃ x, x = ve.heap.size := ⟨_, rfl⟩
        rw [← hw11, ← hgh]
        rw [← hw11, ← hgh] at hB2 hV2
        rw [← hw11] at hbA
        have HBh := Lib.hid hB2
        have HVh := Lib.hid hV2
        have Hab := Lib.hid (Hbd.out.trans ((Hbve.out.trans (hbA.mono Hbve.out.size)).mono Hbd.out.size))
        clear hbx hB1 hB2 hbA hw11 hgh HO Hl Hbve hbz hV2
        clear Hbd Hs2 qA0 qA1 qA2
        focus
          obtain ⟨h0, h1, h2, ch0, ch1, ch2, sh, fh, nh, sh1, sh2, Kh, loh, Oh, lh⟩ := HBh.out
          have hsab := Hab.out.size
          have Km11 := HKm10.out.below Hab.out HKm10.out.lt
          have HVw11 := Lib.hid (HVw10.out.below Hab.out HVw10.out.lt)
          have Lm11 := HLm10.out.below (Hab.out.mono (by omega))
          have Heq := Lib.hid (eqArena_c R h0 h1 h2 m0 m1 m2 ch0 ch1 ch2 cm0 cm1 cm2 _ _ _ _ w11 (Nat.le_refl _) (by omega) HRb.out (arl_of Oh HRb.out) Lm11)
          obtain ⟨uh0, uh1, uh2⟩ := (three3 Kh)
          obtain ⟨um0, um1, um2⟩ := (three3 Km11)
          have HKi11 := Lib.hid (HKi10.out.below Hab.out HKi10.out.lt)
          have Hmd11 := Lib.hid (Hmd10.out.below (Hab.out.mono (by omega)))
          have H011 := Lib.hid (H010.out.trans (Hab.out.mono H010.out.size))
          clear Kh Oh lh Km11 Lm11 HBh Hab HKi10 HKm10 HLm10 Hmd10 H010
          go_wp2_with fail
          refine Heq.out.mono ?_
          rintro e w12a ⟨rfl, hbbca⟩
          have hvi := three3 (HVh.out.below hbbca HVh.out.lt)
          have hvw := three3 (HVw11.out.below hbbca HVw11.out.lt)
          obtain ⟨pi0, pi1, pi2⟩ := hvi
          obtain ⟨pw0, pw1, pw2⟩ := hvw
          have Hev := Lib.hid (eqVal_c vk vn vg w12a)
          have Hhbbca := Lib.hid hbbca
          clear hbbca
          go_wp2_with fail
          refine Hev.out.mono ?_
          rintro e w12 ⟨rfl, hbbcb⟩
          have hbbc := Hhbbca.out.trans (hbbcb.mono Hhbbca.out.size)
          clear hbbcb Hhbbca Hev pi0 pi1 pi2 pw0 pw1 pw2
          have hsbc := hbbc.size
          have Ki12 := HKi11.out.below hbbc HKi11.out.lt
          have Hh2 := Lib.hid (Hh.out w12 w9.heap.size (by omega) (Hmd11.out.below (hbbc.mono (by omega))))
          have H012 := Lib.hid (H011.out.trans (hbbc.mono H011.out.size))
          clear uh0 uh1 uh2 um0 um1 um2 Heq
          obtain ⟨ui0, ui1, ui2⟩ := (three3 Ki12)
          clear Ki12 hbbc HKi11 Hmd11 H011
          go_wp2_with fail
          refine Hh2.out.mono ?_
          rintro e w13 ⟨rfl, hbcd⟩
          have Hend := Lib.hid (Hb0.out.trans ((H012.out.trans (hbcd.mono H012.out.size)).mono Hb0.out.size))
          clear hbcd H012
          go_wp2
          go_ret
          exact ⟨rfl, Hend.out⟩
set_option maxRecDepth 100000 in
theorem lifted (os : Os) (started : os.Started) (H : Type) (enc : TypeId × Value → H) :
    ReturnsInHanded {} Try.checked os 6 .any (Rows.fnExactAllocSpec.pre6 enc Try.prog Try.f6 Rows.fnExactAllocRow.domain false) (Rows.fnExactAllocSpec.post enc Try.prog Try.f6 false true false false) := by
  refine returnsInHanded_of_change (C := Try.checked) (s := Rows.fnExactAllocSpec) own started (by kernel_rfl) Try.func6
    (ChangeSpec.witness6 (enc := enc) (C := Try.checked) (s := Rows.fnExactAllocSpec) false ⟨#[], #[.agg #[.slice none 0 0, .slice none 0 0, .slice none 0 0]], []⟩ 8 (by kernel_rfl) (by kernel_rfl) (by kernel_rfl) (by kernel_rfl)) ?_
  intro W base args ds gs before hval hW _ _
  have hW' := hW
  obtain ⟨p, q, hA0, hV, rfl, hfz, hnd⟩ := hW
  have hA : DataW.TrodAll enc Try.prog W 0 (fun _ => true) true Try.f6.params.toList args.toList ds p := hA0
  replace hval : ∀ (j : Nat) t v, Try.f6.params[j]? = some t → args[j]? = some v → Value.okWide Try.prog W .any base t v := hval
  rw [Try.params6] at hA hval
  obtain ⟨v0, vs0, d0, ds0, p0, q0, hargs0, rfl, rfl, h0, r0⟩ := trodAll_cons hA
  obtain ⟨rfl, rfl, rfl⟩ := trodAll_nil r0
  obtain rfl : args = #[v0] := by cases args; simp_all
  obtain ⟨rfl, rfl⟩ := trodVars_none hV
  obtain ⟨A0, A1, A2, a, c0, c1, c2, rfl, hR⟩ := ArnOpen.open_arena (hval 0 25 v0 rfl rfl) h0
  refine (walk a A0 A1 A2 c0 c1 c2 W hR).mono fun e W' ⟨he, hb⟩ => ?_
  subst he
  exact ⟨_, rfl, post_read hW' rfl rfl rfl rfl rfl Try.underlying4 laidOut (by kernel_rfl) hb⟩

theorem proved : Rows.FnExactAllocSaid :=
  OpenClaim.holds_of_wide 6 Try.f6 rfl rfl rfl rfl rfl rfl rfl ⟨rfl, rfl, rfl, rfl, rfl⟩ rfl rfl rfl rfl rfl (by kernel_rfl) Try.func6 (by kernel_rfl)
    (of_decide_eq_true (by kernel_rfl)) (by unfold Func.isWrapper; first | (rw [if_pos (by decide +kernel)]; kernel_rfl) | (rw [if_neg (by decide +kernel)]; exact ⟨rfl, rfl⟩))
    (fun os started H enc _ => lifted os started H enc)
end AllocLaw
end Go.Proofs.Ytfmlgpnjckamjaa
