/-
  At every arena and value Drop answers as its model, writes into no argument, and its answer shares no memory with an argument or another answer. No condition.
-/
import Derived.Test.YtfmlgpnjckamjaaDropJ
import Derived.Test.YtfmlgpnjckamjaaL4own
import Derived.Test.YtfmlgpnjckamjaaArnMarkD
import Derived.Test.YtfmlgpnjckamjaaMmark
import Derived.Test.YtfmlgpnjckamjaaMarn
import Derived.Test.YtfmlgpnjckamjaaArnOpen
import Derived.Test.YtfmlgpnjckamjaaBytes
import Derived.Test.YtfmlgpnjckamjaaOpen
namespace Go.Proofs.Ytfmlgpnjckamjaa
open Go.ChangeShapes Go.WideShapes Go.ChangeAt Go.RowKit
set_option linter.unusedVariables false
set_option linter.unusedSimpArgs false
namespace DropLaw
open ArnM (OwnAr asOf)

theorem blw1 (w : World) (o : Obj) : Below w.heap.size w (w.alloc o) := (Below.refl _ _).alloc (Nat.le_refl _) o
theorem three3 {w : World} {g : Nat} {t : TypeId} {a b c : Value} (h : Blk w g t #[a, b, c]) : w.cell? ⟨g, 0, none⟩ = some a ∧ w.cell? ⟨g, 1, none⟩ = some b ∧ w.cell? ⟨g, 2, none⟩ = some c := ⟨h.cel 0 rfl, h.cel 1 rfl, h.cel 2 rfl⟩
theorem blk_three {w : World} {g g' : Nat} {t : TypeId} {cs : Array Value} (hK : Blk w g' t cs) (h : g' ≠ g) (x y z : Value) : Blk (((w.setCell ⟨g, 0, none⟩ x).setCell ⟨g, 1, none⟩ y).setCell ⟨g, 2, none⟩ z) g' t cs := ((hK.far (p := ⟨g, 0, none⟩) h x).far (p := ⟨g, 1, none⟩) h y).far (p := ⟨g, 2, none⟩) h z
/-- an arena of its own, in a box -/
def BoxA (w : World) (lo gb : Nat) (R : Ar) : Prop :=
  ∃ (A0 A1 A2 : Option Addr) (c0 c1 c2 g : Nat) (fb : Nat → Nat) (nb : Nat → Nat → Nat) (g1 g2 : Nat),
    Blk w gb 32 #[.slice A0 R.slots.length c0, .slice A1 R.queue.length c1, .slice A2 R.purple.length c2] ∧ lo ≤ gb ∧
    OwnAr w lo A0 A1 A2 R g fb nb g1 g2 ∧ ∀ b, asOf R g fb nb g1 g2 b → b < w.heap.size ∧ ¬ b = gb
theorem BoxA.below {w w' : World} {lo gb : Nat} {R : Ar} (h : BoxA w lo gb R) (hb : Below w.heap.size w w') : BoxA w' lo gb R := by
  obtain ⟨A0, A1, A2, c0, c1, c2, g, fb, nb, g1, g2, hK, hlo, hO, hl⟩ := h
  exact ⟨A0, A1, A2, c0, c1, c2, g, fb, nb, g1, g2, hK.below hb hK.lt, hlo, hO.apart (S := fun _ => False) (Apart.of_below hb) (fun _ _ h => h), fun b hb' => ⟨Nat.lt_of_lt_of_le (hl b hb').1 hb.size, (hl b hb').2⟩⟩
theorem BoxA.of_store {w : World} {lo lo' gb g g1 g2 : Nat} {R : Ar} {A0 A1 A2 : Option Addr} {fb : Nat → Nat} {nb : Nat → Nat → Nat} (hK : Blk w gb 32 #[.slice none 0 0, .slice none 0 0, .slice none 0 0]) (hg : lo ≤ gb) (hO : OwnAr w lo' A0 A1 A2 R g fb nb g1 g2) (hl : ∀ b, asOf R g fb nb g1 g2 b → b < w.heap.size ∧ ¬ b = gb) (hlo : lo ≤ lo') (c0 c1 c2 : Nat) :
    BoxA (((w.setCell ⟨gb, 0, none⟩ (.slice A0 R.slots.length c0)).setCell ⟨gb, 1, none⟩ (.slice A1 R.queue.length c1)).setCell ⟨gb, 2, none⟩ (.slice A2 R.purple.length c2)) lo gb R :=
  ⟨A0, A1, A2, c0, c1, c2, g, fb, nb, g1, g2, ((hK.set_ 0 _).set_ 1 _).set_ 2 _, hg,
    (hO.apart (S := fun b => b = gb) ((((Apart.refl (fun b => b = gb) w).setCell (p := ⟨gb, 0, none⟩) rfl _).setCell (p := ⟨gb, 1, none⟩) rfl _).setCell (p := ⟨gb, 2, none⟩) rfl _) (fun b hb => (hl b hb).2)).lo_le hlo, fun b hb => ⟨by simpa using (hl b hb).1, (hl b hb).2⟩⟩
/-- what lies in a box is an arena -/
theorem arl_of {w : World} {lo g g1 g2 : Nat} {R : Ar} {A0 A1 A2 : Option Addr} {fb : Nat → Nat} {nb : Nat → Nat → Nat} (h : OwnAr w lo A0 A1 A2 R g fb nb g1 g2) (hR : arSz R ≤ 1050000) : ArL w lo w.heap.size A0 A1 A2 R := h.arlz hR
theorem mkAr_le {a : Ar} (h : arSz a ≤ 1050000) : ArnM.mkAr a ≤ 100000000 := by
  have h1 := ArnM.mkSl_sum a.slots a.slots.length
  have h2 : slsSz a.slots ≤ 1050000 := by unfold arSz at h; omega
  have h3 : a.queue.length ≤ 1050000 := by unfold arSz at h; omega
  have h4 : a.purple.length ≤ 1050000 := by unfold arSz at h; omega
  unfold ArnM.mkAr
  unfold slsSz at h2
  omega
theorem mkN_le {a : Ar} (h : arSz a ≤ 1050000) : ArnM.mkN a ≤ 100000000 := by
  have h1 := ArnM.mkSl_sum a.slots a.slots.length
  have h2 : slsSz a.slots ≤ 1050000 := by unfold arSz at h; omega
  have h3 : a.queue.length ≤ 1050000 := by unfold arSz at h; omega
  have h4 : a.purple.length ≤ 1050000 := by unfold arSz at h; omega
  unfold ArnM.mkN
  unfold slsSz at h2
  omega

set_option maxRecDepth 100000 in
set_option maxHeartbeats 32000000 in
theorem walk (a : Ar) (A0 A1 A2 : Option Addr) (c0 c1 c2 : Nat) (k n g : Int) (w : World) (hR : ArL w 0 w.heap.size A0 A1 A2 a) :
    Calls Try.prog 5 #[.agg #[.slice A0 a.slots.length c0, .slice A1 a.queue.length c1, .slice A2 a.purple.length c2], .agg #[.int .i64 k, .int .i64 n, .int .i64 g]] w fun e w' => e = .returned (.bool true) ∧ Below w.heap.size w w' := by
  have hbA : Below w.heap.size w ((w.alloc (.cells #[.slice A0 a.slots.length c0, .slice A1 a.queue.length c1, .slice A2 a.purple.length c2] 25)).alloc (.cells #[.int .i64 k, .int .i64 n, .int .i64 g] 40)) := ((Below.refl _ _).alloc (Nat.le_refl _) _).alloc (by simp) _
  have KA : Blk ((w.alloc (.cells #[.slice A0 a.slots.length c0, .slice A1 a.queue.length c1, .slice A2 a.purple.length c2] 25)).alloc (.cells #[.int .i64 k, .int .i64 n, .int .i64 g] 40)) w.heap.size 25 #[.slice A0 a.slots.length c0, .slice A1 a.queue.length c1, .slice A2 a.purple.length c2] := (Blk.new w 25 #[.slice A0 a.slots.length c0, .slice A1 a.queue.length c1, .slice A2 a.purple.length c2]).alloc _
  have KV : Blk ((w.alloc (.cells #[.slice A0 a.slots.length c0, .slice A1 a.queue.length c1, .slice A2 a.purple.length c2] 25)).alloc (.cells #[.int .i64 k, .int .i64 n, .int .i64 g] 40)) (w.heap.size + 1) 40 #[.int .i64 k, .int .i64 n, .int .i64 g] := by
    have := Blk.new (w.alloc (.cells #[.slice A0 a.slots.length c0, .slice A1 a.queue.length c1, .slice A2 a.purple.length c2] 25)) 40 #[.int .i64 k, .int .i64 n, .int .i64 g]
    simpa using this
  have Hsz := Lib.hid (szArena_c a A0 A1 A2 c0 c1 c2 0 w.heap.size 0x100000 ((w.alloc (.cells #[.slice A0 a.slots.length c0, .slice A1 a.queue.length c1, .slice A2 a.purple.length c2] 25)).alloc (.cells #[.int .i64 k, .int .i64 n, .int .i64 g] 40)) (by simp; try omega) (by omega) (by omega) (hR.below hbA))
  have HR := Lib.hid hR
  have HbA := Lib.hid hbA
  have HKA := Lib.hid KA
  have HKV := Lib.hid KV
  clear hR hbA KA KV
  go_enter Try.func5, Try.ntmps5
  go_wp2_with fail
  refine Hsz.out.mono ?_
  rintro e w0 ⟨r0, rfl, hr1, hr2, hr3, hbx⟩
  have hb0 := HbA.out.trans (hbx.mono HbA.out.size)
  have KA0 := HKA.out.below hbx HKA.out.lt
  have KV0 := HKV.out.below hbx HKV.out.lt
  have Hb0 := Lib.hid hb0
  by_cases hr : r0 < 0
  · clear hr3 hb0 KA0 KV0 hbx Hsz HbA HKA HKV
    go_wp2
    go_ret
    exact ⟨rfl, Hb0.out⟩
  have hr' : 0 ≤ r0 := by omega
  have hsz0 : arSz a ≤ 0x100000 := by have := hr3 hr'; omega
  have hsz : arSz a ≤ 1050000 := Nat.le_trans hsz0 (by decide)
  have hr0 : decide (r0 < 0) = false := decide_eq_false hr
  have hspec := fun A0 A1 A2 c0 c1 c2 L B w (hB : B ≤ w.heap.size) (h : ArL w L B A0 A1 A2 a) (hcap : a.purple.length ≤ c2) => specDropJ_c a A0 A1 A2 c0 c1 c2 L B w k n g hB h hsz0 hcap
  have himpl := fun A0 A1 A2 c0 c1 c2 L B w (hB : B ≤ w.heap.size) (h : ArL w L B A0 A1 A2 a) => implDropJ_c a A0 A1 A2 c0 c1 c2 L B w k n g hB h hsz0
  have hRb : arSz (dropA a k n g) ≤ 1050000 := dropA_sz hsz0
  obtain ⟨R, hRe⟩ : ∃ x, dropA a k n g = x := ⟨_, rfl⟩
  obtain ⟨r, hre⟩ : ∃ x, dropB a k n g = x := ⟨_, rfl⟩
  simp only [hRe, hre] at hspec himpl hRb
  have Hspec := Lib.hid hspec
  have Himpl := Lib.hid himpl
  have HRb := Lib.hid hRb
  have Hta := Lib.hid (fun W (hW : Below w0.heap.size w0 W) => toArena_c a A0 A1 A2 c0 c1 c2 0 w.heap.size W (Nat.le_trans hb0.size hW.size) hsz ((HR.out.below hb0).below (hW.mono hb0.size)))
  have Htn := Lib.hid (fun W (hW : Below w0.heap.size w0 W) => ArnN.toArena_n a A0 A1 A2 c0 c1 c2 0 w.heap.size W (Nat.le_trans hb0.size hW.size) hsz ((HR.out.below hb0).below (hW.mono hb0.size)))
  have Htv := Lib.hid (fun W => toVal_c k n g W)
  obtain ⟨qA0, qA1, qA2⟩ := (three3 KA0)
  obtain ⟨qV0, qV1, qV2⟩ := (three3 KV0)
  have HKA0 := Lib.hid KA0
  have HKV0 := Lib.hid KV0
  have Hszz := Lib.hid hsz
  have Hmka := Lib.hid (mkAr_le hsz)
  have Hmkn := Lib.hid (mkN_le hRb)
  have hne : (r != r) = false := by cases r <;> rfl
  have hlA : w.heap.size + 2 ≤ w0.heap.size := by have := KV0.lt; omega
  clear hspec himpl hRe hre hr3 hbx KA0 KV0 hb0 Hsz HbA HKA HKV hr hsz hsz0 hRb
  go_upto_region 5 with fail
  clear qA0 qA1 qA2 qV0 qV1 qV2 hr0 hr' hr1 hr2
  go_cut [6, 7] (fun p q wx => ∃ gb : Nat, p = .pointer (some ⟨gb, 0, none⟩) ∧ q = .bool r ∧ Hid (Below w0.heap.size w0 wx) ∧ Hid (BoxA wx w0.heap.size gb R))
  case first =>
    obtain ⟨w0d, ew0d⟩ : ∃ x, x = w0.drew := ⟨_, rfl⟩
    have HS0 : Hid (Blk w0d w.heap.size 25 #[.slice A0 a.slots.length c0, .slice A1 a.queue.length c1, .slice A2 a.purple.length c2]) := Lib.hid (ew0d ▸ HKA0.out.drew)
    have HSl0 := Lib.hid (HKA0.out).lt
    have HS1 : Hid (Blk w0d (w.heap.size + 1) 40 #[.int .i64 k, .int .i64 n, .int .i64 g]) := Lib.hid (ew0d ▸ HKV0.out.drew)
    have HSl1 := Lib.hid (HKV0.out).lt
    have HbP : Hid (Below w0.heap.size w0 w0d) := Lib.hid (ew0d ▸ (Below.refl _ w0).drew)
    have hzw0d : w0.heap.size ≤ w0d.heap.size := HbP.out.size
    refine wp_region_noPanic ?_
    refine wp_region_held_drew (S := (fun W => Blk W w.heap.size 25 #[.slice A0 a.slots.length c0, .slice A1 a.queue.length c1, .slice A2 a.purple.length c2] ∧ Blk W (w.heap.size + 1) 40 #[.int .i64 k, .int .i64 n, .int .i64 g])) (by kernel_rfl) ?_ (fun hHeld => ?_)
    · exact ew0d ▸ ⟨HS0.out, HS1.out⟩
    rw [← ew0d]
    have hS0 : Blk w0d w.heap.size 25 #[.slice A0 a.slots.length c0, .slice A1 a.queue.length c1, .slice A2 a.purple.length c2] ∧ Blk w0d (w.heap.size + 1) 40 #[.int .i64 k, .int .i64 n, .int .i64 g] := ⟨HS0.out, HS1.out⟩
    clear ew0d
    refine wpAnyH_take (i := 0) (oi := _) (v := ?_) rfl (by kernel_rfl) (by kernel_rfl) (by kernel_rfl) (fun _ _ _ h => h) (Or.inl ⟨by rfl, ?_⟩) (by assumption) ?_
    rotate_left
    focus
      intro w hSw
      obtain ⟨qs0, qs1⟩ := hSw
      obtain ⟨qs0_0, qs0_1, qs0_2⟩ := (three3 qs0)
      obtain ⟨qs1_0, qs1_1, qs1_2⟩ := (three3 qs1)
      go_simp
      try with_reducible rfl
    try simp only [List.getElem_toArray, List.getElem_cons_succ, List.getElem_cons_zero, Act.put, List.setIfInBounds_toArray, List.set_cons_zero, List.set_cons_succ]
    refine wpAnyH_take (i := 2) (oi := _) (v := ?_) rfl (by kernel_rfl) (by kernel_rfl) (by kernel_rfl) (fun _ _ _ h => h) (Or.inl ⟨by rfl, ?_⟩) (by assumption) ?_
    rotate_left
    focus
      intro w hSw
      obtain ⟨qs0, qs1⟩ := hSw
      obtain ⟨qs0_0, qs0_1, qs0_2⟩ := (three3 qs0)
      obtain ⟨qs1_0, qs1_1, qs1_2⟩ := (three3 qs1)
      go_simp
      try with_reducible rfl
    try simp only [List.getElem_toArray, List.getElem_cons_succ, List.getElem_cons_zero, Act.put, List.setIfInBounds_toArray, List.set_cons_zero, List.set_cons_succ]
    refine wpAnyH_ready (rs := [1, 8]) (by kernel_rfl) (by simp) ?_
    refine AllReadyH.cons (o := _) rfl (fun K hK => ?_) ?_
    · go_simp
      refine Calls.mono (Hta.out w0d HbP.out) ?_
      rintro e y1 ⟨s0, s1, s2, rfl, hL, hb⟩
      have hst := hb
      have hzy1 := hb.size
      replace HS0 := Lib.hid (HS0.out.below hst HS0.out.lt)
      replace HS1 := Lib.hid (HS1.out.below hst HS1.out.lt)
      replace HbP := Lib.hid (HbP.out.trans (hst.mono HbP.out.size))
      have HL := Lib.hid hL
      have HLl : Hid (w0d.heap.size ≤ y1.heap.size) := Lib.hid hst.size
      have Hle : Hid (y1.heap.size ≤ y1.heap.size) := Lib.hid (Nat.le_refl _)
      clear hst hb hL
      refine hK.out _ _ ?_ (fun hHeld => ?_)
      · exact ⟨HS0.out, HS1.out⟩
      · clear hK K
        try simp only [List.getElem_toArray, List.getElem_cons_succ, List.getElem_cons_zero, Act.put, List.setIfInBounds_toArray, List.set_cons_zero, List.set_cons_succ]
        refine wpAnyH_ready (rs := [3, 8]) (by kernel_rfl) (by simp) ?_
        refine AllReadyH.cons (o := _) rfl (fun K hK => ?_) ?_
        · go_simp
          refine Calls.mono (Htv.out y1) ?_
          rintro e y2 ⟨rfl, hb⟩
          have hst := hb
          have hzy2 := hb.size
          replace HS0 := Lib.hid (HS0.out.below hst HS0.out.lt)
          replace HS1 := Lib.hid (HS1.out.below hst HS1.out.lt)
          replace HbP := Lib.hid (HbP.out.trans (hst.mono HbP.out.size))
          replace HL := Lib.hid (HL.out.below (hst.mono Hle.out))
          replace Hle := Lib.hid (Nat.le_trans Hle.out hst.size)
          clear hst hb
          refine hK.out _ _ ?_ (fun hHeld => ?_)
          · exact ⟨HS0.out, HS1.out⟩
          · clear hK K
            try simp only [List.getElem_toArray, List.getElem_cons_succ, List.getElem_cons_zero, Act.put, List.setIfInBounds_toArray, List.set_cons_zero, List.set_cons_succ]
            refine wpAnyH_ready (rs := [4, 8]) (by kernel_rfl) (by simp) ?_
            refine AllReadyH.cons (o := _) rfl (fun K hK => ?_) ?_
            · go_simp
              refine Calls.mono (Hspec.out (some ⟨s0, 0, none⟩) (some ⟨s1, 0, none⟩) (some ⟨s2, 0, none⟩) a.slots.length a.queue.length a.purple.length _ _ y2 Hle.out HL.out (Nat.le_refl _)) ?_
              rintro e y3 ⟨v, rfl, hans, hb⟩
              have hst := hb
              have hzy3 := hb.size
              replace HS0 := Lib.hid (HS0.out.below hst HS0.out.lt)
              replace HS1 := Lib.hid (HS1.out.below hst HS1.out.lt)
              replace HbP := Lib.hid (HbP.out.trans (hst.mono HbP.out.size))
              replace HL := Lib.hid (HL.out.below (hst.mono Hle.out))
              replace Hle := Lib.hid (Nat.le_trans Hle.out hst.size)
              obtain ⟨As0, As1, As2, cs0, cs1, cs2, gg, fb, nb, g1, g2, rfl, hO, hl⟩ := hans
              have HO := Lib.hid hO
              have Hl := Lib.hid hl
              clear hst hb hO hl
              refine hK.out _ _ ?_ (fun hHeld => ?_)
              · exact ⟨HS0.out, HS1.out⟩
              · clear hK K
                try simp only [List.getElem_toArray, List.getElem_cons_succ, List.getElem_cons_zero, Act.put, List.setIfInBounds_toArray, List.set_cons_zero, List.set_cons_succ]
                refine wpAnyH_take (i := 5) (oi := _) (v := ?_) rfl (by kernel_rfl) (by kernel_rfl) (by kernel_rfl) (fun _ _ _ h => h) (Or.inl ⟨by rfl, ?_⟩) (by assumption) ?_
                rotate_left
                focus
                  intro w hSw
                  obtain ⟨qs0, qs1⟩ := hSw
                  obtain ⟨qs0_0, qs0_1, qs0_2⟩ := (three3 qs0)
                  obtain ⟨qs1_0, qs1_1, qs1_2⟩ := (three3 qs1)
                  go_simp
                  try with_reducible rfl
                try simp only [List.getElem_toArray, List.getElem_cons_succ, List.getElem_cons_zero, Act.put, List.setIfInBounds_toArray, List.set_cons_zero, List.set_cons_succ]
                refine wpAnyH_take (i := 6) (oi := _) (v := ?_) rfl (by kernel_rfl) (by kernel_rfl) (by kernel_rfl) (fun _ _ _ h => h) (Or.inl ⟨by rfl, ?_⟩) (by assumption) ?_
                rotate_left
                focus
                  intro w hSw
                  obtain ⟨qs0, qs1⟩ := hSw
                  obtain ⟨qs0_0, qs0_1, qs0_2⟩ := (three3 qs0)
                  obtain ⟨qs1_0, qs1_1, qs1_2⟩ := (three3 qs1)
                  go_simp
                  try with_reducible rfl
                try simp only [List.getElem_toArray, List.getElem_cons_succ, List.getElem_cons_zero, Act.put, List.setIfInBounds_toArray, List.set_cons_zero, List.set_cons_succ]
                refine wpAnyH_take (i := 7) (oi := _) (v := ?_) rfl (by kernel_rfl) (by kernel_rfl) (by kernel_rfl) (fun _ _ _ h => h) (Or.inl ⟨by rfl, ?_⟩) (by assumption) ?_
                rotate_left
                focus
                  intro w hSw
                  obtain ⟨qs0, qs1⟩ := hSw
                  obtain ⟨qs0_0, qs0_1, qs0_2⟩ := (three3 qs0)
                  obtain ⟨qs1_0, qs1_1, qs1_2⟩ := (three3 qs1)
                  go_simp
                  try with_reducible rfl
                try simp only [List.getElem_toArray, List.getElem_cons_succ, List.getElem_cons_zero, Act.put, List.setIfInBounds_toArray, List.set_cons_zero, List.set_cons_succ]
                refine wpAnyH_ready (rs := [8]) (by kernel_rfl) (by simp) ?_
                refine AllReadyH.cons (o := _) rfl (fun K hK => ?_) ?_
                · go_simp
                  obtain ⟨y4, ey4⟩ : ∃ x, x = y3.alloc (.cells #[.slice none 0 0, .slice none 0 0, .slice none 0 0] 32) := ⟨_, rfl⟩
                  rw [← ey4]
                  have hst : Below y3.heap.size y3 y4 := ey4 ▸ blw1 y3 (.cells #[.slice none 0 0, .slice none 0 0, .slice none 0 0] 32)
                  have HX : Hid (Blk y4 y3.heap.size 32 #[.slice none 0 0, .slice none 0 0, .slice none 0 0]) := Lib.hid (ey4 ▸ Blk.new y3 32 #[.slice none 0 0, .slice none 0 0, .slice none 0 0])
                  have hzy4 : y4.heap.size ≤ y3.heap.size + 1 := by rw [ey4]; simp
                  have hyy4 : y3.heap.size + 1 ≤ y4.heap.size := by rw [ey4]; simp
                  replace HS0 := Lib.hid (HS0.out.below hst HS0.out.lt)
                  replace HS1 := Lib.hid (HS1.out.below hst HS1.out.lt)
                  replace HbP := Lib.hid (HbP.out.trans (hst.mono HbP.out.size))
                  replace HL := Lib.hid (HL.out.below (hst.mono Hle.out))
                  replace Hle := Lib.hid (Nat.le_trans Hle.out hst.size)
                  replace HO := Lib.hid (HO.out.apart (S := fun _ => False) (Apart.of_below hst) (fun _ _ h => h))
                  clear hst ey4
                  refine hK.out _ _ ?_ (fun hHeld => ?_)
                  · exact ⟨HS0.out, HS1.out⟩
                  · clear hK K
                    try simp only [List.getElem_toArray, List.getElem_cons_succ, List.getElem_cons_zero, Act.put, List.setIfInBounds_toArray, List.set_cons_zero, List.set_cons_succ]
                    refine wpAnyH_ready (rs := [9]) (by kernel_rfl) (by simp) ?_
                    refine AllReadyH.cons (o := _) rfl (fun K hK => ?_) ?_
                    · have z0 := HX.out.cel 0 rfl
                      have z1 := HX.out.cel 1 rfl
                      have z2 := HX.out.cel 2 rfl
                      have f0 := HX.out.frozen 0
                      have f1 := HX.out.frozen 1
                      have f2 := HX.out.frozen 2
                      go_simp
                      obtain ⟨y5, ey5⟩ : ∃ x, x = (((y4.setCell ⟨y3.heap.size, 0, none⟩ (.slice As0 R.slots.length cs0)).setCell ⟨y3.heap.size, 1, none⟩ (.slice As1 R.queue.length cs1)).setCell ⟨y3.heap.size, 2, none⟩ (.slice As2 R.purple.length cs2)) := ⟨_, rfl⟩
                      rw [← ey5]
                      replace HbP : Hid (Below w0.heap.size w0 y5) := Lib.hid (ey5 ▸ below_store HbP.out (by have := HbP.out.size; omega) _ _ _)
                      have HB : Hid (BoxA y5 w0.heap.size (y3.heap.size) R) := Lib.hid (ey5 ▸ BoxA.of_store HX.out (by omega) HO.out (fun b hb => by have h1 := Hl.out b hb; have h2 := HO.out.low b hb; exact ⟨by omega, by omega⟩) (by omega) cs0 cs1 cs2)
                      replace HS0 : Hid (Blk y5 w.heap.size 25 #[.slice A0 a.slots.length c0, .slice A1 a.queue.length c1, .slice A2 a.purple.length c2]) := Lib.hid (ey5 ▸ blk_three HS0.out (by have := HSl0.out; omega) _ _ _)
                      replace HS1 : Hid (Blk y5 (w.heap.size + 1) 40 #[.int .i64 k, .int .i64 n, .int .i64 g]) := Lib.hid (ey5 ▸ blk_three HS1.out (by have := HSl1.out; omega) _ _ _)
                      clear ey5 z0 z1 z2 f0 f1 f2
                      refine hK.out _ _ ?_ (fun hHeld => ?_)
                      · exact ⟨HS0.out, HS1.out⟩
                      · clear hK K
                        try simp only [List.getElem_toArray, List.getElem_cons_succ, List.getElem_cons_zero, Act.put, List.setIfInBounds_toArray, List.set_cons_zero, List.set_cons_succ]
                        refine wpAnyH_take (i := 10) (oi := _) (v := ?_) rfl (by kernel_rfl) (by kernel_rfl) (by kernel_rfl) (fun _ _ _ h => h) (Or.inl ⟨by rfl, ?_⟩) (by assumption) ?_
                        rotate_left
                        focus
                          intro w hSw
                          obtain ⟨qs0, qs1⟩ := hSw
                          obtain ⟨qs0_0, qs0_1, qs0_2⟩ := (three3 qs0)
                          obtain ⟨qs1_0, qs1_1, qs1_2⟩ := (three3 qs1)
                          go_simp
                          try with_reducible rfl
                        try simp only [List.getElem_toArray, List.getElem_cons_succ, List.getElem_cons_zero, Act.put, List.setIfInBounds_toArray, List.set_cons_zero, List.set_cons_succ]
                        refine wpAnyH_done (by kernel_rfl) ?_ _
                        refine NoPanic.normal ?_
                        try go_wp2_with fail
                        go_meet
                        case rel => exact ⟨_, rfl, rfl, HbP, HB⟩
                    exact AllReadyH.nil
                exact AllReadyH.nil
            refine AllReadyH.cons (o := _) rfl (fun K hK => ?_) ?_
            · go_simp
              obtain ⟨y6, ey6⟩ : ∃ x, x = y2.alloc (.cells #[.slice none 0 0, .slice none 0 0, .slice none 0 0] 32) := ⟨_, rfl⟩
              rw [← ey6]
              have hst : Below y2.heap.size y2 y6 := ey6 ▸ blw1 y2 (.cells #[.slice none 0 0, .slice none 0 0, .slice none 0 0] 32)
              have HX : Hid (Blk y6 y2.heap.size 32 #[.slice none 0 0, .slice none 0 0, .slice none 0 0]) := Lib.hid (ey6 ▸ Blk.new y2 32 #[.slice none 0 0, .slice none 0 0, .slice none 0 0])
              have hzy6 : y6.heap.size ≤ y2.heap.size + 1 := by rw [ey6]; simp
              have hyy6 : y2.heap.size + 1 ≤ y6.heap.size := by rw [ey6]; simp
              replace HS0 := Lib.hid (HS0.out.below hst HS0.out.lt)
              replace HS1 := Lib.hid (HS1.out.below hst HS1.out.lt)
              replace HbP := Lib.hid (HbP.out.trans (hst.mono HbP.out.size))
              replace HL := Lib.hid (HL.out.below (hst.mono Hle.out))
              replace Hle := Lib.hid (Nat.le_trans Hle.out hst.size)
              clear hst ey6
              refine hK.out _ _ ?_ (fun hHeld => ?_)
              · exact ⟨HS0.out, HS1.out⟩
              · clear hK K
                try simp only [List.getElem_toArray, List.getElem_cons_succ, List.getElem_cons_zero, Act.put, List.setIfInBounds_toArray, List.set_cons_zero, List.set_cons_succ]
                refine wpAnyH_ready (rs := [4]) (by kernel_rfl) (by simp) ?_
                refine AllReadyH.cons (o := _) rfl (fun K hK => ?_) ?_
                · go_simp
                  refine Calls.mono (Hspec.out (some ⟨s0, 0, none⟩) (some ⟨s1, 0, none⟩) (some ⟨s2, 0, none⟩) a.slots.length a.queue.length a.purple.length _ _ y6 Hle.out HL.out (Nat.le_refl _)) ?_
                  rintro e y7 ⟨v, rfl, hans, hb⟩
                  have hst := hb
                  have hzy7 := hb.size
                  replace HS0 := Lib.hid (HS0.out.below hst HS0.out.lt)
                  replace HS1 := Lib.hid (HS1.out.below hst HS1.out.lt)
                  replace HbP := Lib.hid (HbP.out.trans (hst.mono HbP.out.size))
                  replace HL := Lib.hid (HL.out.below (hst.mono Hle.out))
                  replace Hle := Lib.hid (Nat.le_trans Hle.out hst.size)
                  replace HX := Lib.hid (HX.out.below hst HX.out.lt)
                  obtain ⟨As0, As1, As2, cs0, cs1, cs2, gg, fb, nb, g1, g2, rfl, hO, hl⟩ := hans
                  have HO := Lib.hid hO
                  have Hl := Lib.hid hl
                  clear hst hb hO hl
                  refine hK.out _ _ ?_ (fun hHeld => ?_)
                  · exact ⟨HS0.out, HS1.out⟩
                  · clear hK K
                    try simp only [List.getElem_toArray, List.getElem_cons_succ, List.getElem_cons_zero, Act.put, List.setIfInBounds_toArray, List.set_cons_zero, List.set_cons_succ]
                    refine wpAnyH_take (i := 5) (oi := _) (v := ?_) rfl (by kernel_rfl) (by kernel_rfl) (by kernel_rfl) (fun _ _ _ h => h) (Or.inl ⟨by rfl, ?_⟩) (by assumption) ?_
                    rotate_left
                    focus
                      intro w hSw
                      obtain ⟨qs0, qs1⟩ := hSw
                      obtain ⟨qs0_0, qs0_1, qs0_2⟩ := (three3 qs0)
                      obtain ⟨qs1_0, qs1_1, qs1_2⟩ := (three3 qs1)
                      go_simp
                      try with_reducible rfl
                    try simp only [List.getElem_toArray, List.getElem_cons_succ, List.getElem_cons_zero, Act.put, List.setIfInBounds_toArray, List.set_cons_zero, List.set_cons_succ]
                    refine wpAnyH_take (i := 6) (oi := _) (v := ?_) rfl (by kernel_rfl) (by kernel_rfl) (by kernel_rfl) (fun _ _ _ h => h) (Or.inl ⟨by rfl, ?_⟩) (by assumption) ?_
                    rotate_left
                    focus
                      intro w hSw
                      obtain ⟨qs0, qs1⟩ := hSw
                      obtain ⟨qs0_0, qs0_1, qs0_2⟩ := (three3 qs0)
                      obtain ⟨qs1_0, qs1_1, qs1_2⟩ := (three3 qs1)
                      go_simp
                      try with_reducible rfl
                    try simp only [List.getElem_toArray, List.getElem_cons_succ, List.getElem_cons_zero, Act.put, List.setIfInBounds_toArray, List.set_cons_zero, List.set_cons_succ]
                    refine wpAnyH_take (i := 7) (oi := _) (v := ?_) rfl (by kernel_rfl) (by kernel_rfl) (by kernel_rfl) (fun _ _ _ h => h) (Or.inl ⟨by rfl, ?_⟩) (by assumption) ?_
                    rotate_left
                    focus
                      intro w hSw
                      obtain ⟨qs0, qs1⟩ := hSw
                      obtain ⟨qs0_0, qs0_1, qs0_2⟩ := (three3 qs0)
                      obtain ⟨qs1_0, qs1_1, qs1_2⟩ := (three3 qs1)
                      go_simp
                      try with_reducible rfl
                    try simp only [List.getElem_toArray, List.getElem_cons_succ, List.getElem_cons_zero, Act.put, List.setIfInBounds_toArray, List.set_cons_zero, List.set_cons_succ]
                    refine wpAnyH_ready (rs := [9]) (by kernel_rfl) (by simp) ?_
                    refine AllReadyH.cons (o := _) rfl (fun K hK => ?_) ?_
                    · have z0 := HX.out.cel 0 rfl
                      have z1 := HX.out.cel 1 rfl
                      have z2 := HX.out.cel 2 rfl
                      have f0 := HX.out.frozen 0
                      have f1 := HX.out.frozen 1
                      have f2 := HX.out.frozen 2
                      go_simp
                      obtain ⟨y8, ey8⟩ : ∃ x, x = (((y7.setCell ⟨y2.heap.size, 0, none⟩ (.slice As0 R.slots.length cs0)).setCell ⟨y2.heap.size, 1, none⟩ (.slice As1 R.queue.length cs1)).setCell ⟨y2.heap.size, 2, none⟩ (.slice As2 R.purple.length cs2)) := ⟨_, rfl⟩
                      rw [← ey8]
                      replace HbP : Hid (Below w0.heap.size w0 y8) := Lib.hid (ey8 ▸ below_store HbP.out (by have := HbP.out.size; omega) _ _ _)
                      have HB : Hid (BoxA y8 w0.heap.size (y2.heap.size) R) := Lib.hid (ey8 ▸ BoxA.of_store HX.out (by omega) HO.out (fun b hb => by have h1 := Hl.out b hb; have h2 := HO.out.low b hb; exact ⟨by omega, by omega⟩) (by omega) cs0 cs1 cs2)
                      replace HS0 : Hid (Blk y8 w.heap.size 25 #[.slice A0 a.slots.length c0, .slice A1 a.queue.length c1, .slice A2 a.purple.length c2]) := Lib.hid (ey8 ▸ blk_three HS0.out (by have := HSl0.out; omega) _ _ _)
                      replace HS1 : Hid (Blk y8 (w.heap.size + 1) 40 #[.int .i64 k, .int .i64 n, .int .i64 g]) := Lib.hid (ey8 ▸ blk_three HS1.out (by have := HSl1.out; omega) _ _ _)
                      clear ey8 z0 z1 z2 f0 f1 f2
                      refine hK.out _ _ ?_ (fun hHeld => ?_)
                      · exact ⟨HS0.out, HS1.out⟩
                      · clear hK K
                        try simp only [List.getElem_toArray, List.getElem_cons_succ, List.getElem_cons_zero, Act.put, List.setIfInBounds_toArray, List.set_cons_zero, List.set_cons_succ]
                        refine wpAnyH_take (i := 10) (oi := _) (v := ?_) rfl (by kernel_rfl) (by kernel_rfl) (by kernel_rfl) (fun _ _ _ h => h) (Or.inl ⟨by rfl, ?_⟩) (by assumption) ?_
                        rotate_left
                        focus
                          intro w hSw
                          obtain ⟨qs0, qs1⟩ := hSw
                          obtain ⟨qs0_0, qs0_1, qs0_2⟩ := (three3 qs0)
                          obtain ⟨qs1_0, qs1_1, qs1_2⟩ := (three3 qs1)
                          go_simp
                          try with_reducible rfl
                        try simp only [List.getElem_toArray, List.getElem_cons_succ, List.getElem_cons_zero, Act.put, List.setIfInBounds_toArray, List.set_cons_zero, List.set_cons_succ]
                        refine wpAnyH_done (by kernel_rfl) ?_ _
                        refine NoPanic.normal ?_
                        try go_wp2_with fail
                        go_meet
                        case rel => exact ⟨_, rfl, rfl, HbP, HB⟩
                    exact AllReadyH.nil
                exact AllReadyH.nil
            exact AllReadyH.nil
        refine AllReadyH.cons (o := _) rfl (fun K hK => ?_) ?_
        · go_simp
          obtain ⟨y9, ey9⟩ : ∃ x, x = y1.alloc (.cells #[.slice none 0 0, .slice none 0 0, .slice none 0 0] 32) := ⟨_, rfl⟩
          rw [← ey9]
          have hst : Below y1.heap.size y1 y9 := ey9 ▸ blw1 y1 (.cells #[.slice none 0 0, .slice none 0 0, .slice none 0 0] 32)
          have HX : Hid (Blk y9 y1.heap.size 32 #[.slice none 0 0, .slice none 0 0, .slice none 0 0]) := Lib.hid (ey9 ▸ Blk.new y1 32 #[.slice none 0 0, .slice none 0 0, .slice none 0 0])
          have hzy9 : y9.heap.size ≤ y1.heap.size + 1 := by rw [ey9]; simp
          have hyy9 : y1.heap.size + 1 ≤ y9.heap.size := by rw [ey9]; simp
          replace HS0 := Lib.hid (HS0.out.below hst HS0.out.lt)
          replace HS1 := Lib.hid (HS1.out.below hst HS1.out.lt)
          replace HbP := Lib.hid (HbP.out.trans (hst.mono HbP.out.size))
          replace HL := Lib.hid (HL.out.below (hst.mono Hle.out))
          replace Hle := Lib.hid (Nat.le_trans Hle.out hst.size)
          clear hst ey9
          refine hK.out _ _ ?_ (fun hHeld => ?_)
          · exact ⟨HS0.out, HS1.out⟩
          · clear hK K
            try simp only [List.getElem_toArray, List.getElem_cons_succ, List.getElem_cons_zero, Act.put, List.setIfInBounds_toArray, List.set_cons_zero, List.set_cons_succ]
            refine wpAnyH_ready (rs := [3]) (by kernel_rfl) (by simp) ?_
            refine AllReadyH.cons (o := _) rfl (fun K hK => ?_) ?_
            · go_simp
              refine Calls.mono (Htv.out y9) ?_
              rintro e y10 ⟨rfl, hb⟩
              have hst := hb
              have hzy10 := hb.size
              replace HS0 := Lib.hid (HS0.out.below hst HS0.out.lt)
              replace HS1 := Lib.hid (HS1.out.below hst HS1.out.lt)
              replace HbP := Lib.hid (HbP.out.trans (hst.mono HbP.out.size))
              replace HL := Lib.hid (HL.out.below (hst.mono Hle.out))
              replace Hle := Lib.hid (Nat.le_trans Hle.out hst.size)
              replace HX := Lib.hid (HX.out.below hst HX.out.lt)
              clear hst hb
              refine hK.out _ _ ?_ (fun hHeld => ?_)
              · exact ⟨HS0.out, HS1.out⟩
              · clear hK K
                try simp only [List.getElem_toArray, List.getElem_cons_succ, List.getElem_cons_zero, Act.put, List.setIfInBounds_toArray, List.set_cons_zero, List.set_cons_succ]
                refine wpAnyH_ready (rs := [4]) (by kernel_rfl) (by simp) ?_
                refine AllReadyH.cons (o := _) rfl (fun K hK => ?_) ?_
                · go_simp
                  refine Calls.mono (Hspec.out (some ⟨s0, 0, none⟩) (some ⟨s1, 0, none⟩) (some ⟨s2, 0, none⟩) a.slots.length a.queue.length a.purple.length _ _ y10 Hle.out HL.out (Nat.le_refl _)) ?_
                  rintro e y11 ⟨v, rfl, hans, hb⟩
                  have hst := hb
                  have hzy11 := hb.size
                  replace HS0 := Lib.hid (HS0.out.below hst HS0.out.lt)
                  replace HS1 := Lib.hid (HS1.out.below hst HS1.out.lt)
                  replace HbP := Lib.hid (HbP.out.trans (hst.mono HbP.out.size))
                  replace HL := Lib.hid (HL.out.below (hst.mono Hle.out))
                  replace Hle := Lib.hid (Nat.le_trans Hle.out hst.size)
                  replace HX := Lib.hid (HX.out.below hst HX.out.lt)
                  obtain ⟨As0, As1, As2, cs0, cs1, cs2, gg, fb, nb, g1, g2, rfl, hO, hl⟩ := hans
                  have HO := Lib.hid hO
                  have Hl := Lib.hid hl
                  clear hst hb hO hl
                  refine hK.out _ _ ?_ (fun hHeld => ?_)
                  · exact ⟨HS0.out, HS1.out⟩
                  · clear hK K
                    try simp only [List.getElem_toArray, List.getElem_cons_succ, List.getElem_cons_zero, Act.put, List.setIfInBounds_toArray, List.set_cons_zero, List.set_cons_succ]
                    refine wpAnyH_take (i := 5) (oi := _) (v := ?_) rfl (by kernel_rfl) (by kernel_rfl) (by kernel_rfl) (fun _ _ _ h => h) (Or.inl ⟨by rfl, ?_⟩) (by assumption) ?_
                    rotate_left
                    focus
                      intro w hSw
                      obtain ⟨qs0, qs1⟩ := hSw
                      obtain ⟨qs0_0, qs0_1, qs0_2⟩ := (three3 qs0)
                      obtain ⟨qs1_0, qs1_1, qs1_2⟩ := (three3 qs1)
                      go_simp
                      try with_reducible rfl
                    try simp only [List.getElem_toArray, List.getElem_cons_succ, List.getElem_cons_zero, Act.put, List.setIfInBounds_toArray, List.set_cons_zero, List.set_cons_succ]
                    refine wpAnyH_take (i := 6) (oi := _) (v := ?_) rfl (by kernel_rfl) (by kernel_rfl) (by kernel_rfl) (fun _ _ _ h => h) (Or.inl ⟨by rfl, ?_⟩) (by assumption) ?_
                    rotate_left
                    focus
                      intro w hSw
                      obtain ⟨qs0, qs1⟩ := hSw
                      obtain ⟨qs0_0, qs0_1, qs0_2⟩ := (three3 qs0)
                      obtain ⟨qs1_0, qs1_1, qs1_2⟩ := (three3 qs1)
                      go_simp
                      try with_reducible rfl
                    try simp only [List.getElem_toArray, List.getElem_cons_succ, List.getElem_cons_zero, Act.put, List.setIfInBounds_toArray, List.set_cons_zero, List.set_cons_succ]
                    refine wpAnyH_take (i := 7) (oi := _) (v := ?_) rfl (by kernel_rfl) (by kernel_rfl) (by kernel_rfl) (fun _ _ _ h => h) (Or.inl ⟨by rfl, ?_⟩) (by assumption) ?_
                    rotate_left
                    focus
                      intro w hSw
                      obtain ⟨qs0, qs1⟩ := hSw
                      obtain ⟨qs0_0, qs0_1, qs0_2⟩ := (three3 qs0)
                      obtain ⟨qs1_0, qs1_1, qs1_2⟩ := (three3 qs1)
                      go_simp
                      try with_reducible rfl
                    try simp only [List.getElem_toArray, List.getElem_cons_succ, List.getElem_cons_zero, Act.put, List.setIfInBounds_toArray, List.set_cons_zero, List.set_cons_succ]
                    refine wpAnyH_ready (rs := [9]) (by kernel_rfl) (by simp) ?_
                    refine AllReadyH.cons (o := _) rfl (fun K hK => ?_) ?_
                    · have z0 := HX.out.cel 0 rfl
                      have z1 := HX.out.cel 1 rfl
                      have z2 := HX.out.cel 2 rfl
                      have f0 := HX.out.frozen 0
                      have f1 := HX.out.frozen 1
                      have f2 := HX.out.frozen 2
                      go_simp
                      obtain ⟨y12, ey12⟩ : ∃ x, x = (((y11.setCell ⟨y1.heap.size, 0, none⟩ (.slice As0 R.slots.length cs0)).setCell ⟨y1.heap.size, 1, none⟩ (.slice As1 R.queue.length cs1)).setCell ⟨y1.heap.size, 2, none⟩ (.slice As2 R.purple.length cs2)) := ⟨_, rfl⟩
                      rw [← ey12]
                      replace HbP : Hid (Below w0.heap.size w0 y12) := Lib.hid (ey12 ▸ below_store HbP.out (by have := HbP.out.size; omega) _ _ _)
                      have HB : Hid (BoxA y12 w0.heap.size (y1.heap.size) R) := Lib.hid (ey12 ▸ BoxA.of_store HX.out (by omega) HO.out (fun b hb => by have h1 := Hl.out b hb; have h2 := HO.out.low b hb; exact ⟨by omega, by omega⟩) (by omega) cs0 cs1 cs2)
                      replace HS0 : Hid (Blk y12 w.heap.size 25 #[.slice A0 a.slots.length c0, .slice A1 a.queue.length c1, .slice A2 a.purple.length c2]) := Lib.hid (ey12 ▸ blk_three HS0.out (by have := HSl0.out; omega) _ _ _)
                      replace HS1 : Hid (Blk y12 (w.heap.size + 1) 40 #[.int .i64 k, .int .i64 n, .int .i64 g]) := Lib.hid (ey12 ▸ blk_three HS1.out (by have := HSl1.out; omega) _ _ _)
                      clear ey12 z0 z1 z2 f0 f1 f2
                      refine hK.out _ _ ?_ (fun hHeld => ?_)
                      · exact ⟨HS0.out, HS1.out⟩
                      · clear hK K
                        try simp only [List.getElem_toArray, List.getElem_cons_succ, List.getElem_cons_zero, Act.put, List.setIfInBounds_toArray, List.set_cons_zero, List.set_cons_succ]
                        refine wpAnyH_take (i := 10) (oi := _) (v := ?_) rfl (by kernel_rfl) (by kernel_rfl) (by kernel_rfl) (fun _ _ _ h => h) (Or.inl ⟨by rfl, ?_⟩) (by assumption) ?_
                        rotate_left
                        focus
                          intro w hSw
                          obtain ⟨qs0, qs1⟩ := hSw
                          obtain ⟨qs0_0, qs0_1, qs0_2⟩ := (three3 qs0)
                          obtain ⟨qs1_0, qs1_1, qs1_2⟩ := (three3 qs1)
                          go_simp
                          try with_reducible rfl
                        try simp only [List.getElem_toArray, List.getElem_cons_succ, List.getElem_cons_zero, Act.put, List.setIfInBounds_toArray, List.set_cons_zero, List.set_cons_succ]
                        refine wpAnyH_done (by kernel_rfl) ?_ _
                        refine NoPanic.normal ?_
                        try go_wp2_with fail
                        go_meet
                        case rel => exact ⟨_, rfl, rfl, HbP, HB⟩
                    exact AllReadyH.nil
                exact AllReadyH.nil
            exact AllReadyH.nil
        exact AllReadyH.nil
    refine AllReadyH.cons (o := _) rfl (fun K hK => ?_) ?_
    · go_simp
      obtain ⟨y13, ey13⟩ : ∃ x, x = w0d.alloc (.cells #[.slice none 0 0, .slice none 0 0, .slice none 0 0] 32) := ⟨_, rfl⟩
      rw [← ey13]
      have hst : Below w0d.heap.size w0d y13 := ey13 ▸ blw1 w0d (.cells #[.slice none 0 0, .slice none 0 0, .slice none 0 0] 32)
      have HX : Hid (Blk y13 w0d.heap.size 32 #[.slice none 0 0, .slice none 0 0, .slice none 0 0]) := Lib.hid (ey13 ▸ Blk.new w0d 32 #[.slice none 0 0, .slice none 0 0, .slice none 0 0])
      have hzy13 : y13.heap.size ≤ w0d.heap.size + 1 := by rw [ey13]; simp
      have hyy13 : w0d.heap.size + 1 ≤ y13.heap.size := by rw [ey13]; simp
      replace HS0 := Lib.hid (HS0.out.below hst HS0.out.lt)
      replace HS1 := Lib.hid (HS1.out.below hst HS1.out.lt)
      replace HbP := Lib.hid (HbP.out.trans (hst.mono HbP.out.size))
      clear hst ey13
      refine hK.out _ _ ?_ (fun hHeld => ?_)
      · exact ⟨HS0.out, HS1.out⟩
      · clear hK K
        try simp only [List.getElem_toArray, List.getElem_cons_succ, List.getElem_cons_zero, Act.put, List.setIfInBounds_toArray, List.set_cons_zero, List.set_cons_succ]
        refine wpAnyH_ready (rs := [1]) (by kernel_rfl) (by simp) ?_
        refine AllReadyH.cons (o := _) rfl (fun K hK => ?_) ?_
        · go_simp
          refine Calls.mono (Hta.out y13 HbP.out) ?_
          rintro e y14 ⟨s0, s1, s2, rfl, hL, hb⟩
          have hst := hb
          have hzy14 := hb.size
          replace HS0 := Lib.hid (HS0.out.below hst HS0.out.lt)
          replace HS1 := Lib.hid (HS1.out.below hst HS1.out.lt)
          replace HbP := Lib.hid (HbP.out.trans (hst.mono HbP.out.size))
          replace HX := Lib.hid (HX.out.below hst HX.out.lt)
          have HL := Lib.hid hL
          have HLl : Hid (y13.heap.size ≤ y14.heap.size) := Lib.hid hst.size
          have Hle : Hid (y14.heap.size ≤ y14.heap.size) := Lib.hid (Nat.le_refl _)
          clear hst hb hL
          refine hK.out _ _ ?_ (fun hHeld => ?_)
          · exact ⟨HS0.out, HS1.out⟩
          · clear hK K
            try simp only [List.getElem_toArray, List.getElem_cons_succ, List.getElem_cons_zero, Act.put, List.setIfInBounds_toArray, List.set_cons_zero, List.set_cons_succ]
            refine wpAnyH_ready (rs := [3]) (by kernel_rfl) (by simp) ?_
            refine AllReadyH.cons (o := _) rfl (fun K hK => ?_) ?_
            · go_simp
              refine Calls.mono (Htv.out y14) ?_
              rintro e y15 ⟨rfl, hb⟩
              have hst := hb
              have hzy15 := hb.size
              replace HS0 := Lib.hid (HS0.out.below hst HS0.out.lt)
              replace HS1 := Lib.hid (HS1.out.below hst HS1.out.lt)
              replace HbP := Lib.hid (HbP.out.trans (hst.mono HbP.out.size))
              replace HX := Lib.hid (HX.out.below hst HX.out.lt)
              replace HL := Lib.hid (HL.out.below (hst.mono Hle.out))
              replace Hle := Lib.hid (Nat.le_trans Hle.out hst.size)
              clear hst hb
              refine hK.out _ _ ?_ (fun hHeld => ?_)
              · exact ⟨HS0.out, HS1.out⟩
              · clear hK K
                try simp only [List.getElem_toArray, List.getElem_cons_succ, List.getElem_cons_zero, Act.put, List.setIfInBounds_toArray, List.set_cons_zero, List.set_cons_succ]
                refine wpAnyH_ready (rs := [4]) (by kernel_rfl) (by simp) ?_
                refine AllReadyH.cons (o := _) rfl (fun K hK => ?_) ?_
                · go_simp
                  refine Calls.mono (Hspec.out (some ⟨s0, 0, none⟩) (some ⟨s1, 0, none⟩) (some ⟨s2, 0, none⟩) a.slots.length a.queue.length a.purple.length _ _ y15 Hle.out HL.out (Nat.le_refl _)) ?_
                  rintro e y16 ⟨v, rfl, hans, hb⟩
                  have hst := hb
                  have hzy16 := hb.size
                  replace HS0 := Lib.hid (HS0.out.below hst HS0.out.lt)
                  replace HS1 := Lib.hid (HS1.out.below hst HS1.out.lt)
                  replace HbP := Lib.hid (HbP.out.trans (hst.mono HbP.out.size))
                  replace HX := Lib.hid (HX.out.below hst HX.out.lt)
                  replace HL := Lib.hid (HL.out.below (hst.mono Hle.out))
                  replace Hle := Lib.hid (Nat.le_trans Hle.out hst.size)
                  obtain ⟨As0, As1, As2, cs0, cs1, cs2, gg, fb, nb, g1, g2, rfl, hO, hl⟩ := hans
                  have HO := Lib.hid hO
                  have Hl := Lib.hid hl
                  clear hst hb hO hl
                  refine hK.out _ _ ?_ (fun hHeld => ?_)
                  · exact ⟨HS0.out, HS1.out⟩
                  · clear hK K
                    try simp only [List.getElem_toArray, List.getElem_cons_succ, List.getElem_cons_zero, Act.put, List.setIfInBounds_toArray, List.set_cons_zero, List.set_cons_succ]
                    refine wpAnyH_take (i := 5) (oi := _) (v := ?_) rfl (by kernel_rfl) (by kernel_rfl) (by kernel_rfl) (fun _ _ _ h => h) (Or.inl ⟨by rfl, ?_⟩) (by assumption) ?_
                    rotate_left
                    focus
                      intro w hSw
                      obtain ⟨qs0, qs1⟩ := hSw
                      obtain ⟨qs0_0, qs0_1, qs0_2⟩ := (three3 qs0)
                      obtain ⟨qs1_0, qs1_1, qs1_2⟩ := (three3 qs1)
                      go_simp
                      try with_reducible rfl
                    try simp only [List.getElem_toArray, List.getElem_cons_succ, List.getElem_cons_zero, Act.put, List.setIfInBounds_toArray, List.set_cons_zero, List.set_cons_succ]
                    refine wpAnyH_take (i := 6) (oi := _) (v := ?_) rfl (by kernel_rfl) (by kernel_rfl) (by kernel_rfl) (fun _ _ _ h => h) (Or.inl ⟨by rfl, ?_⟩) (by assumption) ?_
                    rotate_left
                    focus
                      intro w hSw
                      obtain ⟨qs0, qs1⟩ := hSw
                      obtain ⟨qs0_0, qs0_1, qs0_2⟩ := (three3 qs0)
                      obtain ⟨qs1_0, qs1_1, qs1_2⟩ := (three3 qs1)
                      go_simp
                      try with_reducible rfl
                    try simp only [List.getElem_toArray, List.getElem_cons_succ, List.getElem_cons_zero, Act.put, List.setIfInBounds_toArray, List.set_cons_zero, List.set_cons_succ]
                    refine wpAnyH_take (i := 7) (oi := _) (v := ?_) rfl (by kernel_rfl) (by kernel_rfl) (by kernel_rfl) (fun _ _ _ h => h) (Or.inl ⟨by rfl, ?_⟩) (by assumption) ?_
                    rotate_left
                    focus
                      intro w hSw
                      obtain ⟨qs0, qs1⟩ := hSw
                      obtain ⟨qs0_0, qs0_1, qs0_2⟩ := (three3 qs0)
                      obtain ⟨qs1_0, qs1_1, qs1_2⟩ := (three3 qs1)
                      go_simp
                      try with_reducible rfl
                    try simp only [List.getElem_toArray, List.getElem_cons_succ, List.getElem_cons_zero, Act.put, List.setIfInBounds_toArray, List.set_cons_zero, List.set_cons_succ]
                    refine wpAnyH_ready (rs := [9]) (by kernel_rfl) (by simp) ?_
                    refine AllReadyH.cons (o := _) rfl (fun K hK => ?_) ?_
                    · have z0 := HX.out.cel 0 rfl
                      have z1 := HX.out.cel 1 rfl
                      have z2 := HX.out.cel 2 rfl
                      have f0 := HX.out.frozen 0
                      have f1 := HX.out.frozen 1
                      have f2 := HX.out.frozen 2
                      go_simp
                      obtain ⟨y17, ey17⟩ : ∃ x, x = (((y16.setCell ⟨w0d.heap.size, 0, none⟩ (.slice As0 R.slots.length cs0)).setCell ⟨w0d.heap.size, 1, none⟩ (.slice As1 R.queue.length cs1)).setCell ⟨w0d.heap.size, 2, none⟩ (.slice As2 R.purple.length cs2)) := ⟨_, rfl⟩
                      rw [← ey17]
                      replace HbP : Hid (Below w0.heap.size w0 y17) := Lib.hid (ey17 ▸ below_store HbP.out (by have := HbP.out.size; omega) _ _ _)
                      have HB : Hid (BoxA y17 w0.heap.size (w0d.heap.size) R) := Lib.hid (ey17 ▸ BoxA.of_store HX.out (by omega) HO.out (fun b hb => by have h1 := Hl.out b hb; have h2 := HO.out.low b hb; exact ⟨by omega, by omega⟩) (by omega) cs0 cs1 cs2)
                      replace HS0 : Hid (Blk y17 w.heap.size 25 #[.slice A0 a.slots.length c0, .slice A1 a.queue.length c1, .slice A2 a.purple.length c2]) := Lib.hid (ey17 ▸ blk_three HS0.out (by have := HSl0.out; omega) _ _ _)
                      replace HS1 : Hid (Blk y17 (w.heap.size + 1) 40 #[.int .i64 k, .int .i64 n, .int .i64 g]) := Lib.hid (ey17 ▸ blk_three HS1.out (by have := HSl1.out; omega) _ _ _)
                      clear ey17 z0 z1 z2 f0 f1 f2
                      refine hK.out _ _ ?_ (fun hHeld => ?_)
                      · exact ⟨HS0.out, HS1.out⟩
                      · clear hK K
                        try simp only [List.getElem_toArray, List.getElem_cons_succ, List.getElem_cons_zero, Act.put, List.setIfInBounds_toArray, List.set_cons_zero, List.set_cons_succ]
                        refine wpAnyH_take (i := 10) (oi := _) (v := ?_) rfl (by kernel_rfl) (by kernel_rfl) (by kernel_rfl) (fun _ _ _ h => h) (Or.inl ⟨by rfl, ?_⟩) (by assumption) ?_
                        rotate_left
                        focus
                          intro w hSw
                          obtain ⟨qs0, qs1⟩ := hSw
                          obtain ⟨qs0_0, qs0_1, qs0_2⟩ := (three3 qs0)
                          obtain ⟨qs1_0, qs1_1, qs1_2⟩ := (three3 qs1)
                          go_simp
                          try with_reducible rfl
                        try simp only [List.getElem_toArray, List.getElem_cons_succ, List.getElem_cons_zero, Act.put, List.setIfInBounds_toArray, List.set_cons_zero, List.set_cons_succ]
                        refine wpAnyH_done (by kernel_rfl) ?_ _
                        refine NoPanic.normal ?_
                        try go_wp2_with fail
                        go_meet
                        case rel => exact ⟨_, rfl, rfl, HbP, HB⟩
                    exact AllReadyH.nil
                exact AllReadyH.nil
            exact AllReadyH.nil
        exact AllReadyH.nil
    exact AllReadyH.nil
  case rest =>
    obtain ⟨gw, rfl, rfl, H01, HBw⟩ := hcut
    obtain ⟨w1, hw1⟩ : ∃ x, x = wc := ⟨_, rfl⟩
    subst hw1
    have KA1 := HKA0.out.below H01.out HKA0.out.lt
    obtain ⟨qA0, qA1, qA2⟩ := (three3 KA1)
    have Ht1 := Lib.hid (Htn.out w1 H01.out)
    clear KA1
    go_wp2_with fail
    refine Ht1.out.mono ?_
    rintro e w2 ⟨x0, x1, x2, rfl, hL2, hb2, hnw⟩
    have Hnw := Lib.hid hnw
    have hbX := blw1 w2 (.cells #[.slice (some ⟨x0, 0, none⟩) a.slots.length a.slots.length, .slice (some ⟨x1, 0, none⟩) a.queue.length a.queue.length, .slice (some ⟨x2, 0, none⟩) a.purple.length a.purple.length] 32)
    have HKX := Lib.hid (Blk.new w2 32 #[.slice (some ⟨x0, 0, none⟩) a.slots.length a.slots.length, .slice (some ⟨x1, 0, none⟩) a.queue.length a.queue.length, .slice (some ⟨x2, 0, none⟩) a.purple.length a.purple.length])
    have HLX := Lib.hid (hL2.below hbX)
    have H12 := Lib.hid (hb2.trans (hbX.mono hb2.size))
    have hs12 : w1.heap.size ≤ w2.heap.size := hb2.size
    clear hL2 hb2 hnw Ht1 qA0 qA1 qA2
    go_upto_region 7 with fail
    obtain ⟨w3, hw3⟩ : ∃ x, x = w2.alloc (.cells #[.slice (some ⟨x0, 0, none⟩) a.slots.length a.slots.length, .slice (some ⟨x1, 0, none⟩) a.queue.length a.queue.length, .slice (some ⟨x2, 0, none⟩) a.purple.length a.purple.length] 32) := ⟨_, rfl⟩
    rw [← hw3] at HKX HLX H12 hbX ⊢
    have hs23 : w2.heap.size + 1 ≤ w3.heap.size := by rw [hw3]; simp
    have H02 := Lib.hid (H01.out.trans (H12.out.mono H01.out.size))
    have HbX := Lib.hid hbX
    have hs13 := H12.out.size
    clear hw3 hbX H01
    go_cut [9, 10] (fun p q wx => ∃ gb : Nat, p = .pointer (some ⟨gb, 0, none⟩) ∧ q = .bool r ∧ Hid (Below w3.heap.size w3 wx) ∧ Hid (BoxA wx w3.heap.size gb R))
    case first =>
      obtain ⟨w3d, ew3d⟩ : ∃ x, x = w3.drew := ⟨_, rfl⟩
      have HS0 : Hid (Blk w3d w2.heap.size 32 #[.slice (some ⟨x0, 0, none⟩) a.slots.length a.slots.length, .slice (some ⟨x1, 0, none⟩) a.queue.length a.queue.length, .slice (some ⟨x2, 0, none⟩) a.purple.length a.purple.length]) := Lib.hid (ew3d ▸ HKX.out.drew)
      have HSl0 := Lib.hid (HKX.out).lt
      have HS1 : Hid (Blk w3d (w.heap.size + 1) 40 #[.int .i64 k, .int .i64 n, .int .i64 g]) := Lib.hid (ew3d ▸ (HKV0.out.below H02.out HKV0.out.lt).drew)
      have HSl1 := Lib.hid ((HKV0.out.below H02.out HKV0.out.lt)).lt
      have HbP : Hid (Below w3.heap.size w3 w3d) := Lib.hid (ew3d ▸ (Below.refl _ w3).drew)
      have hzw3d : w3.heap.size ≤ w3d.heap.size := HbP.out.size
      refine wp_region_noPanic ?_
      refine wp_region_held_drew (S := (fun W => Blk W w2.heap.size 32 #[.slice (some ⟨x0, 0, none⟩) a.slots.length a.slots.length, .slice (some ⟨x1, 0, none⟩) a.queue.length a.queue.length, .slice (some ⟨x2, 0, none⟩) a.purple.length a.purple.length] ∧ Blk W (w.heap.size + 1) 40 #[.int .i64 k, .int .i64 n, .int .i64 g])) (by kernel_rfl) ?_ (fun hHeld => ?_)
      · exact ew3d ▸ ⟨HS0.out, HS1.out⟩
      rw [← ew3d]
      have hS0 : Blk w3d w2.heap.size 32 #[.slice (some ⟨x0, 0, none⟩) a.slots.length a.slots.length, .slice (some ⟨x1, 0, none⟩) a.queue.length a.queue.length, .slice (some ⟨x2, 0, none⟩) a.purple.length a.purple.length] ∧ Blk w3d (w.heap.size + 1) 40 #[.int .i64 k, .int .i64 n, .int .i64 g] := ⟨HS0.out, HS1.out⟩
      clear ew3d
      refine wpAnyH_take (i := 0) (oi := _) (v := ?_) rfl (by kernel_rfl) (by kernel_rfl) (by kernel_rfl) (fun _ _ _ h => h) (Or.inl ⟨by rfl, ?_⟩) (by assumption) ?_
      rotate_left
      focus
        intro w hSw
        obtain ⟨qs0, qs1⟩ := hSw
        obtain ⟨qs0_0, qs0_1, qs0_2⟩ := (three3 qs0)
        obtain ⟨qs1_0, qs1_1, qs1_2⟩ := (three3 qs1)
        go_simp
        try with_reducible rfl
      try simp only [List.getElem_toArray, List.getElem_cons_succ, List.getElem_cons_zero, Act.put, List.setIfInBounds_toArray, List.set_cons_zero, List.set_cons_succ]
      refine wpAnyH_take (i := 1) (oi := _) (v := ?_) rfl (by kernel_rfl) (by kernel_rfl) (by kernel_rfl) (fun _ _ _ h => h) (Or.inl ⟨by rfl, ?_⟩) (by assumption) ?_
      rotate_left
      focus
        intro w hSw
        obtain ⟨qs0, qs1⟩ := hSw
        obtain ⟨qs0_0, qs0_1, qs0_2⟩ := (three3 qs0)
        obtain ⟨qs1_0, qs1_1, qs1_2⟩ := (three3 qs1)
        go_simp
        try with_reducible rfl
      try simp only [List.getElem_toArray, List.getElem_cons_succ, List.getElem_cons_zero, Act.put, List.setIfInBounds_toArray, List.set_cons_zero, List.set_cons_succ]
      refine wpAnyH_ready (rs := [2, 7]) (by kernel_rfl) (by simp) ?_
      refine AllReadyH.cons (o := _) rfl (fun K hK => ?_) ?_
      · go_simp
        refine Calls.mono (Htv.out w3d) ?_
        rintro e y1 ⟨rfl, hb⟩
        have hst := hb
        have hzy1 := hb.size
        replace HS0 := Lib.hid (HS0.out.below hst HS0.out.lt)
        replace HS1 := Lib.hid (HS1.out.below hst HS1.out.lt)
        replace HbP := Lib.hid (HbP.out.trans (hst.mono HbP.out.size))
        clear hst hb
        refine hK.out _ _ ?_ (fun hHeld => ?_)
        · exact ⟨HS0.out, HS1.out⟩
        · clear hK K
          try simp only [List.getElem_toArray, List.getElem_cons_succ, List.getElem_cons_zero, Act.put, List.setIfInBounds_toArray, List.set_cons_zero, List.set_cons_succ]
          refine wpAnyH_ready (rs := [3, 7]) (by kernel_rfl) (by simp) ?_
          refine AllReadyH.cons (o := _) rfl (fun K hK => ?_) ?_
          · go_simp
            refine Calls.mono (Himpl.out (some ⟨x0, 0, none⟩) (some ⟨x1, 0, none⟩) (some ⟨x2, 0, none⟩) a.slots.length a.queue.length a.purple.length w1.heap.size w2.heap.size y1 (by omega) (HLX.out.below (HbP.out.mono (by omega)))) ?_
            rintro e y2 ⟨v, rfl, hans, hb⟩
            have hst := hb
            have hzy2 := hb.size
            replace HS0 := Lib.hid (HS0.out.below hst HS0.out.lt)
            replace HS1 := Lib.hid (HS1.out.below hst HS1.out.lt)
            replace HbP := Lib.hid (HbP.out.trans (hst.mono HbP.out.size))
            obtain ⟨As0, As1, As2, cs0, cs1, cs2, gg, fb, nb, g1, g2, rfl, hO, hl⟩ := hans
            have HO := Lib.hid hO
            have Hl := Lib.hid hl
            clear hst hb hO hl
            refine hK.out _ _ ?_ (fun hHeld => ?_)
            · exact ⟨HS0.out, HS1.out⟩
            · clear hK K
              try simp only [List.getElem_toArray, List.getElem_cons_succ, List.getElem_cons_zero, Act.put, List.setIfInBounds_toArray, List.set_cons_zero, List.set_cons_succ]
              refine wpAnyH_take (i := 4) (oi := _) (v := ?_) rfl (by kernel_rfl) (by kernel_rfl) (by kernel_rfl) (fun _ _ _ h => h) (Or.inl ⟨by rfl, ?_⟩) (by assumption) ?_
              rotate_left
              focus
                intro w hSw
                obtain ⟨qs0, qs1⟩ := hSw
                obtain ⟨qs0_0, qs0_1, qs0_2⟩ := (three3 qs0)
                obtain ⟨qs1_0, qs1_1, qs1_2⟩ := (three3 qs1)
                go_simp
                try with_reducible rfl
              try simp only [List.getElem_toArray, List.getElem_cons_succ, List.getElem_cons_zero, Act.put, List.setIfInBounds_toArray, List.set_cons_zero, List.set_cons_succ]
              refine wpAnyH_take (i := 5) (oi := _) (v := ?_) rfl (by kernel_rfl) (by kernel_rfl) (by kernel_rfl) (fun _ _ _ h => h) (Or.inl ⟨by rfl, ?_⟩) (by assumption) ?_
              rotate_left
              focus
                intro w hSw
                obtain ⟨qs0, qs1⟩ := hSw
                obtain ⟨qs0_0, qs0_1, qs0_2⟩ := (three3 qs0)
                obtain ⟨qs1_0, qs1_1, qs1_2⟩ := (three3 qs1)
                go_simp
                try with_reducible rfl
              try simp only [List.getElem_toArray, List.getElem_cons_succ, List.getElem_cons_zero, Act.put, List.setIfInBounds_toArray, List.set_cons_zero, List.set_cons_succ]
              refine wpAnyH_take (i := 6) (oi := _) (v := ?_) rfl (by kernel_rfl) (by kernel_rfl) (by kernel_rfl) (fun _ _ _ h => h) (Or.inl ⟨by rfl, ?_⟩) (by assumption) ?_
              rotate_left
              focus
                intro w hSw
                obtain ⟨qs0, qs1⟩ := hSw
                obtain ⟨qs0_0, qs0_1, qs0_2⟩ := (three3 qs0)
                obtain ⟨qs1_0, qs1_1, qs1_2⟩ := (three3 qs1)
                go_simp
                try with_reducible rfl
              try simp only [List.getElem_toArray, List.getElem_cons_succ, List.getElem_cons_zero, Act.put, List.setIfInBounds_toArray, List.set_cons_zero, List.set_cons_succ]
              refine wpAnyH_ready (rs := [7]) (by kernel_rfl) (by simp) ?_
              refine AllReadyH.cons (o := _) rfl (fun K hK => ?_) ?_
              · go_simp
                obtain ⟨y3, ey3⟩ : ∃ x, x = y2.alloc (.cells #[.slice none 0 0, .slice none 0 0, .slice none 0 0] 32) := ⟨_, rfl⟩
                rw [← ey3]
                have hst : Below y2.heap.size y2 y3 := ey3 ▸ blw1 y2 (.cells #[.slice none 0 0, .slice none 0 0, .slice none 0 0] 32)
                have HX : Hid (Blk y3 y2.heap.size 32 #[.slice none 0 0, .slice none 0 0, .slice none 0 0]) := Lib.hid (ey3 ▸ Blk.new y2 32 #[.slice none 0 0, .slice none 0 0, .slice none 0 0])
                have hzy3 : y3.heap.size ≤ y2.heap.size + 1 := by rw [ey3]; simp
                have hyy3 : y2.heap.size + 1 ≤ y3.heap.size := by rw [ey3]; simp
                replace HS0 := Lib.hid (HS0.out.below hst HS0.out.lt)
                replace HS1 := Lib.hid (HS1.out.below hst HS1.out.lt)
                replace HbP := Lib.hid (HbP.out.trans (hst.mono HbP.out.size))
                replace HO := Lib.hid (HO.out.apart (S := fun _ => False) (Apart.of_below hst) (fun _ _ h => h))
                clear hst ey3
                refine hK.out _ _ ?_ (fun hHeld => ?_)
                · exact ⟨HS0.out, HS1.out⟩
                · clear hK K
                  try simp only [List.getElem_toArray, List.getElem_cons_succ, List.getElem_cons_zero, Act.put, List.setIfInBounds_toArray, List.set_cons_zero, List.set_cons_succ]
                  refine wpAnyH_ready (rs := [8]) (by kernel_rfl) (by simp) ?_
                  refine AllReadyH.cons (o := _) rfl (fun K hK => ?_) ?_
                  · have z0 := HX.out.cel 0 rfl
                    have z1 := HX.out.cel 1 rfl
                    have z2 := HX.out.cel 2 rfl
                    have f0 := HX.out.frozen 0
                    have f1 := HX.out.frozen 1
                    have f2 := HX.out.frozen 2
                    go_simp
                    obtain ⟨y4, ey4⟩ : ∃ x, x = (((y3.setCell ⟨y2.heap.size, 0, none⟩ (.slice As0 R.slots.length cs0)).setCell ⟨y2.heap.size, 1, none⟩ (.slice As1 R.queue.length cs1)).setCell ⟨y2.heap.size, 2, none⟩ (.slice As2 R.purple.length cs2)) := ⟨_, rfl⟩
                    rw [← ey4]
                    replace HbP : Hid (Below w3.heap.size w3 y4) := Lib.hid (ey4 ▸ below_store HbP.out (by have := HbP.out.size; omega) _ _ _)
                    have HB : Hid (BoxA y4 w3.heap.size (y2.heap.size) R) := Lib.hid (ey4 ▸ BoxA.of_store HX.out (by omega) HO.out (fun b hb => by have h1 := Hl.out b hb; have h2 := HO.out.low b hb; exact ⟨by omega, by omega⟩) (by omega) cs0 cs1 cs2)
                    replace HS0 : Hid (Blk y4 w2.heap.size 32 #[.slice (some ⟨x0, 0, none⟩) a.slots.length a.slots.length, .slice (some ⟨x1, 0, none⟩) a.queue.length a.queue.length, .slice (some ⟨x2, 0, none⟩) a.purple.length a.purple.length]) := Lib.hid (ey4 ▸ blk_three HS0.out (by have := HSl0.out; omega) _ _ _)
                    replace HS1 : Hid (Blk y4 (w.heap.size + 1) 40 #[.int .i64 k, .int .i64 n, .int .i64 g]) := Lib.hid (ey4 ▸ blk_three HS1.out (by have := HSl1.out; omega) _ _ _)
                    clear ey4 z0 z1 z2 f0 f1 f2
                    refine hK.out _ _ ?_ (fun hHeld => ?_)
                    · exact ⟨HS0.out, HS1.out⟩
                    · clear hK K
                      try simp only [List.getElem_toArray, List.getElem_cons_succ, List.getElem_cons_zero, Act.put, List.setIfInBounds_toArray, List.set_cons_zero, List.set_cons_succ]
                      refine wpAnyH_take (i := 9) (oi := _) (v := ?_) rfl (by kernel_rfl) (by kernel_rfl) (by kernel_rfl) (fun _ _ _ h => h) (Or.inl ⟨by rfl, ?_⟩) (by assumption) ?_
                      rotate_left
                      focus
                        intro w hSw
                        obtain ⟨qs0, qs1⟩ := hSw
                        obtain ⟨qs0_0, qs0_1, qs0_2⟩ := (three3 qs0)
                        obtain ⟨qs1_0, qs1_1, qs1_2⟩ := (three3 qs1)
                        go_simp
                        try with_reducible rfl
                      try simp only [List.getElem_toArray, List.getElem_cons_succ, List.getElem_cons_zero, Act.put, List.setIfInBounds_toArray, List.set_cons_zero, List.set_cons_succ]
                      refine wpAnyH_done (by kernel_rfl) ?_ _
                      refine NoPanic.normal ?_
                      try go_wp2_with fail
                      go_meet
                      case rel => exact ⟨_, rfl, rfl, HbP, HB⟩
                  exact AllReadyH.nil
              exact AllReadyH.nil
          refine AllReadyH.cons (o := _) rfl (fun K hK => ?_) ?_
          · go_simp
            obtain ⟨y5, ey5⟩ : ∃ x, x = y1.alloc (.cells #[.slice none 0 0, .slice none 0 0, .slice none 0 0] 32) := ⟨_, rfl⟩
            rw [← ey5]
            have hst : Below y1.heap.size y1 y5 := ey5 ▸ blw1 y1 (.cells #[.slice none 0 0, .slice none 0 0, .slice none 0 0] 32)
            have HX : Hid (Blk y5 y1.heap.size 32 #[.slice none 0 0, .slice none 0 0, .slice none 0 0]) := Lib.hid (ey5 ▸ Blk.new y1 32 #[.slice none 0 0, .slice none 0 0, .slice none 0 0])
            have hzy5 : y5.heap.size ≤ y1.heap.size + 1 := by rw [ey5]; simp
            have hyy5 : y1.heap.size + 1 ≤ y5.heap.size := by rw [ey5]; simp
            replace HS0 := Lib.hid (HS0.out.below hst HS0.out.lt)
            replace HS1 := Lib.hid (HS1.out.below hst HS1.out.lt)
            replace HbP := Lib.hid (HbP.out.trans (hst.mono HbP.out.size))
            clear hst ey5
            refine hK.out _ _ ?_ (fun hHeld => ?_)
            · exact ⟨HS0.out, HS1.out⟩
            · clear hK K
              try simp only [List.getElem_toArray, List.getElem_cons_succ, List.getElem_cons_zero, Act.put, List.setIfInBounds_toArray, List.set_cons_zero, List.set_cons_succ]
              refine wpAnyH_ready (rs := [3]) (by kernel_rfl) (by simp) ?_
              refine AllReadyH.cons (o := _) rfl (fun K hK => ?_) ?_
              · go_simp
                refine Calls.mono (Himpl.out (some ⟨x0, 0, none⟩) (some ⟨x1, 0, none⟩) (some ⟨x2, 0, none⟩) a.slots.length a.queue.length a.purple.length w1.heap.size w2.heap.size y5 (by omega) (HLX.out.below (HbP.out.mono (by omega)))) ?_
                rintro e y6 ⟨v, rfl, hans, hb⟩
                have hst := hb
                have hzy6 := hb.size
                replace HS0 := Lib.hid (HS0.out.below hst HS0.out.lt)
                replace HS1 := Lib.hid (HS1.out.below hst HS1.out.lt)
                replace HbP := Lib.hid (HbP.out.trans (hst.mono HbP.out.size))
                replace HX := Lib.hid (HX.out.below hst HX.out.lt)
                obtain ⟨As0, As1, As2, cs0, cs1, cs2, gg, fb, nb, g1, g2, rfl, hO, hl⟩ := hans
                have HO := Lib.hid hO
                have Hl := Lib.hid hl
                clear hst hb hO hl
                refine hK.out _ _ ?_ (fun hHeld => ?_)
                · exact ⟨HS0.out, HS1.out⟩
                · clear hK K
                  try simp only [List.getElem_toArray, List.getElem_cons_succ, List.getElem_cons_zero, Act.put, List.setIfInBounds_toArray, List.set_cons_zero, List.set_cons_succ]
                  refine wpAnyH_take (i := 4) (oi := _) (v := ?_) rfl (by kernel_rfl) (by kernel_rfl) (by kernel_rfl) (fun _ _ _ h => h) (Or.inl ⟨by rfl, ?_⟩) (by assumption) ?_
                  rotate_left
                  focus
                    intro w hSw
                    obtain ⟨qs0, qs1⟩ := hSw
                    obtain ⟨qs0_0, qs0_1, qs0_2⟩ := (three3 qs0)
                    obtain ⟨qs1_0, qs1_1, qs1_2⟩ := (three3 qs1)
                    go_simp
                    try with_reducible rfl
                  try simp only [List.getElem_toArray, List.getElem_cons_succ, List.getElem_cons_zero, Act.put, List.setIfInBounds_toArray, List.set_cons_zero, List.set_cons_succ]
                  refine wpAnyH_take (i := 5) (oi := _) (v := ?_) rfl (by kernel_rfl) (by kernel_rfl) (by kernel_rfl) (fun _ _ _ h => h) (Or.inl ⟨by rfl, ?_⟩) (by assumption) ?_
                  rotate_left
                  focus
                    intro w hSw
                    obtain ⟨qs0, qs1⟩ := hSw
                    obtain ⟨qs0_0, qs0_1, qs0_2⟩ := (three3 qs0)
                    obtain ⟨qs1_0, qs1_1, qs1_2⟩ := (three3 qs1)
                    go_simp
                    try with_reducible rfl
                  try simp only [List.getElem_toArray, List.getElem_cons_succ, List.getElem_cons_zero, Act.put, List.setIfInBounds_toArray, List.set_cons_zero, List.set_cons_succ]
                  refine wpAnyH_take (i := 6) (oi := _) (v := ?_) rfl (by kernel_rfl) (by kernel_rfl) (by kernel_rfl) (fun _ _ _ h => h) (Or.inl ⟨by rfl, ?_⟩) (by assumption) ?_
                  rotate_left
                  focus
                    intro w hSw
                    obtain ⟨qs0, qs1⟩ := hSw
                    obtain ⟨qs0_0, qs0_1, qs0_2⟩ := (three3 qs0)
                    obtain ⟨qs1_0, qs1_1, qs1_2⟩ := (three3 qs1)
                    go_simp
                    try with_reducible rfl
                  try simp only [List.getElem_toArray, List.getElem_cons_succ, List.getElem_cons_zero, Act.put, List.setIfInBounds_toArray, List.set_cons_zero, List.set_cons_succ]
                  refine wpAnyH_ready (rs := [8]) (by kernel_rfl) (by simp) ?_
                  refine AllReadyH.cons (o := _) rfl (fun K hK => ?_) ?_
                  · have z0 := HX.out.cel 0 rfl
                    have z1 := HX.out.cel 1 rfl
                    have z2 := HX.out.cel 2 rfl
                    have f0 := HX.out.frozen 0
                    have f1 := HX.out.frozen 1
                    have f2 := HX.out.frozen 2
                    go_simp
                    obtain ⟨y7, ey7⟩ : ∃ x, x = (((y6.setCell ⟨y1.heap.size, 0, none⟩ (.slice As0 R.slots.length cs0)).setCell ⟨y1.heap.size, 1, none⟩ (.slice As1 R.queue.length cs1)).setCell ⟨y1.heap.size, 2, none⟩ (.slice As2 R.purple.length cs2)) := ⟨_, rfl⟩
                    rw [← ey7]
                    replace HbP : Hid (Below w3.heap.size w3 y7) := Lib.hid (ey7 ▸ below_store HbP.out (by have := HbP.out.size; omega) _ _ _)
                    have HB : Hid (BoxA y7 w3.heap.size (y1.heap.size) R) := Lib.hid (ey7 ▸ BoxA.of_store HX.out (by omega) HO.out (fun b hb => by have h1 := Hl.out b hb; have h2 := HO.out.low b hb; exact ⟨by omega, by omega⟩) (by omega) cs0 cs1 cs2)
                    replace HS0 : Hid (Blk y7 w2.heap.size 32 #[.slice (some ⟨x0, 0, none⟩) a.slots.length a.slots.length, .slice (some ⟨x1, 0, none⟩) a.queue.length a.queue.length, .slice (some ⟨x2, 0, none⟩) a.purple.length a.purple.length]) := Lib.hid (ey7 ▸ blk_three HS0.out (by have := HSl0.out; omega) _ _ _)
                    replace HS1 : Hid (Blk y7 (w.heap.size + 1) 40 #[.int .i64 k, .int .i64 n, .int .i64 g]) := Lib.hid (ey7 ▸ blk_three HS1.out (by have := HSl1.out; omega) _ _ _)
                    clear ey7 z0 z1 z2 f0 f1 f2
                    refine hK.out _ _ ?_ (fun hHeld => ?_)
                    · exact ⟨HS0.out, HS1.out⟩
                    · clear hK K
                      try simp only [List.getElem_toArray, List.getElem_cons_succ, List.getElem_cons_zero, Act.put, List.setIfInBounds_toArray, List.set_cons_zero, List.set_cons_succ]
                      refine wpAnyH_take (i := 9) (oi := _) (v := ?_) rfl (by kernel_rfl) (by kernel_rfl) (by kernel_rfl) (fun _ _ _ h => h) (Or.inl ⟨by rfl, ?_⟩) (by assumption) ?_
                      rotate_left
                      focus
                        intro w hSw
                        obtain ⟨qs0, qs1⟩ := hSw
                        obtain ⟨qs0_0, qs0_1, qs0_2⟩ := (three3 qs0)
                        obtain ⟨qs1_0, qs1_1, qs1_2⟩ := (three3 qs1)
                        go_simp
                        try with_reducible rfl
                      try simp only [List.getElem_toArray, List.getElem_cons_succ, List.getElem_cons_zero, Act.put, List.setIfInBounds_toArray, List.set_cons_zero, List.set_cons_succ]
                      refine wpAnyH_done (by kernel_rfl) ?_ _
                      refine NoPanic.normal ?_
                      try go_wp2_with fail
                      go_meet
                      case rel => exact ⟨_, rfl, rfl, HbP, HB⟩
                  exact AllReadyH.nil
              exact AllReadyH.nil
          exact AllReadyH.nil
      refine AllReadyH.cons (o := _) rfl (fun K hK => ?_) ?_
      · go_simp
        obtain ⟨y8, ey8⟩ : ∃ x, x = w3d.alloc (.cells #[.slice none 0 0, .slice none 0 0, .slice none 0 0] 32) := ⟨_, rfl⟩
        rw [← ey8]
        have hst : Below w3d.heap.size w3d y8 := ey8 ▸ blw1 w3d (.cells #[.slice none 0 0, .slice none 0 0, .slice none 0 0] 32)
        have HX : Hid (Blk y8 w3d.heap.size 32 #[.slice none 0 0, .slice none 0 0, .slice none 0 0]) := Lib.hid (ey8 ▸ Blk.new w3d 32 #[.slice none 0 0, .slice none 0 0, .slice none 0 0])
        have hzy8 : y8.heap.size ≤ w3d.heap.size + 1 := by rw [ey8]; simp
        have hyy8 : w3d.heap.size + 1 ≤ y8.heap.size := by rw [ey8]; simp
        replace HS0 := Lib.hid (HS0.out.below hst HS0.out.lt)
        replace HS1 := Lib.hid (HS1.out.below hst HS1.out.lt)
        replace HbP := Lib.hid (HbP.out.trans (hst.mono HbP.out.size))
        clear hst ey8
        refine hK.out _ _ ?_ (fun hHeld => ?_)
        · exact ⟨HS0.out, HS1.out⟩
        · clear hK K
          try simp only [List.getElem_toArray, List.getElem_cons_succ, List.getElem_cons_zero, Act.put, List.setIfInBounds_toArray, List.set_cons_zero, List.set_cons_succ]
          refine wpAnyH_ready (rs := [2]) (by kernel_rfl) (by simp) ?_
          refine AllReadyH.cons (o := _) rfl (fun K hK => ?_) ?_
          · go_simp
            refine Calls.mono (Htv.out y8) ?_
            rintro e y9 ⟨rfl, hb⟩
            have hst := hb
            have hzy9 := hb.size
            replace HS0 := Lib.hid (HS0.out.below hst HS0.out.lt)
            replace HS1 := Lib.hid (HS1.out.below hst HS1.out.lt)
            replace HbP := Lib.hid (HbP.out.trans (hst.mono HbP.out.size))
            replace HX := Lib.hid (HX.out.below hst HX.out.lt)
            clear hst hb
            refine hK.out _ _ ?_ (fun hHeld => ?_)
            · exact ⟨HS0.out, HS1.out⟩
            · clear hK K
              try simp only [List.getElem_toArray, List.getElem_cons_succ, List.getElem_cons_zero, Act.put, List.setIfInBounds_toArray, List.set_cons_zero, List.set_cons_succ]
              refine wpAnyH_ready (rs := [3]) (by kernel_rfl) (by simp) ?_
              refine AllReadyH.cons (o := _) rfl (fun K hK => ?_) ?_
              · go_simp
                refine Calls.mono (Himpl.out (some ⟨x0, 0, none⟩) (some ⟨x1, 0, none⟩) (some ⟨x2, 0, none⟩) a.slots.length a.queue.length a.purple.length w1.heap.size w2.heap.size y9 (by omega) (HLX.out.below (HbP.out.mono (by omega)))) ?_
                rintro e y10 ⟨v, rfl, hans, hb⟩
                have hst := hb
                have hzy10 := hb.size
                replace HS0 := Lib.hid (HS0.out.below hst HS0.out.lt)
                replace HS1 := Lib.hid (HS1.out.below hst HS1.out.lt)
                replace HbP := Lib.hid (HbP.out.trans (hst.mono HbP.out.size))
                replace HX := Lib.hid (HX.out.below hst HX.out.lt)
                obtain ⟨As0, As1, As2, cs0, cs1, cs2, gg, fb, nb, g1, g2, rfl, hO, hl⟩ := hans
                have HO := Lib.hid hO
                have Hl := Lib.hid hl
                clear hst hb hO hl
                refine hK.out _ _ ?_ (fun hHeld => ?_)
                · exact ⟨HS0.out, HS1.out⟩
                · clear hK K
                  try simp only [List.getElem_toArray, List.getElem_cons_succ, List.getElem_cons_zero, Act.put, List.setIfInBounds_toArray, List.set_cons_zero, List.set_cons_succ]
                  refine wpAnyH_take (i := 4) (oi := _) (v := ?_) rfl (by kernel_rfl) (by kernel_rfl) (by kernel_rfl) (fun _ _ _ h => h) (Or.inl ⟨by rfl, ?_⟩) (by assumption) ?_
                  rotate_left
                  focus
                    intro w hSw
                    obtain ⟨qs0, qs1⟩ := hSw
                    obtain ⟨qs0_0, qs0_1, qs0_2⟩ := (three3 qs0)
                    obtain ⟨qs1_0, qs1_1, qs1_2⟩ := (three3 qs1)
                    go_simp
                    try with_reducible rfl
                  try simp only [List.getElem_toArray, List.getElem_cons_succ, List.getElem_cons_zero, Act.put, List.setIfInBounds_toArray, List.set_cons_zero, List.set_cons_succ]
                  refine wpAnyH_take (i := 5) (oi := _) (v := ?_) rfl (by kernel_rfl) (by kernel_rfl) (by kernel_rfl) (fun _ _ _ h => h) (Or.inl ⟨by rfl, ?_⟩) (by assumption) ?_
                  rotate_left
                  focus
                    intro w hSw
                    obtain ⟨qs0, qs1⟩ := hSw
                    obtain ⟨qs0_0, qs0_1, qs0_2⟩ := (three3 qs0)
                    obtain ⟨qs1_0, qs1_1, qs1_2⟩ := (three3 qs1)
                    go_simp
                    try with_reducible rfl
                  try simp only [List.getElem_toArray, List.getElem_cons_succ, List.getElem_cons_zero, Act.put, List.setIfInBounds_toArray, List.set_cons_zero, List.set_cons_succ]
                  refine wpAnyH_take (i := 6) (oi := _) (v := ?_) rfl (by kernel_rfl) (by kernel_rfl) (by kernel_rfl) (fun _ _ _ h => h) (Or.inl ⟨by rfl, ?_⟩) (by assumption) ?_
                  rotate_left
                  focus
                    intro w hSw
                    obtain ⟨qs0, qs1⟩ := hSw
                    obtain ⟨qs0_0, qs0_1, qs0_2⟩ := (three3 qs0)
                    obtain ⟨qs1_0, qs1_1, qs1_2⟩ := (three3 qs1)
                    go_simp
                    try with_reducible rfl
                  try simp only [List.getElem_toArray, List.getElem_cons_succ, List.getElem_cons_zero, Act.put, List.setIfInBounds_toArray, List.set_cons_zero, List.set_cons_succ]
                  refine wpAnyH_ready (rs := [8]) (by kernel_rfl) (by simp) ?_
                  refine AllReadyH.cons (o := _) rfl (fun K hK => ?_) ?_
                  · have z0 := HX.out.cel 0 rfl
                    have z1 := HX.out.cel 1 rfl
                    have z2 := HX.out.cel 2 rfl
                    have f0 := HX.out.frozen 0
                    have f1 := HX.out.frozen 1
                    have f2 := HX.out.frozen 2
                    go_simp
                    obtain ⟨y11, ey11⟩ : ∃ x, x = (((y10.setCell ⟨w3d.heap.size, 0, none⟩ (.slice As0 R.slots.length cs0)).setCell ⟨w3d.heap.size, 1, none⟩ (.slice As1 R.queue.length cs1)).setCell ⟨w3d.heap.size, 2, none⟩ (.slice As2 R.purple.length cs2)) := ⟨_, rfl⟩
                    rw [← ey11]
                    replace HbP : Hid (Below w3.heap.size w3 y11) := Lib.hid (ey11 ▸ below_store HbP.out (by have := HbP.out.size; omega) _ _ _)
                    have HB : Hid (BoxA y11 w3.heap.size (w3d.heap.size) R) := Lib.hid (ey11 ▸ BoxA.of_store HX.out (by omega) HO.out (fun b hb => by have h1 := Hl.out b hb; have h2 := HO.out.low b hb; exact ⟨by omega, by omega⟩) (by omega) cs0 cs1 cs2)
                    replace HS0 : Hid (Blk y11 w2.heap.size 32 #[.slice (some ⟨x0, 0, none⟩) a.slots.length a.slots.length, .slice (some ⟨x1, 0, none⟩) a.queue.length a.queue.length, .slice (some ⟨x2, 0, none⟩) a.purple.length a.purple.length]) := Lib.hid (ey11 ▸ blk_three HS0.out (by have := HSl0.out; omega) _ _ _)
                    replace HS1 : Hid (Blk y11 (w.heap.size + 1) 40 #[.int .i64 k, .int .i64 n, .int .i64 g]) := Lib.hid (ey11 ▸ blk_three HS1.out (by have := HSl1.out; omega) _ _ _)
                    clear ey11 z0 z1 z2 f0 f1 f2
                    refine hK.out _ _ ?_ (fun hHeld => ?_)
                    · exact ⟨HS0.out, HS1.out⟩
                    · clear hK K
                      try simp only [List.getElem_toArray, List.getElem_cons_succ, List.getElem_cons_zero, Act.put, List.setIfInBounds_toArray, List.set_cons_zero, List.set_cons_succ]
                      refine wpAnyH_take (i := 9) (oi := _) (v := ?_) rfl (by kernel_rfl) (by kernel_rfl) (by kernel_rfl) (fun _ _ _ h => h) (Or.inl ⟨by rfl, ?_⟩) (by assumption) ?_
                      rotate_left
                      focus
                        intro w hSw
                        obtain ⟨qs0, qs1⟩ := hSw
                        obtain ⟨qs0_0, qs0_1, qs0_2⟩ := (three3 qs0)
                        obtain ⟨qs1_0, qs1_1, qs1_2⟩ := (three3 qs1)
                        go_simp
                        try with_reducible rfl
                      try simp only [List.getElem_toArray, List.getElem_cons_succ, List.getElem_cons_zero, Act.put, List.setIfInBounds_toArray, List.set_cons_zero, List.set_cons_succ]
                      refine wpAnyH_done (by kernel_rfl) ?_ _
                      refine NoPanic.normal ?_
                      try go_wp2_with fail
                      go_meet
                      case rel => exact ⟨_, rfl, rfl, HbP, HB⟩
                  exact AllReadyH.nil
              exact AllReadyH.nil
          exact AllReadyH.nil
      exact AllReadyH.nil
    case rest =>
      obtain ⟨gi, rfl, rfl, H34, HBi⟩ := hcut
      obtain ⟨w4, hw4⟩ : ∃ x, x = wc := ⟨_, rfl⟩
      subst hw4
      obtain ⟨i0, i1, i2, ci0, ci1, ci2, si, fi, ni, si1, si2, Ki, loi, Oi, li⟩ := HBi.out
      obtain ⟨m0, m1, m2, cm0, cm1, cm2, sm, fm, nm, sm1, sm2, Km, lom, Om, lm⟩ := HBw.out
      have H14 := H12.out.trans (H34.out.mono hs13)
      have Km4 := Km.below H14 Km.lt
      have HKi := Lib.hid Ki
      have HOi := Lib.hid Oi
      have Hli := Lib.hid li
      have HKm := Lib.hid Km4
      have hgw : gw < w1.heap.size := Km.lt
      have H04 := Lib.hid (H02.out.trans (H34.out.mono H02.out.size))
      have hs34 := H34.out.size
      have HLm := Lib.hid (fun W (hW : Below w4.heap.size w4 W) => (((arl_of Om HRb.out).below H14).below (hW.mono (Nat.le_trans hs13 hs34))))
      have Heq := Lib.hid (eqArena_c R i0 i1 i2 m0 m1 m2 ci0 ci1 ci2 cm0 cm1 cm2 _ _ _ _ w4 (Nat.le_refl _) (Nat.le_trans hs13 hs34) HRb.out (arl_of Oi HRb.out) (HLm.out w4 (Below.refl _ _)))
      obtain ⟨ui0, ui1, ui2⟩ := (three3 Ki)
      obtain ⟨um0, um1, um2⟩ := (three3 Km4)
      have HKX4 := Lib.hid (HKX.out.below H34.out HKX.out.lt)
      have HLX4 := Lib.hid (HLX.out.below (H34.out.mono (by omega)))
      clear Ki Oi li Km Km4 Om lm HBi HBw H02 HKX HLX H12 H14
      go_wp2_with fail
      refine Heq.out.mono ?_
      rintro e w5 ⟨rfl, hb5⟩
      have H45 := Lib.hid hb5
      have hs45 := hb5.size
      have H05 := Lib.hid (H04.out.trans (hb5.mono H04.out.size))
      have KA5 := HKA0.out.below H05.out HKA0.out.lt
      have KX5 := HKX4.out.below hb5 HKX4.out.lt
      obtain ⟨qA0, qA1, qA2⟩ := (three3 KA5)
      obtain ⟨qX0, qX1, qX2⟩ := (three3 KX5)
      have HKX5 := Lib.hid KX5
      have HLX5 := Lib.hid (HLX4.out.below (hb5.mono (by omega)))
      have Ht5 := Lib.hid (fun m => Hta.out (w5.drewN m) (by have := H05.out; exact ⟨this.os, this.tape, this.output, this.size, this.block⟩))
      clear hb5 Heq KA5 KX5 ui0 ui1 ui2 um0 um1 um2
      go_upto_region 10 with fail
      go_cut [51] (fun b wx => b = .bool false ∧ Hid (Below w5.heap.size w5 wx))
      case first =>
        go_region_with (first
          | (go_at_call 11; refine (Ht5.out 1).mono ?_; rintro e w6 ⟨y0, y1, y2, rfl, hL6, hb6⟩; have hb56 : Below w5.heap.size w5 w6 := ⟨hb6.os, hb6.tape, hb6.output, hb6.size, hb6.block⟩; obtain ⟨qY0, qY1, qY2⟩ := (three3 (HKX5.out.below hb56 HKX5.out.lt)); have Heq := Lib.hid (eqArena_c a (some ⟨x0, 0, none⟩) (some ⟨x1, 0, none⟩) (some ⟨x2, 0, none⟩) (some ⟨y0, 0, none⟩) (some ⟨y1, 0, none⟩) (some ⟨y2, 0, none⟩) a.slots.length a.queue.length a.purple.length a.slots.length a.queue.length a.purple.length _ w2.heap.size _ w6.heap.size w6 (Nat.le_trans (by omega) hb56.size) (Nat.le_refl _) Hszz.out (HLX5.out.below (hb56.mono (by omega))) hL6); have Hb56 := Lib.hid hb56; clear hL6 hb6 hb56 Ht5)
          | (go_at_call 14; refine Heq.out.mono ?_; rintro e w7 ⟨rfl, hb7⟩))
        all_goals
          try go_wp2_with fail
          go_meet
          case rel => exact ⟨by simp, Lib.hid (Hb56.out.trans (hb7.mono Hb56.out.size))⟩
      case rest =>
        obtain ⟨rfl, H56⟩ := hcut
        obtain ⟨w6, hw6⟩ : ∃ x, x = wc := ⟨_, rfl⟩
        subst hw6
        have hs56 := H56.out.size
        have h46 := H45.out.trans (H56.out.mono H45.out.size)
        have h36 := H34.out.trans (h46.mono hs34)
        have h06 := H04.out.trans (h46.mono H04.out.size)
        have KX6 := HKX5.out.below H56.out HKX5.out.lt
        obtain ⟨qY0, qY1, qY2⟩ := (three3 KX6)
        have hT6 : ArnM.Thaw w1.heap.size w2.heap.size w6 := fun k h1 h2 => by
          obtain ⟨cs', t', e'⟩ := Hnw.out k h1 h2
          exact ⟨cs', t', (((HbX.out.trans (h36.mono HbX.out.size)).block k h2)).trans e'⟩
        have Hmk := Lib.hid (ArnM.markArena_m a (some ⟨x0, 0, none⟩) (some ⟨x1, 0, none⟩) (some ⟨x2, 0, none⟩) a.slots.length a.queue.length a.purple.length w1.heap.size w2.heap.size 1 w6 (by omega) hs12 Hszz.out (by omega) hT6 (HLX5.out.below (H56.out.mono (by omega))))
        have HKi6 := Lib.hid (HKi.out.below h46 HKi.out.lt)
        have HKm6 := Lib.hid (HKm.out.below h46 HKm.out.lt)
        have HOi6 := Lib.hid (HOi.out.apart (S := fun _ => False) (Apart.of_below h46) (fun _ _ h => h))
        have HLm6 := Lib.hid (HLm.out w6 h46)
        have hloi := loi
        have H06 := Lib.hid h06
        have hu0 : ArnM.mkAr a ≤ 100000000 := Hmka.out
        have HOi := HOi
        clear h46 h36 h06 KX6 hT6 Ht5 qA0 qA1 qA2 qX0 qX1 qX2 H45 H56 HKX5 HLX5 HKX4 HLX4 H05 H34 HKi HKm HLm H04
        go_wp2_with fail
        refine Hmk.out.mono ?_
        rintro e w7 ⟨rfl, hb67, hap⟩
        obtain ⟨u, hu⟩ : ∃ u : Nat, 1 + ArnM.mkAr a = u := ⟨_, rfl⟩
        rw [hu]
        have hud : decide ((u : Int) < 0) = false := decide_eq_false (by omega)
        have hs67 := hb67.size
        have hgi : gi < w6.heap.size := HKi6.out.lt
        have hl0 : w0.heap.size ≤ w1.heap.size := by omega
        have hap67 : Apart (fun b => w1.heap.size ≤ b ∧ b < w2.heap.size) w6 w7 := ⟨hb67.os, hb67.tape, hb67.output, hb67.size, fun k hk hn => hap k hk (by omega)⟩
        have Ki7 := HKi6.out.apart hap67 (fun h => by omega)
        have Km7 := HKm6.out.apart hap67 (fun h => by omega)
        have Oi7 := HOi6.out.apart hap67 (fun b hb h => by have := HOi6.out.low b hb; omega)
        have H07 := Lib.hid (H06.out.trans (hb67.mono hl0))
        have Lm7 := HLm6.out.below hb67
        have Heq := Lib.hid (eqArena_c R i0 i1 i2 m0 m1 m2 ci0 ci1 ci2 cm0 cm1 cm2 _ _ _ _ w7 (Nat.le_refl _) (by omega) HRb.out (arl_of Oi7 HRb.out) Lm7)
        obtain ⟨ui0, ui1, ui2⟩ := (three3 Ki7)
        obtain ⟨um0, um1, um2⟩ := (three3 Km7)
        have HKi7 := Lib.hid Ki7
        have HKm7 := Lib.hid Km7
        have HOi7 := Lib.hid Oi7
        have HLm7 := Lib.hid Lm7
        clear Ki7 Km7 Oi7 Lm7 hap67 hb67 hap hu Hmk HKi6 HKm6 HOi6 HLm6 H06 qY0 qY1 qY2
        go_wp2_with fail
        refine Heq.out.mono ?_
        rintro e w8 ⟨rfl, hb78⟩
        have hs78 := hb78.size
        have Ki8 := HKi7.out.below hb78 HKi7.out.lt
        have Oi8 := HOi7.out.apart (S := fun _ => False) (Apart.of_below hb78) (fun _ _ h => h)
        have HKi8 := Lib.hid Ki8
        have HKm8 := Lib.hid (HKm7.out.below hb78 HKm7.out.lt)
        have HLm8 := Lib.hid (HLm7.out.below (hb78.mono (by omega)))
        have H08 := Lib.hid (H07.out.trans (hb78.mono H07.out.size))
        have Hm := Lib.hid (ArnM.markArena_o R i0 i1 i2 si fi ni si1 si2 ci0 ci1 ci2 w3.heap.size 1 w8 HRb.out (by omega) (fun b hb => by have := (Hli.out b hb).1; omega) Oi8)
        clear ui0 ui1 ui2 um0 um1 um2 Heq
        obtain ⟨ui0, ui1, ui2⟩ := (three3 Ki8)
        clear Ki8 Oi8 hb78 HKi7 HKm7 HOi7 HLm7 H07
        go_wp2_with fail
        refine Hm.out.mono ?_
        rintro e w9 ⟨rfl, Oi9, ha⟩
        have hq0 : ArnM.mkN R ≤ 100000000 := Hmkn.out
        obtain ⟨q, hq⟩ : ∃ q : Nat, 1 + ArnM.mkN R = q := ⟨_, rfl⟩
        rw [hq]
        have hqd : decide ((q : Int) < 0) = false := decide_eq_false (by omega)
        have hb89 : Below w3.heap.size w8 w9 := ha.below (by omega) (fun k hk h => by have := HOi.out.low k h; omega)
        have hs89 := hb89.size
        have Ki9 := HKi8.out.apart ha (fun h => (Hli.out gi h).2 rfl)
        have HKi9 := Lib.hid Ki9
        have HKm9 := Lib.hid (HKm8.out.below hb89 (by omega))
        have HLm9 := Lib.hid (HLm8.out.below (hb89.mono (by omega)))
        have H09 := Lib.hid (H08.out.trans (hb89.mono (by omega)))
        have Hmd := Lib.hid (Oi9.marked HRb.out)
        have Hh := Lib.hid (fun W B (hB : B ≤ W.heap.size) (h : ArL W w3.heap.size B i0 i1 i2 (ArnM.mkdA R 1)) => ArnM.heldArena_d R i0 i1 i2 ci0 ci1 ci2 w3.heap.size B 1 W hB HRb.out (by omega) h)
        simp only [hq] at Hh
        clear ui0 ui1 ui2 Hm
        obtain ⟨ui0, ui1, ui2⟩ := (three3 Ki9)
        clear Ki9 Oi9 ha hb89 HKi8 HKm8 HLm8 H08 hq
        go_wp2_with fail
        refine (Hh.out w9 w9.heap.size (Nat.le_refl _) Hmd.out).mono ?_
        rintro e w10 ⟨rfl, hb9a⟩
        have hs9a := hb9a.size
        have HKi10 := Lib.hid (HKi9.out.below hb9a HKi9.out.lt)
        have HKm10 := Lib.hid (HKm9.out.below hb9a HKm9.out.lt)
        have HLm10 := Lib.hid (HLm9.out.below (hb9a.mono (by omega)))
        have Hmd10 := Lib.hid (Hmd.out.below hb9a)
        have H010 := Lib.hid (H09.out.trans (hb9a.mono H09.out.size))
        have HKA10 := Lib.hid (HKA0.out.below H010.out HKA0.out.lt)
        have HKV10 := Lib.hid (HKV0.out.below H010.out HKV0.out.lt)
        have Hta := Lib.hid (fun W (hW : Below w10.heap.size w10 W) => Hta.out W (H010.out.trans (hW.mono H010.out.size)))
        clear ui0 ui1 ui2 hb9a HKi9 HKm9 HLm9 Hmd H09
        obtain ⟨qA0, qA1, qA2⟩ := (three3 HKA10.out)
        obtain ⟨qV0, qV1, qV2⟩ := (three3 HKV10.out)
        go_upto_region 24 with fail
        clear qA0 qA1 qA2 qV0 qV1 qV2
        go_cut [14, 15] (fun p q wx => ∃ gb : Nat, p = .pointer (some ⟨gb, 0, none⟩) ∧ q = .bool r ∧ Hid (Below w10.heap.size w10 wx) ∧ Hid (BoxA wx w10.heap.size gb R))
        case first =>
          obtain ⟨w10d, ew10d⟩ : ∃ x, x = w10.drew := ⟨_, rfl⟩
          have HS0 : Hid (Blk w10d w.heap.size 25 #[.slice A0 a.slots.length c0, .slice A1 a.queue.length c1, .slice A2 a.purple.length c2]) := Lib.hid (ew10d ▸ HKA10.out.drew)
          have HSl0 := Lib.hid (HKA10.out).lt
          have HS1 : Hid (Blk w10d (w.heap.size + 1) 40 #[.int .i64 k, .int .i64 n, .int .i64 g]) := Lib.hid (ew10d ▸ HKV10.out.drew)
          have HSl1 := Lib.hid (HKV10.out).lt
          have HbP : Hid (Below w10.heap.size w10 w10d) := Lib.hid (ew10d ▸ (Below.refl _ w10).drew)
          have hzw10d : w10.heap.size ≤ w10d.heap.size := HbP.out.size
          refine wp_region_noPanic ?_
          refine wp_region_held_drew (S := (fun W => Blk W w.heap.size 25 #[.slice A0 a.slots.length c0, .slice A1 a.queue.length c1, .slice A2 a.purple.length c2] ∧ Blk W (w.heap.size + 1) 40 #[.int .i64 k, .int .i64 n, .int .i64 g])) (by kernel_rfl) ?_ (fun hHeld => ?_)
          · exact ew10d ▸ ⟨HS0.out, HS1.out⟩
          rw [← ew10d]
          have hS0 : Blk w10d w.heap.size 25 #[.slice A0 a.slots.length c0, .slice A1 a.queue.length c1, .slice A2 a.purple.length c2] ∧ Blk w10d (w.heap.size + 1) 40 #[.int .i64 k, .int .i64 n, .int .i64 g] := ⟨HS0.out, HS1.out⟩
          clear ew10d
          refine wpAnyH_take (i := 0) (oi := _) (v := ?_) rfl (by kernel_rfl) (by kernel_rfl) (by kernel_rfl) (fun _ _ _ h => h) (Or.inl ⟨by rfl, ?_⟩) (by assumption) ?_
          rotate_left
          focus
            intro w hSw
            obtain ⟨qs0, qs1⟩ := hSw
            obtain ⟨qs0_0, qs0_1, qs0_2⟩ := (three3 qs0)
            obtain ⟨qs1_0, qs1_1, qs1_2⟩ := (three3 qs1)
            go_simp
            try with_reducible rfl
          try simp only [List.getElem_toArray, List.getElem_cons_succ, List.getElem_cons_zero, Act.put, List.setIfInBounds_toArray, List.set_cons_zero, List.set_cons_succ]
          refine wpAnyH_take (i := 2) (oi := _) (v := ?_) rfl (by kernel_rfl) (by kernel_rfl) (by kernel_rfl) (fun _ _ _ h => h) (Or.inl ⟨by rfl, ?_⟩) (by assumption) ?_
          rotate_left
          focus
            intro w hSw
            obtain ⟨qs0, qs1⟩ := hSw
            obtain ⟨qs0_0, qs0_1, qs0_2⟩ := (three3 qs0)
            obtain ⟨qs1_0, qs1_1, qs1_2⟩ := (three3 qs1)
            go_simp
            try with_reducible rfl
          try simp only [List.getElem_toArray, List.getElem_cons_succ, List.getElem_cons_zero, Act.put, List.setIfInBounds_toArray, List.set_cons_zero, List.set_cons_succ]
          refine wpAnyH_ready (rs := [1, 8]) (by kernel_rfl) (by simp) ?_
          refine AllReadyH.cons (o := _) rfl (fun K hK => ?_) ?_
          · go_simp
            refine Calls.mono (Hta.out w10d HbP.out) ?_
            rintro e y1 ⟨s0, s1, s2, rfl, hL, hb⟩
            have hst := hb
            have hzy1 := hb.size
            replace HS0 := Lib.hid (HS0.out.below hst HS0.out.lt)
            replace HS1 := Lib.hid (HS1.out.below hst HS1.out.lt)
            replace HbP := Lib.hid (HbP.out.trans (hst.mono HbP.out.size))
            have HL := Lib.hid hL
            have HLl : Hid (w10d.heap.size ≤ y1.heap.size) := Lib.hid hst.size
            have Hle : Hid (y1.heap.size ≤ y1.heap.size) := Lib.hid (Nat.le_refl _)
            clear hst hb hL
            refine hK.out _ _ ?_ (fun hHeld => ?_)
            · exact ⟨HS0.out, HS1.out⟩
            · clear hK K
              try simp only [List.getElem_toArray, List.getElem_cons_succ, List.getElem_cons_zero, Act.put, List.setIfInBounds_toArray, List.set_cons_zero, List.set_cons_succ]
              refine wpAnyH_ready (rs := [3, 8]) (by kernel_rfl) (by simp) ?_
              refine AllReadyH.cons (o := _) rfl (fun K hK => ?_) ?_
              · go_simp
                refine Calls.mono (Htv.out y1) ?_
                rintro e y2 ⟨rfl, hb⟩
                have hst := hb
                have hzy2 := hb.size
                replace HS0 := Lib.hid (HS0.out.below hst HS0.out.lt)
                replace HS1 := Lib.hid (HS1.out.below hst HS1.out.lt)
                replace HbP := Lib.hid (HbP.out.trans (hst.mono HbP.out.size))
                replace HL := Lib.hid (HL.out.below (hst.mono Hle.out))
                replace Hle := Lib.hid (Nat.le_trans Hle.out hst.size)
                clear hst hb
                refine hK.out _ _ ?_ (fun hHeld => ?_)
                · exact ⟨HS0.out, HS1.out⟩
                · clear hK K
                  try simp only [List.getElem_toArray, List.getElem_cons_succ, List.getElem_cons_zero, Act.put, List.setIfInBounds_toArray, List.set_cons_zero, List.set_cons_succ]
                  refine wpAnyH_ready (rs := [4, 8]) (by kernel_rfl) (by simp) ?_
                  refine AllReadyH.cons (o := _) rfl (fun K hK => ?_) ?_
                  · go_simp
                    refine Calls.mono (Himpl.out (some ⟨s0, 0, none⟩) (some ⟨s1, 0, none⟩) (some ⟨s2, 0, none⟩) a.slots.length a.queue.length a.purple.length _ _ y2 Hle.out HL.out) ?_
                    rintro e y3 ⟨v, rfl, hans, hb⟩
                    have hst := hb
                    have hzy3 := hb.size
                    replace HS0 := Lib.hid (HS0.out.below hst HS0.out.lt)
                    replace HS1 := Lib.hid (HS1.out.below hst HS1.out.lt)
                    replace HbP := Lib.hid (HbP.out.trans (hst.mono HbP.out.size))
                    replace HL := Lib.hid (HL.out.below (hst.mono Hle.out))
                    replace Hle := Lib.hid (Nat.le_trans Hle.out hst.size)
                    obtain ⟨As0, As1, As2, cs0, cs1, cs2, gg, fb, nb, g1, g2, rfl, hO, hl⟩ := hans
                    have HO := Lib.hid hO
                    have Hl := Lib.hid hl
                    clear hst hb hO hl
                    refine hK.out _ _ ?_ (fun hHeld => ?_)
                    · exact ⟨HS0.out, HS1.out⟩
                    · clear hK K
                      try simp only [List.getElem_toArray, List.getElem_cons_succ, List.getElem_cons_zero, Act.put, List.setIfInBounds_toArray, List.set_cons_zero, List.set_cons_succ]
                      refine wpAnyH_take (i := 5) (oi := _) (v := ?_) rfl (by kernel_rfl) (by kernel_rfl) (by kernel_rfl) (fun _ _ _ h => h) (Or.inl ⟨by rfl, ?_⟩) (by assumption) ?_
                      rotate_left
                      focus
                        intro w hSw
                        obtain ⟨qs0, qs1⟩ := hSw
                        obtain ⟨qs0_0, qs0_1, qs0_2⟩ := (three3 qs0)
                        obtain ⟨qs1_0, qs1_1, qs1_2⟩ := (three3 qs1)
                        go_simp
                        try with_reducible rfl
                      try simp only [List.getElem_toArray, List.getElem_cons_succ, List.getElem_cons_zero, Act.put, List.setIfInBounds_toArray, List.set_cons_zero, List.set_cons_succ]
                      refine wpAnyH_take (i := 6) (oi := _) (v := ?_) rfl (by kernel_rfl) (by kernel_rfl) (by kernel_rfl) (fun _ _ _ h => h) (Or.inl ⟨by rfl, ?_⟩) (by assumption) ?_
                      rotate_left
                      focus
                        intro w hSw
                        obtain ⟨qs0, qs1⟩ := hSw
                        obtain ⟨qs0_0, qs0_1, qs0_2⟩ := (three3 qs0)
                        obtain ⟨qs1_0, qs1_1, qs1_2⟩ := (three3 qs1)
                        go_simp
                        try with_reducible rfl
                      try simp only [List.getElem_toArray, List.getElem_cons_succ, List.getElem_cons_zero, Act.put, List.setIfInBounds_toArray, List.set_cons_zero, List.set_cons_succ]
                      refine wpAnyH_take (i := 7) (oi := _) (v := ?_) rfl (by kernel_rfl) (by kernel_rfl) (by kernel_rfl) (fun _ _ _ h => h) (Or.inl ⟨by rfl, ?_⟩) (by assumption) ?_
                      rotate_left
                      focus
                        intro w hSw
                        obtain ⟨qs0, qs1⟩ := hSw
                        obtain ⟨qs0_0, qs0_1, qs0_2⟩ := (three3 qs0)
                        obtain ⟨qs1_0, qs1_1, qs1_2⟩ := (three3 qs1)
                        go_simp
                        try with_reducible rfl
                      try simp only [List.getElem_toArray, List.getElem_cons_succ, List.getElem_cons_zero, Act.put, List.setIfInBounds_toArray, List.set_cons_zero, List.set_cons_succ]
                      refine wpAnyH_ready (rs := [8]) (by kernel_rfl) (by simp) ?_
                      refine AllReadyH.cons (o := _) rfl (fun K hK => ?_) ?_
                      · go_simp
                        obtain ⟨y4, ey4⟩ : ∃ x, x = y3.alloc (.cells #[.slice none 0 0, .slice none 0 0, .slice none 0 0] 32) := ⟨_, rfl⟩
                        rw [← ey4]
                        have hst : Below y3.heap.size y3 y4 := ey4 ▸ blw1 y3 (.cells #[.slice none 0 0, .slice none 0 0, .slice none 0 0] 32)
                        have HX : Hid (Blk y4 y3.heap.size 32 #[.slice none 0 0, .slice none 0 0, .slice none 0 0]) := Lib.hid (ey4 ▸ Blk.new y3 32 #[.slice none 0 0, .slice none 0 0, .slice none 0 0])
                        have hzy4 : y4.heap.size ≤ y3.heap.size + 1 := by rw [ey4]; simp
                        have hyy4 : y3.heap.size + 1 ≤ y4.heap.size := by rw [ey4]; simp
                        replace HS0 := Lib.hid (HS0.out.below hst HS0.out.lt)
                        replace HS1 := Lib.hid (HS1.out.below hst HS1.out.lt)
                        replace HbP := Lib.hid (HbP.out.trans (hst.mono HbP.out.size))
                        replace HL := Lib.hid (HL.out.below (hst.mono Hle.out))
                        replace Hle := Lib.hid (Nat.le_trans Hle.out hst.size)
                        replace HO := Lib.hid (HO.out.apart (S := fun _ => False) (Apart.of_below hst) (fun _ _ h => h))
                        clear hst ey4
                        refine hK.out _ _ ?_ (fun hHeld => ?_)
                        · exact ⟨HS0.out, HS1.out⟩
                        · clear hK K
                          try simp only [List.getElem_toArray, List.getElem_cons_succ, List.getElem_cons_zero, Act.put, List.setIfInBounds_toArray, List.set_cons_zero, List.set_cons_succ]
                          refine wpAnyH_ready (rs := [9]) (by kernel_rfl) (by simp) ?_
                          refine AllReadyH.cons (o := _) rfl (fun K hK => ?_) ?_
                          · have z0 := HX.out.cel 0 rfl
                            have z1 := HX.out.cel 1 rfl
                            have z2 := HX.out.cel 2 rfl
                            have f0 := HX.out.frozen 0
                            have f1 := HX.out.frozen 1
                            have f2 := HX.out.frozen 2
                            go_simp
                            obtain ⟨y5, ey5⟩ : ∃ x, x = (((y4.setCell ⟨y3.heap.size, 0, none⟩ (.slice As0 R.slots.length cs0)).setCell ⟨y3.heap.size, 1, none⟩ (.slice As1 R.queue.length cs1)).setCell ⟨y3.heap.size, 2, none⟩ (.slice As2 R.purple.length cs2)) := ⟨_, rfl⟩
                            rw [← ey5]
                            replace HbP : Hid (Below w10.heap.size w10 y5) := Lib.hid (ey5 ▸ below_store HbP.out (by have := HbP.out.size; omega) _ _ _)
                            have HB : Hid (BoxA y5 w10.heap.size (y3.heap.size) R) := Lib.hid (ey5 ▸ BoxA.of_store HX.out (by omega) HO.out (fun b hb => by have h1 := Hl.out b hb; have h2 := HO.out.low b hb; exact ⟨by omega, by omega⟩) (by omega) cs0 cs1 cs2)
                            replace HS0 : Hid (Blk y5 w.heap.size 25 #[.slice A0 a.slots.length c0, .slice A1 a.queue.length c1, .slice A2 a.purple.length c2]) := Lib.hid (ey5 ▸ blk_three HS0.out (by have := HSl0.out; omega) _ _ _)
                            replace HS1 : Hid (Blk y5 (w.heap.size + 1) 40 #[.int .i64 k, .int .i64 n, .int .i64 g]) := Lib.hid (ey5 ▸ blk_three HS1.out (by have := HSl1.out; omega) _ _ _)
                            clear ey5 z0 z1 z2 f0 f1 f2
                            refine hK.out _ _ ?_ (fun hHeld => ?_)
                            · exact ⟨HS0.out, HS1.out⟩
                            · clear hK K
                              try simp only [List.getElem_toArray, List.getElem_cons_succ, List.getElem_cons_zero, Act.put, List.setIfInBounds_toArray, List.set_cons_zero, List.set_cons_succ]
                              refine wpAnyH_take (i := 10) (oi := _) (v := ?_) rfl (by kernel_rfl) (by kernel_rfl) (by kernel_rfl) (fun _ _ _ h => h) (Or.inl ⟨by rfl, ?_⟩) (by assumption) ?_
                              rotate_left
                              focus
                                intro w hSw
                                obtain ⟨qs0, qs1⟩ := hSw
                                obtain ⟨qs0_0, qs0_1, qs0_2⟩ := (three3 qs0)
                                obtain ⟨qs1_0, qs1_1, qs1_2⟩ := (three3 qs1)
                                go_simp
                                try with_reducible rfl
                              try simp only [List.getElem_toArray, List.getElem_cons_succ, List.getElem_cons_zero, Act.put, List.setIfInBounds_toArray, List.set_cons_zero, List.set_cons_succ]
                              refine wpAnyH_done (by kernel_rfl) ?_ _
                              refine NoPanic.normal ?_
                              try go_wp2_with fail
                              go_meet
                              case rel => exact ⟨_, rfl, rfl, HbP, HB⟩
                          exact AllReadyH.nil
                      exact AllReadyH.nil
                  refine AllReadyH.cons (o := _) rfl (fun K hK => ?_) ?_
                  · go_simp
                    obtain ⟨y6, ey6⟩ : ∃ x, x = y2.alloc (.cells #[.slice none 0 0, .slice none 0 0, .slice none 0 0] 32) := ⟨_, rfl⟩
                    rw [← ey6]
                    have hst : Below y2.heap.size y2 y6 := ey6 ▸ blw1 y2 (.cells #[.slice none 0 0, .slice none 0 0, .slice none 0 0] 32)
                    have HX : Hid (Blk y6 y2.heap.size 32 #[.slice none 0 0, .slice none 0 0, .slice none 0 0]) := Lib.hid (ey6 ▸ Blk.new y2 32 #[.slice none 0 0, .slice none 0 0, .slice none 0 0])
                    have hzy6 : y6.heap.size ≤ y2.heap.size + 1 := by rw [ey6]; simp
                    have hyy6 : y2.heap.size + 1 ≤ y6.heap.size := by rw [ey6]; simp
                    replace HS0 := Lib.hid (HS0.out.below hst HS0.out.lt)
                    replace HS1 := Lib.hid (HS1.out.below hst HS1.out.lt)
                    replace HbP := Lib.hid (HbP.out.trans (hst.mono HbP.out.size))
                    replace HL := Lib.hid (HL.out.below (hst.mono Hle.out))
                    replace Hle := Lib.hid (Nat.le_trans Hle.out hst.size)
                    clear hst ey6
                    refine hK.out _ _ ?_ (fun hHeld => ?_)
                    · exact ⟨HS0.out, HS1.out⟩
                    · clear hK K
                      try simp only [List.getElem_toArray, List.getElem_cons_succ, List.getElem_cons_zero, Act.put, List.setIfInBounds_toArray, List.set_cons_zero, List.set_cons_succ]
                      refine wpAnyH_ready (rs := [4]) (by kernel_rfl) (by simp) ?_
                      refine AllReadyH.cons (o := _) rfl (fun K hK => ?_) ?_
                      · go_simp
                        refine Calls.mono (Himpl.out (some ⟨s0, 0, none⟩) (some ⟨s1, 0, none⟩) (some ⟨s2, 0, none⟩) a.slots.length a.queue.length a.purple.length _ _ y6 Hle.out HL.out) ?_
                        rintro e y7 ⟨v, rfl, hans, hb⟩
                        have hst := hb
                        have hzy7 := hb.size
                        replace HS0 := Lib.hid (HS0.out.below hst HS0.out.lt)
                        replace HS1 := Lib.hid (HS1.out.below hst HS1.out.lt)
                        replace HbP := Lib.hid (HbP.out.trans (hst.mono HbP.out.size))
                        replace HL := Lib.hid (HL.out.below (hst.mono Hle.out))
                        replace Hle := Lib.hid (Nat.le_trans Hle.out hst.size)
                        replace HX := Lib.hid (HX.out.below hst HX.out.lt)
                        obtain ⟨As0, As1, As2, cs0, cs1, cs2, gg, fb, nb, g1, g2, rfl, hO, hl⟩ := hans
                        have HO := Lib.hid hO
                        have Hl := Lib.hid hl
                        clear hst hb hO hl
                        refine hK.out _ _ ?_ (fun hHeld => ?_)
                        · exact ⟨HS0.out, HS1.out⟩
                        · clear hK K
                          try simp only [List.getElem_toArray, List.getElem_cons_succ, List.getElem_cons_zero, Act.put, List.setIfInBounds_toArray, List.set_cons_zero, List.set_cons_succ]
                          refine wpAnyH_take (i := 5) (oi := _) (v := ?_) rfl (by kernel_rfl) (by kernel_rfl) (by kernel_rfl) (fun _ _ _ h => h) (Or.inl ⟨by rfl, ?_⟩) (by assumption) ?_
                          rotate_left
                          focus
                            intro w hSw
                            obtain ⟨qs0, qs1⟩ := hSw
                            obtain ⟨qs0_0, qs0_1, qs0_2⟩ := (three3 qs0)
                            obtain ⟨qs1_0, qs1_1, qs1_2⟩ := (three3 qs1)
                            go_simp
                            try with_reducible rfl
                          try simp only [List.getElem_toArray, List.getElem_cons_succ, List.getElem_cons_zero, Act.put, List.setIfInBounds_toArray, List.set_cons_zero, List.set_cons_succ]
                          refine wpAnyH_take (i := 6) (oi := _) (v := ?_) rfl (by kernel_rfl) (by kernel_rfl) (by kernel_rfl) (fun _ _ _ h => h) (Or.inl ⟨by rfl, ?_⟩) (by assumption) ?_
                          rotate_left
                          focus
                            intro w hSw
                            obtain ⟨qs0, qs1⟩ := hSw
                            obtain ⟨qs0_0, qs0_1, qs0_2⟩ := (three3 qs0)
                            obtain ⟨qs1_0, qs1_1, qs1_2⟩ := (three3 qs1)
                            go_simp
                            try with_reducible rfl
                          try simp only [List.getElem_toArray, List.getElem_cons_succ, List.getElem_cons_zero, Act.put, List.setIfInBounds_toArray, List.set_cons_zero, List.set_cons_succ]
                          refine wpAnyH_take (i := 7) (oi := _) (v := ?_) rfl (by kernel_rfl) (by kernel_rfl) (by kernel_rfl) (fun _ _ _ h => h) (Or.inl ⟨by rfl, ?_⟩) (by assumption) ?_
                          rotate_left
                          focus
                            intro w hSw
                            obtain ⟨qs0, qs1⟩ := hSw
                            obtain ⟨qs0_0, qs0_1, qs0_2⟩ := (three3 qs0)
                            obtain ⟨qs1_0, qs1_1, qs1_2⟩ := (three3 qs1)
                            go_simp
                            try with_reducible rfl
                          try simp only [List.getElem_toArray, List.getElem_cons_succ, List.getElem_cons_zero, Act.put, List.setIfInBounds_toArray, List.set_cons_zero, List.set_cons_succ]
                          refine wpAnyH_ready (rs := [9]) (by kernel_rfl) (by simp) ?_
                          refine AllReadyH.cons (o := _) rfl (fun K hK => ?_) ?_
                          · have z0 := HX.out.cel 0 rfl
                            have z1 := HX.out.cel 1 rfl
                            have z2 := HX.out.cel 2 rfl
                            have f0 := HX.out.frozen 0
                            have f1 := HX.out.frozen 1
                            have f2 := HX.out.frozen 2
                            go_simp
                            obtain ⟨y8, ey8⟩ : ∃ x, x = (((y7.setCell ⟨y2.heap.size, 0, none⟩ (.slice As0 R.slots.length cs0)).setCell ⟨y2.heap.size, 1, none⟩ (.slice As1 R.queue.length cs1)).setCell ⟨y2.heap.size, 2, none⟩ (.slice As2 R.purple.length cs2)) := ⟨_, rfl⟩
                            rw [← ey8]
                            replace HbP : Hid (Below w10.heap.size w10 y8) := Lib.hid (ey8 ▸ below_store HbP.out (by have := HbP.out.size; omega) _ _ _)
                            have HB : Hid (BoxA y8 w10.heap.size (y2.heap.size) R) := Lib.hid (ey8 ▸ BoxA.of_store HX.out (by omega) HO.out (fun b hb => by have h1 := Hl.out b hb; have h2 := HO.out.low b hb; exact ⟨by omega, by omega⟩) (by omega) cs0 cs1 cs2)
                            replace HS0 : Hid (Blk y8 w.heap.size 25 #[.slice A0 a.slots.length c0, .slice A1 a.queue.length c1, .slice A2 a.purple.length c2]) := Lib.hid (ey8 ▸ blk_three HS0.out (by have := HSl0.out; omega) _ _ _)
                            replace HS1 : Hid (Blk y8 (w.heap.size + 1) 40 #[.int .i64 k, .int .i64 n, .int .i64 g]) := Lib.hid (ey8 ▸ blk_three HS1.out (by have := HSl1.out; omega) _ _ _)
                            clear ey8 z0 z1 z2 f0 f1 f2
                            refine hK.out _ _ ?_ (fun hHeld => ?_)
                            · exact ⟨HS0.out, HS1.out⟩
                            · clear hK K
                              try simp only [List.getElem_toArray, List.getElem_cons_succ, List.getElem_cons_zero, Act.put, List.setIfInBounds_toArray, List.set_cons_zero, List.set_cons_succ]
                              refine wpAnyH_take (i := 10) (oi := _) (v := ?_) rfl (by kernel_rfl) (by kernel_rfl) (by kernel_rfl) (fun _ _ _ h => h) (Or.inl ⟨by rfl, ?_⟩) (by assumption) ?_
                              rotate_left
                              focus
                                intro w hSw
                                obtain ⟨qs0, qs1⟩ := hSw
                                obtain ⟨qs0_0, qs0_1, qs0_2⟩ := (three3 qs0)
                                obtain ⟨qs1_0, qs1_1, qs1_2⟩ := (three3 qs1)
                                go_simp
                                try with_reducible rfl
                              try simp only [List.getElem_toArray, List.getElem_cons_succ, List.getElem_cons_zero, Act.put, List.setIfInBounds_toArray, List.set_cons_zero, List.set_cons_succ]
                              refine wpAnyH_done (by kernel_rfl) ?_ _
                              refine NoPanic.normal ?_
                              try go_wp2_with fail
                              go_meet
                              case rel => exact ⟨_, rfl, rfl, HbP, HB⟩
                          exact AllReadyH.nil
                      exact AllReadyH.nil
                  exact AllReadyH.nil
              refine AllReadyH.cons (o := _) rfl (fun K hK => ?_) ?_
              · go_simp
                obtain ⟨y9, ey9⟩ : ∃ x, x = y1.alloc (.cells #[.slice none 0 0, .slice none 0 0, .slice none 0 0] 32) := ⟨_, rfl⟩
                rw [← ey9]
                have hst : Below y1.heap.size y1 y9 := ey9 ▸ blw1 y1 (.cells #[.slice none 0 0, .slice none 0 0, .slice none 0 0] 32)
                have HX : Hid (Blk y9 y1.heap.size 32 #[.slice none 0 0, .slice none 0 0, .slice none 0 0]) := Lib.hid (ey9 ▸ Blk.new y1 32 #[.slice none 0 0, .slice none 0 0, .slice none 0 0])
                have hzy9 : y9.heap.size ≤ y1.heap.size + 1 := by rw [ey9]; simp
                have hyy9 : y1.heap.size + 1 ≤ y9.heap.size := by rw [ey9]; simp
                replace HS0 := Lib.hid (HS0.out.below hst HS0.out.lt)
                replace HS1 := Lib.hid (HS1.out.below hst HS1.out.lt)
                replace HbP := Lib.hid (HbP.out.trans (hst.mono HbP.out.size))
                replace HL := Lib.hid (HL.out.below (hst.mono Hle.out))
                replace Hle := Lib.hid (Nat.le_trans Hle.out hst.size)
                clear hst ey9
                refine hK.out _ _ ?_ (fun hHeld => ?_)
                · exact ⟨HS0.out, HS1.out⟩
                · clear hK K
                  try simp only [List.getElem_toArray, List.getElem_cons_succ, List.getElem_cons_zero, Act.put, List.setIfInBounds_toArray, List.set_cons_zero, List.set_cons_succ]
                  refine wpAnyH_ready (rs := [3]) (by kernel_rfl) (by simp) ?_
                  refine AllReadyH.cons (o := _) rfl (fun K hK => ?_) ?_
                  · go_simp
                    refine Calls.mono (Htv.out y9) ?_
                    rintro e y10 ⟨rfl, hb⟩
                    have hst := hb
                    have hzy10 := hb.size
                    replace HS0 := Lib.hid (HS0.out.below hst HS0.out.lt)
                    replace HS1 := Lib.hid (HS1.out.below hst HS1.out.lt)
                    replace HbP := Lib.hid (HbP.out.trans (hst.mono HbP.out.size))
                    replace HL := Lib.hid (HL.out.below (hst.mono Hle.out))
                    replace Hle := Lib.hid (Nat.le_trans Hle.out hst.size)
                    replace HX := Lib.hid (HX.out.below hst HX.out.lt)
                    clear hst hb
                    refine hK.out _ _ ?_ (fun hHeld => ?_)
                    · exact ⟨HS0.out, HS1.out⟩
                    · clear hK K
                      try simp only [List.getElem_toArray, List.getElem_cons_succ, List.getElem_cons_zero, Act.put, List.setIfInBounds_toArray, List.set_cons_zero, List.set_cons_succ]
                      refine wpAnyH_ready (rs := [4]) (by kernel_rfl) (by simp) ?_
                      refine AllReadyH.cons (o := _) rfl (fun K hK => ?_) ?_
                      · go_simp
                        refine Calls.mono (Himpl.out (some ⟨s0, 0, none⟩) (some ⟨s1, 0, none⟩) (some ⟨s2, 0, none⟩) a.slots.length a.queue.length a.purple.length _ _ y10 Hle.out HL.out) ?_
                        rintro e y11 ⟨v, rfl, hans, hb⟩
                        have hst := hb
                        have hzy11 := hb.size
                        replace HS0 := Lib.hid (HS0.out.below hst HS0.out.lt)
                        replace HS1 := Lib.hid (HS1.out.below hst HS1.out.lt)
                        replace HbP := Lib.hid (HbP.out.trans (hst.mono HbP.out.size))
                        replace HL := Lib.hid (HL.out.below (hst.mono Hle.out))
                        replace Hle := Lib.hid (Nat.le_trans Hle.out hst.size)
                        replace HX := Lib.hid (HX.out.below hst HX.out.lt)
                        obtain ⟨As0, As1, As2, cs0, cs1, cs2, gg, fb, nb, g1, g2, rfl, hO, hl⟩ := hans
                        have HO := Lib.hid hO
                        have Hl := Lib.hid hl
                        clear hst hb hO hl
                        refine hK.out _ _ ?_ (fun hHeld => ?_)
                        · exact ⟨HS0.out, HS1.out⟩
                        · clear hK K
                          try simp only [List.getElem_toArray, List.getElem_cons_succ, List.getElem_cons_zero, Act.put, List.setIfInBounds_toArray, List.set_cons_zero, List.set_cons_succ]
                          refine wpAnyH_take (i := 5) (oi := _) (v := ?_) rfl (by kernel_rfl) (by kernel_rfl) (by kernel_rfl) (fun _ _ _ h => h) (Or.inl ⟨by rfl, ?_⟩) (by assumption) ?_
                          rotate_left
                          focus
                            intro w hSw
                            obtain ⟨qs0, qs1⟩ := hSw
                            obtain ⟨qs0_0, qs0_1, qs0_2⟩ := (three3 qs0)
                            obtain ⟨qs1_0, qs1_1, qs1_2⟩ := (three3 qs1)
                            go_simp
                            try with_reducible rfl
                          try simp only [List.getElem_toArray, List.getElem_cons_succ, List.getElem_cons_zero, Act.put, List.setIfInBounds_toArray, List.set_cons_zero, List.set_cons_succ]
                          refine wpAnyH_take (i := 6) (oi := _) (v := ?_) rfl (by kernel_rfl) (by kernel_rfl) (by kernel_rfl) (fun _ _ _ h => h) (Or.inl ⟨by rfl, ?_⟩) (by assumption) ?_
                          rotate_left
                          focus
                            intro w hSw
                            obtain ⟨qs0, qs1⟩ := hSw
                            obtain ⟨qs0_0, qs0_1, qs0_2⟩ := (three3 qs0)
                            obtain ⟨qs1_0, qs1_1, qs1_2⟩ := (three3 qs1)
                            go_simp
                            try with_reducible rfl
                          try simp only [List.getElem_toArray, List.getElem_cons_succ, List.getElem_cons_zero, Act.put, List.setIfInBounds_toArray, List.set_cons_zero, List.set_cons_succ]
                          refine wpAnyH_take (i := 7) (oi := _) (v := ?_) rfl (by kernel_rfl) (by kernel_rfl) (by kernel_rfl) (fun _ _ _ h => h) (Or.inl ⟨by rfl, ?_⟩) (by assumption) ?_
                          rotate_left
                          focus
                            intro w hSw
                            obtain ⟨qs0, qs1⟩ := hSw
                            obtain ⟨qs0_0, qs0_1, qs0_2⟩ := (three3 qs0)
                            obtain ⟨qs1_0, qs1_1, qs1_2⟩ := (three3 qs1)
                            go_simp
                            try with_reducible rfl
                          try simp only [List.getElem_toArray, List.getElem_cons_succ, List.getElem_cons_zero, Act.put, List.setIfInBounds_toArray, List.set_cons_zero, List.set_cons_succ]
                          refine wpAnyH_ready (rs := [9]) (by kernel_rfl) (by simp) ?_
                          refine AllReadyH.cons (o := _) rfl (fun K hK => ?_) ?_
                          · have z0 := HX.out.cel 0 rfl
                            have z1 := HX.out.cel 1 rfl
                            have z2 := HX.out.cel 2 rfl
                            have f0 := HX.out.frozen 0
                            have f1 := HX.out.frozen 1
                            have f2 := HX.out.frozen 2
                            go_simp
                            obtain ⟨y12, ey12⟩ : ∃ x, x = (((y11.setCell ⟨y1.heap.size, 0, none⟩ (.slice As0 R.slots.length cs0)).setCell ⟨y1.heap.size, 1, none⟩ (.slice As1 R.queue.length cs1)).setCell ⟨y1.heap.size, 2, none⟩ (.slice As2 R.purple.length cs2)) := ⟨_, rfl⟩
                            rw [← ey12]
                            replace HbP : Hid (Below w10.heap.size w10 y12) := Lib.hid (ey12 ▸ below_store HbP.out (by have := HbP.out.size; omega) _ _ _)
                            have HB : Hid (BoxA y12 w10.heap.size (y1.heap.size) R) := Lib.hid (ey12 ▸ BoxA.of_store HX.out (by omega) HO.out (fun b hb => by have h1 := Hl.out b hb; have h2 := HO.out.low b hb; exact ⟨by omega, by omega⟩) (by omega) cs0 cs1 cs2)
                            replace HS0 : Hid (Blk y12 w.heap.size 25 #[.slice A0 a.slots.length c0, .slice A1 a.queue.length c1, .slice A2 a.purple.length c2]) := Lib.hid (ey12 ▸ blk_three HS0.out (by have := HSl0.out; omega) _ _ _)
                            replace HS1 : Hid (Blk y12 (w.heap.size + 1) 40 #[.int .i64 k, .int .i64 n, .int .i64 g]) := Lib.hid (ey12 ▸ blk_three HS1.out (by have := HSl1.out; omega) _ _ _)
                            clear ey12 z0 z1 z2 f0 f1 f2
                            refine hK.out _ _ ?_ (fun hHeld => ?_)
                            · exact ⟨HS0.out, HS1.out⟩
                            · clear hK K
                              try simp only [List.getElem_toArray, List.getElem_cons_succ, List.getElem_cons_zero, Act.put, List.setIfInBounds_toArray, List.set_cons_zero, List.set_cons_succ]
                              refine wpAnyH_take (i := 10) (oi := _) (v := ?_) rfl (by kernel_rfl) (by kernel_rfl) (by kernel_rfl) (fun _ _ _ h => h) (Or.inl ⟨by rfl, ?_⟩) (by assumption) ?_
                              rotate_left
                              focus
                                intro w hSw
                                obtain ⟨qs0, qs1⟩ := hSw
                                obtain ⟨qs0_0, qs0_1, qs0_2⟩ := (three3 qs0)
                                obtain ⟨qs1_0, qs1_1, qs1_2⟩ := (three3 qs1)
                                go_simp
                                try with_reducible rfl
                              try simp only [List.getElem_toArray, List.getElem_cons_succ, List.getElem_cons_zero, Act.put, List.setIfInBounds_toArray, List.set_cons_zero, List.set_cons_succ]
                              refine wpAnyH_done (by kernel_rfl) ?_ _
                              refine NoPanic.normal ?_
                              try go_wp2_with fail
                              go_meet
                              case rel => exact ⟨_, rfl, rfl, HbP, HB⟩
                          exact AllReadyH.nil
                      exact AllReadyH.nil
                  exact AllReadyH.nil
              exact AllReadyH.nil
          refine AllReadyH.cons (o := _) rfl (fun K hK => ?_) ?_
          · go_simp
            obtain ⟨y13, ey13⟩ : ∃ x, x = w10d.alloc (.cells #[.slice none 0 0, .slice none 0 0, .slice none 0 0] 32) := ⟨_, rfl⟩
            rw [← ey13]
            have hst : Below w10d.heap.size w10d y13 := ey13 ▸ blw1 w10d (.cells #[.slice none 0 0, .slice none 0 0, .slice none 0 0] 32)
            have HX : Hid (Blk y13 w10d.heap.size 32 #[.slice none 0 0, .slice none 0 0, .slice none 0 0]) := Lib.hid (ey13 ▸ Blk.new w10d 32 #[.slice none 0 0, .slice none 0 0, .slice none 0 0])
            have hzy13 : y13.heap.size ≤ w10d.heap.size + 1 := by rw [ey13]; simp
            have hyy13 : w10d.heap.size + 1 ≤ y13.heap.size := by rw [ey13]; simp
            replace HS0 := Lib.hid (HS0.out.below hst HS0.out.lt)
            replace HS1 := Lib.hid (HS1.out.below hst HS1.out.lt)
            replace HbP := Lib.hid (HbP.out.trans (hst.mono HbP.out.size))
            clear hst ey13
            refine hK.out _ _ ?_ (fun hHeld => ?_)
            · exact ⟨HS0.out, HS1.out⟩
            · clear hK K
              try simp only [List.getElem_toArray, List.getElem_cons_succ, List.getElem_cons_zero, Act.put, List.setIfInBounds_toArray, List.set_cons_zero, List.set_cons_succ]
              refine wpAnyH_ready (rs := [1]) (by kernel_rfl) (by simp) ?_
              refine AllReadyH.cons (o := _) rfl (fun K hK => ?_) ?_
              · go_simp
                refine Calls.mono (Hta.out y13 HbP.out) ?_
                rintro e y14 ⟨s0, s1, s2, rfl, hL, hb⟩
                have hst := hb
                have hzy14 := hb.size
                replace HS0 := Lib.hid (HS0.out.below hst HS0.out.lt)
                replace HS1 := Lib.hid (HS1.out.below hst HS1.out.lt)
                replace HbP := Lib.hid (HbP.out.trans (hst.mono HbP.out.size))
                replace HX := Lib.hid (HX.out.below hst HX.out.lt)
                have HL := Lib.hid hL
                have HLl : Hid (y13.heap.size ≤ y14.heap.size) := Lib.hid hst.size
                have Hle : Hid (y14.heap.size ≤ y14.heap.size) := Lib.hid (Nat.le_refl _)
                clear hst hb hL
                refine hK.out _ _ ?_ (fun hHeld => ?_)
                · exact ⟨HS0.out, HS1.out⟩
                · clear hK K
                  try simp only [List.getElem_toArray, List.getElem_cons_succ, List.getElem_cons_zero, Act.put, List.setIfInBounds_toArray, List.set_cons_zero, List.set_cons_succ]
                  refine wpAnyH_ready (rs := [3]) (by kernel_rfl) (by simp) ?_
                  refine AllReadyH.cons (o := _) rfl (fun K hK => ?_) ?_
                  · go_simp
                    refine Calls.mono (Htv.out y14) ?_
                    rintro e y15 ⟨rfl, hb⟩
                    have hst := hb
                    have hzy15 := hb.size
                    replace HS0 := Lib.hid (HS0.out.below hst HS0.out.lt)
                    replace HS1 := Lib.hid (HS1.out.below hst HS1.out.lt)
                    replace HbP := Lib.hid (HbP.out.trans (hst.mono HbP.out.size))
                    replace HX := Lib.hid (HX.out.below hst HX.out.lt)
                    replace HL := Lib.hid (HL.out.below (hst.mono Hle.out))
                    replace Hle := Lib.hid (Nat.le_trans Hle.out hst.size)
                    clear hst hb
                    refine hK.out _ _ ?_ (fun hHeld => ?_)
                    · exact ⟨HS0.out, HS1.out⟩
                    · clear hK K
                      try simp only [List.getElem_toArray, List.getElem_cons_succ, List.getElem_cons_zero, Act.put, List.setIfInBounds_toArray, List.set_cons_zero, List.set_cons_succ]
                      refine wpAnyH_ready (rs := [4]) (by kernel_rfl) (by simp) ?_
                      refine AllReadyH.cons (o := _) rfl (fun K hK => ?_) ?_
                      · go_simp
                        refine Calls.mono (Himpl.out (some ⟨s0, 0, none⟩) (some ⟨s1, 0, none⟩) (some ⟨s2, 0, none⟩) a.slots.length a.queue.length a.purple.length _ _ y15 Hle.out HL.out) ?_
                        rintro e y16 ⟨v, rfl, hans, hb⟩
                        have hst := hb
                        have hzy16 := hb.size
                        replace HS0 := Lib.hid (HS0.out.below hst HS0.out.lt)
                        replace HS1 := Lib.hid (HS1.out.below hst HS1.out.lt)
                        replace HbP := Lib.hid (HbP.out.trans (hst.mono HbP.out.size))
                        replace HX := Lib.hid (HX.out.below hst HX.out.lt)
                        replace HL := Lib.hid (HL.out.below (hst.mono Hle.out))
                        replace Hle := Lib.hid (Nat.le_trans Hle.out hst.size)
                        obtain ⟨As0, As1, As2, cs0, cs1, cs2, gg, fb, nb, g1, g2, rfl, hO, hl⟩ := hans
                        have HO := Lib.hid hO
                        have Hl := Lib.hid hl
                        clear hst hb hO hl
                        refine hK.out _ _ ?_ (fun hHeld => ?_)
                        · exact ⟨HS0.out, HS1.out⟩
                        · clear hK K
                          try simp only [List.getElem_toArray, List.getElem_cons_succ, List.getElem_cons_zero, Act.put, List.setIfInBounds_toArray, List.set_cons_zero, List.set_cons_succ]
                          refine wpAnyH_take (i := 5) (oi := _) (v := ?_) rfl (by kernel_rfl) (by kernel_rfl) (by kernel_rfl) (fun _ _ _ h => h) (Or.inl ⟨by rfl, ?_⟩) (by assumption) ?_
                          rotate_left
                          focus
                            intro w hSw
                            obtain ⟨qs0, qs1⟩ := hSw
                            obtain ⟨qs0_0, qs0_1, qs0_2⟩ := (three3 qs0)
                            obtain ⟨qs1_0, qs1_1, qs1_2⟩ := (three3 qs1)
                            go_simp
                            try with_reducible rfl
                          try simp only [List.getElem_toArray, List.getElem_cons_succ, List.getElem_cons_zero, Act.put, List.setIfInBounds_toArray, List.set_cons_zero, List.set_cons_succ]
                          refine wpAnyH_take (i := 6) (oi := _) (v := ?_) rfl (by kernel_rfl) (by kernel_rfl) (by kernel_rfl) (fun _ _ _ h => h) (Or.inl ⟨by rfl, ?_⟩) (by assumption) ?_
                          rotate_left
                          focus
                            intro w hSw
                            obtain ⟨qs0, qs1⟩ := hSw
                            obtain ⟨qs0_0, qs0_1, qs0_2⟩ := (three3 qs0)
                            obtain ⟨qs1_0, qs1_1, qs1_2⟩ := (three3 qs1)
                            go_simp
                            try with_reducible rfl
                          try simp only [List.getElem_toArray, List.getElem_cons_succ, List.getElem_cons_zero, Act.put, List.setIfInBounds_toArray, List.set_cons_zero, List.set_cons_succ]
                          refine wpAnyH_take (i := 7) (oi := _) (v := ?_) rfl (by kernel_rfl) (by kernel_rfl) (by kernel_rfl) (fun _ _ _ h => h) (Or.inl ⟨by rfl, ?_⟩) (by assumption) ?_
                          rotate_left
                          focus
                            intro w hSw
                            obtain ⟨qs0, qs1⟩ := hSw
                            obtain ⟨qs0_0, qs0_1, qs0_2⟩ := (three3 qs0)
                            obtain ⟨qs1_0, qs1_1, qs1_2⟩ := (three3 qs1)
                            go_simp
                            try with_reducible rfl
                          try simp only [List.getElem_toArray, List.getElem_cons_succ, List.getElem_cons_zero, Act.put, List.setIfInBounds_toArray, List.set_cons_zero, List.set_cons_succ]
                          refine wpAnyH_ready (rs := [9]) (by kernel_rfl) (by simp) ?_
                          refine AllReadyH.cons (o := _) rfl (fun K hK => ?_) ?_
                          · have z0 := HX.out.cel 0 rfl
                            have z1 := HX.out.cel 1 rfl
                            have z2 := HX.out.cel 2 rfl
                            have f0 := HX.out.frozen 0
                            have f1 := HX.out.frozen 1
                            have f2 := HX.out.frozen 2
                            go_simp
                            obtain ⟨y17, ey17⟩ : ∃ x, x = (((y16.setCell ⟨w10d.heap.size, 0, none⟩ (.slice As0 R.slots.length cs0)).setCell ⟨w10d.heap.size, 1, none⟩ (.slice As1 R.queue.length cs1)).setCell ⟨w10d.heap.size, 2, none⟩ (.slice As2 R.purple.length cs2)) := ⟨_, rfl⟩
                            rw [← ey17]
                            replace HbP : Hid (Below w10.heap.size w10 y17) := Lib.hid (ey17 ▸ below_store HbP.out (by have := HbP.out.size; omega) _ _ _)
                            have HB : Hid (BoxA y17 w10.heap.size (w10d.heap.size) R) := Lib.hid (ey17 ▸ BoxA.of_store HX.out (by omega) HO.out (fun b hb => by have h1 := Hl.out b hb; have h2 := HO.out.low b hb; exact ⟨by omega, by omega⟩) (by omega) cs0 cs1 cs2)
                            replace HS0 : Hid (Blk y17 w.heap.size 25 #[.slice A0 a.slots.length c0, .slice A1 a.queue.length c1, .slice A2 a.purple.length c2]) := Lib.hid (ey17 ▸ blk_three HS0.out (by have := HSl0.out; omega) _ _ _)
                            replace HS1 : Hid (Blk y17 (w.heap.size + 1) 40 #[.int .i64 k, .int .i64 n, .int .i64 g]) := Lib.hid (ey17 ▸ blk_three HS1.out (by have := HSl1.out; omega) _ _ _)
                            clear ey17 z0 z1 z2 f0 f1 f2
                            refine hK.out _ _ ?_ (fun hHeld => ?_)
                            · exact ⟨HS0.out, HS1.out⟩
                            · clear hK K
                              try simp only [List.getElem_toArray, List.getElem_cons_succ, List.getElem_cons_zero, Act.put, List.setIfInBounds_toArray, List.set_cons_zero, List.set_cons_succ]
                              refine wpAnyH_take (i := 10) (oi := _) (v := ?_) rfl (by kernel_rfl) (by kernel_rfl) (by kernel_rfl) (fun _ _ _ h => h) (Or.inl ⟨by rfl, ?_⟩) (by assumption) ?_
                              rotate_left
                              focus
                                intro w hSw
                                obtain ⟨qs0, qs1⟩ := hSw
                                obtain ⟨qs0_0, qs0_1, qs0_2⟩ := (three3 qs0)
                                obtain ⟨qs1_0, qs1_1, qs1_2⟩ := (three3 qs1)
                                go_simp
                                try with_reducible rfl
                              try simp only [List.getElem_toArray, List.getElem_cons_succ, List.getElem_cons_zero, Act.put, List.setIfInBounds_toArray, List.set_cons_zero, List.set_cons_succ]
                              refine wpAnyH_done (by kernel_rfl) ?_ _
                              refine NoPanic.normal ?_
                              try go_wp2_with fail
                              go_meet
                              case rel => exact ⟨_, rfl, rfl, HbP, HB⟩
                          exact AllReadyH.nil
                      exact AllReadyH.nil
                  exact AllReadyH.nil
              exact AllReadyH.nil
          exact AllReadyH.nil
        case rest =>
          obtain ⟨gh, rfl, rfl, Hab, HBh⟩ := hcut
          obtain ⟨w11, hw11⟩ : ∃ x, x = wc := ⟨_, rfl⟩
          subst hw11
          obtain ⟨h0, h1, h2, ch0, ch1, ch2, sh, fh, nh, sh1, sh2, Kh, loh, Oh, lh⟩ := HBh.out
          have hsab := Hab.out.size
          have Km11 := HKm10.out.below Hab.out HKm10.out.lt
          have Lm11 := HLm10.out.below (Hab.out.mono (by omega))
          have Heq := Lib.hid (eqArena_c R h0 h1 h2 m0 m1 m2 ch0 ch1 ch2 cm0 cm1 cm2 _ _ _ _ w11 (Nat.le_refl _) (by omega) HRb.out (arl_of Oh HRb.out) Lm11)
          obtain ⟨uh0, uh1, uh2⟩ := (three3 Kh)
          obtain ⟨um0, um1, um2⟩ := (three3 Km11)
          have HKi11 := Lib.hid (HKi10.out.below Hab.out HKi10.out.lt)
          have Hmd11 := Lib.hid (Hmd10.out.below (Hab.out.mono (by omega)))
          have H011 := Lib.hid (H010.out.trans (Hab.out.mono H010.out.size))
          clear Kh Oh lh Km11 Lm11 HBh Hab HKi10 HKm10 HLm10 Hmd10 H010
          go_wp2_with fail
          refine Heq.out.mono ?_
          rintro e w12 ⟨rfl, hbbc⟩
          have hsbc := hbbc.size
          have Ki12 := HKi11.out.below hbbc HKi11.out.lt
          have Hh2 := Lib.hid (Hh.out w12 w9.heap.size (by omega) (Hmd11.out.below (hbbc.mono (by omega))))
          have H012 := Lib.hid (H011.out.trans (hbbc.mono H011.out.size))
          clear uh0 uh1 uh2 um0 um1 um2 Heq
          obtain ⟨ui0, ui1, ui2⟩ := (three3 Ki12)
          clear Ki12 hbbc HKi11 Hmd11 H011
          go_wp2_with fail
          refine Hh2.out.mono ?_
          rintro e w13 ⟨rfl, hbcd⟩
          have Hend := Lib.hid (Hb0.out.trans ((H012.out.trans (hbcd.mono H012.out.size)).mono Hb0.out.size))
          clear hbcd H012
          go_wp2
          go_ret
          exact ⟨rfl, Hend.out⟩
set_option maxRecDepth 100000 in
theorem lifted (os : Os) (started : os.Started) (H : Type) (enc : TypeId × Value → H) :
    ReturnsInHanded {} Try.checked os 5 .any (Rows.fnExactDropSpec.pre6 enc Try.prog Try.f5 Rows.fnExactDropRow.domain false) (Rows.fnExactDropSpec.post enc Try.prog Try.f5 false true false false) := by
  refine returnsInHanded_of_change (C := Try.checked) (s := Rows.fnExactDropSpec) own started (by kernel_rfl) Try.func5
    (ChangeSpec.witness6 (enc := enc) (C := Try.checked) (s := Rows.fnExactDropSpec) false ⟨#[], #[.agg #[.slice none 0 0, .slice none 0 0, .slice none 0 0], .agg #[.int .i64 0, .int .i64 0, .int .i64 0]], []⟩ 8 (by kernel_rfl) (by kernel_rfl) (by kernel_rfl) (by kernel_rfl)) ?_
  intro W base args ds gs before hval hW _ _
  have hW' := hW
  obtain ⟨p, q, hA0, hV, rfl, hfz, hnd⟩ := hW
  have hA : DataW.TrodAll enc Try.prog W 0 (fun _ => true) true Try.f5.params.toList args.toList ds p := hA0
  replace hval : ∀ (j : Nat) t v, Try.f5.params[j]? = some t → args[j]? = some v → Value.okWide Try.prog W .any base t v := hval
  rw [Try.params5] at hA hval
  obtain ⟨v0, vs0, d0, ds0, p0, q0, hargs0, rfl, rfl, h0, r0⟩ := trodAll_cons hA
  obtain ⟨v1, vs1, d1, ds1, p1, q1, hargs1, rfl, rfl, h1, r1⟩ := trodAll_cons r0
  obtain ⟨rfl, rfl, rfl⟩ := trodAll_nil r1
  obtain rfl : args = #[v0, v1] := by cases args; simp_all
  obtain ⟨rfl, rfl⟩ := trodVars_none hV
  obtain ⟨A0, A1, A2, a, c0, c1, c2, rfl, hR⟩ := ArnOpen.open_arena (hval 0 25 v0 rfl rfl) h0
  obtain ⟨k, n, g, rfl⟩ := ArnOpen.open_val (hval 1 40 v1 rfl rfl) h1
  refine (walk a A0 A1 A2 c0 c1 c2 k n g W hR).mono fun e W' ⟨he, hb⟩ => ?_
  subst he
  exact ⟨_, rfl, post_read hW' rfl rfl rfl rfl rfl Try.underlying4 laidOut (by kernel_rfl) hb⟩

theorem proved : Rows.FnExactDropSaid :=
  OpenClaim.holds_of_wide 5 Try.f5 rfl rfl rfl rfl rfl rfl rfl ⟨rfl, rfl, rfl, rfl, rfl⟩ rfl rfl rfl rfl rfl (by kernel_rfl) Try.func5 (by kernel_rfl)
    (of_decide_eq_true (by kernel_rfl)) (by unfold Func.isWrapper; first | (rw [if_pos (by decide +kernel)]; kernel_rfl) | (rw [if_neg (by decide +kernel)]; exact ⟨rfl, rfl⟩))
    (fun os started H enc _ => lifted os started H enc)
end DropLaw
end Go.Proofs.Ytfmlgpnjckamjaa
