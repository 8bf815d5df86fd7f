/-
  What comes of a tally: its arena, if that is one; else a copy of the arena it was made of.
-/
import Derived.Test.YtfmlgpnjckamjaaTallyA
import Derived.Test.YtfmlgpnjckamjaaImplOk
namespace Go.Proofs.Ytfmlgpnjckamjaa
open Go.RowKit
set_option linter.unusedVariables false
set_option linter.unusedSimpArgs false

theorem arSz_len {a : Ar} (h : arSz a ≤ 1050000) : (a.slots.length ≤ 1050000 ∧ a.queue.length ≤ 1050000 ∧ a.purple.length ≤ 1050000) ∧ (∀ i (hi : i < a.slots.length), a.slots[i].fs.length ≤ 1050000) ∧ ∀ i (hi : i < a.slots.length) j (hj : j < a.slots[i].fs.length), a.slots[i].fs[j].name.length ≤ 1050000 := by
  have hsl : slsSz a.slots ≤ 1050000 := by unfold arSz at h; omega
  have hfz : ∀ i (hi : i < a.slots.length), fsSz a.slots[i].fs ≤ 1050000 := fun i hi => by
    have h2 := sum_get slSz hi
    have h5 : slSz a.slots[i] = fsSz a.slots[i].fs := rfl
    unfold slsSz at hsl
    omega
  refine ⟨⟨by unfold slsSz at hsl; omega, by unfold arSz at h; omega, by unfold arSz at h; omega⟩, fun i hi => ?_, fun i hi j hj => ?_⟩
  · have := hfz i hi
    unfold fsSz at this
    omega
  · have := hfz i hi
    have h2 := sum_get fdSz hj
    have h5 : fdSz a.slots[i].fs[j] = a.slots[i].fs[j].name.length := rfl
    unfold fsSz at this
    omega
theorem ArnM.OwnAr.arlz {w : World} {lo g g1 g2 : Nat} {fb : Nat → Nat} {nb : Nat → Nat → Nat} {A0 A1 A2 : Option Addr} {a : Ar} (h : ArnM.OwnAr w lo A0 A1 A2 a g fb nb g1 g2) (hl : arSz a ≤ 1050000) : ArL w lo w.heap.size A0 A1 A2 a := by
  obtain ⟨⟨h0, h1, h2⟩, h3, h4⟩ := arSz_len hl
  exact h.arl (by unfold maxLen; omega) (by unfold maxLen; omega) (by unfold maxLen; omega) (fun i hi => by have := h3 i hi; unfold maxLen; omega) (fun i hi j hj => by have := h4 i hi j hj; unfold maxLen; omega)
theorem ArnM.OwnAr.low {w : World} {lo g g1 g2 : Nat} {fb : Nat → Nat} {nb : Nat → Nat → Nat} {A0 A1 A2 : Option Addr} {a : Ar} (h : ArnM.OwnAr w lo A0 A1 A2 a g fb nb g1 g2) (b : Nat) (hb : ArnM.asOf a g fb nb g1 g2 b) : lo ≤ b := by
  rcases hb with (⟨h0, rfl⟩ | ⟨i, hi, hb⟩) | ⟨h1, rfl⟩ | ⟨h1, rfl⟩
  · exact (h.slots.row h0).2.1
  · obtain ⟨_, _, cs, _, hat⟩ := h.slots.row (by omega)
    obtain ⟨_, _, _, A, c, _, hF⟩ := hat i hi
    rcases hb with ⟨h0, rfl⟩ | ⟨j, hj, h0, rfl⟩
    · exact (hF.row h0).2.1
    · obtain ⟨_, _, cf, _, hatf⟩ := hF.row (by omega)
      obtain ⟨NA, nc, n0, hN, -⟩ := hatf j hj
      exact (hN h0).2.1
  · exact (h.queue h1).2.1
  · exact (h.purple h1).2.1
/-- an answer that is an arena of blocks of its own -/
def ArAns (w : World) (lo : Nat) (a : Ar) (v : Value) : Prop :=
  ∃ (A0 A1 A2 : Option Addr) (c0 c1 c2 g : Nat) (fb : Nat → Nat) (nb : Nat → Nat → Nat) (g1 g2 : Nat), v = .agg #[.slice A0 a.slots.length c0, .slice A1 a.queue.length c1, .slice A2 a.purple.length c2] ∧
    ArnM.OwnAr w lo A0 A1 A2 a g fb nb g1 g2 ∧ ∀ b, ArnM.asOf a g fb nb g1 g2 b → b < w.heap.size

theorem ArAns.store {w : World} {lo r g g1 g2 : Nat} {fb : Nat → Nat} {nb : Nat → Nat → Nat} {A0 A1 A2 : Option Addr} {a : Ar} (c0 c1 c2 : Nat) (x y z : Value) (h : ArnM.OwnAr w lo A0 A1 A2 a g fb nb g1 g2) (hl : ∀ b, ArnM.asOf a g fb nb g1 g2 b → b < w.heap.size ∧ ¬ b = r) :
    ArAns (((w.setCell ⟨r, 0, none⟩ x).setCell ⟨r, 1, none⟩ y).setCell ⟨r, 2, none⟩ z) lo a (.agg #[.slice A0 a.slots.length c0, .slice A1 a.queue.length c1, .slice A2 a.purple.length c2]) :=
  ⟨A0, A1, A2, c0, c1, c2, g, fb, nb, g1, g2, rfl, h.apart ((((Apart.refl (fun b => b = r) w).setCell (p := ⟨r, 0, none⟩) rfl _).setCell (p := ⟨r, 1, none⟩) rfl _).setCell (p := ⟨r, 2, none⟩) rfl _) (fun b hb => (hl b hb).2), fun b hb => by simpa using (hl b hb).1⟩
theorem below_store {w w' : World} {n r : Nat} (h : Below n w w') (hr : n ≤ r) (x y z : Value) : Below n w (((w'.setCell ⟨r, 0, none⟩ x).setCell ⟨r, 1, none⟩ y).setCell ⟨r, 2, none⟩ z) :=
  ((h.setCell (p := ⟨r, 0, none⟩) hr x).setCell (p := ⟨r, 1, none⟩) hr y).setCell (p := ⟨r, 2, none⟩) hr z

section
variable (S : List Sl) (Q P : List Int) (A0 A1 A2 : Option Addr) (c0 c1 c2 L B : Nat) (w : World)

set_option maxHeartbeats 1000000 in
theorem result_c (S' : List Sl) (Q' P' : List Int) (bt lo : Nat) (d : Value) (hlo : lo ≤ w.heap.size) (hB : B ≤ w.heap.size) (hsz : arSz ⟨S, Q, P⟩ ≤ 1050000) (h : ArL w L B A0 A1 A2 ⟨S, Q, P⟩)
    (hsz' : arSz ⟨S', Q', P'⟩ ≤ 1050000) (ht : TalQ w lo bt d ⟨S', Q', P'⟩) :
    Calls Try.prog 56 #[.pointer (some ⟨bt, 0, none⟩), .agg #[.slice A0 S.length c0, .slice A1 Q.length c1, .slice A2 P.length c2]] w fun e w' => ∃ v,
      e = .returned (.tuple #[v, .bool (arOk ⟨S', Q', P'⟩)]) ∧ ArAns w' lo (if arOk ⟨S', Q', P'⟩ then ⟨S', Q', P'⟩ else ⟨S, Q, P⟩) v ∧ Below w.heap.size w w' := by
  obtain ⟨T0, T1, T2, d0, d1, d2, g, fb, nb, g1, g2, hK, hbt, hO, hl⟩ := ht
  dsimp only at hK
  obtain ⟨R, hR⟩ : ∃ R, R = (if arOk ⟨S', Q', P'⟩ then (⟨S', Q', P'⟩ : Ar) else ⟨S, Q, P⟩) := ⟨_, rfl⟩
  rw [← hR]
  have HR := Lib.hid hR
  clear hR
  have hlt := hK.lt
  have hbW : Below w.heap.size w ((w.alloc (.cells #[.slice A0 S.length c0, .slice A1 Q.length c1, .slice A2 P.length c2] 32)).alloc (.cells #[.slice none 0 0, .slice none 0 0, .slice none 0 0] 32)) := ((Below.refl _ _).alloc (Nat.le_refl _) _).alloc (by simp) _
  have HKA := Lib.hid ((Blk.new w 32 #[.slice A0 S.length c0, .slice A1 Q.length c1, .slice A2 P.length c2]).alloc (.cells #[.slice none 0 0, .slice none 0 0, .slice none 0 0] 32))
  have HKR : Hid (Blk ((w.alloc (.cells #[.slice A0 S.length c0, .slice A1 Q.length c1, .slice A2 P.length c2] 32)).alloc (.cells #[.slice none 0 0, .slice none 0 0, .slice none 0 0] 32)) (w.heap.size + 1) 32 #[.slice none 0 0, .slice none 0 0, .slice none 0 0]) := Lib.hid (by
    have := Blk.new (w.alloc (.cells #[.slice A0 S.length c0, .slice A1 Q.length c1, .slice A2 P.length c2] 32)) 32 #[.slice none 0 0, .slice none 0 0, .slice none 0 0]
    rwa [World.size_alloc] at this)
  have hsz2 : ((w.alloc (.cells #[.slice A0 S.length c0, .slice A1 Q.length c1, .slice A2 P.length c2] 32)).alloc (.cells #[.slice none 0 0, .slice none 0 0, .slice none 0 0] 32)).heap.size = w.heap.size + 2 := by simp
  generalize hW2 : (w.alloc (.cells #[.slice A0 S.length c0, .slice A1 Q.length c1, .slice A2 P.length c2] 32)).alloc (.cells #[.slice none 0 0, .slice none 0 0, .slice none 0 0] 32) = w2 at HKA HKR hbW hsz2
  have hKt := hK.below hbW hlt
  have hO2 := hO.apart (S := fun _ => False) (Apart.of_below hbW) (fun _ _ h => h)
  have Hok := Lib.hid (implArenaOk_c ⟨S', Q', P'⟩ T0 T1 T2 d0 d1 d2 lo w2.heap.size w2 (Nat.le_refl _) (hO2.arlz hsz') hsz')
  have HA2 := Lib.hid (h.below (hbW.mono hB))
  have HO2 := Lib.hid hO2
  have HKt := Lib.hid hKt
  have Hl := Lib.hid hl
  have HbW := Lib.hid hbW
  have t0 := hKt.cel 0 (v := .slice T0 S'.length d0) rfl
  have t1 := hKt.cel 1 (v := .slice T1 Q'.length d1) rfl
  have t2 := hKt.cel 2 (v := .slice T2 P'.length d2) rfl
  have Hsz := Lib.hid hsz
  dsimp only at Hok
  clear hKt hO2 hl hbW hO hK h hsz hsz'
  go_enter Try.func56, Try.ntmps56
  go_wp2_with fail
  refine Hok.out.mono ?_
  rintro e w3 ⟨rfl, hb3⟩
  have HKA3 := Lib.hid (HKA.out.below hb3 HKA.out.lt)
  have HKR3 := Lib.hid (HKR.out.below hb3 HKR.out.lt)
  have HKt3 := Lib.hid (HKt.out.below hb3 HKt.out.lt)
  have HO3 := Lib.hid (HO2.out.apart (S := fun _ => False) (Apart.of_below hb3) (fun _ _ h => h))
  have HA3 := Lib.hid (HA2.out.below (hb3.mono (by omega)))
  have Hb3 := Lib.hid (HbW.out.trans (hb3.mono (by omega)))
  have hs3 : w.heap.size + 2 ≤ w3.heap.size := hsz2 ▸ hb3.size
  clear hb3 HKA HKR HKt HO2 HA2 HbW t0 t1 t2 Hok hW2 hsz2
  cases hok : arOk ⟨S', Q', P'⟩
  · obtain rfl : R = ⟨S, Q, P⟩ := by rw [HR.out, hok]; rfl
    have a0 := HKA3.out.cel 0 (v := .slice A0 S.length c0) rfl
    have a1 := HKA3.out.cel 1 (v := .slice A1 Q.length c1) rfl
    have a2 := HKA3.out.cel 2 (v := .slice A2 P.length c2) rfl
    have Hcp := Lib.hid (CopyOf.copyOf_c S Q P A0 A1 A2 c0 c1 c2 L B w3 (by omega) Hsz.out HA3.out)
    clear HO3 HKt3 Hl hlt
    go_wp2_with fail
    refine Hcp.out.mono ?_
    rintro e w4 ⟨B0, B1, B2, e0, e1, e2, x, fx, nx, x1, x2, rfl, hO4, hl4, hb4⟩
    have HKR4 := Lib.hid (HKR3.out.below hb4 HKR3.out.lt)
    have Hb4 := Lib.hid (Hb3.out.trans (hb4.mono (by omega)))
    have hs4 := hb4.size
    have HO4 := Lib.hid (hO4.lo_le (show lo ≤ w3.heap.size by omega))
    have Hl4 : Hid (∀ b, ArnM.asOf ⟨S, Q, P⟩ x fx nx x1 x2 b → b < w4.heap.size ∧ ¬ b = w.heap.size + 1) := Lib.hid (fun b hb => ⟨hl4 b hb, fun e => by
      have h1 := hO4.low b hb
      omega⟩)
    clear hO4 hl4 hb4 HKR3 HKA3 HA3 Hb3 Hcp a0 a1 a2
    have m0 := HKR4.out.cel 0 rfl
    have m1 := HKR4.out.cel 1 rfl
    have m2 := HKR4.out.cel 2 rfl
    have y0 : w4.frozen? ⟨w.heap.size + 1, 0, none⟩ = false := HKR4.out.frozen 0
    have y1 : w4.frozen? ⟨w.heap.size + 1, 1, none⟩ = false := HKR4.out.frozen 1
    have y2 : w4.frozen? ⟨w.heap.size + 1, 2, none⟩ = false := HKR4.out.frozen 2
    go_wp2_with fail
    refine bodyPost_ret (v := .tuple #[.agg #[.slice B0 S.length e0, .slice B1 Q.length e1, .slice B2 P.length e2], .bool false]) (by simp [results, Try.results56, go_sem, m0, m1, m2]) rfl
      ⟨_, by rw [hok], ArAns.store e0 e1 e2 _ _ _ HO4.out Hl4.out, below_store Hb4.out (by omega) _ _ _⟩
  · obtain rfl : R = ⟨S', Q', P'⟩ := by rw [HR.out, hok]; rfl
    have t0 := HKt3.out.cel 0 (v := .slice T0 S'.length d0) rfl
    have t1 := HKt3.out.cel 1 (v := .slice T1 Q'.length d1) rfl
    have t2 := HKt3.out.cel 2 (v := .slice T2 P'.length d2) rfl
    have m0 := HKR3.out.cel 0 rfl
    have m1 := HKR3.out.cel 1 rfl
    have m2 := HKR3.out.cel 2 rfl
    have y0 : w3.frozen? ⟨w.heap.size + 1, 0, none⟩ = false := HKR3.out.frozen 0
    have y1 : w3.frozen? ⟨w.heap.size + 1, 1, none⟩ = false := HKR3.out.frozen 1
    have y2 : w3.frozen? ⟨w.heap.size + 1, 2, none⟩ = false := HKR3.out.frozen 2
    go_wp2_with fail
    refine bodyPost_ret (v := .tuple #[.agg #[.slice T0 S'.length d0, .slice T1 Q'.length d1, .slice T2 P'.length d2], .bool true]) (by simp [results, Try.results56, go_sem, m0, m1, m2]) rfl
      ⟨_, by rw [hok], ArAns.store d0 d1 d2 _ _ _ HO3.out (fun b hb => by have := (Hl.out b hb).1; exact ⟨by omega, by omega⟩), below_store Hb3.out (by omega) _ _ _⟩
end
end Go.Proofs.Ytfmlgpnjckamjaa
