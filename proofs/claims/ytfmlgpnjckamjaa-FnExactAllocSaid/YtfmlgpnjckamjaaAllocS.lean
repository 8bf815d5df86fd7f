/-
  The model's Alloc.
-/
import Derived.Test.YtfmlgpnjckamjaaAllocJ
import Derived.Test.YtfmlgpnjckamjaaL5alloc
import Derived.Test.YtfmlgpnjckamjaaKeepJ
namespace Go.Proofs.Ytfmlgpnjckamjaa
open Go.RowKit
set_option linter.unusedVariables false
set_option linter.unusedSimpArgs false
namespace AllocI
section
variable (S : List Sl) (Q P : List Int) (A0 A1 A2 : Option Addr) (c0 c1 c2 L B : Nat) (w : World)
/-- where none is empty the arena stays -/
theorem allocS_no {S : List Sl} (h : allocF S = false) : allocS S = S := by
  unfold allocF at h
  unfold allocS
  rw [dif_neg (of_decide_eq_false h)]
set_option maxRecDepth 100000 in
set_option maxHeartbeats 2000000 in
theorem specAlloc_of (hB : B ≤ w.heap.size) (h : ArL w L B A0 A1 A2 ⟨S, Q, P⟩) (hsz : arSz ⟨S, Q, P⟩ ≤ 1050000) (hcap : P.length ≤ c2)
    (hown : ∀ W, Below B w W → B ≤ W.heap.size → Calls Try.prog 45 #[.agg #[.slice A0 S.length c0, .slice A1 Q.length c1, .slice A2 P.length c2]] W fun e w' => ∃ v, e = .returned v ∧ ArAnsC w' W.heap.size ⟨S, Q, P⟩ v ∧ Below W.heap.size W w') :
    Calls Try.prog 24 #[.agg #[.slice A0 S.length c0, .slice A1 Q.length c1, .slice A2 P.length c2]] w fun e w' => ∃ v,
      e = .returned (.tuple #[v, .agg #[.int .i64 (alK ⟨S, Q, P⟩), .int .i64 (alN ⟨S, Q, P⟩), .int .i64 (alG ⟨S, Q, P⟩)], .bool (alB ⟨S, Q, P⟩)]) ∧ ArAns w' w.heap.size (alA ⟨S, Q, P⟩) v ∧ Below w.heap.size w w' := by
  have hbW : Below w.heap.size w (((w.alloc (.cells #[.slice A0 S.length c0, .slice A1 Q.length c1, .slice A2 P.length c2] 32)).alloc (.cells #[.slice none 0 0, .slice none 0 0, .slice none 0 0] 32)).alloc (.cells #[.int .i64 0, .int .i64 0, .int .i64 0] 43)) := (((Below.refl _ _).alloc (Nat.le_refl _) _).alloc (by simp) _).alloc (by simp; omega) _
  have HKA := Lib.hid (((Blk.new w 32 #[.slice A0 S.length c0, .slice A1 Q.length c1, .slice A2 P.length c2]).alloc (.cells #[.slice none 0 0, .slice none 0 0, .slice none 0 0] 32)).alloc (.cells #[.int .i64 0, .int .i64 0, .int .i64 0] 43))
  have HKR : Hid (Blk (((w.alloc (.cells #[.slice A0 S.length c0, .slice A1 Q.length c1, .slice A2 P.length c2] 32)).alloc (.cells #[.slice none 0 0, .slice none 0 0, .slice none 0 0] 32)).alloc (.cells #[.int .i64 0, .int .i64 0, .int .i64 0] 43)) (w.heap.size + 1) 32 #[.slice none 0 0, .slice none 0 0, .slice none 0 0]) := Lib.hid (by
    have := (Blk.new (w.alloc (.cells #[.slice A0 S.length c0, .slice A1 Q.length c1, .slice A2 P.length c2] 32)) 32 #[.slice none 0 0, .slice none 0 0, .slice none 0 0]).alloc (.cells #[.int .i64 0, .int .i64 0, .int .i64 0] 43)
    rwa [World.size_alloc] at this)
  have HKV : Hid (Blk (((w.alloc (.cells #[.slice A0 S.length c0, .slice A1 Q.length c1, .slice A2 P.length c2] 32)).alloc (.cells #[.slice none 0 0, .slice none 0 0, .slice none 0 0] 32)).alloc (.cells #[.int .i64 0, .int .i64 0, .int .i64 0] 43)) (w.heap.size + 2) 43 #[.int .i64 0, .int .i64 0, .int .i64 0]) := Lib.hid (by
    have := Blk.new ((w.alloc (.cells #[.slice A0 S.length c0, .slice A1 Q.length c1, .slice A2 P.length c2] 32)).alloc (.cells #[.slice none 0 0, .slice none 0 0, .slice none 0 0] 32)) 43 #[.int .i64 0, .int .i64 0, .int .i64 0]
    rw [World.size_alloc, World.size_alloc] at this
    exact this)
  have hsz2 : (((w.alloc (.cells #[.slice A0 S.length c0, .slice A1 Q.length c1, .slice A2 P.length c2] 32)).alloc (.cells #[.slice none 0 0, .slice none 0 0, .slice none 0 0] 32)).alloc (.cells #[.int .i64 0, .int .i64 0, .int .i64 0] 43)).heap.size = w.heap.size + 3 := by simp
  generalize hW2 : ((w.alloc (.cells #[.slice A0 S.length c0, .slice A1 Q.length c1, .slice A2 P.length c2] 32)).alloc (.cells #[.slice none 0 0, .slice none 0 0, .slice none 0 0] 32)).alloc (.cells #[.int .i64 0, .int .i64 0, .int .i64 0] 43) = w2 at HKA HKR HKV hbW hsz2
  obtain ⟨R, hR⟩ : ∃ x, x = alA ⟨S, Q, P⟩ := ⟨_, rfl⟩
  obtain ⟨r, hr⟩ : ∃ x, x = alB ⟨S, Q, P⟩ := ⟨_, rfl⟩
  obtain ⟨rk, hrk⟩ : ∃ x, x = alK ⟨S, Q, P⟩ := ⟨_, rfl⟩
  obtain ⟨rn, hrn⟩ : ∃ x, x = alN ⟨S, Q, P⟩ := ⟨_, rfl⟩
  obtain ⟨rg, hrg⟩ : ∃ x, x = alG ⟨S, Q, P⟩ := ⟨_, rfl⟩
  rw [← hR, ← hr, ← hrk, ← hrn, ← hrg]
  have HR := Lib.hid (And.intro hR (And.intro hr (And.intro hrk (And.intro hrn hrg))))
  have HA2 := Lib.hid (h.below (hbW.mono hB))
  have Hsz := Lib.hid hsz
  have HbW := Lib.hid hbW
  have Hown := Lib.hid (fun W (hW : Below w.heap.size w W) => hown W (hW.mono hB) (Nat.le_trans hB hW.size))
  have hsl : slsSz S ≤ 1050000 := by unfold arSz at hsz; dsimp only at hsz; omega
  have Hok := Lib.hid (specArenaOk_c S Q P A0 A1 A2 c0 c1 c2 L B w2 (by omega) hsl hcap HA2.out.1 HA2.out.2.1 HA2.out.2.2)
  have a0 := HKA.out.cel 0 (v := .slice A0 S.length c0) rfl
  have a1 := HKA.out.cel 1 (v := .slice A1 Q.length c1) rfl
  have a2 := HKA.out.cel 2 (v := .slice A2 P.length c2) rfl
  clear h hsz hbW hR hr hrk hrn hrg hown
  go_enter Try.func24, Try.ntmps24
  go_wp2_with fail
  refine Hok.out.mono ?_
  rintro e w3 ⟨rfl, hb3⟩
  have HKA3 := Lib.hid (HKA.out.below hb3 HKA.out.lt)
  have HKV3 := Lib.hid (HKV.out.below hb3 HKV.out.lt)
  have HKR3 := Lib.hid (HKR.out.below hb3 HKR.out.lt)
  have HA3 := Lib.hid (HA2.out.below (hb3.mono (by omega)))
  have Hb3 := Lib.hid (HbW.out.trans (hb3.mono (by omega)))
  have hs3 : w.heap.size + 3 ≤ w3.heap.size := hsz2 ▸ hb3.size
  clear hb3 HKA HKV HKR HA2 HbW a0 a1 a2 Hok hW2 hsz2
  cases hok : arOk ⟨S, Q, P⟩
  · have Hv := Lib.hid hok
    have m0 := HKR3.out.cel 0 rfl
    have m1 := HKR3.out.cel 1 rfl
    have m2 := HKR3.out.cel 2 rfl
    have n0 := HKV3.out.cel 0 rfl
    have n1 := HKV3.out.cel 1 rfl
    have n2 := HKV3.out.cel 2 rfl
    have y0 : w3.frozen? ⟨w.heap.size + 1, 0, none⟩ = false := HKR3.out.frozen 0
    have y1 : w3.frozen? ⟨w.heap.size + 1, 1, none⟩ = false := HKR3.out.frozen 1
    have y2 : w3.frozen? ⟨w.heap.size + 1, 2, none⟩ = false := HKR3.out.frozen 2
    have z0 : w3.frozen? ⟨w.heap.size + 2, 0, none⟩ = false := HKV3.out.frozen 0
    have z1 : w3.frozen? ⟨w.heap.size + 2, 1, none⟩ = false := HKV3.out.frozen 1
    have z2 : w3.frozen? ⟨w.heap.size + 2, 2, none⟩ = false := HKV3.out.frozen 2
    clear hok
    go_wp2_with fail
    refine bodyPost_ret (v := .tuple #[.agg #[.slice none 0 0, .slice none 0 0, .slice none 0 0], .agg #[.int .i64 0, .int .i64 0, .int .i64 0], .bool false]) (by simp [results, Try.results24, go_sem, m0, m1, m2, n0, n1, n2]) rfl
      ⟨.agg #[.slice none 0 0, .slice none 0 0, .slice none 0 0], ?_, ?_, store6 Hb3.out (by omega) (by omega) _ _ _ _ _ _⟩
    · obtain ⟨e1, e2, e3, e4, e5⟩ := HR.out
      rw [e2, e3, e4, e5]
      unfold alK alN alG alB
      rw [Hv.out]; rfl
    · obtain ⟨e1, -⟩ := HR.out
      rw [e1]
      unfold alA
      rw [Hv.out]
      exact ArAns.empty _ _
  · have Hokk := Lib.hid hok
    have a0 := HKA3.out.cel 0 (v := .slice A0 S.length c0) rfl
    have a1 := HKA3.out.cel 1 (v := .slice A1 Q.length c1) rfl
    have a2 := HKA3.out.cel 2 (v := .slice A2 P.length c2) rfl
    have Ho1 := Lib.hid (Hown.out w3 Hb3.out)
    clear hok
    go_wp2_with fail
    refine Ho1.out.mono ?_
    rintro e w5 ⟨v, rfl, ⟨T0, T1, T2, d0, d1, d2, g, fb, nb, g1, g2, rfl, hO, hl, hc2⟩, hb5⟩
    have HKA5 := Lib.hid (HKA3.out.below hb5 HKA3.out.lt)
    have HKV5 := Lib.hid (HKV3.out.below hb5 HKV3.out.lt)
    have HKR5 := Lib.hid (HKR3.out.below hb5 HKR3.out.lt)
    have Hb5 := Lib.hid (Hb3.out.trans (hb5.mono (by omega)))
    have hs5 := hb5.size
    have HO := Lib.hid hO
    have Hl := Lib.hid hl
    clear hO hl hb5 HKA3 HKV3 HKR3 HA3 Hb3 a0 a1 a2 Ho1
    go_upto_region 4 with fail
    have hbl := CopyOf.blw1 w5 (.cells #[.slice T0 S.length d0, .slice T1 Q.length d1, .slice T2 P.length d2] 32)
    have hBx : BoxQ (w5.alloc (.cells #[.slice T0 S.length d0, .slice T1 Q.length d1, .slice T2 P.length d2] 32)) w3.heap.size w5.heap.size ⟨S, Q, P⟩ := ⟨T0, T1, T2, d0, d1, d2, g, fb, nb, g1, g2, Blk.new w5 _ _, hs5, HO.out.apart (S := fun _ => False) (Apart.of_below hbl) (fun _ _ h => h), fun b hb => ⟨by have := Hl.out b hb; simp; omega, by have := Hl.out b hb; omega⟩, hc2⟩
    generalize w5.alloc (.cells #[.slice T0 S.length d0, .slice T1 Q.length d1, .slice T2 P.length d2] 32) = w6 at hBx hbl ⊢
    have hs6 := hbl.size
    have HKA6 := Lib.hid (HKA5.out.below hbl HKA5.out.lt)
    have HKV6 := Lib.hid (HKV5.out.below hbl HKV5.out.lt)
    have HKR6 := Lib.hid (HKR5.out.below hbl HKR5.out.lt)
    have Hb6 := Lib.hid (Hb5.out.trans (hbl.mono (by omega)))
    have hal := l5alloc_c S Q P w5.heap.size w3.heap.size w6 (arSz_len Hsz.out).1.1 (arOk_gen Hokk.out) hBx
    obtain ⟨fk, hfk⟩ : ∃ x, x = allocK S := ⟨_, rfl⟩
    obtain ⟨fn, hfn⟩ : ∃ x, x = allocN S := ⟨_, rfl⟩
    obtain ⟨fg, hfg⟩ : ∃ x, x = allocG S := ⟨_, rfl⟩
    obtain ⟨ff, hff⟩ : ∃ x, x = allocF S := ⟨_, rfl⟩
    obtain ⟨T, hT⟩ : ∃ x, x = allocS S := ⟨_, rfl⟩
    rw [← hfk, ← hfn, ← hfg, ← hff, ← hT] at hal
    have HE := Lib.hid (And.intro hfk (And.intro hfn (And.intro hfg (And.intro hff hT))))
    have Hal := Lib.hid hal
    clear hbl hBx hal hfk hfn hfg hff hT HKA5 HKV5 HKR5 Hb5 HO Hl hc2
    go_wp2_with fail
    refine Hal.out.mono ?_
    rintro e w7 ⟨rfl, ⟨U0, U1, U2, u0, u1, u2, x, fx, nx, x1, x2, hKb, hlob, hOb, hlb, hcb⟩, hb7⟩
    dsimp only at hKb hcb
    have hs7 := hb7.size
    have hbv := CopyOf.blw1 w7 (.cells #[.int .i64 fk, .int .i64 fn, .int .i64 fg] 43)
    obtain ⟨W, hWe⟩ : ∃ X, X = w7.alloc (.cells #[.int .i64 fk, .int .i64 fn, .int .i64 fg] 43) := ⟨_, rfl⟩
    have hKv : Blk W w7.heap.size 43 #[.int .i64 fk, .int .i64 fn, .int .i64 fg] := hWe ▸ Blk.new w7 _ _
    rw [← hWe] at hbv
    have hsW := hbv.size
    have hltb := hKb.lt
    have hszT : arSz ⟨T, Q, P⟩ ≤ 1050000 := by
      have := allocT_sz ⟨S, Q, P⟩
      have e := HE.out.2.2.2.2
      unfold allocT at this
      dsimp only at this
      rw [← e] at this
      have := Hsz.out
      omega
    have HKA7 := Lib.hid ((HKA6.out.below hb7 (by omega)).below hbv (by omega))
    have HKV7 := Lib.hid ((HKV6.out.below hb7 (by omega)).below hbv (by omega))
    have HKR7 := Lib.hid ((HKR6.out.below hb7 (by omega)).below hbv (by omega))
    have Hb7 := Lib.hid ((Hb6.out.trans (hb7.mono (by omega))).trans (hbv.mono (by omega)))
    have HKb := Lib.hid (hKb.below hbv hltb)
    have HOb := Lib.hid (hOb.apart (S := fun _ => False) (Apart.of_below hbv) (fun _ _ h => h))
    have Hlb := Lib.hid (fun b hb => And.intro (Nat.lt_of_lt_of_le (hlb b hb).1 hsW) (hlb b hb).2)
    have hslT : slsSz T ≤ 1050000 := by unfold arSz at hszT; dsimp only at hszT; omega
    have hAk := HOb.out.arlz hszT
    have Hokk2 := Lib.hid (specArenaOk_c T Q P U0 U1 U2 u0 u1 u2 w3.heap.size W.heap.size W (Nat.le_refl _) hslT hcb hAk.1 hAk.2.1 hAk.2.2)
    have HKv := Lib.hid hKv
    have HWe := Lib.hid hWe
    have hsW2 : w7.heap.size + 1 ≤ W.heap.size := by rw [hWe]; simp
    clear hKb hOb hlb hb7 hbv hWe hKv hAk hszT hslT HKA6 HKV6 HKR6 Hb6 Hal
    go_upto_region 5 with fail
    rw [← HWe.out]
    cases ff
    · have a0 := HKA7.out.cel 0 (v := .slice A0 S.length c0) rfl
      have a1 := HKA7.out.cel 1 (v := .slice A1 Q.length c1) rfl
      have a2 := HKA7.out.cel 2 (v := .slice A2 P.length c2) rfl
      have Ho2 := Lib.hid (Hown.out W Hb7.out)
      clear HKb HOb Hlb Hokk2
      go_wp2_with fail
      refine Ho2.out.mono ?_
      rintro e w9 ⟨v, rfl, ⟨E0, E1, E2, e0, e1, e2, y, fy, ny, y1', y2', rfl, hO, hl, -⟩, hb9⟩
      have hs9 := hb9.size
      have HKR9 := Lib.hid (HKR7.out.below hb9 HKR7.out.lt)
      have HKV9 := Lib.hid (HKV7.out.below hb9 HKV7.out.lt)
      have Hb9 := Lib.hid (Hb7.out.trans (hb9.mono (by omega)))
      have HO := Lib.hid hO
      have Hl := Lib.hid hl
      have m0 := HKR9.out.cel 0 rfl
      have m1 := HKR9.out.cel 1 rfl
      have m2 := HKR9.out.cel 2 rfl
      have n0 := HKV9.out.cel 0 rfl
      have n1 := HKV9.out.cel 1 rfl
      have n2 := HKV9.out.cel 2 rfl
      have y0 : w9.frozen? ⟨w.heap.size + 1, 0, none⟩ = false := HKR9.out.frozen 0
      have y1 : w9.frozen? ⟨w.heap.size + 1, 1, none⟩ = false := HKR9.out.frozen 1
      have y2 : w9.frozen? ⟨w.heap.size + 1, 2, none⟩ = false := HKR9.out.frozen 2
      have z0 : w9.frozen? ⟨w.heap.size + 2, 0, none⟩ = false := HKV9.out.frozen 0
      have z1 : w9.frozen? ⟨w.heap.size + 2, 1, none⟩ = false := HKV9.out.frozen 1
      have z2 : w9.frozen? ⟨w.heap.size + 2, 2, none⟩ = false := HKV9.out.frozen 2
      clear hO hl hb9 Ho2 a0 a1 a2
      go_wp2_with fail
      refine bodyPost_ret (v := .tuple #[.agg #[.slice E0 S.length e0, .slice E1 Q.length e1, .slice E2 P.length e2], .agg #[.int .i64 0, .int .i64 0, .int .i64 0], .bool false]) (by simp [results, Try.results24, go_sem, m0, m1, m2, n0, n1, n2]) rfl
        ⟨.agg #[.slice E0 S.length e0, .slice E1 Q.length e1, .slice E2 P.length e2], ?_, ?_, store6 Hb9.out (by omega) (by omega) _ _ _ _ _ _⟩
      · obtain ⟨k1, k2, k3, k4, k5⟩ := HR.out
        obtain ⟨f1, f2, f3, f4, f5⟩ := HE.out
        rw [k2, k3, k4, k5]
        unfold alK alN alG alB allocT
        dsimp only
        rw [Hokk.out, ← f1, ← f2, ← f3, ← f4, ← f5]
        rfl
      · rw [show R = ⟨S, Q, P⟩ from by rw [HR.out.1]; unfold alA allocT; dsimp only; rw [Hokk.out, allocS_no HE.out.2.2.2.1.symm, Hokk.out]; rfl]
        exact ArAns.mono (ArAns.store6 e0 e1 e2 _ _ _ _ _ _ HO.out (fun b hb => ⟨Hl.out b hb, fun e => by have := HO.out.low b hb; omega, fun e => by have := HO.out.low b hb; omega⟩)) (by omega)
    · have t0 := HKb.out.cel 0 (v := .slice U0 T.length u0) rfl
      have t1 := HKb.out.cel 1 (v := .slice U1 Q.length u1) rfl
      have t2 := HKb.out.cel 2 (v := .slice U2 P.length u2) rfl
      go_wp2_with fail
      refine Hokk2.out.mono ?_
      rintro e w8 ⟨rfl, hb8⟩
      have hs8 := hb8.size
      have HKA8 := Lib.hid (HKA7.out.below hb8 HKA7.out.lt)
      have HKR8 := Lib.hid (HKR7.out.below hb8 HKR7.out.lt)
      have HKV8 := Lib.hid (HKV7.out.below hb8 HKV7.out.lt)
      have HKb8 := Lib.hid (HKb.out.below hb8 HKb.out.lt)
      have HKv8 := Lib.hid (HKv.out.below hb8 HKv.out.lt)
      have HOb8 := Lib.hid (HOb.out.apart (S := fun _ => False) (Apart.of_below hb8) (fun _ _ h => h))
      have Hb8 := Lib.hid (Hb7.out.trans (hb8.mono (by omega)))
      clear hb8 HKA7 HKR7 HKV7 HKb HOb HKv Hb7 t0 t1 t2 Hokk2
      cases hk : arOk ⟨T, Q, P⟩
      · have Hk := Lib.hid hk
        have a0 := HKA8.out.cel 0 (v := .slice A0 S.length c0) rfl
        have a1 := HKA8.out.cel 1 (v := .slice A1 Q.length c1) rfl
        have a2 := HKA8.out.cel 2 (v := .slice A2 P.length c2) rfl
        clear hk
        have Ho2 := Lib.hid (Hown.out w8 Hb8.out)
        clear HKb8 HOb8 Hlb
        go_wp2_with fail
        refine Ho2.out.mono ?_
        rintro e w9 ⟨v, rfl, ⟨E0, E1, E2, e0, e1, e2, y, fy, ny, y1', y2', rfl, hO, hl, -⟩, hb9⟩
        have hs9 := hb9.size
        have HKR9 := Lib.hid (HKR8.out.below hb9 HKR8.out.lt)
        have HKV9 := Lib.hid (HKV8.out.below hb9 HKV8.out.lt)
        have Hb9 := Lib.hid (Hb8.out.trans (hb9.mono (by omega)))
        have HO := Lib.hid hO
        have Hl := Lib.hid hl
        have m0 := HKR9.out.cel 0 rfl
        have m1 := HKR9.out.cel 1 rfl
        have m2 := HKR9.out.cel 2 rfl
        have n0 := HKV9.out.cel 0 rfl
        have n1 := HKV9.out.cel 1 rfl
        have n2 := HKV9.out.cel 2 rfl
        have y0 : w9.frozen? ⟨w.heap.size + 1, 0, none⟩ = false := HKR9.out.frozen 0
        have y1 : w9.frozen? ⟨w.heap.size + 1, 1, none⟩ = false := HKR9.out.frozen 1
        have y2 : w9.frozen? ⟨w.heap.size + 1, 2, none⟩ = false := HKR9.out.frozen 2
        have z0 : w9.frozen? ⟨w.heap.size + 2, 0, none⟩ = false := HKV9.out.frozen 0
        have z1 : w9.frozen? ⟨w.heap.size + 2, 1, none⟩ = false := HKV9.out.frozen 1
        have z2 : w9.frozen? ⟨w.heap.size + 2, 2, none⟩ = false := HKV9.out.frozen 2
        clear hO hl hb9 Ho2 a0 a1 a2
        go_wp2_with fail
        refine bodyPost_ret (v := .tuple #[.agg #[.slice E0 S.length e0, .slice E1 Q.length e1, .slice E2 P.length e2], .agg #[.int .i64 0, .int .i64 0, .int .i64 0], .bool false]) (by simp [results, Try.results24, go_sem, m0, m1, m2, n0, n1, n2]) rfl
          ⟨.agg #[.slice E0 S.length e0, .slice E1 Q.length e1, .slice E2 P.length e2], ?_, ?_, store6 Hb9.out (by omega) (by omega) _ _ _ _ _ _⟩
        · obtain ⟨k1, k2, k3, k4, k5⟩ := HR.out
          obtain ⟨f1, f2, f3, f4, f5⟩ := HE.out
          rw [k2, k3, k4, k5]
          unfold alK alN alG alB allocT
          dsimp only
          rw [Hokk.out, ← f1, ← f2, ← f3, ← f4, ← f5]
          rw [Hk.out]; rfl
        · rw [show R = ⟨S, Q, P⟩ from by rw [HR.out.1]; unfold alA allocT; dsimp only; rw [Hokk.out, ← HE.out.2.2.2.2, Hk.out]; rfl]
          exact ArAns.mono (ArAns.store6 e0 e1 e2 _ _ _ _ _ _ HO.out (fun b hb => ⟨Hl.out b hb, fun e => by have := HO.out.low b hb; omega, fun e => by have := HO.out.low b hb; omega⟩)) (by omega)
      · have Hk := Lib.hid hk
        clear hk
        go_wp2_with fail
        obtain ⟨Zd, eZd⟩ : ∃ x, x = w8.drew := ⟨_, rfl⟩
        have kA : Blk Zd (w5.heap.size) 32 #[.slice U0 T.length u0, .slice U1 Q.length u1, .slice U2 P.length u2] := eZd ▸ HKb8.out.drew
        have kV : Blk Zd (w7.heap.size) 43 #[.int .i64 fk, .int .i64 fn, .int .i64 fg] := eZd ▸ HKv8.out.drew
        have rA : Blk Zd (w.heap.size + 1) 32 #[.slice none 0 0, .slice none 0 0, .slice none 0 0] := eZd ▸ HKR8.out.drew
        have rV : Blk Zd (w.heap.size + 2) 43 #[.int .i64 0, .int .i64 0, .int .i64 0] := eZd ▸ HKV8.out.drew
        have HeZ := Lib.hid eZd
        refine wp_region_noPanic ?_
        refine wp_region_held_drew (S := (fun W => Blk W (w5.heap.size) 32 #[.slice U0 T.length u0, .slice U1 Q.length u1, .slice U2 P.length u2] ∧ Blk W (w7.heap.size) 43 #[.int .i64 fk, .int .i64 fn, .int .i64 fg])) (by kernel_rfl) ?_ (fun hHeld => ?_)
        · exact eZd ▸ ⟨kA, kV⟩
        rw [← eZd]
        have hS0 := And.intro kA kV
        clear eZd
        refine wpAnyH_take (i := 0) (oi := _) (v := ?_) rfl (by kernel_rfl) (by kernel_rfl) (by kernel_rfl) (fun _ _ _ h => h) (Or.inl ⟨by rfl, ?_⟩) (by assumption) ?_
        rotate_left
        focus
          intro w hSw
          obtain ⟨qs0, qs1⟩ := hSw
          have qs00 := qs0.cel 0 rfl
          have qs01 := qs0.cel 1 rfl
          have qs02 := qs0.cel 2 rfl
          have qs10 := qs1.cel 0 rfl
          have qs11 := qs1.cel 1 rfl
          have qs12 := qs1.cel 2 rfl
          go_simp
          try with_reducible rfl
        try simp only [List.getElem_toArray, List.getElem_cons_succ, List.getElem_cons_zero, Act.put, List.setIfInBounds_toArray, List.set_cons_zero, List.set_cons_succ]
        refine wpAnyH_take (i := 1) (oi := _) (v := ?_) rfl (by kernel_rfl) (by kernel_rfl) (by kernel_rfl) (fun _ _ _ h => h) (Or.inl ⟨by rfl, ?_⟩) (by assumption) ?_
        rotate_left
        focus
          intro w hSw
          obtain ⟨qs0, qs1⟩ := hSw
          have qs00 := qs0.cel 0 rfl
          have qs01 := qs0.cel 1 rfl
          have qs02 := qs0.cel 2 rfl
          have qs10 := qs1.cel 0 rfl
          have qs11 := qs1.cel 1 rfl
          have qs12 := qs1.cel 2 rfl
          go_simp
          try with_reducible rfl
        try simp only [List.getElem_toArray, List.getElem_cons_succ, List.getElem_cons_zero, Act.put, List.setIfInBounds_toArray, List.set_cons_zero, List.set_cons_succ]
        refine wpAnyH_ready (rs := [2]) (by kernel_rfl) (by simp) ?_
        refine AllReadyH.cons (o := _) rfl (fun K hK => ?_) ?_
        · have x0 := rA.cel 0 rfl
          have x1 := rA.cel 1 rfl
          have x2 := rA.cel 2 rfl
          have f0 := rA.frozen 0
          have f1 := rA.frozen 1
          have f2 := rA.frozen 2
          go_simp
          obtain ⟨Z1, eZ1⟩ : ∃ x, x = (((Zd.setCell ⟨w.heap.size + 1, 0, none⟩ (.slice U0 T.length u0)).setCell ⟨w.heap.size + 1, 1, none⟩ (.slice U1 Q.length u1)).setCell ⟨w.heap.size + 1, 2, none⟩ (.slice U2 P.length u2)) := ⟨_, rfl⟩
          rw [← eZ1]
          have kA1 : Blk Z1 (w5.heap.size) 32 #[.slice U0 T.length u0, .slice U1 Q.length u1, .slice U2 P.length u2] := eZ1 ▸ blk3 kA (by omega) _ _ _
          have kV1 : Blk Z1 (w7.heap.size) 43 #[.int .i64 fk, .int .i64 fn, .int .i64 fg] := eZ1 ▸ blk3 kV (by omega) _ _ _
          have rA1 : Blk Z1 (w.heap.size + 1) 32 #[.slice U0 T.length u0, .slice U1 Q.length u1, .slice U2 P.length u2] := eZ1 ▸ ((rA.set_ 0 _).set_ 1 _).set_ 2 _
          have rV1 : Blk Z1 (w.heap.size + 2) 43 #[.int .i64 0, .int .i64 0, .int .i64 0] := eZ1 ▸ blk3 rV (by omega) _ _ _
          have HeZ1 := Lib.hid eZ1
          clear eZ1 x0 x1 x2 f0 f1 f2
          refine hK.out _ _ ?_ (fun hHeld => ?_)
          · exact ⟨kA1, kV1⟩
          · clear hK K
            try simp only [List.getElem_toArray, List.getElem_cons_succ, List.getElem_cons_zero, Act.put, List.setIfInBounds_toArray, List.set_cons_zero, List.set_cons_succ]
            refine wpAnyH_ready (rs := [3]) (by kernel_rfl) (by simp) ?_
            refine AllReadyH.cons (o := _) rfl (fun K hK => ?_) ?_
            · have x0 := rV1.cel 0 rfl
              have x1 := rV1.cel 1 rfl
              have x2 := rV1.cel 2 rfl
              have f0 := rV1.frozen 0
              have f1 := rV1.frozen 1
              have f2 := rV1.frozen 2
              go_simp
              obtain ⟨Z2, eZ2⟩ : ∃ x, x = (((Z1.setCell ⟨w.heap.size + 2, 0, none⟩ (.int .i64 fk)).setCell ⟨w.heap.size + 2, 1, none⟩ (.int .i64 fn)).setCell ⟨w.heap.size + 2, 2, none⟩ (.int .i64 fg)) := ⟨_, rfl⟩
              rw [← eZ2]
              have kA2 : Blk Z2 (w5.heap.size) 32 #[.slice U0 T.length u0, .slice U1 Q.length u1, .slice U2 P.length u2] := eZ2 ▸ blk3 kA1 (by omega) _ _ _
              have kV2 : Blk Z2 (w7.heap.size) 43 #[.int .i64 fk, .int .i64 fn, .int .i64 fg] := eZ2 ▸ blk3 kV1 (by omega) _ _ _
              have rA2 : Blk Z2 (w.heap.size + 1) 32 #[.slice U0 T.length u0, .slice U1 Q.length u1, .slice U2 P.length u2] := eZ2 ▸ blk3 rA1 (by omega) _ _ _
              have rV2 : Blk Z2 (w.heap.size + 2) 43 #[.int .i64 fk, .int .i64 fn, .int .i64 fg] := eZ2 ▸ ((rV1.set_ 0 _).set_ 1 _).set_ 2 _
              have HeZ2 := Lib.hid eZ2
              clear eZ2 x0 x1 x2 f0 f1 f2
              refine hK.out _ _ ?_ (fun hHeld => ?_)
              · exact ⟨kA2, kV2⟩
              · clear hK K
                try simp only [List.getElem_toArray, List.getElem_cons_succ, List.getElem_cons_zero, Act.put, List.setIfInBounds_toArray, List.set_cons_zero, List.set_cons_succ]
                refine wpAnyH_take (i := 4) (oi := _) (v := ?_) rfl (by kernel_rfl) (by kernel_rfl) (by kernel_rfl) (fun _ _ _ h => h) (Or.inl ⟨by rfl, ?_⟩) (by assumption) ?_
                rotate_left
                focus
                  intro w hSw
                  obtain ⟨qs0, qs1⟩ := hSw
                  have qs00 := qs0.cel 0 rfl
                  have qs01 := qs0.cel 1 rfl
                  have qs02 := qs0.cel 2 rfl
                  have qs10 := qs1.cel 0 rfl
                  have qs11 := qs1.cel 1 rfl
                  have qs12 := qs1.cel 2 rfl
                  go_simp
                  try with_reducible rfl
                try simp only [List.getElem_toArray, List.getElem_cons_succ, List.getElem_cons_zero, Act.put, List.setIfInBounds_toArray, List.set_cons_zero, List.set_cons_succ]
                refine wpAnyH_done (by kernel_rfl) ?_ _
                refine NoPanic.normal ?_
                have m0 := rA2.cel 0 rfl
                have m1 := rA2.cel 1 rfl
                have m2 := rA2.cel 2 rfl
                have n0 := rV2.cel 0 rfl
                have n1 := rV2.cel 1 rfl
                have n2 := rV2.cel 2 rfl
                try go_wp2_with fail
                refine bodyPost_ret (v := .tuple #[.agg #[.slice U0 T.length u0, .slice U1 Q.length u1, .slice U2 P.length u2], .agg #[.int .i64 fk, .int .i64 fn, .int .i64 fg], .bool true]) (by simp [results, Try.results24, go_sem, m0, m1, m2, n0, n1, n2]) rfl
                  ⟨.agg #[.slice U0 T.length u0, .slice U1 Q.length u1, .slice U2 P.length u2], ?_, ?_, ?_⟩
                · obtain ⟨e1, e2, e3, e4, e5⟩ := HR.out
                  obtain ⟨f1, f2, f3, f4, f5⟩ := HE.out
                  rw [e2, e3, e4, e5]
                  unfold alK alN alG alB allocT
                  dsimp only
                  rw [Hokk.out, ← f1, ← f2, ← f3, ← f4, ← f5, Hk.out]
                  rfl
                · rw [HeZ2.out, HeZ1.out, HeZ.out, show R = ⟨T, Q, P⟩ from by rw [HR.out.1]; unfold alA allocT; dsimp only; rw [Hokk.out, ← HE.out.2.2.2.2, Hk.out]; rfl]
                  exact ArAns.mono (ArAns.store6 u0 u1 u2 _ _ _ _ _ _ (HOb8.out.apart (S := fun _ => False) (Apart.refl _ w8).drew (fun _ _ h => h)) (fun b hb => ⟨by have := (Hlb.out b hb).1; show b < w8.heap.size; omega, fun e => by have := HOb8.out.low b hb; omega, fun e => by have := HOb8.out.low b hb; omega⟩)) (by omega)
                · rw [HeZ2.out, HeZ1.out, HeZ.out]
                  exact store6 Hb8.out.drew (by omega) (by omega) _ _ _ _ _ _
            exact AllReadyH.nil
        exact AllReadyH.nil
end
end AllocI
end Go.Proofs.Ytfmlgpnjckamjaa
