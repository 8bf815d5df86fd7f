/-
  The program's Alloc.
-/
import Derived.Test.YtfmlgpnjckamjaaAllocI
import Derived.Deep.RegionHeld3
namespace Go.Proofs.Ytfmlgpnjckamjaa
open Go.RowKit
set_option linter.unusedVariables false
set_option linter.unusedSimpArgs false

def alB (a : Ar) : Bool := arOk a && allocF a.slots && arOk (allocT a)
def alA (a : Ar) : Ar := if arOk a then (if arOk (allocT a) then allocT a else a) else ⟨[], [], []⟩
def alK (a : Ar) : Int := if alB a then allocK a.slots else 0
def alN (a : Ar) : Int := if alB a then allocN a.slots else 0
def alG (a : Ar) : Int := if alB a then allocG a.slots else 0
theorem arOk_gen {a : Ar} (h : arOk a = true) : ∀ i (hi : i < a.slots.length), -1000000000000 ≤ a.slots[i].gen ∧ a.slots[i].gen ≤ 1000000000000 := fun i hi => by
  unfold arOk at h
  simp only [Bool.and_eq_true, decide_eq_true_eq] at h
  obtain ⟨⟨⟨⟨⟨⟨⟨⟨h1, h2⟩, h3⟩, h4⟩, h5⟩, h6⟩, h7⟩, h8⟩, h9⟩ := h
  rw [List.all_eq_true] at h7
  have hs := h7 _ (List.getElem_mem hi)
  unfold slOk at hs
  rw [Bool.and_eq_true] at hs
  obtain ⟨hb, -⟩ := hs
  unfold slBd at hb
  simp only [Bool.and_eq_true, decide_eq_true_eq] at hb
  omega
theorem alA_sz {a : Ar} (h : arSz a ≤ 1050000) : arSz (alA a) ≤ 1050000 := by
  have := allocT_sz a
  unfold alA
  split
  · split
    · omega
    · exact h
  · unfold arSz slsSz; simp
/-- two boxes of answers written: what lies elsewhere is as it was -/
theorem store6 {w w' : World} {n r r' : Nat} (h : Below n w w') (hr : n ≤ r) (hr' : n ≤ r') (x y z x' y' z' : Value) : Below n w ((((((w'.setCell ⟨r, 0, none⟩ x).setCell ⟨r, 1, none⟩ y).setCell ⟨r, 2, none⟩ z).setCell ⟨r', 0, none⟩ x').setCell ⟨r', 1, none⟩ y').setCell ⟨r', 2, none⟩ z') :=
  below_store (below_store h hr x y z) hr' x' y' z'
theorem ArAns.store6 {w : World} {lo r r' g g1 g2 : Nat} {fb : Nat → Nat} {nb : Nat → Nat → Nat} {A0 A1 A2 : Option Addr} {a : Ar} (c0 c1 c2 : Nat) (x y z x' y' z' : Value) (h : ArnM.OwnAr w lo A0 A1 A2 a g fb nb g1 g2) (hl : ∀ b, ArnM.asOf a g fb nb g1 g2 b → b < w.heap.size ∧ ¬ b = r ∧ ¬ b = r') :
    ArAns ((((((w.setCell ⟨r, 0, none⟩ x).setCell ⟨r, 1, none⟩ y).setCell ⟨r, 2, none⟩ z).setCell ⟨r', 0, none⟩ x').setCell ⟨r', 1, none⟩ y').setCell ⟨r', 2, none⟩ z') lo a (.agg #[.slice A0 a.slots.length c0, .slice A1 a.queue.length c1, .slice A2 a.purple.length c2]) := by
  have ha : Apart (fun b => b = r) w (((w.setCell ⟨r, 0, none⟩ x).setCell ⟨r, 1, none⟩ y).setCell ⟨r, 2, none⟩ z) := (((Apart.refl (fun b => b = r) w).setCell (p := ⟨r, 0, none⟩) rfl _).setCell (p := ⟨r, 1, none⟩) rfl _).setCell (p := ⟨r, 2, none⟩) rfl _
  exact ArAns.store c0 c1 c2 x' y' z' (h.apart ha (fun b hb => (hl b hb).2.1)) (fun b hb => ⟨by simpa using (hl b hb).1, (hl b hb).2.2⟩)

namespace AllocI
theorem blk3 {w : World} {g g' : Nat} {t : TypeId} {cs : Array Value} (hK : Blk w g' t cs) (h : g' ≠ g) (x y z : Value) : Blk (((w.setCell ⟨g, 0, none⟩ x).setCell ⟨g, 1, none⟩ y).setCell ⟨g, 2, none⟩ z) g' t cs := ((hK.far (p := ⟨g, 0, none⟩) h x).far (p := ⟨g, 1, none⟩) h y).far (p := ⟨g, 2, none⟩) h z
section
variable (S : List Sl) (Q P : List Int) (A0 A1 A2 : Option Addr) (c0 c1 c2 L B : Nat) (w : World)
set_option maxRecDepth 100000 in
set_option maxHeartbeats 2000000 in
theorem implAlloc_c (hB : B ≤ w.heap.size) (h : ArL w L B A0 A1 A2 ⟨S, Q, P⟩) (hsz : arSz ⟨S, Q, P⟩ ≤ 1050000) :
    Calls Try.prog 25 #[.agg #[.slice A0 S.length c0, .slice A1 Q.length c1, .slice A2 P.length c2]] w fun e w' => ∃ v,
      e = .returned (.tuple #[v, .agg #[.int .i64 (alK ⟨S, Q, P⟩), .int .i64 (alN ⟨S, Q, P⟩), .int .i64 (alG ⟨S, Q, P⟩)], .bool (alB ⟨S, Q, P⟩)]) ∧ ArAns w' w.heap.size (alA ⟨S, Q, P⟩) v ∧ Below w.heap.size w w' := by
  have hbW : Below w.heap.size w (((w.alloc (.cells #[.slice A0 S.length c0, .slice A1 Q.length c1, .slice A2 P.length c2] 32)).alloc (.cells #[.slice none 0 0, .slice none 0 0, .slice none 0 0] 32)).alloc (.cells #[.int .i64 0, .int .i64 0, .int .i64 0] 43)) := (((Below.refl _ _).alloc (Nat.le_refl _) _).alloc (by simp) _).alloc (by simp; omega) _
  have HKA := Lib.hid (((Blk.new w 32 #[.slice A0 S.length c0, .slice A1 Q.length c1, .slice A2 P.length c2]).alloc (.cells #[.slice none 0 0, .slice none 0 0, .slice none 0 0] 32)).alloc (.cells #[.int .i64 0, .int .i64 0, .int .i64 0] 43))
  have HKR : Hid (Blk (((w.alloc (.cells #[.slice A0 S.length c0, .slice A1 Q.length c1, .slice A2 P.length c2] 32)).alloc (.cells #[.slice none 0 0, .slice none 0 0, .slice none 0 0] 32)).alloc (.cells #[.int .i64 0, .int .i64 0, .int .i64 0] 43)) (w.heap.size + 1) 32 #[.slice none 0 0, .slice none 0 0, .slice none 0 0]) := Lib.hid (by
    have := (Blk.new (w.alloc (.cells #[.slice A0 S.length c0, .slice A1 Q.length c1, .slice A2 P.length c2] 32)) 32 #[.slice none 0 0, .slice none 0 0, .slice none 0 0]).alloc (.cells #[.int .i64 0, .int .i64 0, .int .i64 0] 43)
    rwa [World.size_alloc] at this)
  have HKV : Hid (Blk (((w.alloc (.cells #[.slice A0 S.length c0, .slice A1 Q.length c1, .slice A2 P.length c2] 32)).alloc (.cells #[.slice none 0 0, .slice none 0 0, .slice none 0 0] 32)).alloc (.cells #[.int .i64 0, .int .i64 0, .int .i64 0] 43)) (w.heap.size + 2) 43 #[.int .i64 0, .int .i64 0, .int .i64 0]) := Lib.hid (by
    have := Blk.new ((w.alloc (.cells #[.slice A0 S.length c0, .slice A1 Q.length c1, .slice A2 P.length c2] 32)).alloc (.cells #[.slice none 0 0, .slice none 0 0, .slice none 0 0] 32)) 43 #[.int .i64 0, .int .i64 0, .int .i64 0]
    rw [World.size_alloc, World.size_alloc] at this
    exact this)
  have hsz2 : (((w.alloc (.cells #[.slice A0 S.length c0, .slice A1 Q.length c1, .slice A2 P.length c2] 32)).alloc (.cells #[.slice none 0 0, .slice none 0 0, .slice none 0 0] 32)).alloc (.cells #[.int .i64 0, .int .i64 0, .int .i64 0] 43)).heap.size = w.heap.size + 3 := by simp
  generalize hW2 : ((w.alloc (.cells #[.slice A0 S.length c0, .slice A1 Q.length c1, .slice A2 P.length c2] 32)).alloc (.cells #[.slice none 0 0, .slice none 0 0, .slice none 0 0] 32)).alloc (.cells #[.int .i64 0, .int .i64 0, .int .i64 0] 43) = w2 at HKA HKR HKV hbW hsz2
  obtain ⟨R, hR⟩ : ∃ x, x = alA ⟨S, Q, P⟩ := ⟨_, rfl⟩
  obtain ⟨r, hr⟩ : ∃ x, x = alB ⟨S, Q, P⟩ := ⟨_, rfl⟩
  obtain ⟨rk, hrk⟩ : ∃ x, x = alK ⟨S, Q, P⟩ := ⟨_, rfl⟩
  obtain ⟨rn, hrn⟩ : ∃ x, x = alN ⟨S, Q, P⟩ := ⟨_, rfl⟩
  obtain ⟨rg, hrg⟩ : ∃ x, x = alG ⟨S, Q, P⟩ := ⟨_, rfl⟩
  rw [← hR, ← hr, ← hrk, ← hrn, ← hrg]
  have HR := Lib.hid (And.intro hR (And.intro hr (And.intro hrk (And.intro hrn hrg))))
  have HA2 := Lib.hid (h.below (hbW.mono hB))
  have Hsz := Lib.hid hsz
  have HbW := Lib.hid hbW
  have Hok := Lib.hid (implArenaOk_c ⟨S, Q, P⟩ A0 A1 A2 c0 c1 c2 L B w2 (by omega) HA2.out hsz)
  dsimp only at Hok
  have a0 := HKA.out.cel 0 (v := .slice A0 S.length c0) rfl
  have a1 := HKA.out.cel 1 (v := .slice A1 Q.length c1) rfl
  have a2 := HKA.out.cel 2 (v := .slice A2 P.length c2) rfl
  clear h hsz hbW hR hr hrk hrn hrg
  go_enter Try.func25, Try.ntmps25
  go_wp2_with fail
  refine Hok.out.mono ?_
  rintro e w3 ⟨rfl, hb3⟩
  have HKA3 := Lib.hid (HKA.out.below hb3 HKA.out.lt)
  have HKV3 := Lib.hid (HKV.out.below hb3 HKV.out.lt)
  have HKR3 := Lib.hid (HKR.out.below hb3 HKR.out.lt)
  have HA3 := Lib.hid (HA2.out.below (hb3.mono (by omega)))
  have Hb3 := Lib.hid (HbW.out.trans (hb3.mono (by omega)))
  have hs3 : w.heap.size + 3 ≤ w3.heap.size := hsz2 ▸ hb3.size
  clear hb3 HKA HKV HKR HA2 HbW a0 a1 a2 Hok hW2 hsz2
  cases hok : arOk ⟨S, Q, P⟩
  · have Hv := Lib.hid hok
    have m0 := HKR3.out.cel 0 rfl
    have m1 := HKR3.out.cel 1 rfl
    have m2 := HKR3.out.cel 2 rfl
    have n0 := HKV3.out.cel 0 rfl
    have n1 := HKV3.out.cel 1 rfl
    have n2 := HKV3.out.cel 2 rfl
    have y0 : w3.frozen? ⟨w.heap.size + 1, 0, none⟩ = false := HKR3.out.frozen 0
    have y1 : w3.frozen? ⟨w.heap.size + 1, 1, none⟩ = false := HKR3.out.frozen 1
    have y2 : w3.frozen? ⟨w.heap.size + 1, 2, none⟩ = false := HKR3.out.frozen 2
    have z0 : w3.frozen? ⟨w.heap.size + 2, 0, none⟩ = false := HKV3.out.frozen 0
    have z1 : w3.frozen? ⟨w.heap.size + 2, 1, none⟩ = false := HKV3.out.frozen 1
    have z2 : w3.frozen? ⟨w.heap.size + 2, 2, none⟩ = false := HKV3.out.frozen 2
    clear hok
    go_wp2_with fail
    refine bodyPost_ret (v := .tuple #[.agg #[.slice none 0 0, .slice none 0 0, .slice none 0 0], .agg #[.int .i64 0, .int .i64 0, .int .i64 0], .bool false]) (by simp [results, Try.results25, go_sem, m0, m1, m2, n0, n1, n2]) rfl
      ⟨.agg #[.slice none 0 0, .slice none 0 0, .slice none 0 0], ?_, ?_, store6 Hb3.out (by omega) (by omega) _ _ _ _ _ _⟩
    · obtain ⟨e1, e2, e3, e4, e5⟩ := HR.out
      rw [e2, e3, e4, e5]
      unfold alK alN alG alB
      rw [Hv.out]; rfl
    · obtain ⟨e1, -⟩ := HR.out
      rw [e1]
      unfold alA
      rw [Hv.out]
      exact ArAns.empty _ _
  · have Hokk := Lib.hid hok
    have a0 := HKA3.out.cel 0 (v := .slice A0 S.length c0) rfl
    have a1 := HKA3.out.cel 1 (v := .slice A1 Q.length c1) rfl
    have a2 := HKA3.out.cel 2 (v := .slice A2 P.length c2) rfl
    have Ht := Lib.hid (tallyOf_c S Q P A0 A1 A2 c0 c1 c2 L B w3 (by omega) Hsz.out HA3.out)
    clear hok
    go_wp2_with fail
    refine Ht.out.mono ?_
    rintro e w4 ⟨bt, rfl, ht, hb4⟩
    have HKA4 := Lib.hid (HKA3.out.below hb4 HKA3.out.lt)
    have HKV4 := Lib.hid (HKV3.out.below hb4 HKV3.out.lt)
    have HKR4 := Lib.hid (HKR3.out.below hb4 HKR3.out.lt)
    have HA4 := Lib.hid (HA3.out.below (hb4.mono (by omega)))
    have Hb4 := Lib.hid (Hb3.out.trans (hb4.mono (by omega)))
    have hs4 := hb4.size
    have hal := alloc_c S Q P bt w3.heap.size (.slice none 0 0) w4 (arSz_len Hsz.out).1.1 (arOk_gen Hokk.out) ht
    obtain ⟨fk, hfk⟩ : ∃ x, x = allocK S := ⟨_, rfl⟩
    obtain ⟨fn, hfn⟩ : ∃ x, x = allocN S := ⟨_, rfl⟩
    obtain ⟨fg, hfg⟩ : ∃ x, x = allocG S := ⟨_, rfl⟩
    obtain ⟨ff, hff⟩ : ∃ x, x = allocF S := ⟨_, rfl⟩
    obtain ⟨T, hT⟩ : ∃ x, x = allocS S := ⟨_, rfl⟩
    rw [← hfk, ← hfn, ← hfg, ← hff, ← hT] at hal
    have HE := Lib.hid (And.intro hfk (And.intro hfn (And.intro hfg (And.intro hff hT))))
    have Hal := Lib.hid hal
    clear ht hb4 hal hfk hfn hfg hff hT HKA3 HKV3 HKR3 HA3 Hb3 a0 a1 a2 Ht
    go_wp2_with fail
    refine Hal.out.mono ?_
    rintro e w5 ⟨rfl, ht5, hb5⟩
    have hs5 := hb5.size
    have hbv := CopyOf.blw1 w5 (.cells #[.int .i64 fk, .int .i64 fn, .int .i64 fg] 43)
    obtain ⟨W, hWe⟩ : ∃ X, X = w5.alloc (.cells #[.int .i64 fk, .int .i64 fn, .int .i64 fg] 43) := ⟨_, rfl⟩
    have hKv : Blk W w5.heap.size 43 #[.int .i64 fk, .int .i64 fn, .int .i64 fg] := hWe ▸ Blk.new w5 _ _
    rw [← hWe] at hbv
    have hsW := hbv.size
    have HKA5 := Lib.hid ((HKA4.out.below hb5 (by omega)).below hbv (by omega))
    have HKV5 := Lib.hid ((HKV4.out.below hb5 (by omega)).below hbv (by omega))
    have HKR5 := Lib.hid ((HKR4.out.below hb5 (by omega)).below hbv (by omega))
    have HA5 := Lib.hid ((HA4.out.below (hb5.mono (by omega))).below (hbv.mono (by omega)))
    have Hb5 := Lib.hid ((Hb4.out.trans (hb5.mono (by omega))).trans (hbv.mono (by omega)))
    have htW : TalQ W w3.heap.size bt (.slice none 0 0) ⟨T, Q, P⟩ := by
      obtain ⟨B0, B1, B2, d0, d1, d2, g, fb, nb, g1, g2, hK, hlo, hO, hl⟩ := ht5
      exact ⟨B0, B1, B2, d0, d1, d2, g, fb, nb, g1, g2, hK.below hbv hK.lt, hlo, hO.apart (S := fun _ => False) (Apart.of_below hbv) (fun _ _ h => h), fun b hb => ⟨Nat.lt_of_lt_of_le (hl b hb).1 hsW, (hl b hb).2⟩⟩
    have hszT : arSz ⟨T, Q, P⟩ ≤ 1050000 := by
      have := allocT_sz ⟨S, Q, P⟩
      have e := HE.out.2.2.2.2
      unfold allocT at this
      dsimp only at this
      rw [← e] at this
      have := Hsz.out
      omega
    have hres := result_c S Q P A0 A1 A2 c0 c1 c2 L B W T Q P bt w3.heap.size (.slice none 0 0) (by omega) (by omega) Hsz.out HA5.out hszT htW
    have eR : (if arOk ⟨T, Q, P⟩ then (⟨T, Q, P⟩ : Ar) else ⟨S, Q, P⟩) = R := by
      rw [HR.out.1]
      unfold alA allocT
      dsimp only
      rw [Hokk.out, ← HE.out.2.2.2.2]
      rfl
    rw [eR] at hres
    obtain ⟨x, hx⟩ : ∃ x, x = arOk ⟨T, Q, P⟩ := ⟨_, rfl⟩
    rw [← hx] at hres
    have Hx := Lib.hid hx
    have Hres := Lib.hid hres
    have HKv := Lib.hid hKv
    have a0 := HKA5.out.cel 0 (v := .slice A0 S.length c0) rfl
    have a1 := HKA5.out.cel 1 (v := .slice A1 Q.length c1) rfl
    have a2 := HKA5.out.cel 2 (v := .slice A2 P.length c2) rfl
    have HWe := Lib.hid hWe
    have hsW2 : w5.heap.size + 1 ≤ W.heap.size := by rw [hWe]; simp
    clear ht5 hb5 hbv hWe htW hszT hres eR hx hKv HKA4 HKV4 HKR4 HA4 Hb4 Hal
    go_upto_region 5 with fail
    rw [← HWe.out]
    go_wp2_with fail
    refine Hres.out.mono ?_
    rintro e w6 ⟨v, rfl, ⟨T0, T1, T2, d0, d1, d2, g, fb, nb, g1, g2, rfl, hO, hl⟩, hb6⟩
    have hs6 := hb6.size
    have hbx := CopyOf.blw1 w6 (.cells #[.slice T0 R.slots.length d0, .slice T1 R.queue.length d1, .slice T2 R.purple.length d2] 32)
    obtain ⟨Z, hZe⟩ : ∃ X, X = w6.alloc (.cells #[.slice T0 R.slots.length d0, .slice T1 R.queue.length d1, .slice T2 R.purple.length d2] 32) := ⟨_, rfl⟩
    have hKx : Blk Z w6.heap.size 32 #[.slice T0 R.slots.length d0, .slice T1 R.queue.length d1, .slice T2 R.purple.length d2] := hZe ▸ Blk.new w6 _ _
    rw [← hZe] at hbx
    have hsZ := hbx.size
    have HKR6 := Lib.hid ((HKR5.out.below hb6 (by omega)).below hbx (by omega))
    have HKV6 := Lib.hid ((HKV5.out.below hb6 (by omega)).below hbx (by omega))
    have HKv6 := Lib.hid ((HKv.out.below hb6 (by omega)).below hbx (by omega))
    have Hb6 := Lib.hid ((Hb5.out.trans (hb6.mono (by omega))).trans (hbx.mono (by omega)))
    have HO := Lib.hid (hO.apart (S := fun _ => False) (Apart.of_below hbx) (fun _ _ h => h))
    have Hl := Lib.hid (fun b hb => Nat.lt_of_lt_of_le (hl b hb) hsZ)
    have HKx := Lib.hid hKx
    have HZe := Lib.hid hZe
    have s0 := hKx.cel 0 (v := .slice T0 R.slots.length d0) rfl
    have s1 := hKx.cel 1 (v := .slice T1 R.queue.length d1) rfl
    have s2 := hKx.cel 2 (v := .slice T2 R.purple.length d2) rfl
    have u0 := HKv6.out.cel 0 (v := .int .i64 fk) rfl
    have u1 := HKv6.out.cel 1 (v := .int .i64 fn) rfl
    have u2 := HKv6.out.cel 2 (v := .int .i64 fg) rfl
    have m0 := HKR6.out.cel 0 rfl
    have m1 := HKR6.out.cel 1 rfl
    have m2 := HKR6.out.cel 2 rfl
    have n0 := HKV6.out.cel 0 rfl
    have n1 := HKV6.out.cel 1 rfl
    have n2 := HKV6.out.cel 2 rfl
    have y0 : Z.frozen? ⟨w.heap.size + 1, 0, none⟩ = false := HKR6.out.frozen 0
    have y1 : Z.frozen? ⟨w.heap.size + 1, 1, none⟩ = false := HKR6.out.frozen 1
    have y2 : Z.frozen? ⟨w.heap.size + 1, 2, none⟩ = false := HKR6.out.frozen 2
    have z0 : Z.frozen? ⟨w.heap.size + 2, 0, none⟩ = false := HKV6.out.frozen 0
    have z1 : Z.frozen? ⟨w.heap.size + 2, 1, none⟩ = false := HKV6.out.frozen 1
    have z2 : Z.frozen? ⟨w.heap.size + 2, 2, none⟩ = false := HKV6.out.frozen 2
    clear hO hl hb6 hbx hZe hKx HKA5 HKV5 HKR5 HA5 Hb5 HKv a0 a1 a2 Hres
    go_upto_region 6 with fail
    rw [← HZe.out]
    cases ff
    · go_wp2_with fail
      refine bodyPost_ret (v := .tuple #[.agg #[.slice T0 R.slots.length d0, .slice T1 R.queue.length d1, .slice T2 R.purple.length d2], .agg #[.int .i64 0, .int .i64 0, .int .i64 0], .bool false]) (by simp [results, Try.results25, go_sem, m0, m1, m2, n0, n1, n2]) rfl
        ⟨.agg #[.slice T0 R.slots.length d0, .slice T1 R.queue.length d1, .slice T2 R.purple.length d2], ?_, ArAns.mono (ArAns.store6 d0 d1 d2 _ _ _ _ _ _ HO.out (fun b hb => ⟨Hl.out b hb, fun e => by have := HO.out.low b hb; omega, fun e => by have := HO.out.low b hb; omega⟩)) (by omega), store6 Hb6.out (by omega) (by omega) _ _ _ _ _ _⟩
      obtain ⟨e1, e2, e3, e4, e5⟩ := HR.out
      obtain ⟨f1, f2, f3, f4, f5⟩ := HE.out
      rw [e2, e3, e4, e5]
      unfold alK alN alG alB allocT
      dsimp only
      rw [Hokk.out, ← f1, ← f2, ← f3, ← f4, ← f5, ← Hx.out]
      rfl
    · cases x
      · go_wp2_with fail
        refine bodyPost_ret (v := .tuple #[.agg #[.slice T0 R.slots.length d0, .slice T1 R.queue.length d1, .slice T2 R.purple.length d2], .agg #[.int .i64 0, .int .i64 0, .int .i64 0], .bool false]) (by simp [results, Try.results25, go_sem, m0, m1, m2, n0, n1, n2]) rfl
          ⟨.agg #[.slice T0 R.slots.length d0, .slice T1 R.queue.length d1, .slice T2 R.purple.length d2], ?_, ArAns.mono (ArAns.store6 d0 d1 d2 _ _ _ _ _ _ HO.out (fun b hb => ⟨Hl.out b hb, fun e => by have := HO.out.low b hb; omega, fun e => by have := HO.out.low b hb; omega⟩)) (by omega), store6 Hb6.out (by omega) (by omega) _ _ _ _ _ _⟩
        obtain ⟨e1, e2, e3, e4, e5⟩ := HR.out
        obtain ⟨f1, f2, f3, f4, f5⟩ := HE.out
        rw [e2, e3, e4, e5]
        unfold alK alN alG alB allocT
        dsimp only
        rw [Hokk.out, ← f1, ← f2, ← f3, ← f4, ← f5, ← Hx.out]
        rfl
      · go_wp2_with fail
        have HKx2 := HKx
        clear s0 s1 s2 u0 u1 u2 m0 m1 m2 n0 n1 n2 y0 y1 y2 z0 z1 z2
        obtain ⟨Zd, eZd⟩ : ∃ x, x = Z.drew := ⟨_, rfl⟩
        have kA : Blk Zd (w6.heap.size) 32 #[.slice T0 R.slots.length d0, .slice T1 R.queue.length d1, .slice T2 R.purple.length d2] := eZd ▸ HKx2.out.drew
        have kV : Blk Zd (w5.heap.size) 43 #[.int .i64 fk, .int .i64 fn, .int .i64 fg] := eZd ▸ HKv6.out.drew
        have rA : Blk Zd (w.heap.size + 1) 32 #[.slice none 0 0, .slice none 0 0, .slice none 0 0] := eZd ▸ HKR6.out.drew
        have rV : Blk Zd (w.heap.size + 2) 43 #[.int .i64 0, .int .i64 0, .int .i64 0] := eZd ▸ HKV6.out.drew
        have HeZ := Lib.hid eZd
        refine wp_region_noPanic ?_
        refine wp_region_held_drew (S := (fun W => Blk W (w6.heap.size) 32 #[.slice T0 R.slots.length d0, .slice T1 R.queue.length d1, .slice T2 R.purple.length d2] ∧ Blk W (w5.heap.size) 43 #[.int .i64 fk, .int .i64 fn, .int .i64 fg])) (by kernel_rfl) ?_ (fun hHeld => ?_)
        · exact eZd ▸ ⟨kA, kV⟩
        rw [← eZd]
        have hS0 := And.intro kA kV
        clear eZd
        refine wpAnyH_take (i := 0) (oi := _) (v := ?_) rfl (by kernel_rfl) (by kernel_rfl) (by kernel_rfl) (fun _ _ _ h => h) (Or.inl ⟨by rfl, ?_⟩) (by assumption) ?_
        rotate_left
        focus
          intro w hSw
          obtain ⟨qs0, qs1⟩ := hSw
          have qs00 := qs0.cel 0 rfl
          have qs01 := qs0.cel 1 rfl
          have qs02 := qs0.cel 2 rfl
          have qs10 := qs1.cel 0 rfl
          have qs11 := qs1.cel 1 rfl
          have qs12 := qs1.cel 2 rfl
          go_simp
          try with_reducible rfl
        try simp only [List.getElem_toArray, List.getElem_cons_succ, List.getElem_cons_zero, Act.put, List.setIfInBounds_toArray, List.set_cons_zero, List.set_cons_succ]
        refine wpAnyH_take (i := 1) (oi := _) (v := ?_) rfl (by kernel_rfl) (by kernel_rfl) (by kernel_rfl) (fun _ _ _ h => h) (Or.inl ⟨by rfl, ?_⟩) (by assumption) ?_
        rotate_left
        focus
          intro w hSw
          obtain ⟨qs0, qs1⟩ := hSw
          have qs00 := qs0.cel 0 rfl
          have qs01 := qs0.cel 1 rfl
          have qs02 := qs0.cel 2 rfl
          have qs10 := qs1.cel 0 rfl
          have qs11 := qs1.cel 1 rfl
          have qs12 := qs1.cel 2 rfl
          go_simp
          try with_reducible rfl
        try simp only [List.getElem_toArray, List.getElem_cons_succ, List.getElem_cons_zero, Act.put, List.setIfInBounds_toArray, List.set_cons_zero, List.set_cons_succ]
        refine wpAnyH_ready (rs := [2]) (by kernel_rfl) (by simp) ?_
        refine AllReadyH.cons (o := _) rfl (fun K hK => ?_) ?_
        · have x0 := rA.cel 0 rfl
          have x1 := rA.cel 1 rfl
          have x2 := rA.cel 2 rfl
          have f0 := rA.frozen 0
          have f1 := rA.frozen 1
          have f2 := rA.frozen 2
          go_simp
          obtain ⟨Z1, eZ1⟩ : ∃ x, x = (((Zd.setCell ⟨w.heap.size + 1, 0, none⟩ (.slice T0 R.slots.length d0)).setCell ⟨w.heap.size + 1, 1, none⟩ (.slice T1 R.queue.length d1)).setCell ⟨w.heap.size + 1, 2, none⟩ (.slice T2 R.purple.length d2)) := ⟨_, rfl⟩
          rw [← eZ1]
          have kA1 : Blk Z1 (w6.heap.size) 32 #[.slice T0 R.slots.length d0, .slice T1 R.queue.length d1, .slice T2 R.purple.length d2] := eZ1 ▸ blk3 kA (by omega) _ _ _
          have kV1 : Blk Z1 (w5.heap.size) 43 #[.int .i64 fk, .int .i64 fn, .int .i64 fg] := eZ1 ▸ blk3 kV (by omega) _ _ _
          have rA1 : Blk Z1 (w.heap.size + 1) 32 #[.slice T0 R.slots.length d0, .slice T1 R.queue.length d1, .slice T2 R.purple.length d2] := eZ1 ▸ ((rA.set_ 0 _).set_ 1 _).set_ 2 _
          have rV1 : Blk Z1 (w.heap.size + 2) 43 #[.int .i64 0, .int .i64 0, .int .i64 0] := eZ1 ▸ blk3 rV (by omega) _ _ _
          have HeZ1 := Lib.hid eZ1
          clear eZ1 x0 x1 x2 f0 f1 f2
          refine hK.out _ _ ?_ (fun hHeld => ?_)
          · exact ⟨kA1, kV1⟩
          · clear hK K
            try simp only [List.getElem_toArray, List.getElem_cons_succ, List.getElem_cons_zero, Act.put, List.setIfInBounds_toArray, List.set_cons_zero, List.set_cons_succ]
            refine wpAnyH_ready (rs := [3]) (by kernel_rfl) (by simp) ?_
            refine AllReadyH.cons (o := _) rfl (fun K hK => ?_) ?_
            · have x0 := rV1.cel 0 rfl
              have x1 := rV1.cel 1 rfl
              have x2 := rV1.cel 2 rfl
              have f0 := rV1.frozen 0
              have f1 := rV1.frozen 1
              have f2 := rV1.frozen 2
              go_simp
              obtain ⟨Z2, eZ2⟩ : ∃ x, x = (((Z1.setCell ⟨w.heap.size + 2, 0, none⟩ (.int .i64 fk)).setCell ⟨w.heap.size + 2, 1, none⟩ (.int .i64 fn)).setCell ⟨w.heap.size + 2, 2, none⟩ (.int .i64 fg)) := ⟨_, rfl⟩
              rw [← eZ2]
              have kA2 : Blk Z2 (w6.heap.size) 32 #[.slice T0 R.slots.length d0, .slice T1 R.queue.length d1, .slice T2 R.purple.length d2] := eZ2 ▸ blk3 kA1 (by omega) _ _ _
              have kV2 : Blk Z2 (w5.heap.size) 43 #[.int .i64 fk, .int .i64 fn, .int .i64 fg] := eZ2 ▸ blk3 kV1 (by omega) _ _ _
              have rA2 : Blk Z2 (w.heap.size + 1) 32 #[.slice T0 R.slots.length d0, .slice T1 R.queue.length d1, .slice T2 R.purple.length d2] := eZ2 ▸ blk3 rA1 (by omega) _ _ _
              have rV2 : Blk Z2 (w.heap.size + 2) 43 #[.int .i64 fk, .int .i64 fn, .int .i64 fg] := eZ2 ▸ ((rV1.set_ 0 _).set_ 1 _).set_ 2 _
              have HeZ2 := Lib.hid eZ2
              clear eZ2 x0 x1 x2 f0 f1 f2
              refine hK.out _ _ ?_ (fun hHeld => ?_)
              · exact ⟨kA2, kV2⟩
              · clear hK K
                try simp only [List.getElem_toArray, List.getElem_cons_succ, List.getElem_cons_zero, Act.put, List.setIfInBounds_toArray, List.set_cons_zero, List.set_cons_succ]
                refine wpAnyH_take (i := 4) (oi := _) (v := ?_) rfl (by kernel_rfl) (by kernel_rfl) (by kernel_rfl) (fun _ _ _ h => h) (Or.inl ⟨by rfl, ?_⟩) (by assumption) ?_
                rotate_left
                focus
                  intro w hSw
                  obtain ⟨qs0, qs1⟩ := hSw
                  have qs00 := qs0.cel 0 rfl
                  have qs01 := qs0.cel 1 rfl
                  have qs02 := qs0.cel 2 rfl
                  have qs10 := qs1.cel 0 rfl
                  have qs11 := qs1.cel 1 rfl
                  have qs12 := qs1.cel 2 rfl
                  go_simp
                  try with_reducible rfl
                try simp only [List.getElem_toArray, List.getElem_cons_succ, List.getElem_cons_zero, Act.put, List.setIfInBounds_toArray, List.set_cons_zero, List.set_cons_succ]
                refine wpAnyH_done (by kernel_rfl) ?_ _
                refine NoPanic.normal ?_
                have m0 := rA2.cel 0 rfl
                have m1 := rA2.cel 1 rfl
                have m2 := rA2.cel 2 rfl
                have n0 := rV2.cel 0 rfl
                have n1 := rV2.cel 1 rfl
                have n2 := rV2.cel 2 rfl
                try go_wp2_with fail
                refine bodyPost_ret (v := .tuple #[.agg #[.slice T0 R.slots.length d0, .slice T1 R.queue.length d1, .slice T2 R.purple.length d2], .agg #[.int .i64 fk, .int .i64 fn, .int .i64 fg], .bool true]) (by simp [results, Try.results25, go_sem, m0, m1, m2, n0, n1, n2]) rfl
                  ⟨.agg #[.slice T0 R.slots.length d0, .slice T1 R.queue.length d1, .slice T2 R.purple.length d2], ?_, ?_, ?_⟩
                · obtain ⟨e1, e2, e3, e4, e5⟩ := HR.out
                  obtain ⟨f1, f2, f3, f4, f5⟩ := HE.out
                  rw [e2, e3, e4, e5]
                  unfold alK alN alG alB allocT
                  dsimp only
                  rw [Hokk.out, ← f1, ← f2, ← f3, ← f4, ← f5, ← Hx.out]
                  rfl
                · rw [HeZ2.out, HeZ1.out, HeZ.out]
                  exact ArAns.mono (ArAns.store6 d0 d1 d2 _ _ _ _ _ _ (HO.out.apart (S := fun _ => False) (Apart.refl _ Z).drew (fun _ _ h => h)) (fun b hb => ⟨Hl.out b hb, fun e => by have := HO.out.low b hb; omega, fun e => by have := HO.out.low b hb; omega⟩)) (by omega)
                · rw [HeZ2.out, HeZ1.out, HeZ.out]
                  exact store6 Hb6.out.drew (by omega) (by omega) _ _ _ _ _ _
            exact AllReadyH.nil
        exact AllReadyH.nil
end
end AllocI
end Go.Proofs.Ytfmlgpnjckamjaa
