/-
  The program's Keep.
-/
import Derived.Test.YtfmlgpnjckamjaaTallyK
import Derived.Test.YtfmlgpnjckamjaaTallyR
import Derived.Test.YtfmlgpnjckamjaaImplVal
namespace Go.Proofs.Ytfmlgpnjckamjaa
open Go.RowKit
set_option linter.unusedVariables false
set_option linter.unusedSimpArgs false

def keptA (a : Ar) (k n : Int) : Ar := ⟨keepS a.slots k n, a.queue, a.purple⟩
def keepB (a : Ar) (k n g : Int) : Bool := arOk a && valOk a.slots k n g && arOk (keptA a k n)
def keepA (a : Ar) (k n g : Int) : Ar := if arOk a && valOk a.slots k n g then (if arOk (keptA a k n) then keptA a k n else a) else ⟨[], [], []⟩
theorem cntAt_sz (l : List Sl) (n : Nat) (z : Int) : (ArnM.cntAt l n z).map slSz = l.map slSz := by
  refine List.ext_getElem (by simp) (fun i h1 h2 => ?_)
  rw [List.getElem_map, List.getElem_map, ArnM.cntAt_get]
  split <;> rfl
theorem keptA_sz (a : Ar) (k n : Int) : arSz (keptA a k n) = arSz a := by
  unfold keptA keepS
  split
  · unfold arSz slsSz
    dsimp only
    rw [cntAt_sz, ArnM.cntAt_len]
  · rfl
theorem ArAns.empty (w : World) (lo : Nat) : ArAns w lo ⟨[], [], []⟩ (.agg #[.slice none 0 0, .slice none 0 0, .slice none 0 0]) :=
  ⟨none, none, none, 0, 0, 0, 0, fun _ => 0, fun _ _ => 0, 0, 0, rfl, ⟨⟨fun h => absurd h (Nat.lt_irrefl 0), fun i j hi => absurd hi (Nat.not_lt_zero i), fun i hi => absurd hi (Nat.not_lt_zero i)⟩, fun h => absurd h (Nat.lt_irrefl 0), fun h => absurd h (Nat.lt_irrefl 0), fun h => absurd h (Nat.lt_irrefl 0), fun h => absurd h (Nat.lt_irrefl 0), fun h => absurd h (Nat.lt_irrefl 0)⟩,
    fun b hb => by
      rcases hb with (⟨h0, -⟩ | ⟨i, hi, -⟩) | ⟨h0, -⟩ | ⟨h0, -⟩
      · exact absurd h0 (Nat.lt_irrefl 0)
      · exact absurd hi (Nat.not_lt_zero i)
      · exact absurd h0 (Nat.lt_irrefl 0)
      · exact absurd h0 (Nat.lt_irrefl 0)⟩
theorem ArAns.mono {w : World} {lo lo' : Nat} {a : Ar} {v : Value} (h : ArAns w lo a v) (hl : lo' ≤ lo) : ArAns w lo' a v := by
  obtain ⟨A0, A1, A2, c0, c1, c2, g, fb, nb, g1, g2, e, hO, h2⟩ := h
  exact ⟨A0, A1, A2, c0, c1, c2, g, fb, nb, g1, g2, e, hO.lo_le hl, h2⟩
theorem keep_at {a : Ar} {n g : Int} (hok : arOk a = true) (hv : valOk a.slots 2 n g = true) : ∃ m : Nat, n = m ∧ ∃ hm : m < a.slots.length, -1000000000000 ≤ a.slots[m].count ∧ a.slots[m].count ≤ 1000000000000 := by
  rcases slotAt_cases a.slots n with ⟨h, -⟩ | ⟨m, hm, rfl, h⟩
  · unfold valOk at hv
    rw [h] at hv
    simp at hv
  · refine ⟨m, rfl, hm, ?_⟩
    unfold arOk at hok
    simp only [Bool.and_eq_true] at hok
    have h1 := List.all_eq_true.1 hok.1.1.2 a.slots[m] (List.getElem_mem hm)
    unfold slOk slBd at h1
    simp only [Bool.and_eq_true, decide_eq_true_eq] at h1
    omega

section
variable (S : List Sl) (Q P : List Int) (A0 A1 A2 : Option Addr) (c0 c1 c2 L B : Nat) (w : World)

set_option maxHeartbeats 1000000 in
theorem recountedKeep_c (k n gn : Int) (hB : B ≤ w.heap.size) (h : ArL w L B A0 A1 A2 ⟨S, Q, P⟩) (hsz : arSz ⟨S, Q, P⟩ ≤ 1050000) :
    Calls Try.prog 47 #[.agg #[.slice A0 S.length c0, .slice A1 Q.length c1, .slice A2 P.length c2], .agg #[.int .i64 k, .int .i64 n, .int .i64 gn], .func (.func 48) #[] #[]] w fun e w' => ∃ v,
      e = .returned (.tuple #[v, .bool (keepB ⟨S, Q, P⟩ k n gn)]) ∧ ArAns w' w.heap.size (keepA ⟨S, Q, P⟩ k n gn) v ∧ Below w.heap.size w w' := by
  obtain ⟨R, hR⟩ : ∃ R, R = keepA ⟨S, Q, P⟩ k n gn := ⟨_, rfl⟩
  obtain ⟨r, hr⟩ : ∃ r, r = keepB ⟨S, Q, P⟩ k n gn := ⟨_, rfl⟩
  rw [← hR, ← hr]
  have HR := Lib.hid hR
  have Hr := Lib.hid hr
  clear hR hr
  have hbW : Below w.heap.size w (((w.alloc (.cells #[.slice A0 S.length c0, .slice A1 Q.length c1, .slice A2 P.length c2] 32)).alloc (.cells #[.int .i64 k, .int .i64 n, .int .i64 gn] 43)).alloc (.cells #[.slice none 0 0, .slice none 0 0, .slice none 0 0] 32)) := (((Below.refl _ _).alloc (Nat.le_refl _) _).alloc (by simp) _).alloc (by simp; omega) _
  have HKA := Lib.hid (((Blk.new w 32 #[.slice A0 S.length c0, .slice A1 Q.length c1, .slice A2 P.length c2]).alloc (.cells #[.int .i64 k, .int .i64 n, .int .i64 gn] 43)).alloc (.cells #[.slice none 0 0, .slice none 0 0, .slice none 0 0] 32))
  have HKV : Hid (Blk (((w.alloc (.cells #[.slice A0 S.length c0, .slice A1 Q.length c1, .slice A2 P.length c2] 32)).alloc (.cells #[.int .i64 k, .int .i64 n, .int .i64 gn] 43)).alloc (.cells #[.slice none 0 0, .slice none 0 0, .slice none 0 0] 32)) (w.heap.size + 1) 43 #[.int .i64 k, .int .i64 n, .int .i64 gn]) := Lib.hid (by
    have := (Blk.new (w.alloc (.cells #[.slice A0 S.length c0, .slice A1 Q.length c1, .slice A2 P.length c2] 32)) 43 #[.int .i64 k, .int .i64 n, .int .i64 gn]).alloc (.cells #[.slice none 0 0, .slice none 0 0, .slice none 0 0] 32)
    rwa [World.size_alloc] at this)
  have HKR : Hid (Blk (((w.alloc (.cells #[.slice A0 S.length c0, .slice A1 Q.length c1, .slice A2 P.length c2] 32)).alloc (.cells #[.int .i64 k, .int .i64 n, .int .i64 gn] 43)).alloc (.cells #[.slice none 0 0, .slice none 0 0, .slice none 0 0] 32)) (w.heap.size + 2) 32 #[.slice none 0 0, .slice none 0 0, .slice none 0 0]) := Lib.hid (by
    have := Blk.new ((w.alloc (.cells #[.slice A0 S.length c0, .slice A1 Q.length c1, .slice A2 P.length c2] 32)).alloc (.cells #[.int .i64 k, .int .i64 n, .int .i64 gn] 43)) 32 #[.slice none 0 0, .slice none 0 0, .slice none 0 0]
    rw [World.size_alloc, World.size_alloc] at this
    exact this)
  have hsz2 : (((w.alloc (.cells #[.slice A0 S.length c0, .slice A1 Q.length c1, .slice A2 P.length c2] 32)).alloc (.cells #[.int .i64 k, .int .i64 n, .int .i64 gn] 43)).alloc (.cells #[.slice none 0 0, .slice none 0 0, .slice none 0 0] 32)).heap.size = w.heap.size + 3 := by simp
  generalize hW2 : ((w.alloc (.cells #[.slice A0 S.length c0, .slice A1 Q.length c1, .slice A2 P.length c2] 32)).alloc (.cells #[.int .i64 k, .int .i64 n, .int .i64 gn] 43)).alloc (.cells #[.slice none 0 0, .slice none 0 0, .slice none 0 0] 32) = w2 at HKA HKV HKR hbW hsz2
  have HA2 := Lib.hid (h.below (hbW.mono hB))
  have Hval := Lib.hid (implValOk_c ⟨S, Q, P⟩ A0 A1 A2 c0 c1 c2 L B w2 k n gn (by omega) HA2.out hsz)
  have HbW := Lib.hid hbW
  have Hsz := Lib.hid hsz
  dsimp only at Hval
  have a0 := HKA.out.cel 0 (v := .slice A0 S.length c0) rfl
  have a1 := HKA.out.cel 1 (v := .slice A1 Q.length c1) rfl
  have a2 := HKA.out.cel 2 (v := .slice A2 P.length c2) rfl
  have v0 := HKV.out.cel 0 (v := .int .i64 k) rfl
  have v1 := HKV.out.cel 1 (v := .int .i64 n) rfl
  have v2 := HKV.out.cel 2 (v := .int .i64 gn) rfl
  clear h hsz hbW
  go_enter Try.func47, Try.ntmps47
  go_wp2_with fail
  refine Hval.out.mono ?_
  rintro e w3 ⟨rfl, hb3⟩
  have HKA3 := Lib.hid (HKA.out.below hb3 HKA.out.lt)
  have HKV3 := Lib.hid (HKV.out.below hb3 HKV.out.lt)
  have HKR3 := Lib.hid (HKR.out.below hb3 HKR.out.lt)
  have HA3 := Lib.hid (HA2.out.below (hb3.mono (by omega)))
  have Hb3 := Lib.hid (HbW.out.trans (hb3.mono (by omega)))
  have hs3 : w.heap.size + 3 ≤ w3.heap.size := hsz2 ▸ hb3.size
  clear hb3 HKA HKV HKR HA2 HbW a0 a1 a2 v0 v1 v2 Hval hW2 hsz2
  cases hv : (arOk ⟨S, Q, P⟩ && valOk S k n gn)
  · have Hv := Lib.hid hv
    have m0 := HKR3.out.cel 0 rfl
    have m1 := HKR3.out.cel 1 rfl
    have m2 := HKR3.out.cel 2 rfl
    have y0 : w3.frozen? ⟨w.heap.size + 2, 0, none⟩ = false := HKR3.out.frozen 0
    have y1 : w3.frozen? ⟨w.heap.size + 2, 1, none⟩ = false := HKR3.out.frozen 1
    have y2 : w3.frozen? ⟨w.heap.size + 2, 2, none⟩ = false := HKR3.out.frozen 2
    clear hv
    go_wp2_with fail
    refine bodyPost_ret (v := .tuple #[.agg #[.slice none 0 0, .slice none 0 0, .slice none 0 0], .bool false]) (by simp [results, Try.results47, go_sem, m0, m1, m2]) rfl
      ⟨.agg #[.slice none 0 0, .slice none 0 0, .slice none 0 0], ?_, ?_, below_store Hb3.out (by omega) _ _ _⟩
    · rw [Hr.out]; unfold keepB; dsimp only; rw [Hv.out]; rfl
    · rw [HR.out]; unfold keepA; dsimp only; rw [Hv.out]; exact ArAns.empty _ _
  · have Hv := Lib.hid hv
    rw [Bool.and_eq_true] at hv
    have Hok := Lib.hid hv.1
    have Hvl := Lib.hid hv.2
    have a0 := HKA3.out.cel 0 (v := .slice A0 S.length c0) rfl
    have a1 := HKA3.out.cel 1 (v := .slice A1 Q.length c1) rfl
    have a2 := HKA3.out.cel 2 (v := .slice A2 P.length c2) rfl
    have Ht := Lib.hid (tallyOf_c S Q P A0 A1 A2 c0 c1 c2 L B w3 (by omega) Hsz.out HA3.out)
    clear hv
    go_wp2_with fail
    refine Ht.out.mono ?_
    rintro e w4 ⟨bt, rfl, ht, hb4⟩
    have HKA4 := Lib.hid (HKA3.out.below hb4 HKA3.out.lt)
    have HKV4 := Lib.hid (HKV3.out.below hb4 HKV3.out.lt)
    have HKR4 := Lib.hid (HKR3.out.below hb4 HKR3.out.lt)
    have HA4 := Lib.hid (HA3.out.below (hb4.mono (by omega)))
    have Hb4 := Lib.hid (Hb3.out.trans (hb4.mono (by omega)))
    have hs4 := hb4.size
    have Hk := Lib.hid (keep_c S Q P bt w3.heap.size (.slice none 0 0) k n gn w4 (arSz_len Hsz.out).1.1 ht (fun e => by subst e; exact keep_at Hok.out Hvl.out))
    have v0 := HKV4.out.cel 0 (v := .int .i64 k) rfl
    have v1 := HKV4.out.cel 1 (v := .int .i64 n) rfl
    have v2 := HKV4.out.cel 2 (v := .int .i64 gn) rfl
    clear ht hb4 HKA3 HKV3 HKR3 HA3 Hb3 a0 a1 a2 Ht
    go_wp2_with fail
    refine Hk.out.mono ?_
    rintro e w5 ⟨⟨z, rfl⟩, ht, hb5⟩
    have hs5 := hb5.size
    have HKA5 := Lib.hid (HKA4.out.below hb5 (by omega))
    have HKR5 := Lib.hid (HKR4.out.below hb5 (by omega))
    have HA5 := Lib.hid (HA4.out.below (hb5.mono (by omega)))
    have Hb5 := Lib.hid (Hb4.out.trans (hb5.mono (by omega)))
    have hres := result_c S Q P A0 A1 A2 c0 c1 c2 L B w5 (keepS S k n) Q P bt w3.heap.size (.slice none 0 0) (by omega) (by omega) Hsz.out HA5.out (by have := keptA_sz ⟨S, Q, P⟩ k n; unfold keptA at this; dsimp only at this; rw [this]; exact Hsz.out) ht
    obtain ⟨X, hX⟩ : ∃ X, X = (if arOk ⟨keepS S k n, Q, P⟩ then (⟨keepS S k n, Q, P⟩ : Ar) else ⟨S, Q, P⟩) := ⟨_, rfl⟩
    obtain ⟨x, hx⟩ : ∃ x, x = arOk ⟨keepS S k n, Q, P⟩ := ⟨_, rfl⟩
    rw [← hX, ← hx] at hres
    obtain rfl : R = X := by rw [HR.out]; unfold keepA keptA; dsimp only; rw [Hok.out, Hvl.out, hX]; rfl
    obtain rfl : r = x := by rw [Hr.out]; unfold keepB keptA; dsimp only; rw [Hok.out, Hvl.out, hx]; rfl
    have Hres := Lib.hid hres
    have a0 := HKA5.out.cel 0 (v := .slice A0 S.length c0) rfl
    have a1 := HKA5.out.cel 1 (v := .slice A1 Q.length c1) rfl
    have a2 := HKA5.out.cel 2 (v := .slice A2 P.length c2) rfl
    clear ht hb5 HKA4 HKV4 HKR4 HA4 Hb4 v0 v1 v2 Hk hres hX hx
    go_wp2_with fail
    refine Hres.out.mono ?_
    rintro e w6 ⟨v, rfl, ⟨T0, T1, T2, d0, d1, d2, g, fb, nb, g1, g2, rfl, hO, hl⟩, hb6⟩
    have hs6 := hb6.size
    have HKR6 := Lib.hid (HKR5.out.below hb6 HKR5.out.lt)
    have Hb6 := Lib.hid (Hb5.out.trans (hb6.mono (by omega)))
    have HO := Lib.hid hO
    have Hl := Lib.hid hl
    have m0 := HKR6.out.cel 0 rfl
    have m1 := HKR6.out.cel 1 rfl
    have m2 := HKR6.out.cel 2 rfl
    have y0 : w6.frozen? ⟨w.heap.size + 2, 0, none⟩ = false := HKR6.out.frozen 0
    have y1 : w6.frozen? ⟨w.heap.size + 2, 1, none⟩ = false := HKR6.out.frozen 1
    have y2 : w6.frozen? ⟨w.heap.size + 2, 2, none⟩ = false := HKR6.out.frozen 2
    clear hO hl hb6 HKA5 HKR5 HA5 Hb5 a0 a1 a2 Hres
    go_wp2_with fail
    refine bodyPost_ret (v := .tuple #[.agg #[.slice T0 R.slots.length d0, .slice T1 R.queue.length d1, .slice T2 R.purple.length d2], .bool r]) (by simp [results, Try.results47, go_sem, m0, m1, m2]) rfl
      ⟨.agg #[.slice T0 R.slots.length d0, .slice T1 R.queue.length d1, .slice T2 R.purple.length d2], rfl, ArAns.mono (ArAns.store d0 d1 d2 _ _ _ HO.out (fun b hb => ⟨Hl.out b hb, fun e => by have := HO.out.low b hb; omega⟩)) (by omega), below_store Hb6.out (by omega) _ _ _⟩

set_option maxHeartbeats 1000000 in
theorem implKeep_c (k n gn : Int) (hB : B ≤ w.heap.size) (h : ArL w L B A0 A1 A2 ⟨S, Q, P⟩) (hsz : arSz ⟨S, Q, P⟩ ≤ 1050000) :
    Calls Try.prog 20 #[.agg #[.slice A0 S.length c0, .slice A1 Q.length c1, .slice A2 P.length c2], .agg #[.int .i64 k, .int .i64 n, .int .i64 gn]] w fun e w' => ∃ v,
      e = .returned (.tuple #[v, .bool (keepB ⟨S, Q, P⟩ k n gn)]) ∧ ArAns w' w.heap.size (keepA ⟨S, Q, P⟩ k n gn) v ∧ Below w.heap.size w w' := by
  obtain ⟨R, hR⟩ : ∃ R, R = keepA ⟨S, Q, P⟩ k n gn := ⟨_, rfl⟩
  obtain ⟨r, hr⟩ : ∃ r, r = keepB ⟨S, Q, P⟩ k n gn := ⟨_, rfl⟩
  have hbW : Below w.heap.size w (((w.alloc (.cells #[.slice A0 S.length c0, .slice A1 Q.length c1, .slice A2 P.length c2] 32)).alloc (.cells #[.int .i64 k, .int .i64 n, .int .i64 gn] 43)).alloc (.cells #[.slice none 0 0, .slice none 0 0, .slice none 0 0] 32)) := (((Below.refl _ _).alloc (Nat.le_refl _) _).alloc (by simp) _).alloc (by simp; omega) _
  have hKR : Blk (((w.alloc (.cells #[.slice A0 S.length c0, .slice A1 Q.length c1, .slice A2 P.length c2] 32)).alloc (.cells #[.int .i64 k, .int .i64 n, .int .i64 gn] 43)).alloc (.cells #[.slice none 0 0, .slice none 0 0, .slice none 0 0] 32)) (w.heap.size + 2) 32 #[.slice none 0 0, .slice none 0 0, .slice none 0 0] := by
    have := Blk.new ((w.alloc (.cells #[.slice A0 S.length c0, .slice A1 Q.length c1, .slice A2 P.length c2] 32)).alloc (.cells #[.int .i64 k, .int .i64 n, .int .i64 gn] 43)) 32 #[.slice none 0 0, .slice none 0 0, .slice none 0 0]
    rw [World.size_alloc, World.size_alloc] at this
    exact this
  have hsz2 : (((w.alloc (.cells #[.slice A0 S.length c0, .slice A1 Q.length c1, .slice A2 P.length c2] 32)).alloc (.cells #[.int .i64 k, .int .i64 n, .int .i64 gn] 43)).alloc (.cells #[.slice none 0 0, .slice none 0 0, .slice none 0 0] 32)).heap.size = w.heap.size + 3 := by simp
  have hc := recountedKeep_c S Q P A0 A1 A2 c0 c1 c2 L B _ k n gn (Nat.le_trans hB hbW.size) (h.below (hbW.mono hB)) hsz
  rw [← hR, ← hr] at hc ⊢
  have Hc := Lib.hid hc
  have HKR := Lib.hid hKR
  have HbW := Lib.hid hbW
  have Hs2 := Lib.hid hsz2
  clear hR hr hbW hKR hc h hsz hsz2
  go_enter Try.func20, Try.ntmps20
  go_wp2_with fail
  refine Hc.out.mono ?_
  rintro e w6 ⟨v, rfl, ⟨T0, T1, T2, d0, d1, d2, g, fb, nb, g1, g2, rfl, hO, hl⟩, hb6⟩
  rw [Hs2.out] at hO hb6
  have hs6 : w.heap.size + 3 ≤ w6.heap.size := by have := hb6.size; rw [Hs2.out] at this; exact this
  have HKR6 := Lib.hid (HKR.out.below hb6 (by omega))
  have Hb6 := Lib.hid (HbW.out.trans (hb6.mono (by omega)))
  have HO := Lib.hid hO
  have Hl := Lib.hid hl
  have m0 := HKR6.out.cel 0 rfl
  have m1 := HKR6.out.cel 1 rfl
  have m2 := HKR6.out.cel 2 rfl
  have y0 : w6.frozen? ⟨w.heap.size + 2, 0, none⟩ = false := HKR6.out.frozen 0
  have y1 : w6.frozen? ⟨w.heap.size + 2, 1, none⟩ = false := HKR6.out.frozen 1
  have y2 : w6.frozen? ⟨w.heap.size + 2, 2, none⟩ = false := HKR6.out.frozen 2
  clear hO hl hb6 HKR HbW Hc Hs2
  go_wp2_with fail
  refine bodyPost_ret (v := .tuple #[.agg #[.slice T0 R.slots.length d0, .slice T1 R.queue.length d1, .slice T2 R.purple.length d2], .bool r]) (by simp [results, Try.results20, go_sem, m0, m1, m2]) rfl
    ⟨.agg #[.slice T0 R.slots.length d0, .slice T1 R.queue.length d1, .slice T2 R.purple.length d2], rfl, ArAns.mono (ArAns.store d0 d1 d2 _ _ _ HO.out (fun b hb => ⟨Hl.out b hb, fun e => by have := HO.out.low b hb; omega⟩)) (by omega), below_store Hb6.out (by omega) _ _ _⟩
end
end Go.Proofs.Ytfmlgpnjckamjaa
