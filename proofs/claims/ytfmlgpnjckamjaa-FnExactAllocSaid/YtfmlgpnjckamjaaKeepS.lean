/-
  The model's Keep: the arena in a box, its count grown; what comes of it.
-/
import Derived.Test.YtfmlgpnjckamjaaKeepI
import Derived.Test.YtfmlgpnjckamjaaSpecArnOk
namespace Go.Proofs.Ytfmlgpnjckamjaa
open Go.RowKit
set_option linter.unusedVariables false
set_option linter.unusedSimpArgs false

/-- an arena of the call's own in a box, its row of suspects no longer than its room -/
def BoxQ (w : World) (lo bt : Nat) (a : Ar) : Prop :=
  ∃ (A0 A1 A2 : Option Addr) (c0 c1 c2 g : Nat) (fb : Nat → Nat) (nb : Nat → Nat → Nat) (g1 g2 : Nat),
    Blk w bt 32 #[.slice A0 a.slots.length c0, .slice A1 a.queue.length c1, .slice A2 a.purple.length c2] ∧
    lo ≤ bt ∧ ArnM.OwnAr w lo A0 A1 A2 a g fb nb g1 g2 ∧ (∀ b, ArnM.asOf a g fb nb g1 g2 b → b < w.heap.size ∧ ¬ b = bt) ∧ a.purple.length ≤ c2
/-- what the model's copy answers: as ArAns, with the row of suspects no longer than its room -/
def ArAnsC (w : World) (lo : Nat) (a : Ar) (v : Value) : Prop :=
  ∃ (A0 A1 A2 : Option Addr) (c0 c1 c2 g : Nat) (fb : Nat → Nat) (nb : Nat → Nat → Nat) (g1 g2 : Nat), v = .agg #[.slice A0 a.slots.length c0, .slice A1 a.queue.length c1, .slice A2 a.purple.length c2] ∧
    ArnM.OwnAr w lo A0 A1 A2 a g fb nb g1 g2 ∧ (∀ b, ArnM.asOf a g fb nb g1 g2 b → b < w.heap.size) ∧ a.purple.length ≤ c2

set_option maxHeartbeats 1000000 in
theorem l5keep_c (S : List Sl) (Q P : List Int) (bt lo : Nat) (k n gn : Int) (w : World) (hS : S.length ≤ 1050000) (h : BoxQ w lo bt ⟨S, Q, P⟩)
    (hk : k = 2 → ∃ m : Nat, n = m ∧ ∃ hm : m < S.length, -1000000000000 ≤ S[m].count ∧ S[m].count ≤ 1000000000000) :
    Calls Try.prog 46 #[.pointer (some ⟨bt, 0, none⟩), .agg #[.int .i64 k, .int .i64 n, .int .i64 gn]] w fun e w' => (∃ z, e = .returned z) ∧ BoxQ w' lo bt ⟨keepS S k n, Q, P⟩ ∧ Below lo w w' := by
  obtain ⟨A0, A1, A2, c0, c1, c2, g, fb, nb, g1, g2, hK, hlo, hO, hl, hcap⟩ := h
  dsimp only at hcap
  dsimp only at hK
  have hbW := CopyOf.blw1 w (.cells #[.int .i64 k, .int .i64 n, .int .i64 gn] 43)
  have hsz : (w.alloc (.cells #[.int .i64 k, .int .i64 n, .int .i64 gn] 43)).heap.size = w.heap.size + 1 := by simp
  have hKV := Blk.new w 43 #[.int .i64 k, .int .i64 n, .int .i64 gn]
  have hK1 := hK.below hbW hK.lt
  have hO1 := hO.apart (S := fun _ => False) (Apart.of_below hbW) (fun _ _ h => h)
  have hlt := hK.lt
  have hl1 : ∀ b, ArnM.asOf ⟨S, Q, P⟩ g fb nb g1 g2 b → b < w.heap.size + 1 ∧ ¬ b = bt := fun b hb => ⟨by have := (hl b hb).1; omega, (hl b hb).2⟩
  have v0 := hKV.cel 0 (v := .int .i64 k) rfl
  have v1 := hKV.cel 1 (v := .int .i64 n) rfl
  by_cases hk2 : k = 2
  · subst hk2
    obtain ⟨m, rfl, hm, hc1, hc2⟩ := hk rfl
    have E := Lib.hid (keepS_yes hm)
    obtain ⟨rfl, hgl, cs, hG, hat⟩ := hO1.slots.row (by dsimp only; omega)
    obtain ⟨e0, e1, e2, -⟩ := hat m hm
    dsimp only at e2
    have q2 : (w.alloc (.cells #[.int .i64 2, .int .i64 m, .int .i64 gn] 43)).cell? ⟨g, m * 4 + 2, none⟩ = some (.int .i64 S[m].count) := by rw [hG.cell]; exact e2
    have z2 : (w.alloc (.cells #[.int .i64 2, .int .i64 m, .int .i64 gn] 43)).frozen? ⟨g, m * 4 + 2, none⟩ = false := hG.frozen _
    have t0 := hK1.cel 0 (v := .slice (some ⟨g, 0, none⟩) S.length c0) rfl
    obtain ⟨ct, hct⟩ : ∃ ct, ct = S[m].count := ⟨_, rfl⟩
    rw [← hct] at q2 hc1 hc2 E
    have Hfin := Lib.hid (hO1.setCnt m hm (ct + 1))
    have HK1 := Lib.hid hK1
    have HbW := Lib.hid hbW
    have Hl1 := Lib.hid hl1
    have hwr : IntKind.i64.wrap (ct + 1) = ct + 1 := by rw [IntKind.wrap_i64]; omega
    clear hO1 hat e0 e1 e2 hG hKV hK hO hK1 hbW hl hl1 hk hct
    go_enter Try.func46, Try.ntmps46
    go_wp2
    go_region_with fail
    all_goals
      go_wp2
      refine bodyPost_end (results_none rfl _ _ _) rfl ?_
      rw [E.out]
      have hst := (Apart.setCell (S := fun b => b = g) (p := ⟨g, m * 4 + 2, none⟩) (Apart.refl _ (w.alloc (.cells #[.int .i64 2, .int .i64 m, .int .i64 gn] 43))) rfl (.int .i64 (ct + 1))).drew
      have hgb : ¬ g = bt := (Hl1.out g (.inl (.inl ⟨by dsimp only; omega, rfl⟩))).2
      refine ⟨⟨_, rfl⟩, ⟨_, A1, A2, c0, c1, c2, g, fb, nb, g1, g2, ?_, hlo, Hfin.out.apart (S := fun _ => False) (Apart.refl _ _).drew (fun _ _ h => h), fun b hb => ?_, hcap⟩, (HbW.out.mono (by omega)).trans (hst.below (by omega) (fun k hk e => by omega))⟩
      · dsimp only
        rw [ArnM.cntAt_len]
        exact HK1.out.apart hst (fun e => hgb e.symm)
      · have h2 := Hl1.out b (hb.imp (fun h => (ArnM.bsOf_cnt g fb nb b).1 h) id)
        exact ⟨by simpa using h2.1, h2.2⟩
  · have E := Lib.hid (keepS_no (S := S) (n := n) hk2)
    have hd : (k == 2) = false := by simpa using hk2
    have HO1 := Lib.hid hO1
    have HK1 := Lib.hid hK1
    have HbW := Lib.hid hbW
    have Hl1 := Lib.hid hl1
    clear hO1 hKV hK hO hK1 hbW hl1 hk
    go_enter Try.func46, Try.ntmps46
    go_wp2
    refine bodyPost_end (results_none rfl _ _ _) rfl ?_
    rw [E.out]
    exact ⟨⟨_, rfl⟩, ⟨_, _, _, _, _, _, _, _, _, _, _, HK1.out, hlo, HO1.out, fun b hb => ⟨by simpa using (Hl1.out b hb).1, (Hl1.out b hb).2⟩, hcap⟩, HbW.out.mono (by omega)⟩
section
variable (S : List Sl) (Q P : List Int) (A0 A1 A2 : Option Addr) (c0 c1 c2 L B : Nat) (w : World)

set_option maxHeartbeats 1000000 in
theorem specKeep_of (k n gn : Int) (hB : B ≤ w.heap.size) (h : ArL w L B A0 A1 A2 ⟨S, Q, P⟩) (hsz : arSz ⟨S, Q, P⟩ ≤ 1050000) (hcap : P.length ≤ c2)
    (hown : ∀ W, Below B w W → B ≤ W.heap.size → Calls Try.prog 45 #[.agg #[.slice A0 S.length c0, .slice A1 Q.length c1, .slice A2 P.length c2]] W fun e w' => ∃ v, e = .returned v ∧ ArAnsC w' W.heap.size ⟨S, Q, P⟩ v ∧ Below W.heap.size W w') :
    Calls Try.prog 18 #[.agg #[.slice A0 S.length c0, .slice A1 Q.length c1, .slice A2 P.length c2], .agg #[.int .i64 k, .int .i64 n, .int .i64 gn]] w fun e w' => ∃ v,
      e = .returned (.tuple #[v, .bool (keepB ⟨S, Q, P⟩ k n gn)]) ∧ ArAns w' w.heap.size (keepA ⟨S, Q, P⟩ k n gn) v ∧ Below w.heap.size w w' := by
  obtain ⟨R, hR⟩ : ∃ R, R = keepA ⟨S, Q, P⟩ k n gn := ⟨_, rfl⟩
  obtain ⟨r, hr⟩ : ∃ r, r = keepB ⟨S, Q, P⟩ k n gn := ⟨_, rfl⟩
  rw [← hR, ← hr]
  have HR := Lib.hid hR
  have Hr := Lib.hid hr
  clear hR hr
  have hbW : Below w.heap.size w (((w.alloc (.cells #[.slice A0 S.length c0, .slice A1 Q.length c1, .slice A2 P.length c2] 32)).alloc (.cells #[.int .i64 k, .int .i64 n, .int .i64 gn] 43)).alloc (.cells #[.slice none 0 0, .slice none 0 0, .slice none 0 0] 32)) := (((Below.refl _ _).alloc (Nat.le_refl _) _).alloc (by simp) _).alloc (by simp; omega) _
  have HKA := Lib.hid (((Blk.new w 32 #[.slice A0 S.length c0, .slice A1 Q.length c1, .slice A2 P.length c2]).alloc (.cells #[.int .i64 k, .int .i64 n, .int .i64 gn] 43)).alloc (.cells #[.slice none 0 0, .slice none 0 0, .slice none 0 0] 32))
  have HKV : Hid (Blk (((w.alloc (.cells #[.slice A0 S.length c0, .slice A1 Q.length c1, .slice A2 P.length c2] 32)).alloc (.cells #[.int .i64 k, .int .i64 n, .int .i64 gn] 43)).alloc (.cells #[.slice none 0 0, .slice none 0 0, .slice none 0 0] 32)) (w.heap.size + 1) 43 #[.int .i64 k, .int .i64 n, .int .i64 gn]) := Lib.hid (by
    have := (Blk.new (w.alloc (.cells #[.slice A0 S.length c0, .slice A1 Q.length c1, .slice A2 P.length c2] 32)) 43 #[.int .i64 k, .int .i64 n, .int .i64 gn]).alloc (.cells #[.slice none 0 0, .slice none 0 0, .slice none 0 0] 32)
    rwa [World.size_alloc] at this)
  have HKR : Hid (Blk (((w.alloc (.cells #[.slice A0 S.length c0, .slice A1 Q.length c1, .slice A2 P.length c2] 32)).alloc (.cells #[.int .i64 k, .int .i64 n, .int .i64 gn] 43)).alloc (.cells #[.slice none 0 0, .slice none 0 0, .slice none 0 0] 32)) (w.heap.size + 2) 32 #[.slice none 0 0, .slice none 0 0, .slice none 0 0]) := Lib.hid (by
    have := Blk.new ((w.alloc (.cells #[.slice A0 S.length c0, .slice A1 Q.length c1, .slice A2 P.length c2] 32)).alloc (.cells #[.int .i64 k, .int .i64 n, .int .i64 gn] 43)) 32 #[.slice none 0 0, .slice none 0 0, .slice none 0 0]
    rw [World.size_alloc, World.size_alloc] at this
    exact this)
  have hsz2 : (((w.alloc (.cells #[.slice A0 S.length c0, .slice A1 Q.length c1, .slice A2 P.length c2] 32)).alloc (.cells #[.int .i64 k, .int .i64 n, .int .i64 gn] 43)).alloc (.cells #[.slice none 0 0, .slice none 0 0, .slice none 0 0] 32)).heap.size = w.heap.size + 3 := by simp
  generalize hW2 : ((w.alloc (.cells #[.slice A0 S.length c0, .slice A1 Q.length c1, .slice A2 P.length c2] 32)).alloc (.cells #[.int .i64 k, .int .i64 n, .int .i64 gn] 43)).alloc (.cells #[.slice none 0 0, .slice none 0 0, .slice none 0 0] 32) = w2 at HKA HKV HKR hbW hsz2
  have HA2 := Lib.hid (h.below (hbW.mono hB))
  have Hsz := Lib.hid hsz
  have hsl : slsSz S ≤ 1050000 := by unfold arSz at hsz; dsimp only at hsz; omega
  have Hok1 := Lib.hid (specArenaOk_c S Q P A0 A1 A2 c0 c1 c2 L B w2 (by omega) hsl hcap HA2.out.1 HA2.out.2.1 HA2.out.2.2)
  have Hown := Lib.hid (fun W (hW : Below w.heap.size w W) => hown W (hW.mono hB) (Nat.le_trans hB hW.size))
  have HbW := Lib.hid hbW
  have a0 := HKA.out.cel 0 (v := .slice A0 S.length c0) rfl
  have a1 := HKA.out.cel 1 (v := .slice A1 Q.length c1) rfl
  have a2 := HKA.out.cel 2 (v := .slice A2 P.length c2) rfl
  clear h hsz hbW hown
  go_enter Try.func18, Try.ntmps18
  go_wp2_with fail
  refine Hok1.out.mono ?_
  rintro e w3 ⟨rfl, hb3⟩
  have HKA3 := Lib.hid (HKA.out.below hb3 HKA.out.lt)
  have HKV3 := Lib.hid (HKV.out.below hb3 HKV.out.lt)
  have HKR3 := Lib.hid (HKR.out.below hb3 HKR.out.lt)
  have HA3 := Lib.hid (HA2.out.below (hb3.mono (by omega)))
  have Hb3 := Lib.hid (HbW.out.trans (hb3.mono (by omega)))
  have hs3 : w.heap.size + 3 ≤ w3.heap.size := hsz2 ▸ hb3.size
  clear hb3 HKA HKV HKR HA2 HbW a0 a1 a2 Hok1 hW2 hsz2
  cases hok : arOk ⟨S, Q, P⟩
  · have Hv := Lib.hid hok
    have m0 := HKR3.out.cel 0 rfl
    have m1 := HKR3.out.cel 1 rfl
    have m2 := HKR3.out.cel 2 rfl
    have y0 : w3.frozen? ⟨w.heap.size + 2, 0, none⟩ = false := HKR3.out.frozen 0
    have y1 : w3.frozen? ⟨w.heap.size + 2, 1, none⟩ = false := HKR3.out.frozen 1
    have y2 : w3.frozen? ⟨w.heap.size + 2, 2, none⟩ = false := HKR3.out.frozen 2
    clear hok
    go_wp2_with fail
    refine bodyPost_ret (v := .tuple #[.agg #[.slice none 0 0, .slice none 0 0, .slice none 0 0], .bool false]) (by simp [results, Try.results18, go_sem, m0, m1, m2]) rfl
      ⟨.agg #[.slice none 0 0, .slice none 0 0, .slice none 0 0], ?_, ?_, below_store Hb3.out (by omega) _ _ _⟩
    · rw [Hr.out]; unfold keepB; rw [Hv.out]; rfl
    · rw [HR.out]; unfold keepA; rw [Hv.out]; exact ArAns.empty _ _
  · have Hok := Lib.hid hok
    have a0 := HKA3.out.cel 0 (v := .slice A0 S.length c0) rfl
    have a1 := HKA3.out.cel 1 (v := .slice A1 Q.length c1) rfl
    have a2 := HKA3.out.cel 2 (v := .slice A2 P.length c2) rfl
    have v0 := HKV3.out.cel 0 (v := .int .i64 k) rfl
    have v1 := HKV3.out.cel 1 (v := .int .i64 n) rfl
    have v2 := HKV3.out.cel 2 (v := .int .i64 gn) rfl
    have Hvl := Lib.hid (l4val_c S A0 c0 L B (.slice A1 Q.length c1) (.slice A2 P.length c2) k n gn rfl rfl w3 (by omega) HA3.out.1)
    clear hok
    go_wp2_with fail
    refine Hvl.out.mono ?_
    rintro e w4 ⟨rfl, hb4⟩
    have HKA4 := Lib.hid (HKA3.out.below hb4 HKA3.out.lt)
    have HKV4 := Lib.hid (HKV3.out.below hb4 HKV3.out.lt)
    have HKR4 := Lib.hid (HKR3.out.below hb4 HKR3.out.lt)
    have Hb4 := Lib.hid (Hb3.out.trans (hb4.mono (by omega)))
    have hs4 := hb4.size
    clear hb4 HKA3 HKV3 HKR3 HA3 Hb3 a0 a1 a2 v0 v1 v2 Hvl
    cases hv : valOk S k n gn
    · have Hv := Lib.hid hv
      have m0 := HKR4.out.cel 0 rfl
      have m1 := HKR4.out.cel 1 rfl
      have m2 := HKR4.out.cel 2 rfl
      have y0 : w4.frozen? ⟨w.heap.size + 2, 0, none⟩ = false := HKR4.out.frozen 0
      have y1 : w4.frozen? ⟨w.heap.size + 2, 1, none⟩ = false := HKR4.out.frozen 1
      have y2 : w4.frozen? ⟨w.heap.size + 2, 2, none⟩ = false := HKR4.out.frozen 2
      clear hv
      go_wp2_with fail
      refine bodyPost_ret (v := .tuple #[.agg #[.slice none 0 0, .slice none 0 0, .slice none 0 0], .bool false]) (by simp [results, Try.results18, go_sem, m0, m1, m2]) rfl
        ⟨.agg #[.slice none 0 0, .slice none 0 0, .slice none 0 0], ?_, ?_, below_store Hb4.out (by omega) _ _ _⟩
      · rw [Hr.out]; unfold keepB; dsimp only; rw [Hok.out, Hv.out]; rfl
      · rw [HR.out]; unfold keepA; dsimp only; rw [Hok.out, Hv.out]; exact ArAns.empty _ _
    · have Hv := Lib.hid hv
      have a0 := HKA4.out.cel 0 (v := .slice A0 S.length c0) rfl
      have a1 := HKA4.out.cel 1 (v := .slice A1 Q.length c1) rfl
      have a2 := HKA4.out.cel 2 (v := .slice A2 P.length c2) rfl
      have Ho1 := Lib.hid (Hown.out w4 Hb4.out)
      clear hv
      go_wp2_with fail
      refine Ho1.out.mono ?_
      rintro e w5 ⟨v, rfl, ⟨T0, T1, T2, d0, d1, d2, g, fb, nb, g1, g2, rfl, hO, hl, hc2⟩, hb5⟩
      have HKA5 := Lib.hid (HKA4.out.below hb5 HKA4.out.lt)
      have HKV5 := Lib.hid (HKV4.out.below hb5 HKV4.out.lt)
      have HKR5 := Lib.hid (HKR4.out.below hb5 HKR4.out.lt)
      have Hb5 := Lib.hid (Hb4.out.trans (hb5.mono (by omega)))
      have hs5 := hb5.size
      have HO := Lib.hid hO
      have Hl := Lib.hid hl
      clear hO hl hb5 HKA4 HKV4 HKR4 Hb4 a0 a1 a2 Ho1
      go_upto_region 4 with fail
      have hbl := blw1 w5 (.cells #[.slice T0 S.length d0, .slice T1 Q.length d1, .slice T2 P.length d2] 32)
      have hBx : BoxQ (w5.alloc (.cells #[.slice T0 S.length d0, .slice T1 Q.length d1, .slice T2 P.length d2] 32)) w4.heap.size w5.heap.size ⟨S, Q, P⟩ := ⟨T0, T1, T2, d0, d1, d2, g, fb, nb, g1, g2, Blk.new w5 _ _, hs5, HO.out.apart (S := fun _ => False) (Apart.of_below hbl) (fun _ _ h => h), fun b hb => ⟨by have := Hl.out b hb; simp; omega, by have := Hl.out b hb; omega⟩, hc2⟩
      generalize w5.alloc (.cells #[.slice T0 S.length d0, .slice T1 Q.length d1, .slice T2 P.length d2] 32) = w6 at hBx hbl ⊢
      have hs6 := hbl.size
      have HKA6 := Lib.hid (HKA5.out.below hbl HKA5.out.lt)
      have HKV6 := Lib.hid (HKV5.out.below hbl HKV5.out.lt)
      have HKR6 := Lib.hid (HKR5.out.below hbl HKR5.out.lt)
      have Hb6 := Lib.hid (Hb5.out.trans (hbl.mono (by omega)))
      have Hk := Lib.hid (l5keep_c S Q P w5.heap.size w4.heap.size k n gn w6 (arSz_len Hsz.out).1.1 hBx (fun e => by subst e; exact keep_at Hok.out Hv.out))
      have v0 := HKV6.out.cel 0 (v := .int .i64 k) rfl
      have v1 := HKV6.out.cel 1 (v := .int .i64 n) rfl
      have v2 := HKV6.out.cel 2 (v := .int .i64 gn) rfl
      clear hbl hBx HKA5 HKV5 HKR5 Hb5 HO Hl hc2
      go_wp2_with fail
      refine Hk.out.mono ?_
      rintro e w7 ⟨⟨z, rfl⟩, ⟨U0, U1, U2, u0, u1, u2, x, fx, nx, x1, x2, hKb, hlob, hOb, hlb, hcb⟩, hb7⟩
      dsimp only at hKb hcb
      have hs7 := hb7.size
      have hszk : arSz ⟨keepS S k n, Q, P⟩ ≤ 1050000 := by have := keptA_sz ⟨S, Q, P⟩ k n; unfold keptA at this; dsimp only at this; rw [this]; exact Hsz.out
      have hslk : slsSz (keepS S k n) ≤ 1050000 := by unfold arSz at hszk; dsimp only at hszk; omega
      have hAk := hOb.arlz hszk
      have Hokk := Lib.hid (specArenaOk_c (keepS S k n) Q P U0 U1 U2 u0 u1 u2 w4.heap.size w7.heap.size w7 (Nat.le_refl _) hslk hcb hAk.1 hAk.2.1 hAk.2.2)
      have HKA7 := Lib.hid (HKA6.out.below hb7 (by omega))
      have HKR7 := Lib.hid (HKR6.out.below hb7 (by omega))
      have Hb7 := Lib.hid (Hb6.out.trans (hb7.mono (by omega)))
      have t0 := hKb.cel 0 (v := .slice U0 (keepS S k n).length u0) rfl
      have t1 := hKb.cel 1 (v := .slice U1 Q.length u1) rfl
      have t2 := hKb.cel 2 (v := .slice U2 P.length u2) rfl
      have HKb := Lib.hid hKb
      have HOb := Lib.hid hOb
      have Hlb := Lib.hid hlb
      clear hKb hOb hlb hb7 HKA6 HKV6 HKR6 Hb6 v0 v1 v2 Hk hAk hszk hslk
      go_wp2_with fail
      refine Hokk.out.mono ?_
      rintro e w8 ⟨rfl, hb8⟩
      have hs8 := hb8.size
      have HKA8 := Lib.hid (HKA7.out.below hb8 HKA7.out.lt)
      have HKR8 := Lib.hid (HKR7.out.below hb8 HKR7.out.lt)
      have HKb8 := Lib.hid (HKb.out.below hb8 HKb.out.lt)
      have HOb8 := Lib.hid (HOb.out.apart (S := fun _ => False) (Apart.of_below hb8) (fun _ _ h => h))
      have Hb8 := Lib.hid (Hb7.out.trans (hb8.mono (by omega)))
      clear hb8 HKA7 HKR7 HKb HOb Hb7 t0 t1 t2 Hokk
      cases hk : arOk ⟨keepS S k n, Q, P⟩
      · obtain rfl : R = ⟨S, Q, P⟩ := by rw [HR.out]; unfold keepA keptA; dsimp only; rw [Hok.out, Hv.out, hk]; rfl
        obtain rfl : r = false := by rw [Hr.out]; unfold keepB keptA; dsimp only; rw [Hok.out, Hv.out, hk]; rfl
        have a0 := HKA8.out.cel 0 (v := .slice A0 S.length c0) rfl
        have a1 := HKA8.out.cel 1 (v := .slice A1 Q.length c1) rfl
        have a2 := HKA8.out.cel 2 (v := .slice A2 P.length c2) rfl
        have Ho2 := Lib.hid (Hown.out w8 Hb8.out)
        clear hk HKb8 HOb8 Hlb
        go_wp2_with fail
        refine Ho2.out.mono ?_
        rintro e w9 ⟨v, rfl, ⟨E0, E1, E2, e0, e1, e2, y, fy, ny, y1, y2, rfl, hO, hl, -⟩, hb9⟩
        have hs9 := hb9.size
        have HKR9 := Lib.hid (HKR8.out.below hb9 HKR8.out.lt)
        have Hb9 := Lib.hid (Hb8.out.trans (hb9.mono (by omega)))
        have HO := Lib.hid hO
        have Hl := Lib.hid hl
        have m0 := HKR9.out.cel 0 rfl
        have m1 := HKR9.out.cel 1 rfl
        have m2 := HKR9.out.cel 2 rfl
        have z0 : w9.frozen? ⟨w.heap.size + 2, 0, none⟩ = false := HKR9.out.frozen 0
        have z1 : w9.frozen? ⟨w.heap.size + 2, 1, none⟩ = false := HKR9.out.frozen 1
        have z2 : w9.frozen? ⟨w.heap.size + 2, 2, none⟩ = false := HKR9.out.frozen 2
        clear hO hl hb9 HKA8 HKR8 Hb8 a0 a1 a2 Ho2
        go_wp2_with fail
        refine bodyPost_ret (v := .tuple #[.agg #[.slice E0 S.length e0, .slice E1 Q.length e1, .slice E2 P.length e2], .bool false]) (by simp [results, Try.results18, go_sem, m0, m1, m2]) rfl
          ⟨.agg #[.slice E0 S.length e0, .slice E1 Q.length e1, .slice E2 P.length e2], rfl, ArAns.mono (ArAns.store e0 e1 e2 _ _ _ HO.out (fun b hb => ⟨Hl.out b hb, fun e => by have := HO.out.low b hb; omega⟩)) (by omega), below_store Hb9.out (by omega) _ _ _⟩
      · obtain rfl : R = ⟨keepS S k n, Q, P⟩ := by rw [HR.out]; unfold keepA keptA; dsimp only; rw [Hok.out, Hv.out, hk]; rfl
        obtain rfl : r = true := by rw [Hr.out]; unfold keepB keptA; dsimp only; rw [Hok.out, Hv.out, hk]; rfl
        have t0 := HKb8.out.cel 0 (v := .slice U0 (keepS S k n).length u0) rfl
        have t1 := HKb8.out.cel 1 (v := .slice U1 Q.length u1) rfl
        have t2 := HKb8.out.cel 2 (v := .slice U2 P.length u2) rfl
        have m0 := HKR8.out.cel 0 rfl
        have m1 := HKR8.out.cel 1 rfl
        have m2 := HKR8.out.cel 2 rfl
        have z0 : w8.frozen? ⟨w.heap.size + 2, 0, none⟩ = false := HKR8.out.frozen 0
        have z1 : w8.frozen? ⟨w.heap.size + 2, 1, none⟩ = false := HKR8.out.frozen 1
        have z2 : w8.frozen? ⟨w.heap.size + 2, 2, none⟩ = false := HKR8.out.frozen 2
        clear hk
        go_wp2_with fail
        refine bodyPost_ret (v := .tuple #[.agg #[.slice U0 (keepS S k n).length u0, .slice U1 Q.length u1, .slice U2 P.length u2], .bool true]) (by simp [results, Try.results18, go_sem, m0, m1, m2]) rfl
          ⟨.agg #[.slice U0 (keepS S k n).length u0, .slice U1 Q.length u1, .slice U2 P.length u2], rfl, ArAns.mono (ArAns.store u0 u1 u2 _ _ _ HOb8.out (fun b hb => ⟨by have := (Hlb.out b hb).1; omega, fun e => by have := HOb8.out.low b hb; omega⟩)) (by omega), below_store Hb8.out (by omega) _ _ _⟩
end
end Go.Proofs.Ytfmlgpnjckamjaa
