/-
  Marks over functions and programs.
-/
import Derived.Test.YtmejbmfopdfbjaaMarkProg
namespace Go.Proofs.Ytmejbmfopdfbjaa
open Go.RowKit Go.Shelf
set_option linter.unusedVariables false

def mkBs (l : List (List UInt8)) : Nat := (l.map List.length).sum
theorem mkBs_step {l : List (List UInt8)} {k : Nat} (hk : k < l.length) : mkBs (l.take (k + 1)) = mkBs (l.take k) + l[k].length := by
  unfold mkBs
  rw [List.take_succ_eq_append_getElem hk, List.map_append, List.sum_append]
  simp
theorem mkBs_get {l : List (List UInt8)} {k : Nat} (hk : k < l.length) : mkBs (l.take k) + l[k].length ≤ mkBs l := by
  rw [← mkBs_step hk]
  conv => rhs; rw [← List.take_append_drop (k + 1) l]
  unfold mkBs
  rw [List.map_append, List.sum_append]
  omega
theorem BsL.marked {L B : Nat} {w w' : World} {A : Option Addr} {l : List (List UInt8)} (hm : Mk L B w w') (h : BsL w L B A l) : ∃ l' : List (List UInt8), l'.length = l.length ∧ BsL w' L B A l' ∧ ∀ i (hi : i < l.length) (hi' : i < l'.length), l'[i].length = l[i].length := by
  by_cases hn : 0 < l.length
  · obtain ⟨ad, eA, hL, hb, hs⟩ := h.2 hn
    have each : ∀ i, i < l.length → ∃ e' : List UInt8, ∃ (hi : i < l.length), (∃ A' c, w'.cell? (ad.add i) = some (.slice A' e'.length c) ∧ RBL w' L B A' e' ∧ e'.length ≤ maxLen) ∧ e'.length = l[i].length := fun i hi => by
      obtain ⟨A', c, h4, hR, hmx⟩ := hs i hi
      obtain ⟨e', hl, hR'⟩ := hR.mk_ hm
      exact ⟨e', hi, ⟨A', c, by rw [hl]; exact (hm.cell _).slice h4, hR', by rw [hl]; exact hmx⟩, hl⟩
    let f : Fin l.length → List UInt8 := fun i => Classical.choose (each i.1 i.2)
    have hfl : (List.ofFn f).length = l.length := by simp
    have hget : ∀ i (hi : i < l.length) (hi' : i < (List.ofFn f).length), (List.ofFn f)[i] = f ⟨i, hi⟩ := fun i hi hi' => by simp
    refine ⟨List.ofFn f, hfl, ⟨by rw [hfl]; exact h.1, fun _ => ⟨ad, eA, hL, hb, fun i hi' => ?_⟩⟩, fun i hi hi' => ?_⟩
    · have hi : i < l.length := by rw [← hfl]; exact hi'
      rw [hget i hi hi']
      obtain ⟨_, h1, _⟩ := Classical.choose_spec (each i hi)
      exact h1
    · rw [hget i hi hi']
      obtain ⟨_, _, h2⟩ := Classical.choose_spec (each i hi)
      exact h2
  · have h0 : l = [] := by cases l with | nil => rfl | cons x r => simp at hn
    subst h0
    exact ⟨[], rfl, ⟨h.1, fun hp => by simp at hp⟩, fun i hi => by simp at hi⟩
theorem mkBs_eq {l l' : List (List UInt8)} (hl : l'.length = l.length) (h : ∀ i (hi : i < l.length) (hi' : i < l'.length), l'[i].length = l[i].length) : mkBs l' = mkBs l := by
  unfold mkBs
  congr 1
  refine List.ext_getElem (by simp [hl]) fun i h1 h2 => ?_
  simp only [List.length_map] at h1 h2
  simpa using h i h2 h1

set_option maxHeartbeats 2000000 in
theorem markByteSS_c (l : List (List UInt8)) (A : Option Addr) (c L B k : Nat) (ki : Int) (w : World) (hki : ki = (k : Nat)) (hsz : k + mkBs l ≤ 1073741824) (hT : Thaw L B w) (h : BsL w L B A l) :
    Calls Try.prog 13 #[.slice A l.length c, .int .i64 ki] w fun r w' => r = .returned (.int .i64 ((k + mkBs l : Nat) : Int)) ∧ Mk L B w w' ∧ Thaw L B w' := by
  subst hki
  have hn := h.1
  unfold maxLen at hn
  go_enter Try.func13, Try.ntmps13
  go_wp2
  go_loopw [1, 5] (fun s i wr => ∃ (m q : Nat), m ≤ l.length ∧ i = .int .i64 m ∧ s = .int .i64 (q : Int) ∧ Hid (q = k + mkBs (l.take m)) ∧ Mk L B w wr ∧ Thaw L B wr) (fun _ i _ => l.length - (intOf i).toNat)
  case atStart => exact ⟨0, k, Nat.zero_le _, rfl, rfl, Lib.hid (by simp [mkBs]), Mk.refl _ _ _, hT⟩
  case round =>
    obtain ⟨m, q, hm, rfl, rfl, Hq, hmk, hTr⟩ := hrel
    by_cases hlt : m < l.length
    · obtain ⟨ad, rfl, hL, hb, hat⟩ := h.2 (by omega)
      obtain ⟨A', c', h4, hR, hmx⟩ := hat m hlt
      have h4' := (hmk.cell _).slice h4
      obtain ⟨nm, hnl, hR'⟩ := hR.mk_ hmk
      have hget := mkBs_get hlt
      have hstep := mkBs_step hlt
      have hqb : q + l[m].length ≤ 1073741824 := by have := Hq.out; omega
      have hc := markByteS_i nm A' c' L B q (q : Int) wr rfl (by omega) (by omega) hTr hR'
      rw [hnl] at hc
      have Hc := Lib.hid hc
      have Hs := Lib.hid hstep
      clear hc hat h4 hstep hget hR hR'
      go_wp2_with fail
      refine Hc.out.mono ?_
      rintro r w2 ⟨rfl, m2, T2⟩
      obtain ⟨u, hu⟩ : ∃ u : Nat, q + l[m].length = u := ⟨_, rfl⟩
      rw [hu]
      have U := Lib.hid hu
      clear hu h4'
      go_wp2
      go_roundw
      case rel => exact ⟨m + 1, u, by omega, by go_num, rfl, Lib.hid (by have h1 := Hq.out; have h2 := Hs.out; have h3 := U.out; omega), hmk.trans m2, T2⟩
      case measure => simp [intOf]; omega
    · go_wp2
      go_ret
      have hml : m = l.length := by omega
      have h0 := Hq.out
      rw [hml, List.take_length] at h0
      exact ⟨by rw [h0]; rfl, hmk, hTr⟩

def mkFn (f : Fn) : Nat := f.name.length + mkBs f.params + mkSts f.body
def mkFns (l : List Fn) : Nat := (l.map mkFn).sum
theorem mkFns_step {l : List Fn} {k : Nat} (hk : k < l.length) : mkFns (l.take (k + 1)) = mkFns (l.take k) + mkFn l[k] := by
  unfold mkFns
  rw [List.take_succ_eq_append_getElem hk, List.map_append, List.sum_append]
  simp
theorem mkFns_get {l : List Fn} {k : Nat} (hk : k < l.length) : mkFns (l.take k) + mkFn l[k] ≤ mkFns l := by
  rw [← mkFns_step hk]
  conv => rhs; rw [← List.take_append_drop (k + 1) l]
  unfold mkFns
  rw [List.map_append, List.sum_append]
  omega

set_option maxHeartbeats 4000000 in
theorem markFuncS_c (l : List Fn) (A : Option Addr) (c L B k : Nat) (ki : Int) (w : World) (hki : ki = (k : Nat)) (hsz : k + mkFns l ≤ 1073741824) (hT : Thaw L B w) (h : FnL w L B A l) :
    Calls Try.prog 52 #[.slice A l.length c, .int .i64 ki] w fun r w' => r = .returned (.int .i64 ((k + mkFns l : Nat) : Int)) ∧ Mk L B w w' ∧ Thaw L B w' := by
  subst hki
  have hn := h.1
  unfold maxLen at hn
  go_enter Try.func52, Try.ntmps52
  go_wp2
  go_loopw [1, 5] (fun s i wr => ∃ (m q : Nat), m ≤ l.length ∧ i = .int .i64 m ∧ s = .int .i64 (q : Int) ∧ Hid (q = k + mkFns (l.take m)) ∧ Mk L B w wr ∧ Thaw L B wr) (fun _ i _ => l.length - (intOf i).toNat)
  case atStart => exact ⟨0, k, Nat.zero_le _, rfl, rfl, Lib.hid (by simp [mkFns]), Mk.refl _ _ _, hT⟩
  case round =>
    obtain ⟨m, q, hm, rfl, rfl, Hq, hmk, hTr⟩ := hrel
    by_cases hlt : m < l.length
    · obtain ⟨ad, rfl, hL, hb, hat⟩ := h.2 (by omega)
      obtain ⟨v0, v1, v2, ⟨c0, c1, c2⟩, hv⟩ := hat m hlt
      obtain ⟨fA, fc, fA1, fc1, fA2, fc2, rfl, rfl, rfl, fR, fm, fp, fb, fcp⟩ := hv
      have hget := mkFns_get hlt
      have hstep := mkFns_step hlt
      unfold mkFn at hget hstep
      have hqb : q + (l[m].name.length + mkBs l[m].params + mkSts l[m].body) ≤ 1073741824 := by have := Hq.out; omega
      have d0 := (hmk.cell _).slice c0
      obtain ⟨nm, hnl, hR'⟩ := fR.mk_ hmk
      have hc := markByteS_i nm fA fc L B q (q : Int) wr rfl (by omega) (by omega) hTr hR'
      rw [hnl] at hc
      have Hc := Lib.hid hc
      have Hs := Lib.hid hstep
      have Qb := Lib.hid hqb
      have C := Lib.hid (And.intro c1 c2)
      have Fp := Lib.hid fp
      have Fb := Lib.hid fb
      have hqk : q ≤ 1073741824 ∧ l[m].name.length ≤ 1073741824 := by omega
      have hqk1 := hqk.1
      have hqk2 := hqk.2
      clear hc hat hstep hget fR hR' c0 c1 c2 fp fb hqb hqk
      go_wp2_with fail
      refine Hc.out.mono ?_
      rintro r w1 ⟨rfl, m1, T1⟩
      obtain ⟨u1, hu1⟩ : ∃ u : Nat, q + l[m].name.length = u := ⟨_, rfl⟩
      rw [hu1]
      have U1 := Lib.hid hu1
      have hub1 : u1 ≤ 1073741824 := by have := Qb.out; omega
      have M1 := Lib.hid (hmk.trans m1)
      have d1 := (M1.out.cell _).slice C.out.1
      obtain ⟨ps, hpl, hP', hps⟩ := BsL.marked M1.out Fp.out
      have hps2 := mkBs_eq hpl hps
      have hc := markByteSS_c ps fA1 fc1 L B u1 (u1 : Int) w1 rfl (by have := Qb.out; have := U1.out; omega) T1 hP'
      rw [hpl, hps2] at hc
      have Hc2 := Lib.hid hc
      clear hc hps hps2 hP' Hc d0 hu1 m1
      go_wp2_with fail
      refine Hc2.out.mono ?_
      rintro r w2 ⟨rfl, m2, T2⟩
      obtain ⟨u2, hu2⟩ : ∃ u : Nat, u1 + mkBs l[m].params = u := ⟨_, rfl⟩
      rw [hu2]
      have U2 := Lib.hid hu2
      have hub2 : u2 ≤ 1073741824 := by have := Qb.out; have := U1.out; omega
      have M2 := Lib.hid (M1.out.trans m2)
      have d2 := (M2.out.cell _).slice C.out.2
      obtain ⟨bs, hbl, hB', hbs⟩ := StL.marked M2.out Fb.out
      have hbs2 := mkSts_eq hbl hbs
      have hc := markStS_c bs fA2 fc2 L B u2 (u2 : Int) w2 rfl (by have := Qb.out; have := U1.out; have := U2.out; omega) T2 hB'
      rw [hbl, hbs2] at hc
      have Hc3 := Lib.hid hc
      clear hc hbs hbs2 hB' Hc2 d1 hu2 m2
      go_wp2_with fail
      refine Hc3.out.mono ?_
      rintro r w3 ⟨rfl, m3, T3⟩
      obtain ⟨u3, hu3⟩ : ∃ u : Nat, u2 + mkSts l[m].body = u := ⟨_, rfl⟩
      rw [hu3]
      have U3 := Lib.hid hu3
      have hub3 : u3 ≤ 1073741824 := by have := Qb.out; have := U1.out; have := U2.out; omega
      have M3 := Lib.hid (M2.out.trans m3)
      clear Hc3 d2 hu3 m3
      go_wp2
      go_roundw
      case rel => exact ⟨m + 1, u3, by omega, by go_num, rfl, Lib.hid (by have h1 := Hq.out; have h2 := Hs.out; have h3 := U1.out; have h4 := U2.out; have h5 := U3.out; omega), M3.out, T3⟩
      case measure => simp [intOf]; omega
    · go_wp2
      go_ret
      have hml : m = l.length := by omega
      have h0 := Hq.out
      rw [hml, List.take_length] at h0
      exact ⟨by rw [h0]; rfl, hmk, hTr⟩

set_option maxHeartbeats 4000000 in
/-- a function's copy is marked: nothing else is touched -/
theorem markFunc_c (f : Fn) (v0 v1 v2 : Value) (L B k : Nat) (w : World) (hB : B ≤ w.heap.size) (hsz : k + mkFn f ≤ 1073741824) (hT : Thaw L B w) (h : FnV w L B v0 v1 v2 f) :
    Calls Try.prog 12 #[.agg #[v0, v1, v2], .int .i64 (k : Int)] w fun r w' => r = .returned (.int .i64 ((k + mkFn f : Nat) : Int)) ∧ Mk L B (w.alloc (.cells #[v0, v1, v2] 31)) w' := by
  obtain ⟨fA, fc, fA1, fc1, fA2, fc2, rfl, rfl, rfl, fR, fm, fp, fb, fcp⟩ := h
  obtain ⟨V, hV⟩ : ∃ V, w.alloc (.cells #[.slice fA f.name.length fc, .slice fA1 f.params.length fc1, .slice fA2 f.body.length fc2] 31) = V := ⟨_, rfl⟩
  have hb0 : Below w.heap.size w V := by rw [← hV]; exact (Below.refl _ _).alloc (Nat.le_refl _) _
  have T0 : Thaw L B V := fun q h1 h2 => by
    obtain ⟨cs, t, e⟩ := hT q h1 h2
    exact ⟨cs, t, (hb0.block q (by omega)).trans e⟩
  have KF : Blk V w.heap.size 31 #[.slice fA f.name.length fc, .slice fA1 f.params.length fc1, .slice fA2 f.body.length fc2] := by rw [← hV]; exact Blk.new w _ _
  unfold mkFn at hsz ⊢
  have c0 := KF.cell_of 0 (v := .slice fA f.name.length fc) rfl
  have fR0 := fR.below (hb0.mono hB)
  have fp0 := fp.below (hb0.mono hB)
  have fb0 := fb.below (hb0.mono hB)
  have hc := markByteS_i f.name fA fc L B k (k : Int) V rfl (by omega) (by omega) T0 fR0
  have Hc := Lib.hid hc
  have Fp := Lib.hid fp0
  have Fb := Lib.hid fb0
  have hk1 : k ≤ 1073741824 := by omega
  have hk2 : f.name.length ≤ 1073741824 := by omega
  have Hsz := Lib.hid hsz
  have K := Lib.hid KF
  clear hc fR fR0 fp fp0 fb fb0 hsz KF T0 hT hb0
  subst hV
  go_enter Try.func12, Try.ntmps12
  go_wp2_with fail
  refine Hc.out.mono ?_
  rintro r w1 ⟨rfl, m1, T1⟩
  obtain ⟨u1, hu1⟩ : ∃ u : Nat, k + f.name.length = u := ⟨_, rfl⟩
  rw [hu1]
  have U1 := Lib.hid hu1
  have hub1 : u1 ≤ 1073741824 := by have := Hsz.out; omega
  have M1 := Lib.hid m1
  have d1 := (m1.cell _).slice (K.out.cell_of 1 (v := .slice fA1 f.params.length fc1) rfl)
  obtain ⟨ps, hpl, hP', hps⟩ := BsL.marked m1 Fp.out
  have hps2 := mkBs_eq hpl hps
  have hc := markByteSS_c ps fA1 fc1 L B u1 (u1 : Int) w1 rfl (by have := Hsz.out; have := U1.out; omega) T1 hP'
  rw [hpl, hps2] at hc
  have Hc2 := Lib.hid hc
  clear hc hps hps2 hP' Hc c0 hu1 m1
  go_wp2_with fail
  refine Hc2.out.mono ?_
  rintro r w2 ⟨rfl, m2, T2⟩
  obtain ⟨u2, hu2⟩ : ∃ u : Nat, u1 + mkBs f.params = u := ⟨_, rfl⟩
  rw [hu2]
  have U2 := Lib.hid hu2
  have hub2 : u2 ≤ 1073741824 := by have := Hsz.out; have := U1.out; omega
  have M2 := Lib.hid (M1.out.trans m2)
  have d2 := (M2.out.cell _).slice (K.out.cell_of 2 (v := .slice fA2 f.body.length fc2) rfl)
  obtain ⟨bs, hbl, hB', hbs⟩ := StL.marked M2.out Fb.out
  have hbs2 := mkSts_eq hbl hbs
  have hc := markStS_c bs fA2 fc2 L B u2 (u2 : Int) w2 rfl (by have := Hsz.out; have := U1.out; have := U2.out; omega) T2 hB'
  rw [hbl, hbs2] at hc
  have Hc3 := Lib.hid hc
  clear hc hbs hbs2 hB' Hc2 d1 hu2 m2
  go_wp2_with fail
  refine Hc3.out.mono ?_
  rintro r w3 ⟨rfl, m3, T3⟩
  have M3 := Lib.hid (M2.out.trans m3)
  have e3 : u2 + mkSts f.body = k + (f.name.length + mkBs f.params + mkSts f.body) := by have := U1.out; have := U2.out; omega
  rw [e3]
  clear Hc3 d2 m3 e3
  go_wp2
  go_ret
  exact ⟨rfl, M3.out⟩

set_option maxHeartbeats 1000000 in
/-- a program's copy is marked: nothing else is touched -/
theorem markProg_c (l : List Fn) (A : Option Addr) (c L B k : Nat) (w : World) (hB : B ≤ w.heap.size) (hsz : k + mkFns l ≤ 1073741824) (hT : Thaw L B w) (h : FnL w L B A l) :
    Calls Try.prog 28 #[.agg #[.slice A l.length c], .int .i64 (k : Int)] w fun r w' => r = .returned (.int .i64 ((k + mkFns l : Nat) : Int)) ∧ Mk L B (w.alloc (.cells #[.slice A l.length c] 54)) w' := by
  have hb0 : Below w.heap.size w (w.alloc (.cells #[.slice A l.length c] 54)) := (Below.refl _ _).alloc (Nat.le_refl _) _
  have T0 : Thaw L B (w.alloc (.cells #[.slice A l.length c] 54)) := fun q h1 h2 => by
    obtain ⟨cs, t, e⟩ := hT q h1 h2
    exact ⟨cs, t, (hb0.block q (by omega)).trans e⟩
  have hc := markFuncS_c l A c L B k (k : Int) _ rfl hsz T0 (h.below (hb0.mono hB))
  have Hc := Lib.hid hc
  clear hc h
  go_enter Try.func28, Try.ntmps28
  go_wp2_with fail
  refine Hc.out.mono ?_
  rintro r w1 ⟨rfl, m1, T1⟩
  go_wp2
  go_ret
  exact ⟨rfl, m1⟩
end Go.Proofs.Ytmejbmfopdfbjaa
