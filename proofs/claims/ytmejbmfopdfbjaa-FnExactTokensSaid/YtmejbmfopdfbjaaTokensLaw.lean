/-
  At every list of bytes Tokens answers as its model, writes into no argument, and its answer shares no memory with an argument or another answer. No condition.
-/
import Derived.Test.YtmejbmfopdfbjaaSpecTokens
import Derived.Test.YtmejbmfopdfbjaaTokHeld
import Derived.Test.YtmejbmfopdfbjaaOpen
namespace Go.Proofs.Ytmejbmfopdfbjaa
open Go.ChangeShapes Go.WideShapes Go.ChangeAt Go.RowKit
set_option linter.unusedVariables false
set_option linter.unusedSimpArgs false

theorem resOf_sz : ∀ (l : List (Tok × Bool)) (acc : List Tok), (resOf l acc).1.length + txts (resOf l acc).1 ≤ acc.length + txts acc + l.length + (l.map fun x => x.1.text.length).sum
  | [], acc => by simp [resOf]
  | (t, ok) :: r, acc => by
    rw [resOf]
    by_cases h : ok = true
    · rw [if_pos h]
      have h1 := resOf_sz r (acc ++ [t])
      have h2 : txts (acc ++ [t]) = txts acc + t.text.length := by unfold txts; rw [List.map_append, List.sum_append]; simp
      rw [h2, List.length_append] at h1
      simp only [List.length_cons, List.length_nil, List.map_cons, List.sum_cons] at h1 ⊢
      omega
    · rw [if_neg h]; simp [txts]
theorem tokRes_sz (b : List UInt8) : (tokRes b).1.length + txts (tokRes b).1 ≤ 4000 := by
  unfold tokRes
  by_cases h : 2000 < b.length
  · rw [if_pos h]; simp [txts]
  · rw [if_neg h]
    have h1 := resOf_sz (scanAt b 0) []
    have h2 := scanL_len b.length b 0 (Nat.le_refl _)
    have h3 : scanAt b 0 = scanL b 0 := rfl
    rw [h3] at h1 ⊢
    simp [txts] at h1 ⊢
    omega
theorem OwnTx.rt {w : World} {lo : Nat} {A : Option Addr} {ts : List Tok} {gs : Nat → Nat} (h : OwnTx w lo A ts gs) (hm : ts.length + txts ts ≤ 1048576) : RT w w.heap.size A ts := fun hn => by
  obtain ⟨g, rfl, h1⟩ := h hn
  exact h1.rt (fun t ht => by
    obtain ⟨i, hi, rfl⟩ := List.mem_iff_getElem.1 ht
    have := txts_get hi
    unfold maxLen; omega) hn
theorem OwnTx.apart {w w' : World} {lo : Nat} {A : Option Addr} {ts : List Tok} {gs : Nat → Nat} (h : OwnTx w lo A ts gs) (hk : ∀ k, lo ≤ k → k < w.heap.size → w'.heap[k]? = w.heap[k]?) : OwnTx w' lo A ts gs := fun hn => by
  obtain ⟨g, e, cs, hb, hlo, hp⟩ := h hn
  refine ⟨g, e, cs, (hk g hlo hb.lt).trans hb, hlo, fun i hi hik => ?_, hp.2⟩
  obtain ⟨h0, h1, h2, v, h3, A2, c2, e2, h4⟩ := hp.1 i hi hik
  refine ⟨h0, h1, h2, v, h3, A2, c2, e2, fun ht => ?_⟩
  obtain ⟨e3, e4, tc, hbt, hx⟩ := h4 ht
  exact ⟨e3, e4, tc, (hk _ e4 hbt.lt).trans hbt, hx⟩
theorem OwnTx.below {w w' : World} {lo : Nat} {A : Option Addr} {ts : List Tok} {gs : Nat → Nat} (h : OwnTx w lo A ts gs) (hb : Below w.heap.size w w') : OwnTx w' lo A ts gs := h.apart fun k _ hk => hb.block k hk

set_option maxHeartbeats 1000000 in
theorem markTok0_c (A : Option Addr) (c k : Nat) (w : World) :
    Calls Try.prog 21 #[.slice A 0 c, .int .i64 k] w fun e w' => e = .returned (.int .i64 k) ∧ w = w' := by
  go_enter Try.func21, Try.ntmps21
  go_wp2
  go_loopw [1, 5] (fun s i wr => i = .int .i64 0 ∧ s = .int .i64 k ∧ wr = w) (fun _ i _ => 0)
  case atStart => exact ⟨rfl, rfl, rfl⟩
  case round =>
    obtain ⟨rfl, rfl, rfl⟩ := hrel
    go_wp2
    go_ret
    exact ⟨rfl, rfl⟩
theorem markTx_c (ts : List Tok) (A : Option Addr) (c lo k : Nat) (gs : Nat → Nat) (w : World) (hl : ts.length + txts ts ≤ 4000) (hk : k ≤ 4294967296) (h : OwnTx w lo A ts gs) :
    Calls Try.prog 21 #[.slice A ts.length c, .int .i64 k] w fun e w' => e = .returned (.int .i64 (kAt ts k ts.length : Nat)) ∧ OwnTx w' lo A (mixT ts k ts.length) gs ∧ Outside lo w.heap.size w w' := by
  by_cases hn : 0 < ts.length
  · obtain ⟨g, rfl, h1⟩ := h hn
    have hlt := h1.lt
    refine (markTokenS_c ts lo g c k gs w (by omega) hk h1 w.heap.size hlt.1 hlt.2).mono ?_
    rintro e w' ⟨rfl, h2, h3⟩
    exact ⟨rfl, fun _ => ⟨g, rfl, h2⟩, h3⟩
  · have hz : ts = [] := List.eq_nil_of_length_eq_zero (by omega)
    subst hz
    refine (markTok0_c A c k w).mono ?_
    rintro e w' ⟨rfl, rfl⟩
    exact ⟨rfl, fun h0 => by simp [mixT] at h0, Outside.refl _ _ _⟩
theorem kAt_le (ts : List Tok) (k : Nat) (h : ts.length + txts ts ≤ 4000) : kAt ts k ts.length ≤ k + 16000 := by
  unfold kAt
  rw [List.take_length]
  omega
theorem mixT_sz (ts : List Tok) (k : Nat) : (mixT ts k ts.length).length + txts (mixT ts k ts.length) = ts.length + txts ts := by
  have h : txts (mixT ts k ts.length) = txts ts := by
    unfold txts
    congr 1
    apply List.ext_getElem (by simp [mixT])
    intro i h1 h2
    have h3 : i < (mixT ts k ts.length).length := by simpa using h1
    rw [List.getElem_map, List.getElem_map]
    exact mixT_tlen h3
  rw [h, mixT_len]

namespace TokensLaw

set_option maxRecDepth 100000 in
set_option maxHeartbeats 4000000 in
theorem walk (l : List UInt8) (A : Option Addr) (c : Nat) (w : World) (hl : l.length ≤ maxLen) (h : RB w w.heap.size A l) :
    Calls Try.prog 4 #[.slice A l.length c] w fun e w' => e = .returned (.bool true) ∧ Below w.heap.size w w' := by
  unfold maxLen at hl
  by_cases hbig : 1048576 < (l.length : Int)
  · go_enter Try.func4, Try.ntmps4
    go_wp2
    go_ret
    exact ⟨rfl, Below.refl _ _⟩
  have hl' : l.length ≤ 4294967296 := by omega
  have hsm : (l.length : Int) ≤ 1048576 := by omega
  have hl1 : l.length ≤ 1048576 := by omega
  have hsz := tokRes_sz l
  obtain ⟨ts, hts⟩ : ∃ ts, (tokRes l).1 = ts := ⟨_, rfl⟩
  obtain ⟨z, hz⟩ : ∃ z, (tokRes l).2 = z := ⟨_, rfl⟩
  have hsp := fun a cp B w hB hcp h => specTokens_c l a cp B w hB hl1 hcp h
  have him := fun a cp B w hB hcp h => implTokens_c l a cp B w hB hl1 hcp h
  rw [hts] at hsz
  simp only [hts, hz] at hsp him
  have Hsp := Lib.hid hsp
  have Him := Lib.hid him
  have hsz2 : ts.length + txts ts ≤ 4294967296 := by omega
  clear hbig hl hsp him hts hz
  go_enter Try.func4, Try.ntmps4
  go_wp2_with fail
  refine (toByteS_c l A c _ _ hl' (Nat.le_refl _) h).mono ?_
  rintro e w1 ⟨g1, rfl, hB1, hg1, hs1, hb1⟩
  go_wp2_with fail
  refine (Hsp.out _ _ w1.heap.size w1 (Nat.le_refl _) (Nat.le_refl _) (RB.of_blk hB1 hs1)).mono ?_
  rintro e w2 ⟨As, cs, gss, rfl, hos, hb2⟩
  have hb02 := hb1.trans (hb2.mono hb1.size)
  have Rs := hos.rt (by omega)
  go_wp2_with fail
  refine (toByteS_c l A c _ _ hl' hb02.size (h.below hb02)).mono ?_
  rintro e w3 ⟨g3, rfl, hB3, hg3, hs3, hb3⟩
  have hb03 := hb02.trans (hb3.mono hb02.size)
  go_wp2_with fail
  refine (Him.out _ _ w3.heap.size w3 (Nat.le_refl _) (Nat.le_refl _) (RB.of_blk hB3 hs3)).mono ?_
  rintro e w4 ⟨Ag, cg, gsg, rfl, hog, hb4⟩
  have hb04 := hb03.trans (hb4.mono hb03.size)
  have hb24 := hb3.trans (hb4.mono hb3.size)
  have hq1 := eqTokenS_c ts Ag As cg cs _ _ w4 (Nat.le_refl _) hb24.size hsz2 (hog.rt (by omega)) (Rs.below hb24)
  have Hq1 := Lib.hid hq1
  have Hog := Lib.hid hog
  have HRs := Lib.hid Rs
  clear hq1 hos hog Rs hB1
  go_wp2_with fail
  refine Hq1.out.mono ?_
  rintro e w5 ⟨rfl, hb5⟩
  have hb05 := hb04.trans (hb5.mono hb04.size)
  have hb25 := hb24.trans (hb5.mono hb24.size)
  have hs34 := hb4.size
  have hs45 := hb5.size
  have hB5 := (hB3.below hb4 hs3).below hb5 (by omega)
  have hs23 := hb3.size
  have hog5 := Hog.out.below hb5
  go_wp2_with fail
  refine (toByteS_c l A c _ _ hl' hb05.size (h.below hb05)).mono ?_
  rintro e w6 ⟨g6, rfl, hB6, hg6, hs6, hb6⟩
  have hb06 := hb05.trans (hb6.mono hb05.size)
  have hs56 := hb6.size
  have hB66 := hB5.below hb6 (by omega)
  have hog6 := hog5.below hb6
  have hb26 := hb25.trans (hb6.mono hb25.size)
  have He2 := Lib.hid (eqByteS_c l _ _ l.length l.length _ _ w6 hl' (RB.of_blk hB66 (by omega : g3 < w6.heap.size)) (RB.of_blk hB6 hs6))
  have Hog6 := Lib.hid hog6
  have Hb06 := Lib.hid hb06
  have Hb26 := Lib.hid hb26
  have HB66 := Lib.hid hB66
  clear hog5 hog6 hB5 hB6 Hq1 hb06 hb26 hB66
  go_wp2_with fail
  refine He2.out.mono ?_
  rintro e w' ⟨rfl, n, rfl⟩
  have Hmk := Lib.hid (markByteS_i (some ⟨g3, 0, none⟩) g3 l.length l.length 1 1 (vb l).toArray (w6.drewN n) rfl hl' (by omega) (fun _ => ⟨rfl, HB66.out, by simp [vb]⟩))
  clear He2
  go_wp2_with fail
  refine Hmk.out.mono ?_
  rintro e w7 ⟨rfl, ho7, _⟩
  have hs7 : w7.heap.size = w6.heap.size := ho7.size
  have hog7 : OwnTx w7 w3.heap.size Ag ts gsg := Hog6.out.apart fun k hk hkl => ho7.block k (by omega)
  have hb67 : Below w2.heap.size w6 w7 := by
    have h1 := ho7.below (B := w2.heap.size) hg3
    exact ⟨h1.os, h1.tape, h1.output, h1.size, h1.block⟩
  have hb27 := Hb26.out.trans hb67
  have hb07 := Hb06.out.trans (hb67.mono hb02.size)
  obtain ⟨u, hu⟩ : ∃ u : Nat, 1 + l.length = u := ⟨_, rfl⟩
  rw [hu]
  have hu0 : decide ((u : Int) < 0) = false := decide_eq_false (by omega)
  have Hq2 := Lib.hid (eqTokenS_c ts Ag As cg cs _ _ w7 (Nat.le_refl _) hb27.size hsz2 (hog7.rt (by omega)) (HRs.out.below hb27))
  have Hog7 := Lib.hid hog7
  have Hb27 := Lib.hid hb27
  have Hb07 := Lib.hid hb07
  clear Hmk hu ho7 hog7 hb67 hb27 hb07
  go_wp2_with fail
  refine Hq2.out.mono ?_
  rintro e w8 ⟨rfl, hb8⟩
  have hs78 := hb8.size
  have hog8 := Hog7.out.below hb8
  have Hm := Lib.hid (markTx_c ts Ag cg w3.heap.size 1 gsg w8 hsz (by omega) hog8)
  have Hb28 := Lib.hid (Hb27.out.trans (hb8.mono Hb27.out.size))
  have Hb08 := Lib.hid (Hb07.out.trans (hb8.mono Hb07.out.size))
  clear Hq2 hog8 hb8
  go_wp2_with fail
  refine Hm.out.mono ?_
  rintro e w9 ⟨rfl, hog9, hout⟩
  have hb89 := hout.below
  have hb29 := Hb28.out.trans (hb89.mono hs23)
  have hb09 := Hb08.out.trans (hb89.mono (Nat.le_trans hb02.size hs23))
  obtain ⟨m, hm⟩ : ∃ m : Nat, kAt ts 1 ts.length = m := ⟨_, rfl⟩
  have hmle := kAt_le ts 1 hsz
  have Hh := Lib.hid (fun W (hx : OwnTx W w3.heap.size Ag (mixT ts 1 ts.length) gsg) => heldTokenS_c ts W.heap.size cg 1 Ag W hsz2 (by omega) (hx.rt (by rw [mixT_sz]; omega)))
  rw [hm] at Hh hmle
  rw [hm]
  have hm0 : decide ((m : Int) < 0) = false := decide_eq_false (by omega)
  have Hog9 := Lib.hid hog9
  have Hb29 := Lib.hid hb29
  have Hb09 := Lib.hid hb09
  have Ht := Lib.hid (toByteS_c l A c _ w9 hl' hb09.size (h.below hb09))
  clear Hm hog9 hout hb89 hb29 hb09 hm
  go_wp2_with fail
  refine (Hh.out w9 Hog9.out).mono ?_
  rintro e w' ⟨rfl, rfl⟩
  go_wp2_with fail
  refine Ht.out.mono ?_
  rintro e w10 ⟨g10, rfl, hB10, hg10, hs10, hb10⟩
  go_wp2_with fail
  refine (Him.out _ _ w10.heap.size w10 (Nat.le_refl _) (Nat.le_refl _) (RB.of_blk hB10 hs10)).mono ?_
  rintro e w11 ⟨Ah, ch, gsh, rfl, hoh, hb11⟩
  have hbx := hb10.trans (hb11.mono hb10.size)
  have hb2x := Hb29.out.trans (hbx.mono Hb29.out.size)
  have Hq3 := Lib.hid (eqTokenS_c ts Ah As ch cs _ _ w11 (Nat.le_refl _) hb2x.size hsz2 (hoh.rt (by omega)) (HRs.out.below hb2x))
  have Hbx := Lib.hid hbx
  clear hoh hbx hb2x hb10 hb11 Ht
  go_wp2_with fail
  refine Hq3.out.mono ?_
  rintro e w12 ⟨rfl, hb12⟩
  have hbf := Hbx.out.trans (hb12.mono Hbx.out.size)
  have hogf := Hog9.out.below hbf
  have Hh2 := Lib.hid (Hh.out w12 hogf)
  have Hb0f := Lib.hid (Hb09.out.trans (hbf.mono Hb09.out.size))
  clear Hq3 hbf hogf hb12
  go_wp2_with fail
  refine Hh2.out.mono ?_
  rintro e w' ⟨rfl, rfl⟩
  go_wp2
  go_ret
  exact ⟨rfl, Hb0f.out⟩

set_option maxRecDepth 100000 in
theorem lifted (os : Os) (started : os.Started) (H : Type) (enc : TypeId × Value → H) :
    ReturnsInHanded {} Try.checked os 4 .any (Rows.fnExactTokensSpec.pre6 enc Try.prog Try.f4 Rows.fnExactTokensRow.domain false) (Rows.fnExactTokensSpec.post enc Try.prog Try.f4 false true false false) := by
  refine returnsInHanded_of_change (C := Try.checked) (s := Rows.fnExactTokensSpec) own started (by kernel_rfl) Try.func4
    (ChangeSpec.witness6 (enc := enc) (C := Try.checked) (s := Rows.fnExactTokensSpec) false ⟨#[], #[.slice none 0 0], []⟩ 8 (by kernel_rfl) (by kernel_rfl) (by kernel_rfl) (by kernel_rfl)) ?_
  intro W base args ds gs before hval hW _ _
  have hW' := hW
  obtain ⟨p, q, hA0, hV, rfl, hfz, hnd⟩ := hW
  have hA : DataW.TrodAll enc Try.prog W 0 (fun _ => true) true Try.f4.params.toList args.toList ds p := hA0
  replace hval : ∀ (j : Nat) t v, Try.f4.params[j]? = some t → args[j]? = some v → Value.okWide Try.prog W .any base t v := hval
  rw [Try.params4] at hA hval
  obtain ⟨v0, vs0, d0, ds0, p0, q0, hargs, rfl, rfl, h0, r0⟩ := trodAll_cons hA
  obtain ⟨rfl, rfl, rfl⟩ := trodAll_nil r0
  obtain rfl : args = #[v0] := by cases args; simp_all
  obtain ⟨rfl, rfl⟩ := trodVars_none hV
  obtain ⟨A, l, c, rfl, hl, hR⟩ := open_bytes Try.underlying22 Try.underlying5 cellsU8 (hval 0 22 v0 rfl rfl) h0
  refine (walk l A c W hl hR).mono fun e W' ⟨he, hb⟩ => ?_
  subst he
  exact ⟨_, rfl, post_read hW' rfl rfl rfl rfl rfl Try.underlying4 laidOut (by kernel_rfl) hb⟩

theorem proved : Rows.FnExactTokensSaid :=
  OpenClaim.holds_of_wide 4 Try.f4 rfl rfl rfl rfl rfl rfl rfl ⟨rfl, rfl, rfl, rfl, rfl⟩ rfl rfl rfl rfl rfl (by kernel_rfl) Try.func4 (by kernel_rfl)
    (of_decide_eq_true (by kernel_rfl)) (by unfold Func.isWrapper; first | (rw [if_pos (by decide +kernel)]; kernel_rfl) | (rw [if_neg (by decide +kernel)]; exact ⟨rfl, rfl⟩))
    (fun os started H enc _ => lifted os started H enc)
end TokensLaw
end Go.Proofs.Ytmejbmfopdfbjaa
