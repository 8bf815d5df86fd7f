/-
  The model's Calls of a function: names each once, then each copied.
-/
import Derived.Test.YtmejbmfopdfbjaaOwnRow
import Derived.Test.YtmejbmfopdfbjaaImplCallsOf
import Derived.Test.YtmejbmfopdfbjaaSpecCalls
import Derived.Test.YtmejbmfopdfbjaaSpecFormAll
namespace Go.Proofs.Ytmejbmfopdfbjaa
open Go.RowKit Go.Shelf
set_option linter.unusedVariables false

theorem exsSz_part : ∀ {l : List Ex} {k : Nat} (hk : k < l.length), exsSz (l.take k) + 1 + exSz l[k] ≤ exsSz l
  | [], k, hk => by simp at hk
  | e :: r, 0, hk => by simp [exsSz] <;> omega
  | e :: r, k + 1, hk => by
    have := exsSz_part (l := r) (k := k) (by simpa using hk)
    simp only [List.take_succ_cons, exsSz, List.getElem_cons_succ]
    omega
theorem stsSz_part : ∀ {l : List St} {k : Nat} (hk : k < l.length), stsSz (l.take k) + 1 + stSz l[k] ≤ stsSz l
  | [], k, hk => by simp at hk
  | e :: r, 0, hk => by simp [stsSz] <;> omega
  | e :: r, k + 1, hk => by
    have := stsSz_part (l := r) (k := k) (by simpa using hk)
    simp only [List.take_succ_cons, stsSz, List.getElem_cons_succ]
    omega
theorem not_NmT_Ex : ¬ NmT 73 := by rintro (h | h) <;> exact absurd h (by decide)
theorem not_NmT_Fn : ¬ NmT 31 := by rintro (h | h) <;> exact absurd h (by decide)
theorem NmRow.kb1 {w w' : World} {n lo : Nat} {v : Value} {l : List (List UInt8)} (h : NmRow w n lo v l) (hg : w.grownBy w' v.ownBlock) : KB lo 0 NmT w w' := by
  obtain ⟨_, A, c, xs, hv, hown, _⟩ := h
  exact KB.grown hown (Nat.le_refl _) hg

theorem callsL_ex_len (l : List (List UInt8)) (e : Ex) : (callsL l (flatEx e)).length ≤ l.length + exSz e + 1 := by
  have h1 := callsL_len (flatEx e) l
  have h2 := flatEx_len e
  omega
theorem callsL_exs_len (l : List (List UInt8)) (es : List Ex) : (callsL l (flatExs es)).length ≤ l.length + exsSz es := by
  have h1 := callsL_len (flatExs es) l
  have h2 := flatExs_len es
  omega
theorem callsL_sts_len (l : List (List UInt8)) (ss : List St) : (callsL l (stsEx (flatSts ss))).length ≤ l.length + 2 * stsSz ss := by
  have h1 := callsL_len (stsEx (flatSts ss)) l
  have h2 := stsEx_len ss
  omega
theorem callsL_mk (l : List (List UInt8)) (k n : Int) (name : List UInt8) (args : List Ex) : callsL l (flatEx (.mk k n name args)) = callsL (callN l (.mk k n name args)) (flatExs args) := by rw [flatEx_mk]; rfl

def CaE (e : Ex) : Prop := ∀ (v0 v1 v2 v3 v : Value) (l : List (List UInt8)) (L B lo : Nat) (w : World), B ≤ lo → lo ≤ w.heap.size → l.length + exSz e + 1 ≤ 4194304 → exSz e ≤ 1048576 → ExV w L B v0 v1 v2 v3 e → NmRow w B lo v l →
  Calls Try.prog 55 #[v, .agg #[v0, v1, v2, v3]] w fun r w' => ∃ v', r = .returned v' ∧ NmRow w' B lo v' (callsL l (flatEx e)) ∧ KB lo 0 NmT w w'

set_option maxRecDepth 100000 in
set_option maxHeartbeats 8000000 in
theorem callsEx_of (k n : Int) (name : List UInt8) (args : List Ex) (ih : ∀ e ∈ args, CaE e) : CaE (.mk k n name args) := by
  intro v0 v1 v2 v3 v l L B lo w hBlo hlo hlen hsz h hrow0
  obtain ⟨A, c, A', c', rfl, rfl, rfl, rfl, hR, hm, hx⟩ := h.open_
  have hn := hx.1
  unfold maxLen at hn
  rw [exSz_mk] at hsz hlen
  have hnz : name.length ≤ 1048576 := by omega
  have hb0 : Below w.heap.size w (w.alloc (.cells #[.int .i64 k, .int .i64 n, .slice A name.length c, .slice A' args.length c'] 73)) := (Below.refl _ _).alloc (Nat.le_refl _) _
  have KE := Blk.new w 73 #[.int .i64 k, .int .i64 n, .slice A name.length c, .slice A' args.length c']
  have hrow1 := hrow0.below hb0
  have hR1 := hR.1.below (hb0.mono (Nat.le_trans hBlo hlo))
  have hmk := callsL_mk l k n name args
  have Hmk := Lib.hid hmk
  have Ih := Lib.hid ih
  obtain ⟨i0, hi, hz0, hz1, hz2⟩ := info_parts infoBs
  clear ih h hmk hrow0
  by_cases h5 : k = 5
  · subst h5
    have hcN := callN_call l n name args
    obtain ⟨Ak, ck, rfl, hck, hckm, hbs⟩ := hrow1.bsl
    have hxa := l2at_c l name Ak A ck c 0 (w.alloc (.cells #[.int .i64 5, .int .i64 n, .slice A name.length c, .slice A' args.length c'] 73)).heap.size B (w.alloc (.cells #[.int .i64 5, .int .i64 n, .slice A name.length c, .slice A' args.length c'] 73)) (Nat.le_refl _) (by simp; omega) hbs hR1
    have hpl := place_le l name
    have Hxa := Lib.hid hxa
    have HL1 : Hid (l.length ≤ 4194304) := Lib.hid (by omega)
    by_cases hp : 0 ≤ placeOf l name
    · have hw : withN l name = l := by unfold withN; rw [if_pos hp]
      have Hfin := Lib.hid (show callsL l (flatEx (.mk 5 n name args)) = callsL l (flatExs args) by rw [Hmk.out, hcN, hw])
      have Row0 := Lib.hid hrow1
      have Ke0 := Lib.hid KE
      clear hxa hbs hrow1 KE hw hcN hR hR1 hpl
      go_enter Try.func55, Try.ntmps55
      go_wp2_with fail
      refine Hxa.out.mono ?_
      rintro r w2 ⟨rfl, hb2⟩
      have hs2 := hb2.size
      have Row1 := Lib.hid (show NmRow w2 B lo _ (callsL l (flatExs (args.take 0))) from Row0.out.below hb2)
      have Kb1 := Lib.hid ((KB.of hb0 lo 0 NmT).trans (KB.of hb2 lo 0 NmT))
      have Ke1 := Lib.hid (Ke0.out.below hb2 Ke0.out.lt)
      clear Hxa hb2
      go_wp2
      go_loopw [0, 5] (fun s i wr => ∃ j : Nat, j ≤ args.length ∧ i = .int .i64 j ∧ NmRow wr B lo s (callsL l (flatExs (args.take j))) ∧ KB lo 0 NmT w wr ∧ Blk wr w.heap.size 73 #[.int .i64 5, .int .i64 n, .slice A name.length c, .slice A' args.length c']) (fun _ i _ => args.length - (intOf i).toNat)
      case atStart => exact ⟨0, Nat.zero_le _, rfl, Row1.out, Kb1.out, Ke1.out⟩
      case round =>
        obtain ⟨j, hj, rfl, hrow, hkb, hK⟩ := hrel
        have q3 := hK.cell_of 3 (v := .slice A' args.length c') rfl
        by_cases hlt : j < args.length
        · obtain ⟨ad, rfl, _, hbk, hat⟩ := (hx.below ((hkb.below hlo).mono hBlo)).2 (by omega)
          obtain ⟨x0, x1, x2, x3, ⟨y0, y1, y2, y3⟩, hv⟩ := hat j hlt
          have hez := exsSz_part hlt
          have hll := callsL_exs_len (l) (args.take j)
          have hL1 := HL1.out
          have hws := hkb.size
          have hc := Ih.out args[j] (List.getElem_mem hlt) x0 x1 x2 x3 _ _ L B lo wr hBlo (by omega) (by omega) (by omega) hv hrow
          obtain ⟨As, cs, rfl, _⟩ := hrow.bsl
          have Hc := Lib.hid hc
          have Hkb := Lib.hid hkb
          have HK := Lib.hid hK
          have hstep : callsL l (flatExs (args.take (j + 1))) = callsL (callsL l (flatExs (args.take j))) (flatEx args[j]) := by rw [flatExs_step hlt, callsL_app]
          have Hstep := Lib.hid hstep
          clear hat hc hv hez hll hrow hkb hK hstep hL1
          go_wp2_with fail
          refine Hc.out.mono ?_
          rintro r w2 ⟨v', rfl, hrow2, hkb2⟩
          have Hrow2 := Lib.hid hrow2
          clear Hc q3 y0 y1 y2 y3 hrow2
          go_wp2
          go_roundw
          case rel =>
            exact ⟨j + 1, by omega, by go_num, by rw [Hstep.out]; exact Hrow2.out, Hkb.out.trans hkb2, HK.out.kb hkb2 (.inr ⟨Nat.zero_le _, not_NmT_Ex⟩)⟩
          case measure => simp [intOf]; omega
        · have Hrow := Lib.hid hrow
          clear hrow
          go_wp2
          go_ret
          have hjl : j = args.length := by omega
          have h1 := Hrow.out
          rw [hjl, List.take_length, ← Hfin.out] at h1
          exact ⟨_, rfl, h1, hkb⟩
    · have hp' : placeOf l name < 0 := by omega
      have hw : withN l name = l ++ [name] := by unfold withN; rw [if_neg hp]
      have Hfin := Lib.hid (show callsL l (flatEx (.mk 5 n name args)) = callsL (l ++ [name]) (flatExs args) by rw [Hmk.out, hcN, hw])
      have HL1 : Hid ((l ++ [name]).length ≤ l.length + 1) := Lib.hid (by simp)
      have Row0 := Lib.hid hrow1
      have HR := Lib.hid hR
      have Ke0 := Lib.hid KE
      clear hxa hbs hrow1 hw hcN hR hR1 hpl hp
      have e1 := KE.lt
      go_enter Try.func55, Try.ntmps55
      clear KE
      go_wp2_with fail
      refine Hxa.out.mono ?_
      rintro r w2 ⟨rfl, hb2⟩
      have hs2 := hb2.size
      have hb02 := hb0.trans (hb2.mono hb0.size)
      have hK2 := Ke0.out.below hb2 Ke0.out.lt
      have f2 := hK2.cell_of 2 (v := .slice A name.length c) rfl
      have hrow2 := Row0.out.below hb2
      have hba : Below w2.heap.size w2 (w2.alloc (.cells #[.slice A name.length c] 22)) := (Below.refl _ _).alloc (Nat.le_refl _) _
      obtain ⟨_, A3, c3, xs, e, hown, hc3, hcm3, hall2⟩ := id hrow2
      injection e with e1 e2 e3
      subst e1
      subst e3
      have hO := hown.alloc (.cells #[.slice A name.length c] 22)
      have hrow3 := hrow2.below hba
      have HO := Lib.hid hO
      have Hall2 := Lib.hid hall2
      have Hown := Lib.hid hown
      have Row3 := Lib.hid hrow3
      have HK2 := Lib.hid hK2
      have hcell := cell_one_new w2 (.slice A name.length c) 22
      have Hcell := Lib.hid hcell
      have Hb02 := Lib.hid hb02
      have Hba := Lib.hid hba
      have hws : lo ≤ w2.heap.size := by have := hb02.size; omega
      clear hO hall2 hcell Hxa hrow2 hrow3 hown hK2 hb2 hba hb02
      go_wp2_with (at_builtin; refine wpList_append_own _ rfl (.tmp 16) (.tmp 19) 23 rfl lo 22 i0 _ 1 24 Try.underlying23 hi hz0 hz1 hz2 rfl (by omega) _ _ _ rfl HO.out ⟨w2.heap.size, 0, none⟩ 1 1 [.slice A name.length c] rfl rfl Hcell.out (by simp [Value.oneCell']) (by unfold maxLen; omega) (by omega) (by simp; omega) ?_; intro v' w3 hown' hgrow _)
      have Row1 := Lib.hid (show NmRow w3 B lo v' (callsL (l ++ [name]) (flatExs (args.take 0))) from by
        refine NmRow.snoc hBlo (by omega) HO.out (fun j hj => ?_) (NmB.of_data ((HR.out.below (Hb02.out.mono (by omega))).below (Hba.out.mono (by omega))) (by simp; omega)) (by unfold maxLen; omega) hown' hgrow
        obtain ⟨A4, c4, x1, x2, x3⟩ := Hall2.out j hj
        exact ⟨A4, c4, x1, x2.below Hba.out, x3⟩)
      have Kb1 := Lib.hid (((KB.of Hb02.out lo 0 NmT).trans (KB.of Hba.out lo 0 NmT)).trans (Row3.out.kb1 hgrow))
      have Ke1 := Lib.hid ((HK2.out.alloc (.cells #[.slice A name.length c] 22)).kb (Row3.out.kb1 hgrow) (.inr ⟨Nat.zero_le _, not_NmT_Ex⟩))
      clear hown' hgrow f2 Hcell
      go_loopw [0, 5] (fun s i wr => ∃ j : Nat, j ≤ args.length ∧ i = .int .i64 j ∧ NmRow wr B lo s (callsL (l ++ [name]) (flatExs (args.take j))) ∧ KB lo 0 NmT w wr ∧ Blk wr w.heap.size 73 #[.int .i64 5, .int .i64 n, .slice A name.length c, .slice A' args.length c']) (fun _ i _ => args.length - (intOf i).toNat)
      case atStart => exact ⟨0, Nat.zero_le _, rfl, Row1.out, Kb1.out, Ke1.out⟩
      case round =>
        obtain ⟨j, hj, rfl, hrow, hkb, hK⟩ := hrel
        have q3 := hK.cell_of 3 (v := .slice A' args.length c') rfl
        by_cases hlt : j < args.length
        · obtain ⟨ad, rfl, _, hbk, hat⟩ := (hx.below ((hkb.below hlo).mono hBlo)).2 (by omega)
          obtain ⟨x0, x1, x2, x3, ⟨y0, y1, y2, y3⟩, hv⟩ := hat j hlt
          have hez := exsSz_part hlt
          have hll := callsL_exs_len ((l ++ [name])) (args.take j)
          have hL1 := HL1.out
          have hws := hkb.size
          have hc := Ih.out args[j] (List.getElem_mem hlt) x0 x1 x2 x3 _ _ L B lo wr hBlo (by omega) (by omega) (by omega) hv hrow
          obtain ⟨As, cs, rfl, _⟩ := hrow.bsl
          have Hc := Lib.hid hc
          have Hkb := Lib.hid hkb
          have HK := Lib.hid hK
          have hstep : callsL (l ++ [name]) (flatExs (args.take (j + 1))) = callsL (callsL (l ++ [name]) (flatExs (args.take j))) (flatEx args[j]) := by rw [flatExs_step hlt, callsL_app]
          have Hstep := Lib.hid hstep
          clear hat hc hv hez hll hrow hkb hK hstep hL1
          go_wp2_with fail
          refine Hc.out.mono ?_
          rintro r w2 ⟨v', rfl, hrow2, hkb2⟩
          have Hrow2 := Lib.hid hrow2
          clear Hc q3 y0 y1 y2 y3 hrow2
          go_wp2
          go_roundw
          case rel =>
            exact ⟨j + 1, by omega, by go_num, by rw [Hstep.out]; exact Hrow2.out, Hkb.out.trans hkb2, HK.out.kb hkb2 (.inr ⟨Nat.zero_le _, not_NmT_Ex⟩)⟩
          case measure => simp [intOf]; omega
        · have Hrow := Lib.hid hrow
          clear hrow
          go_wp2
          go_ret
          have hjl : j = args.length := by omega
          have h1 := Hrow.out
          rw [hjl, List.take_length, ← Hfin.out] at h1
          exact ⟨_, rfl, h1, hkb⟩
  · have hcN := callN_other l k n name args h5
    have Hfin := Lib.hid (show callsL l (flatEx (.mk k n name args)) = callsL l (flatExs args) by rw [Hmk.out, hcN])
    have HL1 : Hid (l.length ≤ 4194304) := Lib.hid (by omega)
    obtain ⟨Ak, ck, rfl, hck, hckm, hbs⟩ := hrow1.bsl
    have Row1 := Lib.hid (show NmRow _ B lo _ (callsL l (flatExs (args.take 0))) from hrow1)
    have Kb1 := Lib.hid (KB.of hb0 lo 0 NmT)
    have Ke1 := Lib.hid KE
    clear hbs hrow1 hcN hR hR1
    go_enter Try.func55, Try.ntmps55
    go_wp2
    go_loopw [0, 5] (fun s i wr => ∃ j : Nat, j ≤ args.length ∧ i = .int .i64 j ∧ NmRow wr B lo s (callsL l (flatExs (args.take j))) ∧ KB lo 0 NmT w wr ∧ Blk wr w.heap.size 73 #[.int .i64 k, .int .i64 n, .slice A name.length c, .slice A' args.length c']) (fun _ i _ => args.length - (intOf i).toNat)
    case atStart => exact ⟨0, Nat.zero_le _, rfl, Row1.out, Kb1.out, Ke1.out⟩
    case round =>
      obtain ⟨j, hj, rfl, hrow, hkb, hK⟩ := hrel
      have q3 := hK.cell_of 3 (v := .slice A' args.length c') rfl
      by_cases hlt : j < args.length
      · obtain ⟨ad, rfl, _, hbk, hat⟩ := (hx.below ((hkb.below hlo).mono hBlo)).2 (by omega)
        obtain ⟨x0, x1, x2, x3, ⟨y0, y1, y2, y3⟩, hv⟩ := hat j hlt
        have hez := exsSz_part hlt
        have hll := callsL_exs_len (l) (args.take j)
        have hL1 := HL1.out
        have hws := hkb.size
        have hc := Ih.out args[j] (List.getElem_mem hlt) x0 x1 x2 x3 _ _ L B lo wr hBlo (by omega) (by omega) (by omega) hv hrow
        obtain ⟨As, cs, rfl, _⟩ := hrow.bsl
        have Hc := Lib.hid hc
        have Hkb := Lib.hid hkb
        have HK := Lib.hid hK
        have hstep : callsL l (flatExs (args.take (j + 1))) = callsL (callsL l (flatExs (args.take j))) (flatEx args[j]) := by rw [flatExs_step hlt, callsL_app]
        have Hstep := Lib.hid hstep
        clear hat hc hv hez hll hrow hkb hK hstep hL1
        go_wp2_with fail
        refine Hc.out.mono ?_
        rintro r w2 ⟨v', rfl, hrow2, hkb2⟩
        have Hrow2 := Lib.hid hrow2
        clear Hc q3 y0 y1 y2 y3 hrow2
        go_wp2
        go_roundw
        case rel =>
          exact ⟨j + 1, by omega, by go_num, by rw [Hstep.out]; exact Hrow2.out, Hkb.out.trans hkb2, HK.out.kb hkb2 (.inr ⟨Nat.zero_le _, not_NmT_Ex⟩)⟩
        case measure => simp [intOf]; omega
      · have Hrow := Lib.hid hrow
        clear hrow
        go_wp2
        go_ret
        have hjl : j = args.length := by omega
        have h1 := Hrow.out
        rw [hjl, List.take_length, ← Hfin.out] at h1
        exact ⟨_, rfl, h1, hkb⟩
theorem l2callsEx_c (e : Ex) : CaE e := Ex.ind (P := CaE) (fun k n name args ih => callsEx_of k n name args ih) e
end Go.Proofs.Ytmejbmfopdfbjaa
