/-
  TokenText: the program answers as its model, at every list of tokens, where the library's table of powers holds what its text lays.
-/
import Derived.Test.YtfcgjhjmphdffaaDoorTextS
import Derived.Lib.AppendIntMem
namespace Go.Proofs.YtfcgjhjmphdffaaDoor
open Go.RowKit
set_option linter.unusedVariables false

def pieceOk (t : Tok) : Bool := (piece t).isSome
theorem piece_1 (p : Int) (l : List UInt8) : pieceOk ⟨1, p, 0, l⟩ = wordOk l := by
  unfold pieceOk piece
  cases h : wordOk l <;> simp
theorem piece_1n (p m : Int) (l : List UInt8) (hm : m ≠ 0) : pieceOk ⟨1, p, m, l⟩ = false := by
  unfold pieceOk piece
  rw [if_neg (by simp [hm]), if_neg (by simp), if_neg (by simp)]; rfl
theorem piece_2 (p m : Int) (l : List UInt8) (h0 : 0 ≤ m) (h1 : m ≤ 999999) : pieceOk ⟨2, p, m, l⟩ = ((l.length : Int) == 0) := by
  unfold pieceOk piece
  rw [if_neg (by simp)]
  by_cases h : l.length = 0
  · rw [if_pos ⟨rfl, h, h0, h1⟩]; simp [h]
  · rw [if_neg (by simp only; omega), if_neg (by simp)]
    have : ((l.length : Int) == 0) = false := by rw [beq_eq_false_iff_ne]; omega
    rw [this]; rfl
theorem piece_2n (p m : Int) (l : List UInt8) (h : ¬ (0 ≤ m ∧ m ≤ 999999)) : pieceOk ⟨2, p, m, l⟩ = false := by
  unfold pieceOk piece
  rw [if_neg (by simp), if_neg (by simp only; omega), if_neg (by simp)]; rfl
theorem piece_3 (p : Int) (l : List UInt8) : pieceOk ⟨3, p, 0, l⟩ = signL l := by
  unfold pieceOk piece
  cases h : signL l <;> simp
theorem piece_3n (p m : Int) (l : List UInt8) (hm : m ≠ 0) : pieceOk ⟨3, p, m, l⟩ = false := by
  unfold pieceOk piece
  rw [if_neg (by simp), if_neg (by simp), if_neg (by simp [hm])]; rfl
theorem piece_o (k p m : Int) (l : List UInt8) (h1 : k ≠ 1) (h2 : k ≠ 2) (h3 : k ≠ 3) : pieceOk ⟨k, p, m, l⟩ = false := by
  unfold pieceOk piece
  rw [if_neg (by simp [h1]), if_neg (by simp [h2]), if_neg (by simp [h3])]; rfl

set_option maxHeartbeats 2000000 in
theorem tokenOk_c (k p m : Int) (l : List UInt8) (A : Option Addr) (c B : Nat) (w : World) (hB : B ≤ w.heap.size) (hl : l.length ≤ 4294967296) (h : RB w B A l) :
    Calls Tryd.prog 18 #[.agg #[.int .i64 k, .int .i64 p, .int .i64 m, .slice A l.length c]] w fun e w' => e = .returned (.bool (pieceOk ⟨k, p, m, l⟩)) ∧ Below w.heap.size w w' := by
  have hr := h.alloc hB (.cells #[.int .i64 k, .int .i64 p, .int .i64 m, .slice A l.length c] 36)
  have hbl : Below w.heap.size w (w.alloc (.cells #[.int .i64 k, .int .i64 p, .int .i64 m, .slice A l.length c] 36)) := (Below.refl _ _).alloc (Nat.le_refl _) _
  by_cases k1 : k = 1
  · subst k1
    by_cases hm : m = 0
    · subst hm
      have Hp := Lib.hid (piece_1 p l)
      go_enter Tryd.func18, Tryd.ntmps18
      go_wp2_with (go_at_call 24; refine (implWordOk_c l A c B _ hl hr).mono ?_; rintro e w' ⟨rfl, rfl⟩)
      go_ret
      exact ⟨by rw [Hp.out]; rfl, hbl⟩
    · have hm' : (m == 0) = false := by rw [beq_eq_false_iff_ne]; exact hm
      have Hp := Lib.hid (piece_1n p m l hm)
      clear hm
      go_enter Tryd.func18, Tryd.ntmps18
      go_wp2
      go_ret
      exact ⟨by rw [Hp.out]; rfl, hbl⟩
  have k1' : (k == 1) = false := by rw [beq_eq_false_iff_ne]; exact k1
  by_cases k2 : k = 2
  · subst k2
    clear k1 k1'
    by_cases h0 : 0 ≤ m
    · by_cases h6 : m ≤ 999999
      · have Hp := Lib.hid (piece_2 p m l h0 h6)
        go_enter Tryd.func18, Tryd.ntmps18
        go_wp2
        go_ret
        exact ⟨by rw [Hp.out]; rfl, hbl⟩
      · have Hp := Lib.hid (piece_2n p m l (by omega))
        have h6' : 999999 < m := by omega
        clear h6
        go_enter Tryd.func18, Tryd.ntmps18
        go_wp2
        go_ret
        exact ⟨by rw [Hp.out]; rfl, hbl⟩
    · have Hp := Lib.hid (piece_2n p m l (by omega))
      have h0' : m < 0 := by omega
      clear h0
      go_enter Tryd.func18, Tryd.ntmps18
      go_wp2
      go_ret
      exact ⟨by rw [Hp.out]; rfl, hbl⟩
  have k2' : (k == 2) = false := by rw [beq_eq_false_iff_ne]; exact k2
  by_cases k3 : k = 3
  · subst k3
    clear k1 k1' k2 k2'
    by_cases hm : m = 0
    · subst hm
      have Hp := Lib.hid (piece_3 p l)
      go_enter Tryd.func18, Tryd.ntmps18
      go_wp2_with (go_at_call 25; refine (signOk_c l A c B _ hl hr).mono ?_; rintro e w' ⟨rfl, rfl⟩)
      go_ret
      exact ⟨by rw [Hp.out]; rfl, hbl⟩
    · have hm' : (m == 0) = false := by rw [beq_eq_false_iff_ne]; exact hm
      have Hp := Lib.hid (piece_3n p m l hm)
      clear hm
      go_enter Tryd.func18, Tryd.ntmps18
      go_wp2
      go_ret
      exact ⟨by rw [Hp.out]; rfl, hbl⟩
  have k3' : (k == 3) = false := by rw [beq_eq_false_iff_ne]; exact k3
  have Hp := Lib.hid (piece_o k p m l k1 k2 k3)
  clear k1 k2 k3
  go_enter Tryd.func18, Tryd.ntmps18
  go_wp2
  go_ret
  exact ⟨by rw [Hp.out]; rfl, hbl⟩

theorem piece_kinds {t : Tok} {p : List UInt8} (h : piece t = some p) : (t.kind = 2 ∧ 0 ≤ t.n ∧ t.n ≤ 999999 ∧ p = Lib.decDigits t.n.toNat) ∨ (t.kind ≠ 2 ∧ p = t.text ∧ 0 < t.text.length) := by
  unfold piece at h
  split at h
  · rename_i h1
    cases h
    refine Or.inr ⟨by omega, rfl, ?_⟩
    rcases Nat.eq_zero_or_pos t.text.length with h0 | h0
    · have := h1.2.1; unfold wordOk at this; rw [h0] at this; simp at this
    · exact h0
  · split at h
    · rename_i h1 h2
      cases h
      exact Or.inl ⟨h2.1, h2.2.2.1, h2.2.2.2, rfl⟩
    · split at h
      · rename_i h1 h2 h3
        cases h
        have := signL_one h3.2.1
        exact Or.inr ⟨by omega, rfl, by omega⟩
      · cases h

set_option maxRecDepth 100000 in
set_option maxHeartbeats 4000000 in
theorem implTokenText_c (ts : List Tok) (A : Option Addr) (c : Nat) (w : World) (hl : ts.length + txts ts ≤ 4294967296) (h : RT w w.heap.size A ts) (htab : Lib.TabBelow Tryd.prog w.heap.size w "internal/strconv.uint64pow10" .u64 Lib.pow10Tab) :
    Calls Tryd.prog 7 #[.slice A ts.length c] w fun e w' => ∃ v, e = .returned v ∧ OwnB w' w.heap.size v (textOf ts) ∧ Below w.heap.size w w' := by
  obtain ⟨i0, hi, hz0, hz1, hz2⟩ := info_parts infoU8
  by_cases hb : 2000 < (ts.length : Int)
  · have ht : textOf ts = [] := by unfold textOf; rw [if_pos (by omega)]
    rw [ht]
    clear hi hz0 hz1 hz2 ht
    go_enter Tryd.func7, Tryd.ntmps7
    go_wp2
    go_ret
    exact ⟨_, rfl, OwnB.nil _ _, Below.refl _ _⟩
  have hb' : (ts.length : Int) ≤ 2000 := by omega
  have Htab := Lib.hid htab
  clear hb htab
  go_enter Tryd.func7, Tryd.ntmps7
  go_wp2
  go_loopw [3, 11] (fun s i wr => ∃ (k : Nat) (a : List UInt8), k ≤ ts.length ∧ i = .int .i64 k ∧ Hid (txtTo ts k = some a) ∧ OwnB wr w.heap.size s a ∧ Below w.heap.size w wr) (fun _ i _ => ts.length - (intOf i).toNat)
  case atStart => exact ⟨0, [], Nat.zero_le _, rfl, Lib.hid rfl, OwnB.nil _ _, Below.refl _ _⟩
  case round =>
    obtain ⟨k, a, hk, rfl, Htx, hO, hbl⟩ := hrel
    obtain ⟨A0, c0, rfl, _⟩ := hO.form
    have hal := txtTo_len hk Htx.out
    have htk := txts_take_le ts k
    have hal' : a.length ≤ 8589934592 := by omega
    clear hal htk
    by_cases hlt : k < ts.length
    · obtain ⟨ad, rfl, hbk, A1, c1, h0, h1, h2, h3, hR, hm⟩ := (h.keep (w' := wr) (fun p hp => hbl.cell (by omega))).at_ hlt
      have htl : ts[k].text.length ≤ 4294967296 := by have := txts_get hlt; omega
      have hwr := hbl.size
      have hc := tokenOk_c ts[k].kind ts[k].pos ts[k].n ts[k].text A1 c1 w.heap.size (wr.alloc (.cells #[.int .i64 ts[k].kind, .int .i64 ts[k].pos, .int .i64 ts[k].n, .slice A1 ts[k].text.length c1] 36)) (by simp; omega) htl (hR.alloc hwr _)
      have hpe : pieceOk ⟨ts[k].kind, ts[k].pos, ts[k].n, ts[k].text⟩ = pieceOk ts[k] := rfl
      rw [hpe] at hc
      have hfin0 := Blk.new wr 36 #[.int .i64 ts[k].kind, .int .i64 ts[k].pos, .int .i64 ts[k].n, .slice A1 ts[k].text.length c1]
      have hbl1 := hbl.alloc hwr (.cells #[.int .i64 ts[k].kind, .int .i64 ts[k].pos, .int .i64 ts[k].n, .slice A1 ts[k].text.length c1] 36)
      have hO1 := hO.alloc (.cells #[.int .i64 ts[k].kind, .int .i64 ts[k].pos, .int .i64 ts[k].n, .slice A1 ts[k].text.length c1] 36)
      have hR1 := hR.alloc hwr (.cells #[.int .i64 ts[k].kind, .int .i64 ts[k].pos, .int .i64 ts[k].n, .slice A1 ts[k].text.length c1] 36)
      cases hpo : pieceOk ts[k]
      · rw [hpo] at hc
        have hpn : piece ts[k] = none := by
          unfold pieceOk at hpo
          cases h : piece ts[k] with
          | none => rfl
          | some p => rw [h] at hpo; cases hpo
        have Hc := Lib.hid hc
        have Hp := Lib.hid hpn
        clear hc hpo hpn hi hz0 hz1 hz2 hpe
        go_wp2_with fail
        refine Hc.out.mono ?_
        rintro e w1 ⟨rfl, hb1⟩
        go_wp2
        go_ret
        exact ⟨_, rfl, by rw [textOf_bad hlt Hp.out]; exact OwnB.nil _ _, hbl1.trans (hb1.mono hbl1.size)⟩
      · rw [hpo] at hc
        obtain ⟨p, hp⟩ : ∃ p, piece ts[k] = some p := by
          unfold pieceOk at hpo
          cases h : piece ts[k] with
          | none => rw [h] at hpo; cases hpo
          | some p => exact ⟨p, rfl⟩
        have Hc := Lib.hid hc
        have Hp := Lib.hid hp
        have Hkd := Lib.hid (piece_kinds hp)
        have hsl := sepd_len k a
        clear hc hpo hp hpe
        go_wp2_with fail
        refine Hc.out.mono ?_
        rintro e w1 ⟨rfl, hb1⟩
        have hB1 := hfin0.below hb1 hfin0.lt
        have hbw1 := hbl1.trans (hb1.mono hbl1.size)
        have hO2 := hO1.keep hb1 (Nat.le_refl _)
        have hR2 : RB w1 w.heap.size A1 ts[k].text := RB.below hR1 (hb1.mono hbl1.size)
        have hO2' := hO2.alloc (.cells #[.int .u8 32] 5)
        have Hnc := Lib.hid (hO2.newCell (.int .u8 32))
        have hwr1 := hbw1.size
        clear hfin0 hbl1 hO1 hR1 hb1 hO hR h0 h1 h2 h3 hm
        go_upto_if 20 with fail
        go_cut [3] (fun s wx => OwnB wx w.heap.size s (sepd k a) ∧ Blk wx wr.heap.size 36 #[.int .i64 ts[k].kind, .int .i64 ts[k].pos, .int .i64 ts[k].n, .slice A1 ts[k].text.length c1] ∧ RB wx w.heap.size A1 ts[k].text ∧ Below w.heap.size w wx)
        case first =>
          by_cases hk0 : 0 < k
          · go_wp2_with (at_builtin; refine wpList_append_own _ rfl (.tmp 21) (.tmp 22) 24 rfl w.heap.size 5 i0 _ 1 1 Tryd.underlying24 hi hz0 hz1 hz2 rfl (by omega) _ _ _ rfl hO2' _ 1 1 [.int .u8 32] rfl rfl Hnc.out (by simp [Value.oneCell']) (by unfold maxLen; omega) (by omega) (by simp; omega) ?_; intro v2 w2 hown2 hg2 _)
            go_meet
            refine ⟨by unfold sepd; rw [if_pos hk0]; exact hO2'.grew (r := [32]) hown2 rfl, ?_, ?_, (hbw1.alloc hwr1 _).trans (OwnB.grown hO2' hg2 (by simp; omega))⟩
            · refine (hB1.alloc _).grown hg2 (fun e => ?_)
              exact own_blk_ne (w := w1) hO2 hB1 (by decide) e.symm
            · exact RB.below hR2 (((Below.refl w.heap.size w1).alloc hwr1 _).trans (OwnB.grown hO2' hg2 (by simp; omega)))
          · go_wp2
            go_meet
            exact ⟨by unfold sepd; rw [if_neg hk0]; exact hO2, hB1, hR2, hbw1⟩
        case rest =>
          obtain ⟨hOx, hBx, hRx, hbx⟩ := hcut
          obtain ⟨A2, c2, rfl, _⟩ := hOx.form
          obtain ⟨n0, n1, n2, n3⟩ := hBx.four
          have hbs := hbx.size
          generalize hgen : sepd k a = b at *
          have Hgen := Lib.hid hgen
          clear hgen
          have hbl8 : b.length ≤ 8589934593 := by omega
          clear hsl hal' hO2 hO2' hB1 hR2 hbw1 hBx hwr1
          rcases Hkd.out with ⟨k2, hn0, hn6, hpd⟩ | ⟨k2, hpt, hpos⟩
          · rw [k2] at n0
            have Hpd := Lib.hid hpd
            have Hk2 := Lib.hid k2
            clear hpd k2
            have ht1 := Htab.out.on hbx
            have hai := Tryd.strconv_AppendInt_10 w.heap.size b.length ts[k].n (by omega) (by omega) (.slice A2 b.length c2) (vb b) _ hOx hbs (by omega) ht1
            have Hai := Lib.hid hai
            clear hai ht1
            go_wp2_with fail
            refine Hai.out.mono ?_
            rintro e w3 ⟨v3, rfl, hO3, hb3, _⟩
            have hit : Lib.itoa ts[k].n = Lib.decDigits ts[k].n.toNat := by unfold Lib.itoa; rw [if_neg (by omega)]
            have hO4 : OwnB w3 w.heap.size v3 (b ++ p) := by
              rw [Hpd.out, ← hit]
              exact hOx.grew hO3 rfl
            clear hit hO3
            obtain ⟨A3, c3, rfl, _⟩ := hO4.form
            have HO4 := Lib.hid hO4
            clear hO4
            go_wp2
            go_roundw
            case rel =>
              exact ⟨k + 1, _, by omega, by go_num, Lib.hid (txtTo_next hlt Htx.out Hp.out), by rw [Hgen.out, ← List.length_append]; exact HO4.out, hbx.trans hb3⟩
            case measure => simp [intOf]; omega
          · have k2' : (ts[k].kind == 2) = false := by rw [beq_eq_false_iff_ne]; exact k2
            obtain ⟨ad1, hA1, _, hcs1⟩ := hRx.2 hpos
            subst hA1
            have Hcs := Lib.hid hcs1
            have Hpt := Lib.hid hpt
            clear hcs1 hpt k2 hRx
            go_wp2_with (at_builtin; refine wpList_append_own _ rfl (.tmp 31) (.tmp 33) 24 rfl w.heap.size 5 i0 _ 1 1 Tryd.underlying24 hi hz0 hz1 hz2 rfl (by omega) _ _ _ rfl hOx ad1 ts[k].text.length _ (vb ts[k].text) rfl (by rw [vb_len, Nat.mul_one]) Hcs.out (vb_one _) (by unfold maxLen; omega) (by omega) (by have := hbx.size; simp; omega) ?_; intro v2 w2 hown2 hg2 _)
            go_roundw
            case rel =>
              exact ⟨k + 1, _, by omega, by go_num, Lib.hid (txtTo_next hlt Htx.out Hp.out), by rw [Hgen.out, Hpt.out]; exact hOx.grew hown2 rfl, hbx.trans (OwnB.grown hOx hg2 hbs)⟩
            case measure => simp [intOf]; omega
    · go_wp2
      go_ret
      have : k = ts.length := by omega
      subst this
      exact ⟨_, rfl, by rw [textOf_good (by omega) Htx.out]; exact hO, hbl⟩
end Go.Proofs.YtfcgjhjmphdffaaDoor
