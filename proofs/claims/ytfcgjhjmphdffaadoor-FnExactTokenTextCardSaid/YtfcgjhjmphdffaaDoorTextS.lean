/-
  TokenText: what the model answers, at every list of tokens.
-/
import Derived.Test.YtfcgjhjmphdffaaDoorTokMark
import Derived.Test.YtfcgjhjmphdffaaDoorSign
import Derived.Deep.DeepCutAuto
import Derived.Deep.DeepMust
namespace Go.Proofs.YtfcgjhjmphdffaaDoor
open Go.RowKit
set_option linter.unusedVariables false

/-- a token's own text, if it may be one -/
def piece (t : Tok) : Option (List UInt8) :=
  if t.kind = 1 ∧ wordOk t.text = true ∧ t.n = 0 then some t.text
  else if t.kind = 2 ∧ t.text.length = 0 ∧ 0 ≤ t.n ∧ t.n ≤ 999999 then some (Lib.decDigits t.n.toNat)
  else if t.kind = 3 ∧ signL t.text = true ∧ t.n = 0 then some t.text
  else none
def sepd (k : Nat) (a : List UInt8) : List UInt8 := if 0 < k then a ++ [32] else a
/-- the text of the first k tokens -/
def txtTo (ts : List Tok) : Nat → Option (List UInt8)
  | 0 => some []
  | k + 1 => match txtTo ts k, ts[k]? with
    | some a, some t => (piece t).map fun p => sepd k a ++ p
    | _, _ => none
def textOf (ts : List Tok) : List UInt8 := if 2000 < ts.length then [] else (txtTo ts ts.length).getD []

theorem txtTo_next {ts : List Tok} {k : Nat} {a p : List UInt8} (hk : k < ts.length) (h : txtTo ts k = some a) (hp : piece ts[k] = some p) : txtTo ts (k + 1) = some (sepd k a ++ p) := by
  rw [txtTo, h, List.getElem?_eq_getElem hk]
  simp [hp]
theorem txtTo_stop {ts : List Tok} {k : Nat} (hk : k < ts.length) (hp : piece ts[k] = none) : ∀ m, k < m → txtTo ts m = none := by
  intro m
  induction m with
  | zero => intro h; omega
  | succ m ih =>
    intro h
    by_cases e : m = k
    · subst e
      rw [txtTo, List.getElem?_eq_getElem hk]
      split
      · rename_i a t h1 h2
        have : t = ts[m] := by simpa using h2.symm
        rw [this, hp]; rfl
      · rfl
    · rw [txtTo, ih (by omega)]
theorem textOf_bad {ts : List Tok} {k : Nat} (hk : k < ts.length) (hp : piece ts[k] = none) : textOf ts = [] := by
  unfold textOf
  rw [txtTo_stop hk hp _ hk]
  split <;> rfl
theorem textOf_good {ts : List Tok} {a : List UInt8} (h2 : ts.length ≤ 2000) (h : txtTo ts ts.length = some a) : textOf ts = a := by
  unfold textOf
  rw [if_neg (by omega), h]; rfl
theorem sepd_len (k : Nat) (a : List UInt8) : (sepd k a).length ≤ a.length + 1 := by
  unfold sepd; split <;> simp
theorem piece_len {t : Tok} {p : List UInt8} (h : piece t = some p) : p.length ≤ t.text.length + 10 := by
  unfold piece at h
  split at h
  · cases h; omega
  · split at h
    · cases h
      rename_i h1 h2
      rw [Lib.decDigits_length]
      have := nDigits_le t.n.toNat (by omega)
      omega
    · split at h
      · cases h; omega
      · cases h
theorem txtTo_len {ts : List Tok} : ∀ {k : Nat} {a : List UInt8}, k ≤ ts.length → txtTo ts k = some a → a.length ≤ txts (ts.take k) + 11 * k
  | 0, a, _, h => by rw [txtTo] at h; cases h; simp
  | k + 1, a, hk, h => by
    rw [txtTo] at h
    have hk' : k < ts.length := by omega
    rw [List.getElem?_eq_getElem hk'] at h
    split at h
    · rename_i a' t h1 h2
      have ht : t = ts[k] := by simpa using h2.symm
      subst ht
      cases hp : piece ts[k] with
      | none => rw [hp] at h; cases h
      | some p =>
        rw [hp] at h
        simp at h
        subst h
        have h3 := txtTo_len (by omega) h1
        have h4 := piece_len hp
        have h5 := sepd_len k a'
        rw [txts_step hk', List.length_append]
        omega
    · cases h

theorem Blk.four {w : World} {g : Nat} {t : TypeId} {a b c d : Value} (h : Blk w g t #[a, b, c, d]) :
    w.cell? ⟨g, 0, none⟩ = some a ∧ w.cell? ⟨g, 1, none⟩ = some b ∧ w.cell? ⟨g, 2, none⟩ = some c ∧ w.cell? ⟨g, 3, none⟩ = some d :=
  ⟨by rw [h.cell]; rfl, by rw [h.cell]; rfl, by rw [h.cell]; rfl, by rw [h.cell]; rfl⟩

theorem OwnB.newCell {w : World} {B : Nat} {v : Value} {l : List UInt8} (_h : OwnB w B v l) (x : Value) : ∀ j u, [x][j]? = some u → (w.alloc (.cells #[x] 5)).cell? ((⟨w.heap.size, 0, none⟩ : Addr).add j) = some u := cell_one_new w x _
theorem signL_one {l : List UInt8} (h : signL l = true) : l.length = 1 := by
  unfold signL at h
  split at h
  · rfl
  · cases h
theorem vb_single (b : UInt8) : [Value.int .u8 (b.toNat : Int)] = vb [b] := rfl

/-- a row that an append has made longer -/
theorem OwnB.grew {w w' : World} {B : Nat} {v v' : Value} {l r : List UInt8} {xs : List Value} (h : OwnB w B v l) (h' : w'.ownsRow B 5 1 v' (l.length + r.length) (vb l ++ xs)) (hx : xs = vb r) : OwnB w' B v' (l ++ r) := by
  subst hx
  unfold OwnB
  rw [List.length_append, vb_append]; exact h'
theorem OwnB.grown {w w' : World} {B : Nat} {v : Value} {l : List UInt8} (h : OwnB w B v l) (hg : w.grownBy w' v.ownBlock) (hB : B ≤ w.heap.size) : Below B w w' :=
  (Below.refl _ _).grown hg hB fun k hk => (h.block hk).1

set_option maxRecDepth 100000 in
set_option maxHeartbeats 4000000 in
theorem specTokenText_c (ts : List Tok) (A : Option Addr) (c : Nat) (w : World) (hl : ts.length + txts ts ≤ 4294967296) (h : RT w w.heap.size A ts) :
    Calls Tryd.prog 5 #[.slice A ts.length c] w fun e w' => ∃ v, e = .returned v ∧ OwnB w' w.heap.size v (textOf ts) ∧ Below w.heap.size w w' := by
  obtain ⟨i0, hi, hz0, hz1, hz2⟩ := info_parts infoU8
  by_cases hb : 2000 < (ts.length : Int)
  · have ht : textOf ts = [] := by unfold textOf; rw [if_pos (by omega)]
    rw [ht]
    clear hi hz0 hz1 hz2 ht
    go_enter Tryd.func5, Tryd.ntmps5
    go_wp2
    go_ret
    exact ⟨_, rfl, OwnB.nil _ _, Below.refl _ _⟩
  have hb' : (ts.length : Int) ≤ 2000 := by omega
  clear hb
  go_enter Tryd.func5, Tryd.ntmps5
  go_wp2
  go_loopw [3, 4] (fun s i wr => ∃ (k : Nat) (a : List UInt8), k ≤ ts.length ∧ i = .int .i64 k ∧ Hid (txtTo ts k = some a) ∧ OwnB wr w.heap.size s a ∧ Below w.heap.size w wr) (fun _ i _ => ts.length - (intOf i).toNat)
  case atStart => exact ⟨0, [], Nat.zero_le _, rfl, Lib.hid rfl, OwnB.nil _ _, Below.refl _ _⟩
  case round =>
    obtain ⟨k, a, hk, rfl, Htx, hO, hbl⟩ := hrel
    obtain ⟨A0, c0, rfl, _⟩ := hO.form
    have hal := txtTo_len hk Htx.out
    have htk := txts_take_le ts k
    have hal' : a.length ≤ 8589934592 := by omega
    clear hal htk
    by_cases hlt : k < ts.length
    · obtain ⟨ad, rfl, hbk, A1, c1, h0, h1, h2, h3, hR, hm⟩ := (h.keep (w' := wr) (fun p hp => hbl.cell (by omega))).at_ hlt
      have htl : ts[k].text.length ≤ 4294967296 := by have := txts_get hlt; omega
      have hO' := (hO.alloc (.cells #[.int .i64 ts[k].kind, .int .i64 ts[k].pos, .int .i64 ts[k].n, .slice A1 ts[k].text.length c1] 36)).alloc (.cells #[.int .u8 32] 5)
      have hwr := hbl.size
      have hsl := sepd_len k a
      have hcn := cell_one_new (wr.alloc (.cells #[.int .i64 ts[k].kind, .int .i64 ts[k].pos, .int .i64 ts[k].n, .slice A1 ts[k].text.length c1] 36)) (.int .u8 32) 5
      rw [World.size_alloc] at hcn
      have Hcn := Lib.hid hcn
      clear hcn
      go_upto_if 20 with fail
      go_cut [3] (fun s wx => ∃ g : Nat, g = wr.heap.size ∧ OwnB wx w.heap.size s (sepd k a) ∧ Blk wx g 36 #[.int .i64 ts[k].kind, .int .i64 ts[k].pos, .int .i64 ts[k].n, .slice A1 ts[k].text.length c1] ∧ RB wx w.heap.size A1 ts[k].text ∧ Below w.heap.size w wx)
      case first =>
        have hfin0 := Blk.new wr 36 #[.int .i64 ts[k].kind, .int .i64 ts[k].pos, .int .i64 ts[k].n, .slice A1 ts[k].text.length c1]
        by_cases hk0 : 0 < k
        · go_wp2_with (at_builtin; refine wpList_append_own _ rfl (.tmp 21) (.tmp 22) 24 rfl w.heap.size 5 i0 _ 1 1 Tryd.underlying24 hi hz0 hz1 hz2 rfl (by omega) _ _ _ rfl hO' ⟨wr.heap.size + 1, 0, none⟩ 1 1 [.int .u8 32] rfl rfl Hcn.out (by simp [Value.oneCell']) (by unfold maxLen; omega) (by omega) (by simp; omega) ?_; intro v1 w1 hown1 hg1 _)
          go_meet
          have hg := (OwnB.grown hO' hg1 (by simp; omega))
          have hx1 : Below w.heap.size w w1 := ((hbl.alloc hbl.size _).alloc (by simp; omega) _).trans hg
          refine ⟨_, rfl, by unfold sepd; rw [if_pos hk0]; exact hO'.grew (r := [32]) hown1 rfl, ?_, ?_, hx1⟩
          · refine (hfin0.alloc _).grown hg1 (fun e => ?_)
            have := (hO.block (g := wr.heap.size) e.symm).2
            omega
          · exact RB.below hR (((((Below.refl w.heap.size wr).alloc hbl.size _).alloc (by simp; omega) _).trans hg).mono (Nat.le_refl _))
        · go_wp2
          go_meet
          exact ⟨_, rfl, by unfold sepd; rw [if_neg hk0]; exact hO.alloc _, hfin0, hR.alloc hbl.size _, hbl.alloc hbl.size _⟩
      case rest =>
        obtain ⟨g, hgd, hOx, hBx, hRx, hbx⟩ := hcut
        subst hgd
        obtain ⟨A2, c2, rfl, _⟩ := hOx.form
        obtain ⟨n0, n1, n2, n3⟩ := hBx.four
        have hbs := hbx.size
        have hcw := specWordOk_c ts[k].text A1 c1 w.heap.size _ htl hRx
        generalize hgen : sepd k a = b at *
        have Hgen := Lib.hid hgen
        clear hgen
        have hbl8 : b.length ≤ 8589934593 := by omega
        clear hsl hal' hO hO' hwr h0 h1 h2 h3 hR hm hBx
        by_cases k1 : ts[k].kind = 1
        · rw [k1] at n0
          cases hw : wordOk ts[k].text
          · rw [hw] at hcw
            have Hcw := Lib.hid hcw
            have Hw := Lib.hid hw
            clear hcw hw
            have hp : piece ts[k] = none := by
              unfold piece
              rw [if_neg (by rw [Hw.out]; simp), if_neg (by rw [k1]; omega), if_neg (by rw [k1]; omega)]
            have Hp := Lib.hid hp
            clear hp hi hz0 hz1 hz2
            go_wp2_with (go_at_call 14; refine Hcw.out.mono ?_; rintro e w' ⟨rfl, rfl⟩)
            go_ret
            exact ⟨_, rfl, by rw [textOf_bad hlt Hp.out]; exact OwnB.nil _ _, hbx⟩
          · rw [hw] at hcw
            have Hcw := Lib.hid hcw
            have Hw := Lib.hid hw
            clear hcw hw
            by_cases hn : ts[k].n = 0
            · have hp : piece ts[k] = some ts[k].text := by unfold piece; rw [if_pos ⟨k1, Hw.out, hn⟩]
              have Hp := Lib.hid hp
              rw [hn] at n2
              have hpos : 0 < ts[k].text.length := by
                rcases Nat.eq_zero_or_pos ts[k].text.length with h0 | h0
                · have := Hw.out; unfold wordOk at this; rw [h0] at this; simp at this
                · exact h0
              obtain ⟨ad1, hA1, _, hcs1⟩ := hRx.2 hpos
              subst hA1
              have Hcs := Lib.hid hcs1
              have Hk1 := Lib.hid k1
              have Hn := Lib.hid hn
              clear hp hcs1 k1 hn hRx
              go_wp2_with (first | (go_at_call 14; refine Hcw.out.mono ?_; rintro e w' ⟨rfl, rfl⟩) | (at_builtin; refine wpList_append_own _ rfl (.tmp 38) (.tmp 40) 24 rfl w.heap.size 5 i0 _ 1 1 Tryd.underlying24 hi hz0 hz1 hz2 rfl (by omega) _ _ _ rfl hOx ad1 ts[k].text.length _ (vb ts[k].text) rfl (by rw [vb_len, Nat.mul_one]) Hcs.out (vb_one _) (by unfold maxLen; omega) (by omega) (by have := hbx.size; simp; omega) ?_; intro v2 w2 hown2 hg2 _))
              go_roundw
              case rel =>
                exact ⟨k + 1, _, by omega, by go_num, Lib.hid (txtTo_next hlt Htx.out Hp.out), by rw [Hgen.out]; exact hOx.grew hown2 rfl, hbx.trans ((OwnB.grown hOx hg2 hbs))⟩
              case measure => simp [intOf]; omega
            · have hn' : (ts[k].n == 0) = false := by rw [beq_eq_false_iff_ne]; exact hn
              have hp : piece ts[k] = none := by
                unfold piece
                rw [if_neg (by simp [hn]), if_neg (by rw [k1]; omega), if_neg (by rw [k1]; omega)]
              have Hp := Lib.hid hp
              clear hp hi hz0 hz1 hz2
              go_wp2_with (go_at_call 14; refine Hcw.out.mono ?_; rintro e w' ⟨rfl, rfl⟩)
              go_ret
              exact ⟨_, rfl, by rw [textOf_bad hlt Hp.out]; exact OwnB.nil _ _, hbx⟩
        have k1' : (ts[k].kind == 1) = false := by rw [beq_eq_false_iff_ne]; exact k1
        by_cases k2 : ts[k].kind = 2
        · rw [k2] at n0
          by_cases hl0 : ts[k].text.length = 0
          · have hl0' : ((ts[k].text.length : Int) == 0) = true := by rw [beq_iff_eq]; omega
            by_cases hn0 : ts[k].n < 0
            · have Hk := Lib.hid k2
              have hp : piece ts[k] = none := by
                unfold piece
                rw [if_neg (by rw [k2]; omega), if_neg (by rw [k2]; omega), if_neg (by rw [k2]; omega)]
              have Hp := Lib.hid hp
              clear hp hi hz0 hz1 hz2
              go_wp2
              go_ret
              exact ⟨_, rfl, by rw [textOf_bad hlt Hp.out]; exact OwnB.nil _ _, hbx⟩
            have hn0' : 0 ≤ ts[k].n := by omega
            by_cases hn6 : 999999 < ts[k].n
            · have Hk := Lib.hid k2
              have hp : piece ts[k] = none := by
                unfold piece
                rw [if_neg (by rw [k2]; omega), if_neg (by rw [k2]; omega), if_neg (by rw [k2]; omega)]
              have Hp := Lib.hid hp
              clear hp hi hz0 hz1 hz2
              go_wp2
              go_ret
              exact ⟨_, rfl, by rw [textOf_bad hlt Hp.out]; exact OwnB.nil _ _, hbx⟩
            have hn6' : ts[k].n ≤ 999999 := by omega
            have hp : piece ts[k] = some (Lib.decDigits ts[k].n.toNat) := by
              unfold piece
              rw [if_neg (by rw [k2]; omega), if_pos ⟨k2, hl0, hn0', hn6'⟩]
            have Hp := Lib.hid hp
            clear hn0 hn6 hp hl0 k1 k2
            obtain ⟨m, hm⟩ := Int.eq_ofNat_of_zero_le hn0'
            rw [hm] at n2 hn0' hn6'
            have Hm := Lib.hid hm
            clear hm
            have hdl : (Lib.decDigits m).length ≤ 10 := by
              rw [Lib.decDigits_length]; exact nDigits_le m (by omega)
            have hd0 : 0 < (Lib.decDigits m).length := by
              rw [Lib.decDigits_length, Lib.nDigits]; split <;> omega
            go_wp2_with fail
            refine (l1digits_c (m + 1) m _ (by omega) (by omega)).mono ?_
            rintro e w3 ⟨v3, rfl, hO3, hb3⟩
            obtain ⟨A3, c3, rfl, hR3⟩ := hO3.form
            obtain ⟨ad3, hA3, _, hcs3⟩ := hR3.2 hd0
            subst hA3
            have Hcs3 := Lib.hid hcs3
            clear hcs3 hO3
            have hOx3 := hOx.keep hb3 (Nat.le_refl _)
            have hbx3 := hbx.trans (hb3.mono hbx.size)
            have hbs3 := hbx3.size
            go_wp2_with (at_builtin; refine wpList_append_own _ rfl (.tmp 62) (.tmp 65) 24 rfl w.heap.size 5 i0 _ 1 1 Tryd.underlying24 hi hz0 hz1 hz2 rfl (by omega) _ _ _ rfl hOx3 ad3 (Lib.decDigits m).length _ (vb (Lib.decDigits m)) rfl (by rw [vb_len, Nat.mul_one]) Hcs3.out (vb_one _) (by unfold maxLen; omega) (by omega) (by have := hbx3.size; simp; omega) ?_; intro v2 w2 hown2 hg2 _)
            go_roundw
            case rel =>
              exact ⟨k + 1, _, by omega, by go_num, Lib.hid (txtTo_next hlt Htx.out Hp.out), by rw [Hgen.out]; exact (by rw [Hm.out, Int.toNat_natCast]; exact hOx3.grew hown2 rfl), hbx3.trans ((OwnB.grown hOx3 hg2 hbs3))⟩
            case measure => simp [intOf]; omega
          · have hl0' : ((ts[k].text.length : Int) == 0) = false := by rw [beq_eq_false_iff_ne]; omega
            have Hk := Lib.hid k2
            have hp : piece ts[k] = none := by
              unfold piece
              rw [if_neg (by rw [k2]; omega), if_neg (by omega), if_neg (by rw [k2]; omega)]
            have Hp := Lib.hid hp
            clear hp hi hz0 hz1 hz2
            go_wp2
            go_ret
            exact ⟨_, rfl, by rw [textOf_bad hlt Hp.out]; exact OwnB.nil _ _, hbx⟩
        have k2' : (ts[k].kind == 2) = false := by rw [beq_eq_false_iff_ne]; exact k2
        by_cases k3 : ts[k].kind = 3
        · rw [k3] at n0
          by_cases hl1 : ts[k].text.length = 1
          · have hl1' : ((ts[k].text.length : Int) == 1) = true := by rw [beq_iff_eq]; omega
            obtain ⟨ch, hch⟩ : ∃ ch, ts[k].text = [ch] := by
              match ts[k].text, hl1 with
              | [ch], _ => exact ⟨ch, rfl⟩
            obtain ⟨ad1, hA1, _, hc1⟩ := hRx.at_ (k := 0) (by omega)
            subst hA1
            have e0 : ts[k].text[0]'(by omega) = ch := by simp [hch]
            rw [e0, show ad1.add 0 = ad1 from by simp [Addr.add]] at hc1
            have Hch := Lib.hid hch
            have hl1'' : 0 < ts[k].text.length := by omega
            clear hch e0 hl1 hRx hcw
            cases hsg : sgn ch
            · have Hk := Lib.hid k3
              have hsc := fun u : World => l1sign_c ch u
              rw [hsg] at hsc
              have Hsc := Lib.hid hsc
              have Hsg := Lib.hid hsg
              clear hsc hsg
              have hp : piece ts[k] = none := by
                unfold piece
                rw [if_neg (by rw [k3]; omega), if_neg (by rw [k3]; omega), if_neg (by rw [Hch.out]; simp [signL, Hsg.out])]
              have Hp := Lib.hid hp
              clear hp hi hz0 hz1 hz2
              go_wp2_with (go_at_call 16; refine (Hsc.out _).mono ?_; rintro e w' ⟨rfl, rfl⟩)
              go_ret
              exact ⟨_, rfl, by rw [textOf_bad hlt Hp.out]; exact OwnB.nil _ _, hbx⟩
            have hsc := fun u : World => l1sign_c ch u
            rw [hsg] at hsc
            have Hsc := Lib.hid hsc
            have Hsg := Lib.hid hsg
            clear hsc hsg
            by_cases hn : ts[k].n = 0
            · have hp : piece ts[k] = some ts[k].text := by
                unfold piece
                rw [if_neg (by rw [k3]; omega), if_neg (by rw [k3]; omega), if_pos ⟨k3, by rw [Hch.out]; simp [signL, Hsg.out], hn⟩]
              have Hp := Lib.hid hp
              rw [hn] at n2
              have hOx' := hOx.alloc (.cells #[.int .u8 (ch.toNat : Int)] 5)
              have Hnc := Lib.hid (hOx.newCell (.int .u8 (ch.toNat : Int)))
              have Hk3 := Lib.hid k3
              have Hn := Lib.hid hn
              clear hp k3 hn
              go_wp2_with (first | (go_at_call 16; refine (Hsc.out _).mono ?_; rintro e w' ⟨rfl, rfl⟩) | (at_builtin; refine wpList_append_own _ rfl (.tmp 89) (.tmp 94) 24 rfl w.heap.size 5 i0 _ 1 1 Tryd.underlying24 hi hz0 hz1 hz2 rfl (by omega) _ _ _ rfl hOx' _ 1 _ [.int .u8 (ch.toNat : Int)] rfl rfl Hnc.out (by simp [Value.oneCell']) (by unfold maxLen; omega) (by omega) (by have := hbx.size; simp; omega) ?_; intro v2 w2 hown2 hg2 _))
              go_roundw
              case rel =>
                exact ⟨k + 1, _, by omega, by go_num, Lib.hid (txtTo_next hlt Htx.out Hp.out), by rw [Hgen.out]; rw [Hch.out]; exact hOx'.grew hown2 (vb_single ch), (hbx.alloc hbs _).trans (OwnB.grown hOx' hg2 (by simp; omega))⟩
              case measure => simp [intOf]; omega
            · have hn' : (ts[k].n == 0) = false := by rw [beq_eq_false_iff_ne]; exact hn
              have Hk := Lib.hid k3
              have hp : piece ts[k] = none := by
                unfold piece
                rw [if_neg (by rw [k3]; omega), if_neg (by rw [k3]; omega), if_neg (by simp [hn])]
              have Hp := Lib.hid hp
              clear hp hi hz0 hz1 hz2
              go_wp2_with (go_at_call 16; refine (Hsc.out _).mono ?_; rintro e w' ⟨rfl, rfl⟩)
              go_ret
              exact ⟨_, rfl, by rw [textOf_bad hlt Hp.out]; exact OwnB.nil _ _, hbx⟩
          · have hl1' : ((ts[k].text.length : Int) == 1) = false := by rw [beq_eq_false_iff_ne]; omega
            have Hk := Lib.hid k3
            have hp : piece ts[k] = none := by
              unfold piece
              rw [if_neg (by rw [k3]; omega), if_neg (by rw [k3]; omega), if_neg (fun h => hl1 (signL_one h.2.1))]
            have Hp := Lib.hid hp
            clear hp hi hz0 hz1 hz2
            go_wp2
            go_ret
            exact ⟨_, rfl, by rw [textOf_bad hlt Hp.out]; exact OwnB.nil _ _, hbx⟩
        have k3' : (ts[k].kind == 3) = false := by rw [beq_eq_false_iff_ne]; exact k3
        have Hk := Lib.hid k3
        have hp : piece ts[k] = none := by
          unfold piece
          rw [if_neg (by omega), if_neg (by omega), if_neg (by omega)]
        have Hp := Lib.hid hp
        clear hp hi hz0 hz1 hz2
        go_wp2
        go_ret
        exact ⟨_, rfl, by rw [textOf_bad hlt Hp.out]; exact OwnB.nil _ _, hbx⟩

    · go_wp2
      go_ret
      have : k = ts.length := by omega
      subst this
      exact ⟨_, rfl, by rw [textOf_good (by omega) Htx.out]; exact hO, hbl⟩
end Go.Proofs.YtfcgjhjmphdffaaDoor
