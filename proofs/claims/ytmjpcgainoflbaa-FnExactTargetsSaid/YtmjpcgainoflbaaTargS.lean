/-
  The model's Targets.
-/
import Derived.Test.YtmjpcgainoflbaaTargD
namespace Go.Proofs.Ytmjpcgainoflbaa
open Go.RowKit
set_option linter.unusedVariables false
set_option linter.unusedSimpArgs false

theorem hit_cases (o a b : Int) (k : Int) : (o = 8 ∧ a = k) ∨ (o = 8 ∧ ¬ a = k) ∨ (o = 9 ∧ b = k) ∨ (o = 9 ∧ ¬ b = k) ∨ (¬ o = 8 ∧ ¬ o = 9) := by omega

set_option maxRecDepth 100000 in
set_option maxHeartbeats 8000000 in
theorem specTargets_c (u : Un) (A : Option Addr) (c L B : Nat) (w : World) (hB : B ≤ w.heap.size) (hsz : unSz u ≤ 1048576) (h : InL w L B A u.l) :
    Calls Try.prog 40 #[.agg #[.int .i64 u.params, .int .i64 u.regs, .slice A u.l.length c]] w (AnsI w (targU u)) := by
  obtain ⟨i0, hi, hz0, hz1, hz2⟩ := info_parts infoI
  obtain ⟨pm, rg, l⟩ := u
  dsimp only at *
  have hl : l.length ≤ 1048576 := by unfold unSz insSz at hsz; dsimp only at hsz; omega
  have hbr := blwC w (.cells #[.int .i64 pm, .int .i64 rg, .slice A l.length c] 71)
  have H := Lib.hid (h.below (hbr.mono hB))
  have Hb := Lib.hid hbr
  have HK := Lib.hid (Blk.new w 71 #[.int .i64 pm, .int .i64 rg, .slice A l.length c])
  have p0 := HK.out.cel 2 (v := .slice A l.length c) rfl
  clear h hbr hsz
  have hBW := Lib.hid (Nat.le_trans hB Hb.out.size)
  by_cases hbn : ¬ l.length ≤ 300
  · have E := Lib.hid (show targU ⟨pm, rg, l⟩ = [] by unfold targU; rw [if_neg hbn])
    go_enter Try.func40, Try.ntmps40
    go_wp2
    go_ret
    rw [E.out]
    exact AnsI.nil Hb.out
  have hbig : l.length ≤ 300 := by omega
  clear hbn
  have E := Lib.hid (show targU ⟨pm, rg, l⟩ = targTo l l.length by unfold targU; rw [if_pos hbig])
  go_enter Try.func40, Try.ntmps40
  go_wp2_with fail
  generalize hW : w.alloc (.cells #[.int .i64 pm, .int .i64 rg, .slice A l.length c] 71) = W
  rw [hW] at H Hb HK p0 hBW
  clear hW
  go_loopw [3, 4] (fun n i wr => ∃ k : Nat, k ≤ l.length ∧ i = .int .i64 k ∧ Hid (IRow wr W.heap.size n (targTo l k)) ∧ Below W.heap.size W wr) (fun _ i _ => l.length - (intOf i).toNat)
  case atStart => exact ⟨0, Nat.zero_le _, rfl, Lib.hid (IRow.nil _ _), Below.refl _ _⟩
  case round =>
    obtain ⟨k, hk, rfl, hrow, hbl⟩ := hrel
    obtain ⟨A', c', rfl, hlc⟩ := hrow.out.form
    have hll := targTo_len l k
    have KR := HK.out.below hbl HK.out.lt
    have q0 := KR.cel 2 (v := .slice A l.length c) rfl
    obtain ⟨w2, hw2⟩ : ∃ x, x = wr := ⟨_, rfl⟩
    subst hw2
    by_cases hlt : k < l.length
    · have Hyes := Lib.hid (fun h => targTo_yes (l := l) (k := k) h)
      have Hno := Lib.hid (fun h => targTo_no (l := l) (k := k) h)
      obtain ⟨T, hT⟩ : ∃ t, t = targTo l k := ⟨_, rfl⟩
      rw [← hT] at Hyes Hno hll hrow
      rw [← hT]
      have HKR := Lib.hid KR
      have Hbl := Lib.hid hbl
      clear hT KR hbl
      go_wp2_with fail
      go_loopw [3, 5] (fun n x wr => ∃ i : Nat, i ≤ l.length ∧ n = .slice A' T.length c' ∧ x = .int .i64 i ∧ Hid (∀ j (hj : j < l.length), j < i → hitI l[j] k = false) ∧ Hid (Below w2.heap.size w2 wr)) (fun _ x _ => l.length - (intOf x).toNat)
      case atStart => exact ⟨0, Nat.zero_le _, rfl, rfl, Lib.hid (fun j _ hj => absurd hj (Nat.not_lt_zero _)), Lib.hid (Below.refl _ _)⟩
      case round =>
        obtain ⟨i, hik, rfl, rfl, hall, hbi⟩ := hrel
        have p1 := (HKR.out.below hbi.out HKR.out.lt).cel 2 (v := .slice A l.length c) rfl
        have p2 := fun (o : Obj) => ((HKR.out.below hbi.out HKR.out.lt).alloc o).cel 2 (v := .slice A l.length c) rfl
        have Hrow := Lib.hid (hrow.out.below hbi.out)
        have Hbw := Lib.hid (Hbl.out.trans (hbi.out.mono Hbl.out.size))
        by_cases hil : i < l.length
        · obtain ⟨ad, rfl, _, hbk, hat⟩ := (H.out.below (Hbw.out.mono hBW.out)).2 (by omega)
          obtain ⟨x0, x1, x2, x3, x4, ⟨d0, d1, d2, d3, d4⟩, rfl, rfl, rfl, rfl, NA, nc, rfl, -, -⟩ := hat i hil
          have Hh : Hid (hitI l[i] k = true → targTo l (k + 1) = T ++ [(k : Int)]) := Lib.hid (fun e => Hyes.out (any_yes hil e))
          have Hn : Hid (hitI l[i] k = false → ∀ j (hj : j < l.length), j < i + 1 → hitI l[j] k = false) := Lib.hid (fun e j hj h => by
            by_cases ej : j = i
            · subst ej; exact e
            · exact hall.out j hj (by omega))
          have Hw : Hid (hitI l[i] k = ((l[i].op == 8 && l[i].a == (k : Int)) || (l[i].op == 9 && l[i].b == (k : Int)))) := Lib.hid rfl
          obtain ⟨o, ho⟩ : ∃ f, f = l[i].op := ⟨_, rfl⟩
          obtain ⟨ia, hia⟩ : ∃ f, f = l[i].a := ⟨_, rfl⟩
          obtain ⟨ib, hib⟩ : ∃ f, f = l[i].b := ⟨_, rfl⟩
          obtain ⟨ic, hic⟩ : ∃ f, f = l[i].c := ⟨_, rfl⟩
          obtain ⟨nl, hnl⟩ : ∃ f, f = l[i].name.length := ⟨_, rfl⟩
          obtain ⟨hh, hhe⟩ : ∃ f, f = hitI l[i] k := ⟨_, rfl⟩
          rw [← ho, ← hia, ← hib, ← hhe] at Hw
          rw [← hhe] at Hh Hn
          rw [← ho] at d0
          rw [← hia] at d1
          rw [← hib] at d2
          rw [← hic] at d3
          rw [← hnl] at d4
          have Hbn := Lib.hid (hbi.out.trans ((blwC wr (.cells #[.int .i64 o, .int .i64 ia, .int .i64 ib, .int .i64 ic, .slice NA nl nc] 118)).mono hbi.out.size))
          clear hat ho hia hib hic hnl hhe hall hbi
          rcases hit_cases o ia ib k with ⟨e1, e2⟩ | ⟨e1, e2⟩ | ⟨e1, e2⟩ | ⟨e1, e2⟩ | ⟨e1, e2⟩
          · subst e1 e2
            obtain rfl : hh = true := by rw [Hw.out]; simp
            have Hs := Lib.hid (Hh.out rfl)
            clear Hn Hh Hw
            have HO := Lib.hid ((Hrow.out.alloc (.cells #[.int .i64 8, .int .i64 (k : Int), .int .i64 ib, .int .i64 ic, .slice NA nl nc] 118)).alloc (.cells #[.int .i64 (k : Int)] 3))
            have Hcell := Lib.hid (cell_one_new (wr.alloc (.cells #[.int .i64 8, .int .i64 (k : Int), .int .i64 ib, .int .i64 ic, .slice NA nl nc] 118)) (.int .i64 (k : Int)) 3)
            have hws := Hbw.out.size
            have Hbl1 := Lib.hid (Hbl.out.trans (Hbn.out.mono Hbl.out.size))
            go_wp2_with (at_builtin; refine wpList_append_own _ rfl (.tmp 50) (.tmp 52) 23 rfl W.heap.size 3 i0 _ 1 8 Try.underlying23 hi hz0 hz1 hz2 rfl (by omega) _ _ _ rfl HO.out ⟨wr.heap.size + 1, 0, none⟩ 1 1 [.int .i64 (k : Int)] rfl rfl (by have := Hcell.out; rw [World.size_alloc] at this; exact this) (by simp [Value.oneCell']) (by unfold maxLen; omega) (by omega) (by simp; omega) ?_; intro v' w4 hown' hgrow _)
            have hbn : Below W.heap.size W w4 := HO.out.grown (Hbl1.out.alloc (by simp; omega) _) (by simp; omega) hgrow
            have Hnew := Lib.hid (IRow.snoc hown')
            have Hbn2 := Lib.hid hbn
            clear hown' hgrow hbn HO Hcell Hbl1
            go_roundw
            case rel => exact ⟨k + 1, by omega, by go_num, by rw [Hs.out]; exact Hnew, Hbn2.out⟩
            case measure => simp [intOf]; omega
          · subst e1
            have e3 : decide (ia = (k : Int)) = false := decide_eq_false e2
            obtain rfl : hh = false := by rw [Hw.out]; simp [e2]
            have Hs := Lib.hid (Hn.out rfl)
            clear Hn Hh Hw
            go_wp2
            go_roundw
            case rel => exact ⟨i + 1, by omega, rfl, by go_num, Hs, Hbn⟩
            case measure => simp [intOf]; omega
          · subst e1 e2
            obtain rfl : hh = true := by rw [Hw.out]; simp
            have Hs := Lib.hid (Hh.out rfl)
            clear Hn Hh Hw
            have HO := Lib.hid ((Hrow.out.alloc (.cells #[.int .i64 9, .int .i64 ia, .int .i64 (k : Int), .int .i64 ic, .slice NA nl nc] 118)).alloc (.cells #[.int .i64 (k : Int)] 3))
            have Hcell := Lib.hid (cell_one_new (wr.alloc (.cells #[.int .i64 9, .int .i64 ia, .int .i64 (k : Int), .int .i64 ic, .slice NA nl nc] 118)) (.int .i64 (k : Int)) 3)
            have hws := Hbw.out.size
            have Hbl1 := Lib.hid (Hbl.out.trans (Hbn.out.mono Hbl.out.size))
            go_wp2_with (at_builtin; refine wpList_append_own _ rfl (.tmp 50) (.tmp 52) 23 rfl W.heap.size 3 i0 _ 1 8 Try.underlying23 hi hz0 hz1 hz2 rfl (by omega) _ _ _ rfl HO.out ⟨wr.heap.size + 1, 0, none⟩ 1 1 [.int .i64 (k : Int)] rfl rfl (by have := Hcell.out; rw [World.size_alloc] at this; exact this) (by simp [Value.oneCell']) (by unfold maxLen; omega) (by omega) (by simp; omega) ?_; intro v' w4 hown' hgrow _)
            have hbn : Below W.heap.size W w4 := HO.out.grown (Hbl1.out.alloc (by simp; omega) _) (by simp; omega) hgrow
            have Hnew := Lib.hid (IRow.snoc hown')
            have Hbn2 := Lib.hid hbn
            clear hown' hgrow hbn HO Hcell Hbl1
            go_roundw
            case rel => exact ⟨k + 1, by omega, by go_num, by rw [Hs.out]; exact Hnew, Hbn2.out⟩
            case measure => simp [intOf]; omega
          · subst e1
            have e3 : decide (ib = (k : Int)) = false := decide_eq_false e2
            obtain rfl : hh = false := by rw [Hw.out]; simp [e2]
            have Hs := Lib.hid (Hn.out rfl)
            clear Hn Hh Hw
            go_wp2
            go_roundw
            case rel => exact ⟨i + 1, by omega, rfl, by go_num, Hs, Hbn⟩
            case measure => simp [intOf]; omega
          · have e3 : decide (o = 8) = false := decide_eq_false e1
            have e4 : decide (o = 9) = false := decide_eq_false e2
            obtain rfl : hh = false := by rw [Hw.out]; simp [e1, e2]
            have Hs := Lib.hid (Hn.out rfl)
            clear Hn Hh Hw
            go_wp2
            go_roundw
            case rel => exact ⟨i + 1, by omega, rfl, by go_num, Hs, Hbn⟩
            case measure => simp [intOf]; omega
        · obtain rfl : i = l.length := by omega
          have Hs := Lib.hid (Hno.out (any_no (fun j hj => hall.out j hj hj)))
          clear hall hbi
          go_wp2
          go_roundw
          case rel => exact ⟨k + 1, by omega, by go_num, by rw [Hs.out]; exact Hrow, Hbw.out⟩
          case measure => simp [intOf]; omega
    · obtain rfl : k = l.length := by omega
      have Hbe := Lib.hid (Hb.out.trans (hbl.mono Hb.out.size))
      clear hbl KR
      go_wp2
      go_ret
      rw [E.out]
      exact ⟨_, _, rfl, (hrow.out.own).lo_le Hb.out.size, Hbe.out⟩
end Go.Proofs.Ytmjpcgainoflbaa
