/-
  Greatest: the program's and the model's.
-/
import Derived.Test.YtpepikjcbgkcfaaCode
namespace Go.Proofs.Ytpepikjcbgkcfaa
open Go.RowKit
set_option linter.unusedVariables false
set_option linter.unusedSimpArgs false

def putsOp (o : Int) : Bool := o == 1 || o == 2 || o == 3 || o == 4 || o == 5 || o == 7 || o == 10 || o == 13 || o == 14
def greatTo (l : List In) (k : Nat) : Int := (l.take k).foldl (fun n x => if putsOp x.op then max n x.a else n) (-1)
theorem greatTo_zero (l : List In) : greatTo l 0 = -1 := rfl
theorem greatTo_yes {l : List In} {k : Nat} (h : k < l.length) (hp : putsOp l[k].op = true) : greatTo l (k + 1) = max (greatTo l k) l[k].a := by
  unfold greatTo
  rw [List.take_succ_eq_append_getElem h, List.foldl_append]
  simp [hp]
theorem greatTo_no {l : List In} {k : Nat} (h : k < l.length) (hp : putsOp l[k].op = false) : greatTo l (k + 1) = greatTo l k := by
  unfold greatTo
  rw [List.take_succ_eq_append_getElem h, List.foldl_append]
  simp [hp]
theorem mx_ (z a : Int) : (if z < a then a else z) = max z a := by rw [Int.max_def]; split <;> split <;> omega
theorem op_cases (o : Int) : (o = 1 ∨ o = 2 ∨ o = 3 ∨ o = 4 ∨ o = 5 ∨ o = 7 ∨ o = 10 ∨ o = 13 ∨ o = 14) ∨ (o = 6 ∨ o = 8 ∨ o = 9 ∨ o = 11 ∨ o = 12) ∨ o < 1 ∨ 15 ≤ o := by omega

set_option maxHeartbeats 1000000 in
theorem l2most_c (a b : Int) (w : World) :
    Calls Try.prog 74 #[.int .i64 a, .int .i64 b] w fun e w' => e = .returned (.int .i64 (max a b)) ∧ w = w' := by
  by_cases h : a < b
  · have hm := Lib.hid (Int.max_eq_right (Int.le_of_lt h))
    go_enter Try.func74, Try.ntmps74
    go_wp2
    go_ret
    exact ⟨by rw [hm.out]; rfl, rfl⟩
  · have hm := Lib.hid (Int.max_eq_left (Int.not_lt.1 h))
    go_enter Try.func74, Try.ntmps74
    go_wp2
    go_ret
    exact ⟨by rw [hm.out]; rfl, rfl⟩

set_option maxRecDepth 100000 in
set_option maxHeartbeats 8000000 in
theorem implGreatest_c (u : Un) (A : Option Addr) (c L B : Nat) (w : World) (hB : B ≤ w.heap.size) (hsz : unSz u ≤ 1048576) (h : InL w L B A u.l) :
    Calls Try.prog 46 #[.agg #[.int .i64 u.params, .int .i64 u.regs, .slice A u.l.length c]] w fun e w' => e = .returned (.int .i64 (greatTo u.l u.l.length)) ∧ Below w.heap.size w w' := by
  obtain ⟨pm, rg, l⟩ := u
  dsimp only at *
  have hl : l.length ≤ 1048576 := by unfold unSz insSz at hsz; dsimp only at hsz; omega
  have hbr := blwC w (.cells #[.int .i64 pm, .int .i64 rg, .slice A l.length c] 70)
  have H := Lib.hid (h.below (hbr.mono hB))
  have Hb := Lib.hid hbr
  clear h hbr hsz
  go_enter Try.func46, Try.ntmps46
  go_wp2_with fail
  generalize hW : w.alloc (.cells #[.int .i64 pm, .int .i64 rg, .slice A l.length c] 70) = W
  rw [hW] at H Hb
  have hWs : w.heap.size ≤ W.heap.size := by rw [← hW]; simp
  have HWs := Lib.hid hWs
  clear hW hWs
  go_loopw [3, 9] (fun n i wr => ∃ k : Nat, k ≤ l.length ∧ i = .int .i64 k ∧ n = .int .i64 (greatTo l k) ∧ Below W.heap.size W wr) (fun _ i _ => l.length - (intOf i).toNat)
  case atStart => exact ⟨0, Nat.zero_le _, rfl, rfl, Below.refl _ _⟩
  case round =>
    obtain ⟨k, hk, rfl, rfl, hbl⟩ := hrel
    have hws := hbl.size
    by_cases hlt : k < l.length
    · obtain ⟨ad, rfl, _, hbk, hat⟩ := (H.out.below (hbl.mono (Nat.le_trans hB HWs.out))).2 (by omega)
      obtain ⟨x0, x1, x2, x3, x4, ⟨d0, d1, d2, d3, d4⟩, rfl, rfl, rfl, rfl, NA, nc, rfl, -, -⟩ := hat k hlt
      have Hy := Lib.hid (fun h => greatTo_yes (l := l) hlt h)
      have Hno := Lib.hid (fun h => greatTo_no (l := l) hlt h)
      obtain ⟨o, ho⟩ : ∃ f, f = l[k].op := ⟨_, rfl⟩
      obtain ⟨ia, hia⟩ : ∃ f, f = l[k].a := ⟨_, rfl⟩
      obtain ⟨ib, hib⟩ : ∃ f, f = l[k].b := ⟨_, rfl⟩
      obtain ⟨ic, hic⟩ : ∃ f, f = l[k].c := ⟨_, rfl⟩
      obtain ⟨nl, hnl⟩ : ∃ f, f = l[k].name.length := ⟨_, rfl⟩
      rw [← ho] at d0 Hy Hno
      rw [← hia] at d1 Hy
      rw [← hib] at d2
      rw [← hic] at d3
      rw [← hnl] at d4
      obtain ⟨z, hz⟩ : ∃ z, z = greatTo l k := ⟨_, rfl⟩
      rw [← hz] at Hy Hno
      rw [← hz]
      clear hat ho hia hib hic hnl hz
      have Hbn := Lib.hid (hbl.trans ((blwC wr (.cells #[.int .i64 o, .int .i64 ia, .int .i64 ib, .int .i64 ic, .slice NA nl nc] 109)).mono hws))
      clear hbl
      rcases op_cases o with h | h | h | h
      · rcases h with rfl | rfl | rfl | rfl | rfl | rfl | rfl | rfl | rfl
        all_goals
          have Hn := Lib.hid (Hy.out rfl)
          clear Hy Hno
          go_wp2
          go_roundw
          case rel => exact ⟨k + 1, by omega, by go_num, by rw [Hn.out, ← mx_], Hbn.out⟩
          case measure => simp [intOf]; omega
      · rcases h with rfl | rfl | rfl | rfl | rfl
        all_goals
          have Hn := Lib.hid (Hno.out rfl)
          clear Hy Hno
          go_wp2
          go_roundw
          case rel => exact ⟨k + 1, by omega, by go_num, by rw [Hn.out], Hbn.out⟩
          case measure => simp [intOf]; omega
      · have Hn := Lib.hid (Hno.out (by unfold putsOp; simp only [Bool.or_eq_false_iff, beq_eq_false_iff_ne]; omega))
        have e1 : ¬ o = 1 := by omega
        have e2 : ¬ o = 2 := by omega
        have e3 : ¬ o = 3 := by omega
        have e4 : ¬ o = 4 := by omega
        have e5 : ¬ o = 5 := by omega
        have e6 : ¬ o = 7 := by omega
        have e7 : ¬ o = 10 := by omega
        have e8 : ¬ o = 13 := by omega
        have e9 : ¬ o = 14 := by omega
        clear Hy Hno h
        go_wp2
        go_roundw
        case rel => exact ⟨k + 1, by omega, by go_num, by rw [Hn.out], Hbn.out⟩
        case measure => simp [intOf]; omega
      · have Hn := Lib.hid (Hno.out (by unfold putsOp; simp only [Bool.or_eq_false_iff, beq_eq_false_iff_ne]; omega))
        have e1 : ¬ o = 1 := by omega
        have e2 : ¬ o = 2 := by omega
        have e3 : ¬ o = 3 := by omega
        have e4 : ¬ o = 4 := by omega
        have e5 : ¬ o = 5 := by omega
        have e6 : ¬ o = 7 := by omega
        have e7 : ¬ o = 10 := by omega
        have e8 : ¬ o = 13 := by omega
        have e9 : ¬ o = 14 := by omega
        clear Hy Hno h
        go_wp2
        go_roundw
        case rel => exact ⟨k + 1, by omega, by go_num, by rw [Hn.out], Hbn.out⟩
        case measure => simp [intOf]; omega
    · obtain rfl : k = l.length := by omega
      have Hbw := Lib.hid (Hb.out.trans (hbl.mono HWs.out))
      clear hbl
      go_wp2
      go_ret
      exact ⟨rfl, Hbw.out⟩

set_option maxRecDepth 100000 in
set_option maxHeartbeats 8000000 in
theorem specGreatest_c (u : Un) (A : Option Addr) (c L B : Nat) (w : World) (hB : B ≤ w.heap.size) (hsz : unSz u ≤ 1048576) (h : InL w L B A u.l) :
    Calls Try.prog 44 #[.agg #[.int .i64 u.params, .int .i64 u.regs, .slice A u.l.length c]] w fun e w' => e = .returned (.int .i64 (greatTo u.l u.l.length)) ∧ Below w.heap.size w w' := by
  obtain ⟨pm, rg, l⟩ := u
  dsimp only at *
  have hl : l.length ≤ 1048576 := by unfold unSz insSz at hsz; dsimp only at hsz; omega
  have hbr := blwC w (.cells #[.int .i64 pm, .int .i64 rg, .slice A l.length c] 70)
  have H := Lib.hid (h.below (hbr.mono hB))
  have Hb := Lib.hid hbr
  have K := Blk.new w 70 #[.int .i64 pm, .int .i64 rg, .slice A l.length c]
  have p0 := K.cel 2 (v := .slice A l.length c) rfl
  clear h hbr hsz K
  go_enter Try.func44, Try.ntmps44
  go_wp2_with fail
  generalize hW : w.alloc (.cells #[.int .i64 pm, .int .i64 rg, .slice A l.length c] 70) = W
  rw [hW] at H Hb p0
  clear hW
  go_loopw [3, 4] (fun n i wr => ∃ k : Nat, k ≤ l.length ∧ i = .int .i64 k ∧ n = .int .i64 (greatTo l k) ∧ wr = W) (fun _ i _ => l.length - (intOf i).toNat)
  case atStart => exact ⟨0, Nat.zero_le _, rfl, rfl, by trivial⟩
  case round =>
    obtain ⟨k, hk, rfl, rfl, rfl⟩ := hrel
    by_cases hlt : k < l.length
    · obtain ⟨ad, rfl, _, hbk, hat⟩ := H.out.2 (by omega)
      obtain ⟨x0, x1, x2, x3, x4, ⟨d0, d1, d2, d3, d4⟩, rfl, rfl, rfl, rfl, NA, nc, rfl, -, -⟩ := hat k hlt
      have Hy := Lib.hid (fun h => greatTo_yes (l := l) hlt h)
      have Hno := Lib.hid (fun h => greatTo_no (l := l) hlt h)
      obtain ⟨o, ho⟩ : ∃ f, f = l[k].op := ⟨_, rfl⟩
      obtain ⟨ia, hia⟩ : ∃ f, f = l[k].a := ⟨_, rfl⟩
      rw [← ho] at d0 Hy Hno
      rw [← hia] at d1 Hy
      obtain ⟨z, hz⟩ : ∃ z, z = greatTo l k := ⟨_, rfl⟩
      rw [← hz] at Hy Hno
      rw [← hz]
      have Hm := Lib.hid (l2most_c z ia wr)
      clear hat ho hia hz d2 d3 d4
      rcases op_cases o with h | h | h | h
      · rcases h with rfl | rfl | rfl | rfl | rfl | rfl | rfl | rfl | rfl
        all_goals
          have Hn := Lib.hid (Hy.out rfl)
          clear Hy Hno
          go_wp2_with fail
          refine Hm.out.mono ?_
          rintro e w2 ⟨rfl, rfl⟩
          go_wp2
          go_roundw
          case rel => exact ⟨k + 1, by omega, by go_num, by rw [Hn.out], by trivial⟩
          case measure => simp [intOf]; omega
      · rcases h with rfl | rfl | rfl | rfl | rfl
        all_goals
          have Hn := Lib.hid (Hno.out rfl)
          clear Hy Hno Hm
          go_wp2
          go_roundw
          case rel => exact ⟨k + 1, by omega, by go_num, by rw [Hn.out], by trivial⟩
          case measure => simp [intOf]; omega
      · have Hn := Lib.hid (Hno.out (by unfold putsOp; simp only [Bool.or_eq_false_iff, beq_eq_false_iff_ne]; omega))
        have b1 : decide (1 ≤ o) = false := decide_eq_false (by omega)
        have e6 : decide (o = 7) = false := decide_eq_false (by omega)
        have e6b : (o == 7) = false := by simp; omega
        have e7 : decide (o = 10) = false := decide_eq_false (by omega)
        have e7b : (o == 10) = false := by simp; omega
        have e8 : decide (o = 13) = false := decide_eq_false (by omega)
        have e8b : (o == 13) = false := by simp; omega
        have e9 : decide (o = 14) = false := decide_eq_false (by omega)
        have e9b : (o == 14) = false := by simp; omega
        clear Hy Hno Hm
        go_wp2
        go_roundw
        case rel => exact ⟨k + 1, by omega, by go_num, by rw [Hn.out], by trivial⟩
        case measure => simp [intOf]; omega
      · have Hn := Lib.hid (Hno.out (by unfold putsOp; simp only [Bool.or_eq_false_iff, beq_eq_false_iff_ne]; omega))
        have b1 : decide (1 ≤ o) = true := decide_eq_true (by omega)
        have b2 : decide (o ≤ 5) = false := decide_eq_false (by omega)
        have e6 : decide (o = 7) = false := decide_eq_false (by omega)
        have e6b : (o == 7) = false := by simp; omega
        have e7 : decide (o = 10) = false := decide_eq_false (by omega)
        have e7b : (o == 10) = false := by simp; omega
        have e8 : decide (o = 13) = false := decide_eq_false (by omega)
        have e8b : (o == 13) = false := by simp; omega
        have e9 : decide (o = 14) = false := decide_eq_false (by omega)
        have e9b : (o == 14) = false := by simp; omega
        clear Hy Hno Hm
        go_wp2
        go_roundw
        case rel => exact ⟨k + 1, by omega, by go_num, by rw [Hn.out], by trivial⟩
        case measure => simp [intOf]; omega
    · obtain rfl : k = l.length := by omega
      go_wp2
      go_ret
      exact ⟨rfl, Hb.out⟩
end Go.Proofs.Ytpepikjcbgkcfaa
