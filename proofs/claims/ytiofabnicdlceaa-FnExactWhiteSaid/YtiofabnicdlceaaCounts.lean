/-
  A room's counts, one behind the other.
-/
import Derived.Test.YtiofabnicdlceaaRoomAt
import Derived.Test.YtiofabnicdlceaaArnAns
namespace Go.Proofs.Ytiofabnicdlceaa
open Go.RowKit
set_option linter.unusedVariables false
set_option linter.unusedSimpArgs false

set_option maxRecDepth 100000 in
set_option maxHeartbeats 2000000 in
theorem counts_c (S : List Sl) (A LA A1 A2 : Option Addr) (c ln lc q1 c1 q2 c2 : Nat) (w : World) (hS : S.length ≤ 1048576) (h : SlL w 0 w.heap.size A S) :
    Calls Try.prog 82 #[.agg #[.slice A S.length c, .slice LA ln lc, .slice A1 q1 c1, .slice A2 q2 c2]] w (AnsI w (cntTo S S.length)) := by
  obtain ⟨i0, hi, hz0, hz1, hz2⟩ := info_parts infoI
  have hbr := blw1 w (.cells #[.slice A S.length c, .slice LA ln lc, .slice A1 q1 c1, .slice A2 q2 c2] 66)
  have H := Lib.hid (h.below hbr)
  have Hb := Lib.hid hbr
  clear h hbr
  go_enter Try.func82, Try.ntmps82
  go_wp2_with fail
  generalize hW : w.alloc (.cells #[.slice A S.length c, .slice LA ln lc, .slice A1 q1 c1, .slice A2 q2 c2] 66) = W
  rw [hW] at H Hb
  have hWs : w.heap.size ≤ W.heap.size := by rw [← hW]; simp
  have HWs := Lib.hid hWs
  clear hW hWs
  go_loopw [3, 9] (fun n i wr => ∃ k : Nat, k ≤ S.length ∧ i = .int .i64 k ∧ Hid (IRow wr W.heap.size n (cntTo S k)) ∧ Below W.heap.size W wr) (fun _ i _ => S.length - (intOf i).toNat)
  case atStart => exact ⟨0, Nat.zero_le _, rfl, Lib.hid (IRow.nil _ _), Below.refl _ _⟩
  case round =>
    obtain ⟨k, hk, rfl, hrow, hbl⟩ := hrel
    obtain ⟨A', c', rfl, hlc⟩ := hrow.out.form
    have hll := cntTo_len hk
    have hws := hbl.size
    by_cases hlt : k < S.length
    · obtain ⟨ad, rfl, _, hbk, hat⟩ := (H.out.below (hbl.mono HWs.out)).2 (by omega)
      obtain ⟨x0, x1, x2, x3, ⟨d0, d1, d2, d3⟩, rfl, rfl, rfl, FA, fc, rfl, -⟩ := hat k hlt
      have Hn := Lib.hid (cntTo_succ hlt)
      obtain ⟨fs, hfs⟩ : ∃ f, f = S[k].fs.length := ⟨_, rfl⟩
      obtain ⟨sl, hsl⟩ : ∃ f, f = S[k].live := ⟨_, rfl⟩
      obtain ⟨gn, hgn⟩ : ∃ f, f = S[k].gen := ⟨_, rfl⟩
      obtain ⟨ct, hct⟩ : ∃ f, f = S[k].count := ⟨_, rfl⟩
      rw [← hfs] at d3
      rw [← hsl] at d0
      rw [← hgn] at d1
      rw [← hct] at d2 Hn
      clear hat hfs hsl hgn hct
      have hr1 := hrow.out.alloc (.cells #[.bool sl, .int .i64 gn, .int .i64 ct, .slice FA fs fc] 107)
      have hbl1 := hbl.trans ((blw1 wr (.cells #[.bool sl, .int .i64 gn, .int .i64 ct, .slice FA fs fc] 107)).mono hws)
      have HO := Lib.hid (hr1.alloc (.cells #[.int .i64 ct] 3))
      have Hcell := Lib.hid (cell_one_new (wr.alloc (.cells #[.bool sl, .int .i64 gn, .int .i64 ct, .slice FA fs fc] 107)) (.int .i64 ct) 3)
      have Hbl1 := Lib.hid hbl1
      clear hr1 hbl hbl1
      go_wp2_with (at_builtin; refine wpList_append_own _ rfl (.tmp 13) (.tmp 17) 23 rfl W.heap.size 3 i0 _ 1 8 Try.underlying23 hi hz0 hz1 hz2 rfl (by omega) _ _ _ rfl HO.out ⟨wr.heap.size + 1, 0, none⟩ 1 1 [.int .i64 ct] rfl rfl (by have := Hcell.out; rw [World.size_alloc] at this; exact this) (by simp [Value.oneCell']) (by unfold maxLen; omega) (by omega) (by simp; omega) ?_; intro v' w4 hown' hgrow _)
      have hbn : Below W.heap.size W w4 := HO.out.grown (Hbl1.out.alloc (by simp; omega) _) (by simp; omega) hgrow
      have Hnew := Lib.hid (IRow.snoc hown')
      have Hbn := Lib.hid hbn
      clear hown' hgrow hbn HO Hcell Hbl1
      go_roundw
      case rel => exact ⟨k + 1, by omega, by go_num, by rw [Hn.out]; exact Hnew, Hbn.out⟩
      case measure => simp [intOf]; omega
    · obtain rfl : k = S.length := by omega
      have Hbw := Lib.hid (Hb.out.trans (hbl.mono HWs.out))
      clear hbl
      go_wp2
      go_ret
      exact ⟨_, _, rfl, (hrow.out.own).lo_le HWs.out, Hbw.out⟩

end Go.Proofs.Ytiofabnicdlceaa
