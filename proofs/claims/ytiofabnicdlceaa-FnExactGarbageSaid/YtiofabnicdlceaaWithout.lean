/-
  The program's without.
-/
import Derived.Test.YtiofabnicdlceaaGarbD
import Derived.Test.YtiofabnicdlceaaQueue
namespace Go.Proofs.Ytiofabnicdlceaa
open Go.RowKit
set_option linter.unusedVariables false
set_option linter.unusedSimpArgs false

theorem restI_take_yes {l R : List Int} {k : Nat} (h : k < l.length) (hb : hasI R l[k] = false) : restI (l.take (k + 1)) R = restI (l.take k) R ++ [l[k]] := by
  unfold restI
  rw [List.take_succ_eq_append_getElem h, List.filter_append]
  simp [hb]
theorem restI_take_no {l R : List Int} {k : Nat} (h : k < l.length) (hb : hasI R l[k] = true) : restI (l.take (k + 1)) R = restI (l.take k) R := by
  unfold restI
  rw [List.take_succ_eq_append_getElem h, List.filter_append]
  simp [hb]
theorem restI_le (l R : List Int) : (restI l R).length ≤ l.length := List.length_filter_le _ _

set_option maxRecDepth 100000 in
set_option maxHeartbeats 4000000 in
theorem without_c (l R : List Int) (A RA : Option Addr) (c rc L B lo : Nat) (w : World) (hB : B ≤ w.heap.size) (hl : l.length ≤ 1048576) (hRl : R.length ≤ 1048576) (hs : R.Pairwise (· < ·)) (h : IL w L B A l) (hR : SetV w lo (.slice RA R.length rc) R) :
    Calls Try.prog 43 #[.slice A l.length c, .slice RA R.length rc] w (AnsI w (restI l R)) := by
  obtain ⟨i0, hi, hz0, hz1, hz2⟩ := info_parts infoI
  have H := Lib.hid h
  have HR := Lib.hid hR
  have Hs := Lib.hid hs
  clear h hR hs
  go_enter Try.func43, Try.ntmps43
  go_wp2
  go_loopw [5, 10] (fun n i wr => ∃ k : Nat, k ≤ l.length ∧ i = .int .i64 k ∧ Hid (IRow wr w.heap.size n (restI (l.take k) R)) ∧ Hid (Below w.heap.size w wr)) (fun _ i _ => l.length - (intOf i).toNat)
  case atStart => exact ⟨0, Nat.zero_le _, rfl, Lib.hid (IRow.nil _ _), Lib.hid (Below.refl _ _)⟩
  case round =>
    obtain ⟨k, hk, rfl, hrow, hbl⟩ := hrel
    obtain ⟨A', c', rfl, hlc⟩ := hrow.out.form
    have hws := hbl.out.size
    have hll := restI_le (l.take k) R
    have htl : (l.take k).length ≤ k := by simp; omega
    by_cases hlt : k < l.length
    · obtain ⟨ad, rfl, _, hbk, hat⟩ := (H.out.below (hbl.out.mono hB)).2 (by omega)
      have d0 := hat k hlt
      have Hc := Lib.hid (setHas_c R (.slice RA R.length rc) lo l[k] wr hRl Hs.out (HR.out.below hbl.out))
      have Hy := Lib.hid (fun h => restI_take_yes (R := R) hlt h)
      have Hno := Lib.hid (fun h => restI_take_no (R := R) hlt h)
      obtain ⟨x, hx⟩ : ∃ x, x = l[k] := ⟨_, rfl⟩
      rw [← hx] at d0 Hc Hy Hno
      clear hat hx
      cases hh : hasI R x
      · rw [hh] at Hc
        have Hn := Lib.hid (Hy.out hh)
        have Hcell := Lib.hid (cell_one_new wr (.int .i64 x) 3)
        have HO := Lib.hid (hrow.out.alloc (.cells #[.int .i64 x] 3))
        clear hh Hy Hno
        have Hll := Lib.hid (Nat.le_trans hll htl)
        clear hll htl
        go_wp2_with fail
        refine Hc.out.mono ?_
        rintro e w' ⟨rfl, rfl⟩
        go_wp2_with (at_builtin; refine wpList_append_own _ rfl (.tmp 18) (.tmp 20) 64 rfl w.heap.size 3 i0 _ 1 8 Try.underlying64 hi hz0 hz1 hz2 rfl (by omega) _ _ _ rfl HO.out ⟨wr.heap.size, 0, none⟩ 1 1 [.int .i64 x] rfl rfl Hcell.out (by simp [Value.oneCell']) (by have := Hll.out; unfold maxLen; omega) (by have := Hll.out; omega) (by simp; omega) ?_; intro v' w4 hown' hgrow _)
        have hbn : Below w.heap.size w w4 := (hrow.out.alloc (.cells #[.int .i64 x] 3)).grown (hbl.out.alloc hws _) (by simp; omega) hgrow
        have Hnew := Lib.hid (IRow.snoc (l := restI (l.take k) R) (x := x) hown')
        have Hbn := Lib.hid hbn
        clear hown' hgrow hbn HO Hcell
        go_roundw
        case rel => exact ⟨k + 1, by omega, by go_num, by rw [Hn.out]; exact Hnew, Hbn⟩
        case measure => simp [intOf]; omega
      · rw [hh] at Hc
        have Hn := Lib.hid (Hno.out hh)
        clear hh Hy Hno
        go_wp2_with fail
        refine Hc.out.mono ?_
        rintro e w' ⟨rfl, rfl⟩
        go_wp2
        go_roundw
        case rel => exact ⟨k + 1, by omega, by go_num, by rw [Hn.out]; exact hrow, hbl⟩
        case measure => simp [intOf]; omega
    · obtain rfl : k = l.length := by omega
      have ho := hrow.out.own
      have e : l.take l.length = l := List.take_length
      rw [e] at ho
      have Ho := Lib.hid ho
      have E := Lib.hid e
      clear hrow ho e
      go_wp2
      go_ret
      rw [E.out]
      exact ⟨_, _, rfl, Ho.out, hbl.out⟩
end Go.Proofs.Ytiofabnicdlceaa
