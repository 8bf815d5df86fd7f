/-
  The model's FuncAt.
-/
import Derived.Test.YtglalpoalinieaaSpecProgOk
namespace Go.Proofs.Ytglalpoalinieaa
open Go.RowKit Go.Shelf
set_option linter.unusedVariables false

set_option maxRecDepth 100000 in
set_option maxHeartbeats 4000000 in
theorem specFuncAt_c (l : List Fn) (A : Option Addr) (cp L B : Nat) (b : List UInt8) (A' : Option Addr) (c' B' : Nat) (w : World) (hB : B ≤ w.heap.size) (hB' : B' ≤ w.heap.size) (hsz : fnsSz l ≤ 1048576) (h : FnL w L B A l) (h' : RB w B' A' b) :
    Calls Try.prog 18 #[.agg #[.slice A l.length cp], .slice A' b.length c'] w fun r w' => r = .returned (.int .i64 (if progOk l = true then placeOf (namesOf l) b else -1)) ∧ Below w.heap.size w w' := by
  have hm := h.1
  unfold maxLen at hm
  have hnl : (namesOf l).length = l.length := by unfold namesOf; rw [List.length_map]
  have hb0 : Below w.heap.size w (w.alloc (.cells #[.slice A l.length cp] 29)) := (Below.refl _ _).alloc (Nat.le_refl _) _
  have KP := Blk.new w 29 #[.slice A l.length cp]
  have hc := specProgOk_c l A cp L B _ (Nat.le_trans hB hb0.size) hsz (h.below (hb0.mono hB))
  cases hf : progOk l
  · rw [hf] at hc
    have Hc := Lib.hid hc
    rw [if_neg (by decide)]
    clear hc hf h
    go_enter Try.func18, Try.ntmps18
    go_wp2_with fail
    refine Hc.out.mono ?_
    rintro r w1 ⟨rfl, hb1⟩
    go_wp2
    go_ret
    exact ⟨rfl, hb0.trans (hb1.mono hb0.size)⟩
  rw [hf] at hc
  have Hc := Lib.hid hc
  rw [if_pos rfl]
  clear hc hf
  have H := Lib.hid h
  have H' := Lib.hid h'
  clear h h'
  go_enter Try.func18, Try.ntmps18
  go_wp2_with fail
  refine Hc.out.mono ?_
  rintro r w1 ⟨rfl, hb1⟩
  have hb01 := hb0.trans (hb1.mono hb0.size)
  have KP1 := KP.below hb1 KP.lt
  have hW := H.out.below (hb01.mono hB)
  have hW' := H'.out.below (hb01.mono hB')
  clear Hc
  go_wp2
  go_loopw [5] (fun i wr => ∃ (k : Nat), k ≤ l.length ∧ i = .int .i64 k ∧ (∃ d, wr = w1.drewN d) ∧ Hid (∀ x ∈ (namesOf l).take k, (x == b) = false)) (fun i _ => l.length - (intOf i).toNat)
  case atStart => exact ⟨0, Nat.zero_le _, rfl, ⟨0, rfl⟩, Lib.hid (by simp)⟩
  case round =>
    obtain ⟨k, hk, rfl, ⟨d, rfl⟩, hall⟩ := hrel
    have p0 := KP1.cell_of 0 (v := .slice A l.length cp) rfl
    by_cases hlt : k < l.length
    · obtain ⟨ad, rfl, _, hb, hat⟩ := hW.2 (by omega)
      obtain ⟨v0, v1, v2, ⟨c0, c1, c2⟩, hv⟩ := hat k hlt
      obtain ⟨fA, fc, fA1, fc1, fA2, fc2, rfl, rfl, rfl, fR, fm, fp, fb, fcp⟩ := hv
      have hcv := fun d => run_convert_RB (P := Try.prog) (fR.1.drewN d) 33 5 9 fc Try.underlying33 Try.underlying5 Try.underlying9
      have hcv' := fun d => run_convert_RB (P := Try.prog) (hW'.drewN d) 33 5 9 c' Try.underlying33 Try.underlying5 Try.underlying9
      have hltn : k < (namesOf l).length := by omega
      have hget : (namesOf l)[k] = l[k].name := List.getElem_map Fn.name
      clear hat fR fp fb c1 c2
      cases hs : (l[k].name == b)
      · have Hs := Lib.hid hs
        go_wp2_with fail
        go_quiet (fail)
        go_wp2
        go_roundw
        case rel =>
          refine ⟨k + 1, by omega, by go_num, ⟨d + nq, by first | rfl | exact World.drewN_drewN _ _ _⟩, Lib.hid (fun x hx => ?_)⟩
          rw [List.take_succ_eq_append_getElem hltn, List.mem_append] at hx
          rcases hx with hx | hx
          · exact hall.out x hx
          · rw [List.mem_singleton.1 hx, hget]; exact Hs.out
        case measure => simp [intOf]; omega
      · have Hs := Lib.hid hs
        go_wp2_with fail
        go_quiet (fail)
        go_wp2
        go_ret
        have hbn : Below w.heap.size w ((w1.drewN d).drewN nq) := ⟨hb01.os, hb01.tape, hb01.output, hb01.size, hb01.block⟩
        exact ⟨by rw [place_hit hltn hall.out (by rw [hget]; exact Hs.out)]; rfl, hbn⟩
    · go_wp2
      go_ret
      have hkl : k = (namesOf l).length := by omega
      have h1 := hall.out
      rw [hkl, List.take_length] at h1
      exact ⟨by rw [place_none h1]; rfl, ⟨hb01.os, hb01.tape, hb01.output, hb01.size, hb01.block⟩⟩
end Go.Proofs.Ytglalpoalinieaa
