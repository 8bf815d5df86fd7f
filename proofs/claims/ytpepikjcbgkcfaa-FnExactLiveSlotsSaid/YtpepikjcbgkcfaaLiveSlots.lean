/-
  The program's LiveSlots: the set of the live slots, in a block that the call has made (or none).
-/
import Derived.Test.YtpepikjcbgkcfaaRoomAt
import Derived.Test.YtpepikjcbgkcfaaArnAns
namespace Go.Proofs.Ytpepikjcbgkcfaa
open Go.RowKit
set_option linter.unusedVariables false
set_option linter.unusedSimpArgs false

section
variable (a : Ar) (A0 A1 A2 : Option Addr) (c0 c1 c2 L B : Nat) (w : World)


set_option maxRecDepth 100000 in
set_option maxHeartbeats 2000000 in
theorem implLiveSlots_c (hB : B ≤ w.heap.size) (h : ArL w L B A0 A1 A2 a) (hsz : arSz a ≤ 1048576) :
    Calls Try.prog 14 #[.agg #[.slice A0 a.slots.length c0, .slice A1 a.queue.length c1, .slice A2 a.purple.length c2]] w fun e w' => ∃ v, e = .returned v ∧ SetV w' w.heap.size v (liveA a) ∧ Below w.heap.size w w' := by
  have hbW := blw1 w (.cells #[.slice A0 a.slots.length c0, .slice A1 a.queue.length c1, .slice A2 a.purple.length c2] 30)
  have HR := Lib.hid (roomAt a A0 A1 A2 c0 c1 c2 L B w _ h hsz (hbW.mono hB) (Nat.le_trans hB hbW.size))
  have HbW := Lib.hid hbW
  clear h hsz hbW
  go_enter Try.func14, Try.ntmps14
  go_wp2_with fail
  refine HR.out.mono ?_
  rintro e w1 ⟨u0, u1, u2, u3, rfl, hb, hu, hyes⟩
  have Hb := Lib.hid (HbW.out.trans (hb.mono HbW.out.size))
  cases hok : arOk a
  · have E := Lib.hid (show liveA a = [] by unfold liveA; rw [hok]; rfl)
    obtain ⟨_, _, _, rfl⟩ := hu u0 (by simp)
    obtain ⟨_, _, _, rfl⟩ := hu u1 (by simp)
    obtain ⟨_, _, _, rfl⟩ := hu u2 (by simp)
    obtain ⟨_, _, _, rfl⟩ := hu u3 (by simp)
    clear hu hb HbW HR hyes hok
    go_wp2
    go_ret
    exact ⟨_, rfl, by rw [E.out]; exact SetV.nil _ _, Hb.out.alloc Hb.out.size _⟩
  · have E := Lib.hid (show liveA a = liveTo a.slots a.slots.length by unfold liveA; rw [hok]; rfl)
    obtain ⟨A, c, rfl, -, hlv, rfl, rfl⟩ := hyes hok
    obtain ⟨LA, lc, rfl⟩ := hlv.form
    have Hlv := Lib.hid hlv
    have hsz := HbW.out.size
    obtain ⟨ln, hln⟩ : ∃ n, n = (liveTo a.slots a.slots.length).length := ⟨_, rfl⟩
    rw [← hln] at Hlv
    rw [← hln]
    have Hln := Lib.hid hln
    clear hu hb HR hyes hok hlv hln
    go_wp2
    go_ret
    refine ⟨_, rfl, ?_, Hb.out.alloc Hb.out.size _⟩
    rw [E.out]
    rcases Hlv.out with ⟨e, h0⟩ | ⟨g, cs, e, hg, hb, h3⟩
    · exact .inl ⟨e, h0⟩
    · exact .inr ⟨g, cs, e.trans (by rw [← Hln.out]), Nat.le_trans hsz hg, hb.alloc _, h3⟩
theorem implLiveSlots_a (hB : B ≤ w.heap.size) (h : ArL w L B A0 A1 A2 a) (hsz : arSz a ≤ 1048576) :
    Calls Try.prog 14 #[.agg #[.slice A0 a.slots.length c0, .slice A1 a.queue.length c1, .slice A2 a.purple.length c2]] w (AnsI w (liveA a)) := by
  refine (implLiveSlots_c a A0 A1 A2 c0 c1 c2 L B w hB h hsz).mono ?_
  rintro e w' ⟨v, rfl, hs, hb⟩
  exact hs.ans hb
end
end Go.Proofs.Ytpepikjcbgkcfaa
