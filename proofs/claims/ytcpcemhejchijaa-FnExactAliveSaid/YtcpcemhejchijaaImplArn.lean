/-
  The program's answers about an arena: ArenaOk, ValOk.
-/
import Derived.Test.YtcpcemhejchijaaRoomOf2
import Derived.Test.YtcpcemhejchijaaSpecArnV
namespace Go.Proofs.Ytcpcemhejchijaa
open Go.RowKit
set_option linter.unusedVariables false
set_option linter.unusedSimpArgs false

section
variable (a : Ar) (A0 A1 A2 : Option Addr) (c0 c1 c2 L B : Nat) (w : World)

theorem roomAt (X : World) (h : ArL w L B A0 A1 A2 a) (hsz : arSz a ≤ 1048576) (hX : Below B w X) (hB : B ≤ X.heap.size) :
    Calls Try.prog 65 #[.agg #[.slice A0 a.slots.length c0, .slice A1 a.queue.length c1, .slice A2 a.purple.length c2]] X (RoomQ X a.slots (.slice A1 a.queue.length c1) (.slice A2 a.purple.length c2) (arOk a)) :=
  roomOf_c a.slots a.queue a.purple A0 A1 A2 c0 c1 c2 L B X hB hsz (h.1.below hX) (h.2.1.below hX) (h.2.2.below hX)

set_option maxRecDepth 100000 in
set_option maxHeartbeats 1000000 in
theorem implArenaOk_c (hB : B ≤ w.heap.size) (h : ArL w L B A0 A1 A2 a) (hsz : arSz a ≤ 1048576) :
    Calls Try.prog 18 #[.agg #[.slice A0 a.slots.length c0, .slice A1 a.queue.length c1, .slice A2 a.purple.length c2]] w fun e w' => e = .returned (.bool (arOk a)) ∧ Below w.heap.size w w' := by
  have hbW := blw1 w (.cells #[.slice A0 a.slots.length c0, .slice A1 a.queue.length c1, .slice A2 a.purple.length c2] 30)
  have HR := Lib.hid (roomAt a A0 A1 A2 c0 c1 c2 L B w _ h hsz (hbW.mono hB) (Nat.le_trans hB hbW.size))
  have HbW := Lib.hid hbW
  clear h hsz hbW
  go_enter Try.func18, Try.ntmps18
  go_wp2_with fail
  refine HR.out.mono ?_
  rintro e w1 ⟨u0, u1, u2, u3, rfl, hb, hu, -⟩
  obtain ⟨_, _, _, rfl⟩ := hu u0 (by simp)
  obtain ⟨_, _, _, rfl⟩ := hu u1 (by simp)
  obtain ⟨_, _, _, rfl⟩ := hu u2 (by simp)
  obtain ⟨_, _, _, rfl⟩ := hu u3 (by simp)
  have Hb := Lib.hid (HbW.out.trans (hb.mono HbW.out.size))
  clear hu hb HbW HR
  go_wp2
  go_ret
  exact ⟨rfl, Hb.out.alloc Hb.out.size _⟩

set_option maxRecDepth 100000 in
set_option maxHeartbeats 2000000 in
theorem implValOk_c (k n g : Int) (hB : B ≤ w.heap.size) (h : ArL w L B A0 A1 A2 a) (hsz : arSz a ≤ 1048576) :
    Calls Try.prog 24 #[.agg #[.slice A0 a.slots.length c0, .slice A1 a.queue.length c1, .slice A2 a.purple.length c2], .agg #[.int .i64 k, .int .i64 n, .int .i64 g]] w fun e w' => e = .returned (.bool (arOk a && valOk a.slots k n g)) ∧ Below w.heap.size w w' := by
  have hbW := blw2 w (.cells #[.slice A0 a.slots.length c0, .slice A1 a.queue.length c1, .slice A2 a.purple.length c2] 30) (.cells #[.int .i64 k, .int .i64 n, .int .i64 g] 37)
  have HR := Lib.hid (roomAt a A0 A1 A2 c0 c1 c2 L B w _ h hsz (hbW.mono hB) (Nat.le_trans hB hbW.size))
  have HbW := Lib.hid hbW
  have KV : Blk ((w.alloc (.cells #[.slice A0 a.slots.length c0, .slice A1 a.queue.length c1, .slice A2 a.purple.length c2] 30)).alloc (.cells #[.int .i64 k, .int .i64 n, .int .i64 g] 37)) (w.heap.size + 1) 37 #[.int .i64 k, .int .i64 n, .int .i64 g] := by
    have := Blk.new (w.alloc (.cells #[.slice A0 a.slots.length c0, .slice A1 a.queue.length c1, .slice A2 a.purple.length c2] 30)) 37 #[.int .i64 k, .int .i64 n, .int .i64 g]
    simpa using this
  have HKV := Lib.hid KV
  clear h hsz hbW KV
  go_enter Try.func24, Try.ntmps24
  go_wp2_with fail
  refine HR.out.mono ?_
  rintro e w1 ⟨u0, u1, u2, u3, rfl, hb, hu, hyes⟩
  have hbB := HbW.out.trans (hb.mono HbW.out.size)
  have KV1 := HKV.out.below hb HKV.out.lt
  cases hok : arOk a
  · have Hok := Lib.hid hok
    obtain ⟨_, _, _, rfl⟩ := hu u0 (by simp)
    obtain ⟨_, _, _, rfl⟩ := hu u1 (by simp)
    obtain ⟨_, _, _, rfl⟩ := hu u2 (by simp)
    obtain ⟨_, _, _, rfl⟩ := hu u3 (by simp)
    have Hb := Lib.hid hbB
    clear hu hb HbW HR hyes hbB KV1 HKV hok
    go_wp2
    go_ret
    exact ⟨by rw [Hok.out]; rfl, Hb.out.alloc Hb.out.size _⟩
  · have Hok := Lib.hid hok
    obtain ⟨A, c, rfl, hsl, -, rfl, rfl⟩ := hyes hok
    obtain ⟨LA, ln, lc, rfl⟩ := hu u1 (by simp)
    have hbr := blw1 w1 (.cells #[.slice A a.slots.length c, .slice LA ln lc, .slice A1 a.queue.length c1, .slice A2 a.purple.length c2] 80)
    have Hrt := Lib.hid (roomRight_c A c (.slice LA ln lc) (.slice A1 a.queue.length c1) (.slice A2 a.purple.length c2) rfl rfl rfl a.slots 0 w1.heap.size k n g _ hbr.size (hsl.below hbr))
    have q0 := KV1.cel 0 (v := .int .i64 k) rfl
    have q1 := KV1.cel 1 (v := .int .i64 n) rfl
    have q2 := KV1.cel 2 (v := .int .i64 g) rfl
    have hlt := KV1.lt
    have Hb := Lib.hid (hbB.trans (hbr.mono hbB.size))
    have HK := Lib.hid (KV1.alloc (.cells #[.slice A a.slots.length c, .slice LA ln lc, .slice A1 a.queue.length c1, .slice A2 a.purple.length c2] 80))
    have q0' := HK.out.cel 0 (v := .int .i64 k) rfl
    have q1' := HK.out.cel 1 (v := .int .i64 n) rfl
    have q2' := HK.out.cel 2 (v := .int .i64 g) rfl
    clear hu hb HbW HR hyes hbB KV1 HKV hok hsl hbr
    go_wp2_with fail
    refine Hrt.out.mono ?_
    rintro e w2 ⟨rfl, hb2⟩
    have Hb2 := Lib.hid (Hb.out.trans (hb2.mono Hb.out.size))
    clear hb2 Hb Hrt q0 q1 q2 q0' q1' q2'
    go_wp2
    go_ret
    exact ⟨by rw [Hok.out]; rfl, Hb2.out⟩

theorem live_dead (S : List Sl) : ∀ k, k ≤ S.length → (liveTo S k).length + deadTo S k = k := by
  intro k
  induction k with
  | zero => intro _; rfl
  | succ k ih =>
    intro hk
    have hk' : k < S.length := by omega
    have := ih (by omega)
    rw [deadTo_succ hk']
    cases hl : S[k].live
    · rw [liveTo_no hk' hl]; simp; omega
    · rw [liveTo_yes hk' hl]; simp; omega

set_option maxRecDepth 100000 in
set_option maxHeartbeats 2000000 in
theorem implFreeSlots_c (hB : B ≤ w.heap.size) (h : ArL w L B A0 A1 A2 a) (hsz : arSz a ≤ 1048576) :
    Calls Try.prog 26 #[.agg #[.slice A0 a.slots.length c0, .slice A1 a.queue.length c1, .slice A2 a.purple.length c2]] w fun e w' => e = .returned (.int .i64 (freeA a)) ∧ Below w.heap.size w w' := by
  have hbW := blw1 w (.cells #[.slice A0 a.slots.length c0, .slice A1 a.queue.length c1, .slice A2 a.purple.length c2] 30)
  have HR := Lib.hid (roomAt a A0 A1 A2 c0 c1 c2 L B w _ h hsz (hbW.mono hB) (Nat.le_trans hB hbW.size))
  have HbW := Lib.hid hbW
  have hS : a.slots.length ≤ 1048576 := by unfold arSz slsSz at hsz; omega
  have hld := live_dead a.slots a.slots.length (Nat.le_refl _)
  clear h hsz hbW
  go_enter Try.func26, Try.ntmps26
  go_wp2_with fail
  refine HR.out.mono ?_
  rintro e w1 ⟨u0, u1, u2, u3, rfl, hb, hu, hyes⟩
  have Hb := Lib.hid (HbW.out.trans (hb.mono HbW.out.size))
  cases hok : arOk a
  · have E := Lib.hid (show freeA a = 0 by unfold freeA; rw [hok]; rfl)
    obtain ⟨_, _, _, rfl⟩ := hu u0 (by simp)
    obtain ⟨_, _, _, rfl⟩ := hu u1 (by simp)
    obtain ⟨_, _, _, rfl⟩ := hu u2 (by simp)
    obtain ⟨_, _, _, rfl⟩ := hu u3 (by simp)
    clear hu hb HbW HR hyes hok hld
    go_wp2
    go_ret
    exact ⟨by rw [E.out]; rfl, Hb.out.alloc Hb.out.size _⟩
  · have E := Lib.hid (show freeA a = deadTo a.slots a.slots.length by unfold freeA; rw [hok]; rfl)
    obtain ⟨A, c, rfl, -, hlv, rfl, rfl⟩ := hyes hok
    obtain ⟨LA, lc, rfl⟩ := hlv.form
    obtain ⟨ln, hln⟩ : ∃ n, n = (liveTo a.slots a.slots.length).length := ⟨_, rfl⟩
    rw [← hln] at hld
    rw [← hln]
    have hln1 : (ln : Int) ≤ (a.slots.length : Int) := by omega
    have E2 := Lib.hid (show freeA a = (a.slots.length : Int) - (ln : Int) by rw [E.out]; omega)
    clear hu hb HbW HR hyes hok hld hlv hln E
    go_wp2
    go_ret
    exact ⟨by rw [E2.out]; rfl, Hb.out.alloc Hb.out.size _⟩
end
end Go.Proofs.Ytcpcemhejchijaa
