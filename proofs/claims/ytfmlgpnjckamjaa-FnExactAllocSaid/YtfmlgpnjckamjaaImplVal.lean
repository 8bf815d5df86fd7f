/-
  The program's ValOk.
-/
import Derived.Test.YtfmlgpnjckamjaaMroomOf
import Derived.Test.YtfmlgpnjckamjaaRegion
namespace Go.Proofs.Ytfmlgpnjckamjaa
open Go.RowKit
set_option linter.unusedVariables false
set_option linter.unusedSimpArgs false

section
variable (a : Ar) (A0 A1 A2 : Option Addr) (c0 c1 c2 L B : Nat) (w : World)

set_option maxRecDepth 100000 in
set_option maxHeartbeats 2000000 in
theorem implValOk_c (k n g : Int) (hB : B ≤ w.heap.size) (h : ArL w L B A0 A1 A2 a) (hsz : arSz a ≤ 1050000) :
    Calls Try.prog 60 #[.agg #[.slice A0 a.slots.length c0, .slice A1 a.queue.length c1, .slice A2 a.purple.length c2], .agg #[.int .i64 k, .int .i64 n, .int .i64 g]] w fun e w' => e = .returned (.bool (arOk a && valOk a.slots k n g)) ∧ Below w.heap.size w w' := by
  have hbW := blw2 w (.cells #[.slice A0 a.slots.length c0, .slice A1 a.queue.length c1, .slice A2 a.purple.length c2] 32) (.cells #[.int .i64 k, .int .i64 n, .int .i64 g] 43)
  have HR := Lib.hid (roomAt a A0 A1 A2 c0 c1 c2 L B w _ h hsz (hbW.mono hB) (Nat.le_trans hB hbW.size))
  have HbW := Lib.hid hbW
  have KV : Blk ((w.alloc (.cells #[.slice A0 a.slots.length c0, .slice A1 a.queue.length c1, .slice A2 a.purple.length c2] 32)).alloc (.cells #[.int .i64 k, .int .i64 n, .int .i64 g] 43)) (w.heap.size + 1) 43 #[.int .i64 k, .int .i64 n, .int .i64 g] := by
    have := Blk.new (w.alloc (.cells #[.slice A0 a.slots.length c0, .slice A1 a.queue.length c1, .slice A2 a.purple.length c2] 32)) 43 #[.int .i64 k, .int .i64 n, .int .i64 g]
    simpa using this
  have HKV := Lib.hid KV
  clear h hsz hbW KV
  go_enter Try.func60, Try.ntmps60
  go_wp2_with fail
  refine HR.out.mono ?_
  rintro e w1 ⟨u0, u1, u2, u3, rfl, hb, hu, hyes⟩
  have hbB := HbW.out.trans (hb.mono HbW.out.size)
  have KV1 := HKV.out.below hb HKV.out.lt
  cases hok : arOk a
  · have Hok := Lib.hid hok
    obtain ⟨_, _, _, rfl⟩ := hu u0 (by simp)
    obtain ⟨_, _, _, rfl⟩ := hu u1 (by simp)
    obtain ⟨_, _, _, rfl⟩ := hu u2 (by simp)
    obtain ⟨_, _, _, rfl⟩ := hu u3 (by simp)
    have Hb := Lib.hid hbB
    clear hu hb HbW HR hyes hbB KV1 HKV hok
    go_wp2
    go_ret
    exact ⟨by rw [Hok.out]; rfl, Hb.out.alloc Hb.out.size _⟩
  · have Hok := Lib.hid hok
    obtain ⟨A, c, rfl, hsl, -, rfl, rfl⟩ := hyes hok
    obtain ⟨LA, ln, lc, rfl⟩ := hu u1 (by simp)
    have hbr := blw1 w1 (.cells #[.slice A a.slots.length c, .slice LA ln lc, .slice A1 a.queue.length c1, .slice A2 a.purple.length c2] 100)
    have Hrt := Lib.hid (roomRight_c A c (.slice LA ln lc) (.slice A1 a.queue.length c1) (.slice A2 a.purple.length c2) rfl rfl rfl a.slots 0 w1.heap.size k n g _ hbr.size (hsl.below hbr))
    have q0 := KV1.cel 0 (v := .int .i64 k) rfl
    have q1 := KV1.cel 1 (v := .int .i64 n) rfl
    have q2 := KV1.cel 2 (v := .int .i64 g) rfl
    have hlt := KV1.lt
    have Hb := Lib.hid (hbB.trans (hbr.mono hbB.size))
    have HK := Lib.hid (KV1.alloc (.cells #[.slice A a.slots.length c, .slice LA ln lc, .slice A1 a.queue.length c1, .slice A2 a.purple.length c2] 100))
    have q0' := HK.out.cel 0 (v := .int .i64 k) rfl
    have q1' := HK.out.cel 1 (v := .int .i64 n) rfl
    have q2' := HK.out.cel 2 (v := .int .i64 g) rfl
    clear hu hb HbW HR hyes hbB KV1 HKV hok hsl hbr
    go_wp2_with fail
    refine Hrt.out.mono ?_
    rintro e w2 ⟨rfl, hb2⟩
    have Hb2 := Lib.hid (Hb.out.trans (hb2.mono Hb.out.size))
    clear hb2 Hb Hrt q0 q1 q2 q0' q1' q2'
    go_wp2
    go_ret
    exact ⟨by rw [Hok.out]; rfl, Hb2.out⟩
end
end Go.Proofs.Ytfmlgpnjckamjaa
