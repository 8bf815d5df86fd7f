/-
  Alive: the model's and the program's.
-/
import Derived.Test.YtcpcemhejchijaaImplArn
namespace Go.Proofs.Ytcpcemhejchijaa
open Go.RowKit
set_option linter.unusedVariables false
set_option linter.unusedSimpArgs false

def aliveB (S : List Sl) (k n g : Int) : Bool := (k == 2 || k == 3) && valOk S 2 n g

set_option maxRecDepth 100000 in
set_option maxHeartbeats 4000000 in
theorem l4alive_c (S : List Sl) (A0 : Option Addr) (c0 L B : Nat) (v1 v2 : Value) (k n g : Int) (hv1 : v1.cells = #[v1]) (hv2 : v2.cells = #[v2]) (w : World) (hB : B ≤ w.heap.size) (h : SlL w L B A0 S) :
    Calls Try.prog 67 #[.agg #[.slice A0 S.length c0, v1, v2], .agg #[.int .i64 k, .int .i64 n, .int .i64 g]] w fun e w' => e = .returned (.bool (aliveB S k n g)) ∧ Below w.heap.size w w' := by
  have hm := h.1
  unfold maxLen at hm
  by_cases h23 : k = 2 ∨ k = 3
  · have hk : (k == 2 || k == 3) = true := by rcases h23 with rfl | rfl <;> rfl
    rcases slotAt_cases S n with ⟨hs, hno⟩ | ⟨m, hlt, rfl, hs⟩
    · have E := Lib.hid (show aliveB S k n g = false by unfold aliveB; simp [valOk, hs])
      by_cases hn0 : 0 ≤ n
      · have hn1 : decide (n < (S.length : Int)) = false := decide_eq_false (fun h => hno ⟨hn0, h⟩)
        clear hno hs hk
        rcases h23 with rfl | rfl
        all_goals
          go_enter Try.func67, Try.ntmps67
          go_wp2
          go_quiet (fail)
          go_wp2
          go_ret
          exact ⟨by rw [E.out]; rfl, blw_drewN (blw2 _ _ _) _⟩
      · have hn1 : decide (0 ≤ n) = false := decide_eq_false hn0
        clear hno hs hk
        rcases h23 with rfl | rfl
        all_goals
          go_enter Try.func67, Try.ntmps67
          go_wp2
          go_quiet (fail)
          go_wp2
          go_ret
          exact ⟨by rw [E.out]; rfl, blw_drewN (blw2 _ _ _) _⟩
    · have e : aliveB S k m g = (S[m].live && S[m].gen == g) := by unfold aliveB; rw [hk, Bool.true_and]; simp [valOk, hs]
      have hb0 := blw2 w (.cells #[.slice A0 S.length c0, v1, v2] 30) (.cells #[.int .i64 k, .int .i64 m, .int .i64 g] 37)
      obtain ⟨ad, rfl, _, hb, hat⟩ := (h.below (hb0.mono hB)).2 (by omega)
      obtain ⟨x0, x1, x2, x3, ⟨d0, d1, d2, d3⟩, rfl, rfl, rfl, _⟩ := hat m hlt
      clear hat hs hb0
      cases hlv : S[m].live
      · rw [hlv] at d0 e
        have E := Lib.hid e
        clear e hlv hk
        rcases h23 with rfl | rfl
        all_goals
          go_enter Try.func67, Try.ntmps67
          go_wp2
          go_quiet (fail)
          go_wp2
          go_ret
          exact ⟨by rw [E.out]; rfl, blw_drewN (blw2 _ _ _) _⟩
      · rw [hlv] at d0 e
        have E := Lib.hid e
        clear e hlv hk
        rcases h23 with rfl | rfl
        all_goals
          go_enter Try.func67, Try.ntmps67
          go_wp2
          go_quiet (fail)
          go_wp2
          go_ret
          exact ⟨by rw [E.out]; rfl, blw_drewN (blw2 _ _ _) _⟩
  · have h2 : (k == 2) = false := by simp; omega
    have h3 : (k == 3) = false := by simp; omega
    have E := Lib.hid (show aliveB S k n g = false by unfold aliveB; rw [h2, h3]; rfl)
    clear h23
    go_enter Try.func67, Try.ntmps67
    go_wp2
    go_quiet (fail)
    go_wp2
    go_ret
    exact ⟨by rw [E.out]; rfl, blw_drewN (blw2 _ _ _) _⟩

section
variable (a : Ar) (A0 A1 A2 : Option Addr) (c0 c1 c2 L B : Nat) (w : World)

set_option maxRecDepth 100000 in
set_option maxHeartbeats 2000000 in
theorem specAlive_c (k n g : Int) (hB : B ≤ w.heap.size) (h : ArL w L B A0 A1 A2 a) (hsz : arSz a ≤ 1048576) (hc : a.purple.length ≤ c2) :
    Calls Try.prog 20 #[.agg #[.slice A0 a.slots.length c0, .slice A1 a.queue.length c1, .slice A2 a.purple.length c2], .agg #[.int .i64 k, .int .i64 n, .int .i64 g]] w fun e w' => e = .returned (.bool (arOk a && aliveB a.slots k n g)) ∧ Below w.heap.size w w' := by
  have hbW := blw2 w (.cells #[.slice A0 a.slots.length c0, .slice A1 a.queue.length c1, .slice A2 a.purple.length c2] 30) (.cells #[.int .i64 k, .int .i64 n, .int .i64 g] 37)
  have HR := Lib.hid (okAt a A0 A1 A2 c0 c1 c2 L B w _ h hsz hc (hbW.mono hB) (Nat.le_trans hB hbW.size))
  have HbW := Lib.hid hbW
  have KV : Blk ((w.alloc (.cells #[.slice A0 a.slots.length c0, .slice A1 a.queue.length c1, .slice A2 a.purple.length c2] 30)).alloc (.cells #[.int .i64 k, .int .i64 n, .int .i64 g] 37)) (w.heap.size + 1) 37 #[.int .i64 k, .int .i64 n, .int .i64 g] := by
    have := Blk.new (w.alloc (.cells #[.slice A0 a.slots.length c0, .slice A1 a.queue.length c1, .slice A2 a.purple.length c2] 30)) 37 #[.int .i64 k, .int .i64 n, .int .i64 g]
    simpa using this
  have KA : Blk ((w.alloc (.cells #[.slice A0 a.slots.length c0, .slice A1 a.queue.length c1, .slice A2 a.purple.length c2] 30)).alloc (.cells #[.int .i64 k, .int .i64 n, .int .i64 g] 37)) w.heap.size 30 #[.slice A0 a.slots.length c0, .slice A1 a.queue.length c1, .slice A2 a.purple.length c2] := (Blk.new w 30 #[.slice A0 a.slots.length c0, .slice A1 a.queue.length c1, .slice A2 a.purple.length c2]).alloc _
  have HKV := Lib.hid KV
  have HKA := Lib.hid KA
  have H := Lib.hid h
  clear h hsz hbW KV KA
  go_enter Try.func20, Try.ntmps20
  go_wp2_with fail
  refine HR.out.mono ?_
  rintro e w1 ⟨rfl, hb⟩
  have hbB := HbW.out.trans (hb.mono HbW.out.size)
  have KV1 := HKV.out.below hb HKV.out.lt
  have KA1 := HKA.out.below hb HKA.out.lt
  cases hok : arOk a
  · have Hok := Lib.hid hok
    have Hb := Lib.hid hbB
    clear hb HbW HR hbB KV1 KA1 HKV HKA hok
    go_wp2
    go_ret
    exact ⟨by rw [Hok.out]; rfl, Hb.out⟩
  · have Hok := Lib.hid hok
    have Hrt := Lib.hid (l4alive_c a.slots A0 c0 L B (.slice A1 a.queue.length c1) (.slice A2 a.purple.length c2) k n g rfl rfl w1 (Nat.le_trans hB hbB.size) (H.out.1.below (hbB.mono hB)))
    have q0 := KV1.cel 0 (v := .int .i64 k) rfl
    have q1 := KV1.cel 1 (v := .int .i64 n) rfl
    have q2 := KV1.cel 2 (v := .int .i64 g) rfl
    have p0 := KA1.cel 0 (v := .slice A0 a.slots.length c0) rfl
    have p1 := KA1.cel 1 (v := .slice A1 a.queue.length c1) rfl
    have p2 := KA1.cel 2 (v := .slice A2 a.purple.length c2) rfl
    have Hb := Lib.hid hbB
    clear hb HbW HR hbB KV1 KA1 HKV HKA hok
    go_wp2_with fail
    refine Hrt.out.mono ?_
    rintro e w2 ⟨rfl, hb2⟩
    have Hb2 := Lib.hid (Hb.out.trans (hb2.mono Hb.out.size))
    clear hb2 Hb Hrt q0 q1 q2 p0 p1 p2
    go_wp2
    go_ret
    exact ⟨by rw [Hok.out]; rfl, Hb2.out⟩

set_option maxRecDepth 100000 in
set_option maxHeartbeats 2000000 in
theorem implAlive_c (k n g : Int) (hB : B ≤ w.heap.size) (h : ArL w L B A0 A1 A2 a) (hsz : arSz a ≤ 1048576) :
    Calls Try.prog 22 #[.agg #[.slice A0 a.slots.length c0, .slice A1 a.queue.length c1, .slice A2 a.purple.length c2], .agg #[.int .i64 k, .int .i64 n, .int .i64 g]] w fun e w' => e = .returned (.bool (arOk a && aliveB a.slots k n g)) ∧ Below w.heap.size w w' := by
  have hbW := blw2 w (.cells #[.slice A0 a.slots.length c0, .slice A1 a.queue.length c1, .slice A2 a.purple.length c2] 30) (.cells #[.int .i64 k, .int .i64 n, .int .i64 g] 37)
  have HR := Lib.hid (roomAt a A0 A1 A2 c0 c1 c2 L B w _ h hsz (hbW.mono hB) (Nat.le_trans hB hbW.size))
  have HbW := Lib.hid hbW
  have KV : Blk ((w.alloc (.cells #[.slice A0 a.slots.length c0, .slice A1 a.queue.length c1, .slice A2 a.purple.length c2] 30)).alloc (.cells #[.int .i64 k, .int .i64 n, .int .i64 g] 37)) (w.heap.size + 1) 37 #[.int .i64 k, .int .i64 n, .int .i64 g] := by
    have := Blk.new (w.alloc (.cells #[.slice A0 a.slots.length c0, .slice A1 a.queue.length c1, .slice A2 a.purple.length c2] 30)) 37 #[.int .i64 k, .int .i64 n, .int .i64 g]
    simpa using this
  have HKV := Lib.hid KV
  clear h hsz hbW KV
  go_enter Try.func22, Try.ntmps22
  go_wp2_with fail
  refine HR.out.mono ?_
  rintro e w1 ⟨u0, u1, u2, u3, rfl, hb, hu, hyes⟩
  have hbB := HbW.out.trans (hb.mono HbW.out.size)
  have KV1 := HKV.out.below hb HKV.out.lt
  cases hok : arOk a
  · have Hok := Lib.hid hok
    obtain ⟨_, _, _, rfl⟩ := hu u0 (by simp)
    obtain ⟨_, _, _, rfl⟩ := hu u1 (by simp)
    obtain ⟨_, _, _, rfl⟩ := hu u2 (by simp)
    obtain ⟨_, _, _, rfl⟩ := hu u3 (by simp)
    have Hb := Lib.hid hbB
    clear hu hb HbW HR hyes hbB KV1 HKV hok
    go_wp2
    go_ret
    exact ⟨by rw [Hok.out]; rfl, Hb.out.alloc Hb.out.size _⟩
  · have Hok := Lib.hid hok
    obtain ⟨A, c, rfl, hsl, -, rfl, rfl⟩ := hyes hok
    obtain ⟨LA, ln, lc, rfl⟩ := hu u1 (by simp)
    have hbr := blw1 w1 (.cells #[.slice A a.slots.length c, .slice LA ln lc, .slice A1 a.queue.length c1, .slice A2 a.purple.length c2] 80)
    have Hrt := Lib.hid (roomHolds_c A c (.slice LA ln lc) (.slice A1 a.queue.length c1) (.slice A2 a.purple.length c2) rfl rfl rfl a.slots 0 w1.heap.size k n g _ hbr.size (hsl.below hbr))
    have q0 := KV1.cel 0 (v := .int .i64 k) rfl
    have q1 := KV1.cel 1 (v := .int .i64 n) rfl
    have q2 := KV1.cel 2 (v := .int .i64 g) rfl
    have hlt := KV1.lt
    have Hb := Lib.hid (hbB.trans (hbr.mono hbB.size))
    have HK := Lib.hid (KV1.alloc (.cells #[.slice A a.slots.length c, .slice LA ln lc, .slice A1 a.queue.length c1, .slice A2 a.purple.length c2] 80))
    have q0' := HK.out.cel 0 (v := .int .i64 k) rfl
    have q1' := HK.out.cel 1 (v := .int .i64 n) rfl
    have q2' := HK.out.cel 2 (v := .int .i64 g) rfl
    clear hu hb HbW HR hyes hbB KV1 HKV hok hsl hbr
    by_cases h23 : k = 2 ∨ k = 3
    · have hk : (k == 2 || k == 3) = true := by rcases h23 with rfl | rfl <;> rfl
      have E := Lib.hid (show (arOk a && aliveB a.slots k n g) = valOk a.slots 2 n g by rw [Hok.out]; unfold aliveB; rw [hk]; rfl)
      clear hk
      rcases h23 with rfl | rfl
      all_goals
        go_wp2_with fail
        refine Hrt.out.mono ?_
        rintro e w2 ⟨rfl, hb2⟩
        have Hb2 := Lib.hid (Hb.out.trans (hb2.mono Hb.out.size))
        clear hb2 Hb Hrt q0 q1 q2 q0' q1' q2'
        go_wp2
        go_ret
        exact ⟨by rw [E.out]; rfl, Hb2.out⟩
    · have h2 : (k == 2) = false := by simp; omega
      have h3 : (k == 3) = false := by simp; omega
      have E := Lib.hid (show (arOk a && aliveB a.slots k n g) = false by unfold aliveB; rw [h2, h3, Bool.and_comm]; rfl)
      clear h23 Hrt
      go_wp2
      go_ret
      exact ⟨by rw [E.out]; rfl, Hb.out⟩
end
end Go.Proofs.Ytcpcemhejchijaa
