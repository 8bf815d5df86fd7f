/-
  The model's ValOk and FreeSlots.
-/
import Derived.Test.YtcpcemhejchijaaSpecArnOk
namespace Go.Proofs.Ytcpcemhejchijaa
open Go.RowKit
set_option linter.unusedVariables false
set_option linter.unusedSimpArgs false

theorem Blk.four3 {w : World} {g : Nat} {t : TypeId} {a b c : Value} (h : Blk w g t #[a, b, c]) : w.cell? ⟨g, 0, none⟩ = some a ∧ w.cell? ⟨g, 1, none⟩ = some b ∧ w.cell? ⟨g, 2, none⟩ = some c :=
  ⟨h.cel 0 rfl, h.cel 1 rfl, h.cel 2 rfl⟩

/-- how many of the first k are not live -/
def deadTo (S : List Sl) (k : Nat) : Nat := (S.take k).countP fun s => !s.live
theorem deadTo_zero (S : List Sl) : deadTo S 0 = 0 := rfl
theorem deadTo_succ {S : List Sl} {k : Nat} (h : k < S.length) : deadTo S (k + 1) = deadTo S k + (if S[k].live then 0 else 1) := by
  unfold deadTo
  rw [List.take_succ_eq_append_getElem h, List.countP_append]
  congr 1
  cases hl : S[k].live <;> simp [hl]
theorem deadTo_le (S : List Sl) (k : Nat) : deadTo S k ≤ k := by
  unfold deadTo
  exact Nat.le_trans List.countP_le_length (by simp; omega)
/-- what FreeSlots tells -/
def freeA (a : Ar) : Int := if arOk a then (deadTo a.slots a.slots.length : Int) else 0

section
variable (a : Ar) (A0 A1 A2 : Option Addr) (c0 c1 c2 L B : Nat) (w : World)

theorem okAt (X : World) (h : ArL w L B A0 A1 A2 a) (hsz : arSz a ≤ 1048576) (hc : a.purple.length ≤ c2) (hX : Below B w X) (hB : B ≤ X.heap.size) :
    Calls Try.prog 16 #[.agg #[.slice A0 a.slots.length c0, .slice A1 a.queue.length c1, .slice A2 a.purple.length c2]] X fun e w' => e = .returned (.bool (arOk a)) ∧ Below X.heap.size X w' :=
  specArenaOk_c a.slots a.queue a.purple A0 A1 A2 c0 c1 c2 L B X hB (by unfold arSz at hsz; omega) hc (h.1.below hX) (h.2.1.below hX) (h.2.2.below hX)

theorem specArnOk_c (hB : B ≤ w.heap.size) (h : ArL w L B A0 A1 A2 a) (hsz : arSz a ≤ 1048576) (hc : a.purple.length ≤ c2) :
    Calls Try.prog 16 #[.agg #[.slice A0 a.slots.length c0, .slice A1 a.queue.length c1, .slice A2 a.purple.length c2]] w fun e w' => e = .returned (.bool (arOk a)) ∧ Below w.heap.size w w' :=
  okAt a A0 A1 A2 c0 c1 c2 L B w w h hsz hc (Below.refl _ _) hB

set_option maxRecDepth 100000 in
set_option maxHeartbeats 2000000 in
theorem specValOk_c (k n g : Int) (hB : B ≤ w.heap.size) (h : ArL w L B A0 A1 A2 a) (hsz : arSz a ≤ 1048576) (hc : a.purple.length ≤ c2) :
    Calls Try.prog 23 #[.agg #[.slice A0 a.slots.length c0, .slice A1 a.queue.length c1, .slice A2 a.purple.length c2], .agg #[.int .i64 k, .int .i64 n, .int .i64 g]] w fun e w' => e = .returned (.bool (arOk a && valOk a.slots k n g)) ∧ Below w.heap.size w w' := by
  have hbW := blw2 w (.cells #[.slice A0 a.slots.length c0, .slice A1 a.queue.length c1, .slice A2 a.purple.length c2] 30) (.cells #[.int .i64 k, .int .i64 n, .int .i64 g] 37)
  have HR := Lib.hid (okAt a A0 A1 A2 c0 c1 c2 L B w _ h hsz hc (hbW.mono hB) (Nat.le_trans hB hbW.size))
  have HbW := Lib.hid hbW
  have KV : Blk ((w.alloc (.cells #[.slice A0 a.slots.length c0, .slice A1 a.queue.length c1, .slice A2 a.purple.length c2] 30)).alloc (.cells #[.int .i64 k, .int .i64 n, .int .i64 g] 37)) (w.heap.size + 1) 37 #[.int .i64 k, .int .i64 n, .int .i64 g] := by
    have := Blk.new (w.alloc (.cells #[.slice A0 a.slots.length c0, .slice A1 a.queue.length c1, .slice A2 a.purple.length c2] 30)) 37 #[.int .i64 k, .int .i64 n, .int .i64 g]
    simpa using this
  have KA : Blk ((w.alloc (.cells #[.slice A0 a.slots.length c0, .slice A1 a.queue.length c1, .slice A2 a.purple.length c2] 30)).alloc (.cells #[.int .i64 k, .int .i64 n, .int .i64 g] 37)) w.heap.size 30 #[.slice A0 a.slots.length c0, .slice A1 a.queue.length c1, .slice A2 a.purple.length c2] := (Blk.new w 30 #[.slice A0 a.slots.length c0, .slice A1 a.queue.length c1, .slice A2 a.purple.length c2]).alloc _
  have HKV := Lib.hid KV
  have HKA := Lib.hid KA
  have H := Lib.hid h
  clear h hsz hbW KV KA
  go_enter Try.func23, Try.ntmps23
  go_wp2_with fail
  refine HR.out.mono ?_
  rintro e w1 ⟨rfl, hb⟩
  have hbB := HbW.out.trans (hb.mono HbW.out.size)
  have KV1 := HKV.out.below hb HKV.out.lt
  have KA1 := HKA.out.below hb HKA.out.lt
  cases hok : arOk a
  · have Hok := Lib.hid hok
    have Hb := Lib.hid hbB
    clear hb HbW HR hbB KV1 KA1 HKV HKA hok
    go_wp2
    go_ret
    exact ⟨by rw [Hok.out]; rfl, Hb.out⟩
  · have Hok := Lib.hid hok
    have Hrt := Lib.hid (l4val_c a.slots A0 c0 L B (.slice A1 a.queue.length c1) (.slice A2 a.purple.length c2) k n g rfl rfl w1 (Nat.le_trans hB hbB.size) (H.out.1.below (hbB.mono hB)))
    have q0 := KV1.cel 0 (v := .int .i64 k) rfl
    have q1 := KV1.cel 1 (v := .int .i64 n) rfl
    have q2 := KV1.cel 2 (v := .int .i64 g) rfl
    have p0 := KA1.cel 0 (v := .slice A0 a.slots.length c0) rfl
    have p1 := KA1.cel 1 (v := .slice A1 a.queue.length c1) rfl
    have p2 := KA1.cel 2 (v := .slice A2 a.purple.length c2) rfl
    have Hb := Lib.hid hbB
    clear hb HbW HR hbB KV1 KA1 HKV HKA hok
    go_wp2_with fail
    refine Hrt.out.mono ?_
    rintro e w2 ⟨rfl, hb2⟩
    have Hb2 := Lib.hid (Hb.out.trans (hb2.mono Hb.out.size))
    clear hb2 Hb Hrt q0 q1 q2 p0 p1 p2
    go_wp2
    go_ret
    exact ⟨by rw [Hok.out]; rfl, Hb2.out⟩

set_option maxRecDepth 100000 in
set_option maxHeartbeats 2000000 in
theorem specFreeSlots_c (hB : B ≤ w.heap.size) (h : ArL w L B A0 A1 A2 a) (hsz : arSz a ≤ 1048576) (hc : a.purple.length ≤ c2) :
    Calls Try.prog 25 #[.agg #[.slice A0 a.slots.length c0, .slice A1 a.queue.length c1, .slice A2 a.purple.length c2]] w fun e w' => e = .returned (.int .i64 (freeA a)) ∧ Below w.heap.size w w' := by
  have hm := h.1.1
  unfold maxLen at hm
  have hbW := blw1 w (.cells #[.slice A0 a.slots.length c0, .slice A1 a.queue.length c1, .slice A2 a.purple.length c2] 30)
  have HR := Lib.hid (okAt a A0 A1 A2 c0 c1 c2 L B w _ h hsz hc (hbW.mono hB) (Nat.le_trans hB hbW.size))
  have HbW := Lib.hid hbW
  have HKA := Lib.hid (Blk.new w 30 #[.slice A0 a.slots.length c0, .slice A1 a.queue.length c1, .slice A2 a.purple.length c2])
  have H := Lib.hid h
  have hS : a.slots.length ≤ 1048576 := by unfold arSz slsSz at hsz; omega
  clear h hsz hbW
  go_enter Try.func25, Try.ntmps25
  go_wp2_with fail
  refine HR.out.mono ?_
  rintro e w1 ⟨rfl, hb⟩
  have hbB := HbW.out.trans (hb.mono HbW.out.size)
  have KA1 := HKA.out.below hb HKA.out.lt
  cases hok : arOk a
  · have E := Lib.hid (show freeA a = 0 by unfold freeA; rw [hok]; rfl)
    have Hb := Lib.hid hbB
    clear hb HbW HR hbB KA1 HKA hok
    go_wp2
    go_ret
    exact ⟨by rw [E.out]; rfl, Hb.out⟩
  · have E := Lib.hid (show freeA a = deadTo a.slots a.slots.length by unfold freeA; rw [hok]; rfl)
    have Hb := Lib.hid hbB
    have HK := Lib.hid KA1
    have p0 := KA1.cel 0 (v := .slice A0 a.slots.length c0) rfl
    clear hb HbW HR hbB KA1 HKA hok
    go_wp2_with fail
    go_loopw [3, 4] (fun n i wr => ∃ k : Nat, k ≤ a.slots.length ∧ i = .int .i64 k ∧ n = .int .i64 (deadTo a.slots k) ∧ wr = w1) (fun _ i _ => a.slots.length - (intOf i).toNat)
    case atStart => exact ⟨0, Nat.zero_le _, rfl, rfl, by trivial⟩
    case round =>
      obtain ⟨k, hk, rfl, rfl, rfl⟩ := hrel
      have hdl := deadTo_le a.slots k
      by_cases hlt : k < a.slots.length
      · have hsuc := deadTo_succ hlt
        obtain ⟨ad, rfl, _, hbk, hat⟩ := (H.out.1.below (Hb.out.mono hB)).2 (by omega)
        obtain ⟨x0, x1, x2, x3, ⟨d0, d1, d2, d3⟩, rfl, rfl, rfl, _⟩ := hat k hlt
        obtain ⟨b, hb⟩ : ∃ b, b = a.slots[k].live := ⟨_, rfl⟩
        rw [← hb] at d0 hsuc
        have Hsuc := Lib.hid hsuc
        clear hat hb hsuc d1 d2 d3
        obtain ⟨z, hz⟩ : ∃ z, z = deadTo a.slots k := ⟨_, rfl⟩
        rw [← hz] at Hsuc hdl
        rw [← hz]
        clear hz
        cases b
        · go_wp2
          go_roundw
          case rel => exact ⟨k + 1, by omega, by go_num, by rw [Hsuc.out]; simp, by trivial⟩
          case measure => simp [intOf]; omega
        · go_wp2
          go_roundw
          case rel => exact ⟨k + 1, by omega, by go_num, by rw [Hsuc.out]; simp, by trivial⟩
          case measure => simp [intOf]; omega
      · obtain rfl : k = a.slots.length := by omega
        go_wp2
        go_ret
        exact ⟨by rw [E.out]; rfl, Hb.out⟩
end
end Go.Proofs.Ytcpcemhejchijaa
