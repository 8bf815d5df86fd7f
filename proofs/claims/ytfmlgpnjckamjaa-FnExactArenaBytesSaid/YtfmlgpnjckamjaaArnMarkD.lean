/-
  Marks all over an arena's copy: rows of numbers, and the whole arena.
-/
import Derived.Test.YtfmlgpnjckamjaaArnMarkC
namespace Go.Proofs.Ytfmlgpnjckamjaa
open Go.RowKit
set_option linter.unusedVariables false
namespace ArnM

/-- numbers that have been marked are numbers, as many -/
theorem IL.mk_ {L B : Nat} {w w' : World} {A : Option Addr} {l : List Int} (h : IL w L B A l) (hm : Mk L B w w') : ∃ l' : List Int, l'.length = l.length ∧ IL w' L B A l' := by
  by_cases hn : 0 < l.length
  · obtain ⟨ad, eA, hL, hB, hc⟩ := h.2 hn
    have each : ∀ k, k < l.length → ∃ y : Int, w'.cell? (ad.add k) = some (.int .i64 y) := fun k hk => (hm.cell (ad.add k)).i64 (hc k hk)
    let f : Fin l.length → Int := fun i => Classical.choose (each i.1 i.2)
    have hfl : (List.ofFn f).length = l.length := by simp
    refine ⟨List.ofFn f, hfl, by rw [hfl]; exact h.1, fun _ => ⟨ad, eA, hL, hB, fun k hk => ?_⟩⟩
    have hk' : k < l.length := by rw [← hfl]; exact hk
    have e : (List.ofFn f)[k] = f ⟨k, hk'⟩ := by simp
    rw [e]
    exact Classical.choose_spec (each k hk')
  · have h0 : l = [] := by cases l with | nil => rfl | cons x r => simp at hn
    subst h0
    exact ⟨[], rfl, IL.none_ _ _ _ _⟩

set_option maxHeartbeats 1000000 in
theorem markIntS_m (l : List Int) (A : Option Addr) (c L B k : Nat) (w : World) (hl : l.length ≤ 4294967296) (hk : k ≤ 1099511627776) (hT : Thaw L B w) (h : IL w L B A l) :
    Calls Try.prog 43 #[.slice A l.length c, .int .i64 (k : Int)] w fun r w' => r = .returned (.int .i64 ((k + l.length : Nat) : Int)) ∧ Mk L B w w' ∧ Thaw L B w' := by
  go_enter Try.func43, Try.ntmps43
  go_wp2
  go_loopw [1, 5] (fun s i wr => ∃ (m : Nat), m ≤ l.length ∧ i = .int .i64 m ∧ s = .int .i64 ((k + m : Nat) : Int) ∧ Mk L B w wr ∧ Thaw L B wr) (fun _ i _ => l.length - (intOf i).toNat)
  case atStart => exact ⟨0, Nat.zero_le _, rfl, rfl, Mk.refl _ _ _, hT⟩
  case round =>
    obtain ⟨m, hm, rfl, rfl, hmk, hTr⟩ := hrel
    by_cases hlt : m < l.length
    · obtain ⟨l', hl', hR'⟩ := IL.mk_ h hmk
      obtain ⟨ad, rfl, hL, hb, hat⟩ := hR'.2 (by omega)
      have hc0 := hat m (by omega)
      obtain ⟨y, hy⟩ : ∃ y, y = l'[m] := ⟨_, rfl⟩
      rw [← hy] at hc0
      have hLm : L ≤ (ad.add m).block := by rw [block_of_add]; exact hL
      have hBm : (ad.add m).block < B := by rw [block_of_add]; exact hb
      have hf0 := thaw_frozen hTr hLm hBm
      have Hst := Lib.hid (fun n : Int => hmk.trans (Mk.set_ hLm hBm hc0 (MkC.i64_ y n)))
      clear hR' hat hy
      go_wp2
      go_roundw
      case rel => exact ⟨m + 1, by omega, by go_num, by go_num, Hst.out _, hTr.set_ _ _⟩
      case measure => simp [intOf]; omega
    · go_wp2
      go_ret
      have : m = l.length := by omega
      subst this
      exact ⟨rfl, hmk, hTr⟩

def mkAr (a : Ar) : Nat := sumIn mkSl a.slots a.slots.length + a.queue.length + a.purple.length

set_option maxHeartbeats 1000000 in
theorem markArena_m (a : Ar) (A0 A1 A2 : Option Addr) (c0 c1 c2 L B k : Nat) (w : World) (hB : B ≤ w.heap.size) (hLB : L ≤ B) (hl : arSz a ≤ 1050000) (hk : k ≤ 100000000) (hT : Thaw L B w) (h : ArL w L B A0 A1 A2 a) :
    Calls Try.prog 15 #[.agg #[.slice A0 a.slots.length c0, .slice A1 a.queue.length c1, .slice A2 a.purple.length c2], .int .i64 (k : Int)] w fun r w' => r = .returned (.int .i64 ((k + mkAr a : Nat) : Int)) ∧ Below L w w' ∧ (∀ b, b < w.heap.size → (b < L ∨ B ≤ b) → w'.heap[b]? = w.heap[b]?) := by
  have hq := h.2.1.1
  have hp := h.2.2.1
  have hsl : slsSz a.slots ≤ 1050000 := by unfold arSz at hl; omega
  have hql : a.queue.length ≤ 1050000 := by unfold arSz at hl; omega
  have hpl : a.purple.length ≤ 1050000 := by unfold arSz at hl; omega
  have hms := mkSl_sum a.slots a.slots.length
  have hlen : a.slots.length ≤ 1050000 := by unfold slsSz at hsl; omega
  have hbl : Below w.heap.size w (w.alloc (.cells #[.slice A0 a.slots.length c0, .slice A1 a.queue.length c1, .slice A2 a.purple.length c2] 32)) := (Below.refl _ _).alloc (Nat.le_refl _) _
  have K0 := Blk.new w 32 #[.slice A0 a.slots.length c0, .slice A1 a.queue.length c1, .slice A2 a.purple.length c2]
  have hT0 : Thaw L B (w.alloc (.cells #[.slice A0 a.slots.length c0, .slice A1 a.queue.length c1, .slice A2 a.purple.length c2] 32)) := fun k h1 h2 => by
    obtain ⟨cs, t, e⟩ := hT k h1 h2
    exact ⟨cs, t, (hbl.block k (by omega)).trans e⟩
  have h0 := h.below (hbl.mono hB)
  have Hc := Lib.hid (markSlotS_m a.slots A0 c0 L B k _ hsl hk hT0 h0.1)
  have HQ := Lib.hid h0.2.1
  have HP := Lib.hid h0.2.2
  have HK := Lib.hid K0
  have Hb := Lib.hid hbl
  have hkb : k + sumIn mkSl a.slots a.slots.length ≤ 200000000 := by have h9 := hsl; unfold slsSz at h9; omega
  have Hbig := Lib.hid hkb
  clear hbl K0 hT0 h0 hT h hsl hms hkb hl
  go_enter Try.func15, Try.ntmps15
  go_wp2_with fail
  refine Hc.out.mono ?_
  rintro r w1 ⟨rfl, m1, T1⟩
  obtain ⟨q, hq1⟩ : ∃ q : Nat, k + sumIn mkSl a.slots a.slots.length = q := ⟨_, rfl⟩
  rw [hq1]
  have Hq := Lib.hid hq1
  have hqb : q ≤ 200000000 := by have := Hbig.out; omega
  have K1 : Blk w1 w.heap.size 32 _ := (m1.block _ (.inr hB)).trans HK.out
  have d1 := K1.cel 1 rfl
  have d2 := K1.cel 2 rfl
  obtain ⟨lq, hlq, hIq⟩ := IL.mk_ HQ.out m1
  have hmq := markIntS_m lq A1 c1 L B q w1 (by omega) (by omega) T1 hIq
  rw [hlq] at hmq
  have Hmq := Lib.hid hmq
  have M1 := Lib.hid m1
  clear hmq hIq m1 T1 hq1
  go_wp2_with fail
  refine Hmq.out.mono ?_
  rintro r w2 ⟨rfl, m2, T2⟩
  have M2 := Lib.hid (M1.out.trans m2)
  have K2 : Blk w2 w.heap.size 32 _ := (m2.block _ (.inr hB)).trans K1
  have e2 := K2.cel 2 rfl
  obtain ⟨lp, hlp, hIp⟩ := IL.mk_ HP.out M2.out
  have hmp := markIntS_m lp A2 c2 L B (q + a.queue.length) w2 (by omega) (by omega) T2 hIp
  rw [hlp] at hmp
  have Hmp := Lib.hid hmp
  clear hmp hIp m2 T2 d1 d2 Hmq
  go_wp2_with fail
  refine Hmp.out.mono ?_
  rintro r w3 ⟨rfl, m3, T3⟩
  have M3 := Lib.hid (M2.out.trans m3)
  clear m3 T3
  go_wp2
  go_ret
  refine ⟨by rw [show k + mkAr a = q + a.queue.length + a.purple.length from by have := Hq.out; unfold mkAr; omega]; go_num, (Hb.out.mono (by omega)).trans M3.out.below, fun b hb hc => (M3.out.block b hc).trans (Hb.out.block b hb)⟩
end ArnM
end Go.Proofs.Ytfmlgpnjckamjaa
