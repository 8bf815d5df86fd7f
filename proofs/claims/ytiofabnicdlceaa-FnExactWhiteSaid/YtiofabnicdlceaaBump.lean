/-
  Counting who is referred to: a row of counts that is bumped, by the program's closure.
-/
import Derived.Test.YtiofabnicdlceaaBumpD
namespace Go.Proofs.Ytiofabnicdlceaa
open Go.RowKit
set_option linter.unusedVariables false
set_option linter.unusedSimpArgs false

set_option maxRecDepth 100000 in
set_option maxHeartbeats 2000000 in
theorem count_c (c l : List Int) (A : Option Addr) (cp L B g Bn m : Nat) (w : World) (hl : l.length ≤ 1048576) (h : IL w L B A l) (hg : g < L ∨ B ≤ g) (hr : InR c.length l) (hm : Sm c m) (hmb : m + l.length ≤ 1000000000)
    (hne : Bn ≠ g) (hb : w.cell? ⟨Bn, 0, none⟩ = some (.slice (some ⟨g, 0, none⟩) c.length c.length)) (hc : Blk w g 3 (vi c).toArray) (hcl : c.length ≤ 1048576) :
    Calls Try.prog 107 #[.slice A l.length cp, .pointer (some ⟨Bn, 0, none⟩)] w fun e w' => (∃ v, e = .returned v) ∧ Blk w' g 3 (vi (bumps c l)).toArray ∧ Tch g w w' := by
  go_enter Try.func107, Try.ntmps107
  go_wp2_with fail
  go_loopw [7] (fun i wr => ∃ k : Nat, k ≤ l.length ∧ i = .int .i64 k ∧ Hid (Blk wr g 3 (vi (bumps c (l.take k))).toArray) ∧ Hid (Tch g w wr)) (fun i _ => l.length - (intOf i).toNat)
  case atStart => exact ⟨0, Nat.zero_le _, rfl, Lib.hid hc, Lib.hid (Tch.refl _ _)⟩
  case round =>
    obtain ⟨k, hk, rfl, hblk, htch⟩ := hrel
    by_cases hlt : k < l.length
    · obtain ⟨ad, rfl, hLa, hBa, hat⟩ := (h.keep (w' := wr) (fun p h1 h2 => htch.out.cell (by rcases hg with h | h <;> omega))).2 (by omega)
      have d0 := hat k hlt
      obtain ⟨j, hj⟩ : ∃ j : Nat, l[k] = (j : Int) := ⟨l[k].toNat, by have := hr k hlt; omega⟩
      have hjl : j < c.length := by have := hr k hlt; omega
      rw [hj] at d0
      have p0 : wr.cell? ⟨Bn, 0, none⟩ = some (.slice (some ⟨g, 0, none⟩) c.length c.length) := (htch.out.cell (p := ⟨Bn, 0, none⟩) hne).trans hb
      have hsn := bumps_snoc c hlt
      rw [hj] at hsn
      have hbl : (bumps c (l.take k)).length = c.length := bumps_len _ _
      have hsm := hm.bumps (l.take k) j (by rw [hbl]; exact hjl)
      have htk : (l.take k).length = k := by simp; omega
      obtain ⟨z, hz⟩ : ∃ z, z = (bumps c (l.take k))[j]'(by rw [hbl]; exact hjl) := ⟨_, rfl⟩
      rw [← hz, htk] at hsm
      have q0 : wr.cell? ⟨g, j, none⟩ = some (.int .i64 z) := by
        rw [hblk.out.cell]
        simp [vi, List.getElem?_eq_getElem (show j < (bumps c (l.take k)).length by rw [hbl]; exact hjl), hz]
      have f0 : wr.frozen? ⟨g, j, none⟩ = false := hblk.out.frozen j
      have hnew : Hid (Blk (wr.setCell ⟨g, j, none⟩ (.int .i64 (z + 1))) g 3 (vi (bumps c (l.take (k + 1)))).toArray) := Lib.hid (by
        have h1 := hblk.out.set_ j (.int .i64 (z + 1))
        rw [vi_set] at h1
        rw [hsn]
        unfold bump1
        rw [Int.toNat_natCast, List.getD_eq_getElem?_getD, List.getElem?_eq_getElem (show j < (bumps c (l.take k)).length by rw [hbl]; exact hjl), ← hz]
        exact h1)
      have Ht := Lib.hid (htch.out.set_ j (.int .i64 (z + 1)))
      have hz0 := hsm.1
      have hz1 : z ≤ 1000000000 := by omega
      clear hat hj hsn hbl hsm htk hz hblk htch
      go_wp2
      go_roundw
      case rel => exact ⟨k + 1, by omega, by go_num, hnew, Ht⟩
      case measure => simp [intOf]; omega
    · obtain rfl : k = l.length := by omega
      have hb2 := hblk.out
      rw [List.take_length] at hb2
      have Hb2 := Lib.hid hb2
      clear hb2
      go_wp2
      refine bodyPost_end (results_none rfl _ _ _) rfl ?_
      exact ⟨⟨_, rfl⟩, Hb2.out, htch.out⟩
end Go.Proofs.Ytiofabnicdlceaa
