/-
  The laws' own marks over tokens, read again.
-/
import Derived.Test.YtmejbmfopdfbjaaTokMark
namespace Go.Proofs.Ytmejbmfopdfbjaa
open Go.RowKit

set_option maxHeartbeats 2000000 in
theorem heldTokenS_c (ts : List Tok) (B c k : Nat) (A : Option Addr) (w : World) (hl : ts.length + txts ts ≤ 4294967296) (hk : k ≤ 4294967296) (h : RT w B A (mixT ts k ts.length)) :
    Calls Try.prog 22 #[.slice A ts.length c, .int .i64 k] w fun e w' => e = .returned (.int .i64 (kAt ts k ts.length : Nat)) ∧ w = w' := by
  go_enter Try.func22, Try.ntmps22
  go_wp2
  go_loopw [1, 5] (fun s i wr => ∃ (m : Nat), m ≤ ts.length ∧ i = .int .i64 m ∧ s = .int .i64 (kAt ts k m : Nat) ∧ wr = w) (fun _ i _ => ts.length - (intOf i).toNat)
  case atStart => exact ⟨0, Nat.zero_le _, rfl, by rw [kAt_zero], rfl⟩
  case round =>
    obtain ⟨m, hm, rfl, rfl, rfl⟩ := hrel
    have hkb : kAt ts k m ≤ 4294967296 + 3 * 4294967296 + 4294967296 := by have := txts_take_le ts m; unfold kAt; omega
    by_cases hlt : m < ts.length
    · have hst := kAt_step (k := k) hlt
      have htl : ts[m].text.length ≤ 4294967296 := by have := txts_get hlt; omega
      have hlm : m < (mixT ts k ts.length).length := by rw [mixT_len]; exact hlt
      obtain ⟨ad, rfl, hb, hat⟩ := h.at_ hlm
      rw [mixT_get hlm, if_pos hlt] at hat
      unfold marked at hat
      obtain ⟨A', c', h0, h1, h2, h3, hR, _⟩ := hat
      rw [mk_len] at h3
      dsimp only at h0 h1 h2 h3 hR
      generalize hK : kAt ts k m = K at *
      rw [Int.natCast_add] at h1 h2
      have e2 : (K : Int) + (2 : Nat) = K + 1 + 1 := by omega
      rw [e2] at h2
      have HK := Lib.hid hK
      have Hst := Lib.hid hst
      clear hK hst e2
      go_wp2_with fail
      refine (heldByteS_i A' B ts[m].text.length c' (K + 3) _ _ (by omega) htl (by omega) hR).mono ?_
      rintro e w1 ⟨rfl, rfl⟩
      go_wp2
      go_roundw
      case rel => exact ⟨m + 1, by omega, by go_num, by rw [Hst.out]; go_num, by trivial⟩
      case measure => simp [intOf]; omega
    · go_wp2
      go_ret
      have : m = ts.length := by omega
      subst this
      exact ⟨rfl, rfl⟩
end Go.Proofs.Ytmejbmfopdfbjaa
