/-
  The model's decimals, of any number that is not below 0.
-/
import Derived.Test.YtebgigiakfjocaaDoorDig
namespace Go.Proofs.YtebgigiakfjocaaDoor
open Go.RowKit

theorem nDigits_le20 (u : Nat) (h : u < 100000000000000000000) : Lib.nDigits u ≤ 20 := by
  have step : ∀ (k u : Nat), u < 10 ^ (k + 1) → Lib.nDigits u ≤ k + 1 := by
    intro k
    induction k with
    | zero => intro u hu; rw [Lib.nDigits_small (by simpa using hu)]; exact Nat.le_refl _
    | succ k ih =>
      intro u hu
      by_cases h : u < 10
      · rw [Lib.nDigits_small h]; omega
      · rw [Lib.nDigits, dif_neg h]
        have := ih (u / 10) (by rw [Nat.pow_succ] at hu; omega)
        omega
  exact step 19 u (by simpa using h)

set_option maxRecDepth 100000 in
set_option maxHeartbeats 1000000 in
theorem l1digitsB_c (k : Nat) : ∀ (n : Nat) (w : World), n < k → n ≤ 9223372036854775807 →
    Calls Tryd.prog 41 #[.int .i64 n] w fun e w' => ∃ v, e = .returned v ∧ OwnB w' w.heap.size v (Lib.decDigits n) ∧ Below w.heap.size w w' := by
  induction k with
  | zero => intro n w h; omega
  | succ k ih =>
    intro n w hk hn
    obtain ⟨i0, hi, hz0, hz1, hz2⟩ := info_parts infoU8
    by_cases h10 : (n : Int) < 10
    · have hd : Lib.decDigits n = [UInt8.ofNat (48 + n)] := Lib.decDigits_one (by omega)
      rw [hd]
      have hone := OwnB.one w (UInt8.ofNat (48 + n))
      have hv : (((UInt8.ofNat (48 + n)).toNat : Nat) : Int) = 48 + (n : Int) := by
        rw [show (UInt8.ofNat (48 + n)).toNat = (48 + n) % 256 from rfl]; omega
      rw [hv] at hone
      have Hone := Lib.hid hone
      clear hd hv hone
      go_enter Tryd.func41, Tryd.ntmps41
      go_wp2_with fail
      go_ret
      exact ⟨_, rfl, Hone.out, (Below.refl _ _).alloc (Nat.le_refl _) _⟩
    · have h10' : 10 ≤ (n : Int) := by omega
      have hd : Lib.decDigits n = Lib.decDigits (n / 10) ++ [UInt8.ofNat (48 + n % 10)] := by rw [Lib.decDigits, dif_neg (by omega)]
      have Hd := Lib.hid hd
      have hc := ih (n / 10) w (by omega) (by omega)
      have e10 : ((n / 10 : Nat) : Int) = (n : Int) / 10 := by omega
      rw [e10] at hc
      have hv : (((UInt8.ofNat (48 + n % 10)).toNat : Nat) : Int) = 48 + (n : Int) % 10 := by
        rw [show (UInt8.ofNat (48 + n % 10)).toNat = (48 + n % 10) % 256 from rfl]; omega
      have Hv := Lib.hid hv
      have Hc := Lib.hid hc
      clear hd hc h10 hv e10 ih
      go_enter Tryd.func41, Tryd.ntmps41
      go_wp2_with fail
      refine Hc.out.mono ?_
      rintro e w1 ⟨v, rfl, hO, hb1⟩
      obtain ⟨A, c, rfl, _⟩ := hO.form
      have hlen : (Lib.decDigits (n / 10)).length ≤ 20 := by
        rw [Lib.decDigits_length]
        exact nDigits_le20 _ (by omega)
      have hO' := hO.alloc (.cells #[.int .u8 (48 + (n : Int) % 10)] 5)
      have HO := Lib.hid hO'
      have hbw := hb1.size
      clear hO hO'
      go_wp2_with (at_builtin; refine wpList_append_own _ rfl (.tmp 11) (.tmp 16) 27 rfl w.heap.size 5 i0 _ 1 1 Tryd.underlying27 hi hz0 hz1 hz2 rfl (by omega) _ _ _ rfl HO.out ⟨w1.heap.size, 0, none⟩ 1 1 [.int .u8 (48 + (n : Int) % 10)] rfl rfl (cell_one_new _ _ _) (by simp [Value.oneCell']) (by unfold maxLen; omega) (by omega) (by simp; omega) ?_; intro v' w2 hown' hgrow _)
      go_ret
      refine ⟨v', rfl, ?_, ?_⟩
      · unfold OwnB
        rw [Hd.out, List.length_append, vb_append]
        have e : vb [UInt8.ofNat (48 + n % 10)] = [Value.int .u8 (48 + (n : Int) % 10)] := by
          rw [← Hv.out]; rfl
        rw [e]
        exact hown'
      · refine (hb1.alloc hb1.size _).grown hgrow (by simp; omega) (fun g hg => ?_)
        have := HO.out
        exact (OwnB.block (l := Lib.decDigits (n / 10)) this hg).1
end Go.Proofs.YtebgigiakfjocaaDoor
