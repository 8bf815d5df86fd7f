/-
  A number in eight bytes behind a row of bytes.
-/
import Derived.Test.YtfmlgpnjckamjaaLitT
namespace Go.Proofs.Ytfmlgpnjckamjaa
open Go.RowKit
set_option linter.unusedVariables false
set_option linter.unusedSimpArgs false
namespace Frz

/-- the byte of a number at a weight -/
def byAt (n : Int) (s : Nat) : UInt8 := UInt8.ofNat ((n / (2 : Int) ^ s) % 256).toNat
/-- its first j bytes, the highest first -/
def byTo (n : Int) (j : Nat) : List UInt8 := (List.range j).map fun i => byAt n (56 - 8 * i)
def by8 (n : Int) : List UInt8 := byTo n 8
theorem byTo_len (n : Int) (j : Nat) : (byTo n j).length = j := by simp [byTo]
theorem by8_len (n : Int) : (by8 n).length = 8 := byTo_len n 8
theorem byTo_succ (n : Int) (j : Nat) : byTo n (j + 1) = byTo n j ++ [byAt n (56 - 8 * j)] := by
  unfold byTo
  rw [List.range_succ, List.map_append]; rfl
theorem byAt_cell (n : Int) (s : Nat) : (#[.int .u8 ((n / (2 : Int) ^ s) % 256)] : Array Value).toList = vb [byAt n s] := by
  have h0 : 0 ≤ (n / (2 : Int) ^ s) % 256 := Int.emod_nonneg _ (by decide)
  have h1 : (n / (2 : Int) ^ s) % 256 < 256 := Int.emod_lt_of_pos _ (by decide)
  have e : ((byAt n s).toNat : Int) = (n / (2 : Int) ^ s) % 256 := by
    unfold byAt
    rw [UInt8.toNat_ofNat']
    omega
  unfold vb
  rw [List.map_cons, List.map_nil, e]

theorem byAt_u (n : Int) {j : Nat} (hj : j < 8) : (#[.int .u8 (IntKind.u64.wrap n / (2 : Int) ^ (8 * (7 - j)) % 256)] : Array Value).toList = vb [byAt n (56 - 8 * j)] := by
  have e : IntKind.u64.wrap n / (2 : Int) ^ (8 * (7 - j)) % 256 = n / (2 : Int) ^ (56 - 8 * j) % 256 := by
    rw [show IntKind.u64.wrap n = n % 18446744073709551616 from rfl]
    have hc : j = 0 ∨ j = 1 ∨ j = 2 ∨ j = 3 ∨ j = 4 ∨ j = 5 ∨ j = 6 ∨ j = 7 := by omega
    rcases hc with rfl | rfl | rfl | rfl | rfl | rfl | rfl | rfl
    · rw [show (2 : Int) ^ (8 * (7 - 0)) = 72057594037927936 from by decide]; omega
    · rw [show (2 : Int) ^ (8 * (7 - 1)) = 281474976710656 from by decide]; omega
    · rw [show (2 : Int) ^ (8 * (7 - 2)) = 1099511627776 from by decide]; omega
    · rw [show (2 : Int) ^ (8 * (7 - 3)) = 4294967296 from by decide]; omega
    · rw [show (2 : Int) ^ (8 * (7 - 4)) = 16777216 from by decide]; omega
    · rw [show (2 : Int) ^ (8 * (7 - 5)) = 65536 from by decide]; omega
    · rw [show (2 : Int) ^ (8 * (7 - 6)) = 256 from by decide]; omega
    · rw [show (2 : Int) ^ (8 * (7 - 7)) = 1 from by decide]; omega
  rw [e]
  exact byAt_cell n _

section
variable (l : List UInt8) (v : Value) (n : Int) (B : Nat) (w : World)
set_option maxRecDepth 100000 in
set_option maxHeartbeats 2000000 in
theorem appendNumber_c (hB : B ≤ w.heap.size) (hl : l.length ≤ 140737488355000) (h : OwnT w B v l) :
    Calls Try.prog 74 #[v, .int .i64 n] w fun e w' => ∃ A c, e = .returned (.slice A (l ++ by8 n).length c) ∧ OwnT w' B (.slice A (l ++ by8 n).length c) (l ++ by8 n) ∧ Say B w w' := by
  obtain ⟨A0, c0, rfl, _⟩ := h.form
  have HO := Lib.hid h
  clear h
  go_enter Try.func74, Try.ntmps74
  go_wp2_with fail
  go_loopw [0, 5] (fun t i wr => ∃ (j : Nat) (x : List UInt8) (A : Option Addr) (c : Nat), j ≤ 8 ∧ i = .int .i64 (56 - 8 * (j : Int)) ∧ t = .slice A x.length c ∧ Hid (x = l ++ byTo n j) ∧ Hid (OwnT wr B (.slice A x.length c) x) ∧ Hid (Say B w wr)) (fun _ i _ => (intOf i + 8).toNat)
  case atStart => exact ⟨0, l, A0, c0, by omega, rfl, rfl, Lib.hid (by simp [byTo]), HO, Lib.hid (Say.refl B w)⟩
  case round =>
    obtain ⟨j, x, At, ct, hj, rfl, rfl, hx, hO, hY⟩ := hrel
    have hxl : x.length ≤ l.length + 8 := by rw [hx.out, List.length_append, byTo_len]; omega
    have hsz := Nat.le_trans hB hY.out.size
    by_cases hlt : j < 8
    · obtain ⟨r, hr⟩ : ∃ r, r = [byAt n (56 - 8 * j)] := ⟨_, rfl⟩
      obtain ⟨y, hy⟩ : ∃ y, x ++ r = y := ⟨_, rfl⟩
      have Hn := Lib.hid (show y = l ++ byTo n (j + 1) by rw [byTo_succ, ← List.append_assoc, ← hx.out, ← hr, hy])
      have Hr := Lib.hid hr
      have Hrl := Lib.hid (show r.length = 1 by rw [hr]; rfl)
      have Hy := Lib.hid hy
      clear hr hy
      go_wp2_with (at_builtin; refine wpList_litT (r := r) rfl (.tmp 10) (.tmp 15) rfl rfl hO.out (by rw [Hr.out]; exact byAt_cell n _) rfl Hrl.out rfl Hy.out (by have := Hrl.out; omega) hsz ?_; intro A1 c1 w1 hO1 hS1; have HO1 := Lib.hid hO1; have HS1 := Lib.hid (hY.out.trans hS1); clear hO1 hS1)
      go_roundw
      case rel => exact ⟨j + 1, y, A1, c1, by omega, by go_num, rfl, Hn, HO1, HS1⟩
      case measure => simp [intOf]; omega
    · obtain rfl : j = 8 := by omega
      have Hx := Lib.hid (show x = l ++ by8 n from hx.out)
      clear hx
      go_wp2
      go_ret
      rw [← Hx.out]
      exact ⟨_, _, rfl, hO.out, hY.out⟩
set_option maxRecDepth 100000 in
set_option maxHeartbeats 2000000 in
theorem l8num_c (hB : B ≤ w.heap.size) (hl : l.length ≤ 140737488355000) (h : OwnT w B v l) :
    Calls Try.prog 69 #[v, .int .i64 n] w fun e w' => ∃ A c, e = .returned (.slice A (l ++ by8 n).length c) ∧ OwnT w' B (.slice A (l ++ by8 n).length c) (l ++ by8 n) ∧ Say B w w' := by
  obtain ⟨A0, c0, rfl, _⟩ := h.form
  have HO := Lib.hid h
  clear h
  go_enter Try.func69, Try.ntmps69
  go_wp2_with fail
  go_loopw [0, 5] (fun t i wr => ∃ (j : Nat) (x : List UInt8) (A : Option Addr) (c : Nat), j ≤ 8 ∧ i = .int .i64 (7 - (j : Int)) ∧ t = .slice A x.length c ∧ Hid (x = l ++ byTo n j) ∧ Hid (OwnT wr B (.slice A x.length c) x) ∧ Hid (Say B w wr)) (fun _ i _ => (intOf i + 8).toNat)
  case atStart => exact ⟨0, l, A0, c0, by omega, rfl, rfl, Lib.hid (by simp [byTo]), HO, Lib.hid (Say.refl B w)⟩
  case round =>
    obtain ⟨j, x, At, ct, hj, rfl, rfl, hx, hO, hY⟩ := hrel
    have hxl : x.length ≤ l.length + 8 := by rw [hx.out, List.length_append, byTo_len]; omega
    have hsz := Nat.le_trans hB hY.out.size
    by_cases hlt : j < 8
    · obtain ⟨r, hr⟩ : ∃ r, r = [byAt n (56 - 8 * j)] := ⟨_, rfl⟩
      obtain ⟨y, hy⟩ : ∃ y, x ++ r = y := ⟨_, rfl⟩
      have Hn := Lib.hid (show y = l ++ byTo n (j + 1) by rw [byTo_succ, ← List.append_assoc, ← hx.out, ← hr, hy])
      have Hr := Lib.hid hr
      have Hrl := Lib.hid (show r.length = 1 by rw [hr]; rfl)
      have Hy := Lib.hid hy
      clear hr hy
      go_wp2_with (at_builtin; refine wpList_litT (r := r) rfl (.tmp 10) (.tmp 17) rfl rfl hO.out (by rw [Hr.out]; exact byAt_u n hlt) rfl Hrl.out rfl Hy.out (by have := Hrl.out; omega) hsz ?_; intro A1 c1 w1 hO1 hS1; have HO1 := Lib.hid hO1; have HS1 := Lib.hid (hY.out.trans hS1); clear hO1 hS1)
      go_roundw
      case rel => exact ⟨j + 1, y, A1, c1, by omega, by go_num, rfl, Hn, HO1, HS1⟩
      case measure => simp [intOf]; omega
    · obtain rfl : j = 8 := by omega
      have Hx := Lib.hid (show x = l ++ by8 n from hx.out)
      clear hx
      go_wp2
      go_ret
      rw [← Hx.out]
      exact ⟨_, _, rfl, hO.out, hY.out⟩
end
end Frz
end Go.Proofs.Ytfmlgpnjckamjaa
