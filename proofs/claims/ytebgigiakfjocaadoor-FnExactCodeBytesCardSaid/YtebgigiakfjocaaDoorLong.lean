/-
  A number in three bytes behind a row of bytes.
-/
import Derived.Test.YtebgigiakfjocaaDoorCodByt
import Derived.Test.YtebgigiakfjocaaDoorLitT
namespace Go.Proofs.YtebgigiakfjocaaDoor
open Go.RowKit
set_option linter.unusedVariables false
set_option linter.unusedSimpArgs false
namespace Cod
theorem long_cells (n : Nat) : (#[.int .u8 ((n : Int) / 65536 % 256), .int .u8 ((n : Int) / 256 % 256), .int .u8 ((n : Int) % 256)] : Array Value).toList = vb (long n) := by
  have e : ∀ m : Nat, ((UInt8.ofNat m).toNat : Int) = (m : Int) % 256 := fun m => by rw [UInt8.toNat_ofNat']; omega
  unfold long vb
  rw [List.map_cons, List.map_cons, List.map_cons, List.map_nil, e, e, e]
  rfl
section
variable (l : List UInt8) (v : Value) (n B : Nat) (w : World)
set_option maxRecDepth 100000 in
set_option maxHeartbeats 2000000 in
theorem appendLong_c (hn : n < 9223372036854775808) (hB : B ≤ w.heap.size) (hl : l.length ≤ 140737488355000) (h : OwnT w B v l) :
    Calls Tryd.prog 62 #[v, .int .i64 n] w fun e w' => ∃ A c, e = .returned (.slice A (l ++ long n).length c) ∧ OwnT w' B (.slice A (l ++ long n).length c) (l ++ long n) ∧ Say B w w' := by
  obtain ⟨A0, c0, rfl, _⟩ := h.form
  obtain ⟨r, hr⟩ : ∃ r, r = long n := ⟨_, rfl⟩
  obtain ⟨y, hy⟩ : ∃ y, l ++ r = y := ⟨_, rfl⟩
  have hrl : r.length = 3 := by rw [hr]; rfl
  rw [← hr, hy]
  have Hy := Lib.hid hy
  have Hr := Lib.hid hr
  have Hrl := Lib.hid hrl
  have HO := Lib.hid h
  clear h hy hr hrl
  go_enter Tryd.func62, Tryd.ntmps62
  go_wp2_with (at_builtin; refine wpList_litT (r := r) rfl (.tmp 5) (.tmp 14) rfl rfl HO.out (by rw [Hr.out]; exact long_cells n) rfl Hrl.out rfl Hy.out (by have := Hrl.out; omega) hB ?_; intro A1 c1 w1 hO1 hS1; have HO1 := Lib.hid hO1; have HS1 := Lib.hid hS1; clear hO1 hS1)
  go_ret
  exact ⟨A1, c1, rfl, HO1.out, HS1.out⟩
set_option maxRecDepth 100000 in
set_option maxHeartbeats 2000000 in
theorem l6num_c (hn : n < 9223372036854775808) (hB : B ≤ w.heap.size) (hl : l.length ≤ 140737488355000) (h : OwnT w B v l) :
    Calls Tryd.prog 91 #[v, .int .i64 n] w fun e w' => ∃ A c, e = .returned (.slice A (l ++ long n).length c) ∧ OwnT w' B (.slice A (l ++ long n).length c) (l ++ long n) ∧ Say B w w' := by
  obtain ⟨A0, c0, rfl, _⟩ := h.form
  obtain ⟨r, hr⟩ : ∃ r, r = long n := ⟨_, rfl⟩
  obtain ⟨y, hy⟩ : ∃ y, l ++ r = y := ⟨_, rfl⟩
  have hrl : r.length = 3 := by rw [hr]; rfl
  rw [← hr, hy]
  have Hy := Lib.hid hy
  have Hr := Lib.hid hr
  have Hrl := Lib.hid hrl
  have HO := Lib.hid h
  clear h hy hr hrl
  go_enter Tryd.func91, Tryd.ntmps91
  go_wp2_with (at_builtin; refine wpList_litT (r := r) rfl (.tmp 5) (.tmp 14) rfl rfl HO.out (by rw [Hr.out]; exact long_cells n) rfl Hrl.out rfl Hy.out (by have := Hrl.out; omega) hB ?_; intro A1 c1 w1 hO1 hS1; have HO1 := Lib.hid hO1; have HS1 := Lib.hid hS1; clear hO1 hS1)
  go_ret
  exact ⟨A1, c1, rfl, HO1.out, HS1.out⟩
end
end Cod
end Go.Proofs.YtebgigiakfjocaaDoor
