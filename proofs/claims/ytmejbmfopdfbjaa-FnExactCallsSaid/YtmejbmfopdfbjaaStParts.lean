/-
  Statements by their interface.
-/
import Derived.Test.YtmejbmfopdfbjaaImplBase
namespace Go.Proofs.Ytmejbmfopdfbjaa
open Go.RowKit
set_option linter.unusedVariables false

/-- a statement's interface value by its kind -/
def ifVal (k : Int) (nm e0 e1 e2 e3 f0 f1 f2 f3 b1 b2 : Value) : Value :=
  if k = 0 then .iface 136 (.agg #[e0, e1, e2, e3, nm])
  else if k = 1 then .iface 137 (.agg #[e0, e1, e2, e3, nm])
  else if k = 2 then .iface 139 (.agg #[e0, e1, e2, e3, nm, f0, f1, f2, f3])
  else if k = 3 then .iface 141 (.agg #[e0, e1, e2, e3])
  else if k = 4 then .iface 142 (.agg #[e0, e1, e2, e3])
  else if k = 5 then .iface 144 (.agg #[e0, e1, e2, e3, b1, b2])
  else if k = 6 then .iface 146 (.agg #[e0, e1, e2, e3, b1])
  else .iface 147 (.agg #[e0, e1, e2, e3])

section
variable (nm e0 e1 e2 e3 f0 f1 f2 f3 b1 b2 : Value)
theorem ifVal0 : ifVal 0 nm e0 e1 e2 e3 f0 f1 f2 f3 b1 b2 = .iface 136 (.agg #[e0, e1, e2, e3, nm]) := rfl
theorem ifVal1 : ifVal 1 nm e0 e1 e2 e3 f0 f1 f2 f3 b1 b2 = .iface 137 (.agg #[e0, e1, e2, e3, nm]) := rfl
theorem ifVal2 : ifVal 2 nm e0 e1 e2 e3 f0 f1 f2 f3 b1 b2 = .iface 139 (.agg #[e0, e1, e2, e3, nm, f0, f1, f2, f3]) := rfl
theorem ifVal3 : ifVal 3 nm e0 e1 e2 e3 f0 f1 f2 f3 b1 b2 = .iface 141 (.agg #[e0, e1, e2, e3]) := rfl
theorem ifVal4 : ifVal 4 nm e0 e1 e2 e3 f0 f1 f2 f3 b1 b2 = .iface 142 (.agg #[e0, e1, e2, e3]) := rfl
theorem ifVal5 : ifVal 5 nm e0 e1 e2 e3 f0 f1 f2 f3 b1 b2 = .iface 144 (.agg #[e0, e1, e2, e3, b1, b2]) := rfl
theorem ifVal6 : ifVal 6 nm e0 e1 e2 e3 f0 f1 f2 f3 b1 b2 = .iface 146 (.agg #[e0, e1, e2, e3, b1]) := rfl
theorem ifVal7 : ifVal 7 nm e0 e1 e2 e3 f0 f1 f2 f3 b1 b2 = .iface 147 (.agg #[e0, e1, e2, e3]) := rfl
end
set_option maxHeartbeats 4000000 in
theorem statementOf_c (k : Int) (A A1 A2 xA xA' yA yA' : Option Addr) (a c a1 c1 a2 c2 xa xc xa' xc' ya yc ya' yc' : Nat) (xk xn yk yn : Int) (w : World) (h0 : 0 ≤ k) (h7 : k ≤ 7) :
    Calls Try.prog 61 #[.agg #[.int .i64 k, .slice A a c, .int .i64 xk, .int .i64 xn, .slice xA xa xc, .slice xA' xa' xc', .int .i64 yk, .int .i64 yn, .slice yA ya yc, .slice yA' ya' yc', .slice A1 a1 c1, .slice A2 a2 c2]] w fun r w' =>
      r = .returned (ifVal k (.slice A a c) (.int .i64 xk) (.int .i64 xn) (.slice xA xa xc) (.slice xA' xa' xc') (.int .i64 yk) (.int .i64 yn) (.slice yA ya yc) (.slice yA' ya' yc') (.slice A1 a1 c1) (.slice A2 a2 c2)) ∧ Below w.heap.size w w' := by
  have hks : k = 0 ∨ k = 1 ∨ k = 2 ∨ k = 3 ∨ k = 4 ∨ k = 5 ∨ k = 6 ∨ k = 7 := by omega
  clear h0 h7
  rcases hks with rfl | rfl | rfl | rfl | rfl | rfl | rfl | rfl
  all_goals
    go_enter Try.func61, Try.ntmps61
    go_wp2
    go_ret
    exact ⟨rfl, ((Below.refl _ _).alloc (Nat.le_refl _) _).alloc (by simp) _⟩
end Go.Proofs.Ytmejbmfopdfbjaa

namespace Go.Proofs.Ytmejbmfopdfbjaa
open Go.RowKit
set_option linter.unusedVariables false

set_option maxHeartbeats 1000000 in
theorem havingAsks_c (xA xA' : Option Addr) (xa xc xa' xc' : Nat) (xk xn : Int) (w : World) :
    Calls Try.prog 139 #[.agg #[.int .i64 xk, .int .i64 xn, .slice xA xa xc, .slice xA' xa' xc']] w fun r w' => ∃ g, r = .returned (.slice (some ⟨g, 0, none⟩) 1 1) ∧ w.heap.size ≤ g ∧ Blk w' g 73 #[.int .i64 xk, .int .i64 xn, .slice xA xa xc, .slice xA' xa' xc'] ∧ Below w.heap.size w w' := by
  go_enter Try.func139, Try.ntmps139
  go_wp2
  go_ret
  refine ⟨_, rfl, by omega, ?_, ((Below.refl _ _).alloc (Nat.le_refl _) _).alloc (by simp) _⟩
  have := Blk.new (w.alloc (.cells #[.int .i64 xk, .int .i64 xn, .slice xA xa xc, .slice xA' xa' xc'] 134)) 73 #[.int .i64 xk, .int .i64 xn, .slice xA xa xc, .slice xA' xa' xc']
  simpa using this

set_option maxHeartbeats 1000000 in
theorem puttingAsks_c (xA xA' : Option Addr) (xa xc xa' xc' : Nat) (xk xn : Int) (yA yA' : Option Addr) (ya yc ya' yc' : Nat) (yk yn : Int) (A : Option Addr) (a c : Nat) (w : World) :
    Calls Try.prog 141 #[.agg #[.int .i64 xk, .int .i64 xn, .slice xA xa xc, .slice xA' xa' xc', .slice A a c, .int .i64 yk, .int .i64 yn, .slice yA ya yc, .slice yA' ya' yc']] w fun r w' => ∃ g, r = .returned (.slice (some ⟨g, 0, none⟩) 2 2) ∧ w.heap.size ≤ g ∧ Blk w' g 73 #[.int .i64 xk, .int .i64 xn, .slice xA xa xc, .slice xA' xa' xc', .int .i64 yk, .int .i64 yn, .slice yA ya yc, .slice yA' ya' yc'] ∧ Below w.heap.size w w' := by
  go_enter Try.func141, Try.ntmps141
  go_wp2
  go_ret
  refine ⟨_, rfl, by omega, ?_, ((Below.refl _ _).alloc (Nat.le_refl _) _).alloc (by simp) _⟩
  have := Blk.new (w.alloc (.cells #[.int .i64 xk, .int .i64 xn, .slice xA xa xc, .slice xA' xa' xc', .slice A a c, .int .i64 yk, .int .i64 yn, .slice yA ya yc, .slice yA' ya' yc'] 139)) 73 #[.int .i64 xk, .int .i64 xn, .slice xA xa xc, .slice xA' xa' xc', .int .i64 yk, .int .i64 yn, .slice yA ya yc, .slice yA' ya' yc']
  simpa using this

set_option maxHeartbeats 1000000 in
theorem havingBlocks_c (xA xA' : Option Addr) (xa xc xa' xc' : Nat) (xk xn : Int) (w : World) :
    Calls Try.prog 140 #[.agg #[.int .i64 xk, .int .i64 xn, .slice xA xa xc, .slice xA' xa' xc']] w fun r w' => r = .returned (.slice none 0 0) ∧ Below w.heap.size w w' := by
  go_enter Try.func140, Try.ntmps140
  go_wp2
  go_ret
  exact ⟨rfl, (Below.refl _ _).alloc (Nat.le_refl _) _⟩

set_option maxHeartbeats 1000000 in
theorem loopingBlocks_c (xA xA' : Option Addr) (xa xc xa' xc' : Nat) (xk xn : Int) (A1 : Option Addr) (a1 c1 : Nat) (w : World) :
    Calls Try.prog 143 #[.agg #[.int .i64 xk, .int .i64 xn, .slice xA xa xc, .slice xA' xa' xc', .slice A1 a1 c1]] w fun r w' => ∃ g, r = .returned (.slice (some ⟨g, 0, none⟩) 1 1) ∧ w.heap.size ≤ g ∧ Blk w' g 29 #[.slice A1 a1 c1] ∧ Below w.heap.size w w' := by
  go_enter Try.func143, Try.ntmps143
  go_wp2
  go_ret
  refine ⟨_, rfl, by omega, ?_, ((Below.refl _ _).alloc (Nat.le_refl _) _).alloc (by simp) _⟩
  have := Blk.new (w.alloc (.cells #[.int .i64 xk, .int .i64 xn, .slice xA xa xc, .slice xA' xa' xc', .slice A1 a1 c1] 146)) 29 #[.slice A1 a1 c1]
  simpa using this

set_option maxHeartbeats 1000000 in
theorem choosingBlocks_c (xA xA' : Option Addr) (xa xc xa' xc' : Nat) (xk xn : Int) (A1 A2 : Option Addr) (a1 c1 a2 c2 : Nat) (w : World) :
    Calls Try.prog 142 #[.agg #[.int .i64 xk, .int .i64 xn, .slice xA xa xc, .slice xA' xa' xc', .slice A1 a1 c1, .slice A2 a2 c2]] w fun r w' => ∃ g, r = .returned (.slice (some ⟨g, 0, none⟩) 2 2) ∧ w.heap.size ≤ g ∧ Blk w' g 29 #[.slice A1 a1 c1, .slice A2 a2 c2] ∧ Below w.heap.size w w' := by
  go_enter Try.func142, Try.ntmps142
  go_wp2
  go_ret
  refine ⟨_, rfl, by omega, ?_, ((Below.refl _ _).alloc (Nat.le_refl _) _).alloc (by simp) _⟩
  have := Blk.new (w.alloc (.cells #[.int .i64 xk, .int .i64 xn, .slice xA xa xc, .slice xA' xa' xc', .slice A1 a1 c1, .slice A2 a2 c2] 144)) 29 #[.slice A1 a1 c1, .slice A2 a2 c2]
  simpa using this

end Go.Proofs.Ytmejbmfopdfbjaa

namespace Go.Proofs.Ytmejbmfopdfbjaa
open Go.RowKit
set_option linter.unusedVariables false

section
variable (nm e0 e1 e2 e3 f0 f1 f2 f3 b1 b2 : Value)
theorem m_asks0 : ∀ (n : Nat) (w : World), (method (n + 1) 136 (.agg #[e0, e1, e2, e3, nm]) "loop.example/g00547/impl.asks").run Try.prog w = .ok (139, .agg #[e0, e1, e2, e3]) w := fun n w => by kernel_rfl
theorem m_blocks0 : ∀ (n : Nat) (w : World), (method (n + 1) 136 (.agg #[e0, e1, e2, e3, nm]) "loop.example/g00547/impl.blocks").run Try.prog w = .ok (140, .agg #[e0, e1, e2, e3]) w := fun n w => by kernel_rfl
theorem m_asks1 : ∀ (n : Nat) (w : World), (method (n + 1) 137 (.agg #[e0, e1, e2, e3, nm]) "loop.example/g00547/impl.asks").run Try.prog w = .ok (139, .agg #[e0, e1, e2, e3]) w := fun n w => by kernel_rfl
theorem m_blocks1 : ∀ (n : Nat) (w : World), (method (n + 1) 137 (.agg #[e0, e1, e2, e3, nm]) "loop.example/g00547/impl.blocks").run Try.prog w = .ok (140, .agg #[e0, e1, e2, e3]) w := fun n w => by kernel_rfl
theorem m_asks2 : ∀ (n : Nat) (w : World), (method (n + 1) 139 (.agg #[e0, e1, e2, e3, nm, f0, f1, f2, f3]) "loop.example/g00547/impl.asks").run Try.prog w = .ok (141, .agg #[e0, e1, e2, e3, nm, f0, f1, f2, f3]) w := fun n w => by kernel_rfl
theorem m_blocks2 : ∀ (n : Nat) (w : World), (method (n + 1) 139 (.agg #[e0, e1, e2, e3, nm, f0, f1, f2, f3]) "loop.example/g00547/impl.blocks").run Try.prog w = .ok (140, .agg #[e0, e1, e2, e3]) w := fun n w => by kernel_rfl
theorem m_asks3 : ∀ (n : Nat) (w : World), (method (n + 1) 141 (.agg #[e0, e1, e2, e3]) "loop.example/g00547/impl.asks").run Try.prog w = .ok (139, .agg #[e0, e1, e2, e3]) w := fun n w => by kernel_rfl
theorem m_blocks3 : ∀ (n : Nat) (w : World), (method (n + 1) 141 (.agg #[e0, e1, e2, e3]) "loop.example/g00547/impl.blocks").run Try.prog w = .ok (140, .agg #[e0, e1, e2, e3]) w := fun n w => by kernel_rfl
theorem m_asks4 : ∀ (n : Nat) (w : World), (method (n + 1) 142 (.agg #[e0, e1, e2, e3]) "loop.example/g00547/impl.asks").run Try.prog w = .ok (139, .agg #[e0, e1, e2, e3]) w := fun n w => by kernel_rfl
theorem m_blocks4 : ∀ (n : Nat) (w : World), (method (n + 1) 142 (.agg #[e0, e1, e2, e3]) "loop.example/g00547/impl.blocks").run Try.prog w = .ok (140, .agg #[e0, e1, e2, e3]) w := fun n w => by kernel_rfl
theorem m_asks5 : ∀ (n : Nat) (w : World), (method (n + 1) 144 (.agg #[e0, e1, e2, e3, b1, b2]) "loop.example/g00547/impl.asks").run Try.prog w = .ok (139, .agg #[e0, e1, e2, e3]) w := fun n w => by kernel_rfl
theorem m_blocks5 : ∀ (n : Nat) (w : World), (method (n + 1) 144 (.agg #[e0, e1, e2, e3, b1, b2]) "loop.example/g00547/impl.blocks").run Try.prog w = .ok (142, .agg #[e0, e1, e2, e3, b1, b2]) w := fun n w => by kernel_rfl
theorem m_asks6 : ∀ (n : Nat) (w : World), (method (n + 1) 146 (.agg #[e0, e1, e2, e3, b1]) "loop.example/g00547/impl.asks").run Try.prog w = .ok (139, .agg #[e0, e1, e2, e3]) w := fun n w => by kernel_rfl
theorem m_blocks6 : ∀ (n : Nat) (w : World), (method (n + 1) 146 (.agg #[e0, e1, e2, e3, b1]) "loop.example/g00547/impl.blocks").run Try.prog w = .ok (143, .agg #[e0, e1, e2, e3, b1]) w := fun n w => by kernel_rfl
theorem m_asks7 : ∀ (n : Nat) (w : World), (method (n + 1) 147 (.agg #[e0, e1, e2, e3]) "loop.example/g00547/impl.asks").run Try.prog w = .ok (139, .agg #[e0, e1, e2, e3]) w := fun n w => by kernel_rfl
theorem m_blocks7 : ∀ (n : Nat) (w : World), (method (n + 1) 147 (.agg #[e0, e1, e2, e3]) "loop.example/g00547/impl.blocks").run Try.prog w = .ok (140, .agg #[e0, e1, e2, e3]) w := fun n w => by kernel_rfl
end
end Go.Proofs.Ytmejbmfopdfbjaa

namespace Go.Proofs.Ytmejbmfopdfbjaa
open Go.RowKit
set_option linter.unusedVariables false

/-- what a statement of a kind asks for; its blocks -/
def asksL (k : Int) (e f : Ex) : List Ex := if k = 2 then [e, f] else [e]
def blocksL (k : Int) (body els : List St) : List (List St) := if k = 5 then [body, els] else if k = 6 then [body] else []
def blksN (l : List (List St)) : Nat := (l.map stsN).sum
def blksGood (l : List (List St)) (d : Nat) : Bool := l.all fun b => stsGood b d
def blksDeep (l : List (List St)) (d : Nat) : Nat := (l.map fun b => stsDeep b d).foldr max 0
theorem blksN_step {l : List (List St)} {k : Nat} (hk : k < l.length) : blksN (l.take (k + 1)) = blksN (l.take k) + stsN l[k] := by
  unfold blksN
  rw [List.take_succ_eq_append_getElem hk, List.map_append, List.sum_append]
  simp
theorem blksN_take (l : List (List St)) (k : Nat) : blksN (l.take k) ≤ blksN l := by
  conv => rhs; rw [← List.take_append_drop k l]
  unfold blksN
  rw [List.map_append, List.sum_append]
  omega
theorem blksGood_step {l : List (List St)} {k d : Nat} (hk : k < l.length) : blksGood (l.take (k + 1)) d = (blksGood (l.take k) d && stsGood l[k] d) := by
  unfold blksGood
  rw [List.take_succ_eq_append_getElem hk, List.all_append]
  simp
theorem blksGood_get {l : List (List St)} {k d : Nat} (hk : k < l.length) (h : blksGood l d = true) : stsGood l[k] d = true := by
  unfold blksGood at h
  rw [List.all_eq_true] at h
  exact h l[k] (List.getElem_mem hk)
theorem blksDeep_step {l : List (List St)} {k d : Nat} (hk : k < l.length) : blksDeep (l.take (k + 1)) d = max (blksDeep (l.take k) d) (stsDeep l[k] d) := by
  unfold blksDeep
  rw [List.take_succ_eq_append_getElem hk, List.map_append, foldr_max_app]
  simp

theorem stOk1_kind {k : Int} {name : List UInt8} {f : Ex} {nb ne : Nat} (h : stOk1 k name f nb ne = true) : 0 ≤ k ∧ k ≤ 7 := by
  unfold stOk1 at h
  by_cases h1 : k = 0 ∨ k = 1
  · omega
  rw [if_neg h1] at h
  by_cases h2 : k = 2
  · omega
  rw [if_neg h2] at h
  by_cases h3 : k = 3 ∨ k = 4 ∨ k = 7
  · omega
  rw [if_neg h3] at h
  by_cases h4 : k = 5
  · omega
  rw [if_neg h4] at h
  by_cases h5 : k = 6
  · omega
  rw [if_neg h5] at h
  cases h
theorem stOk1_blocks {k : Int} {name : List UInt8} {f : Ex} {body els : List St} (h : stOk1 k name f body.length els.length = true) : (k ≠ 5 → k ≠ 6 → body = []) ∧ (k ≠ 5 → els = []) := by
  have hk := stOk1_kind h
  have hks : k = 0 ∨ k = 1 ∨ k = 2 ∨ k = 3 ∨ k = 4 ∨ k = 5 ∨ k = 6 ∨ k = 7 := by omega
  rcases hks with rfl | rfl | rfl | rfl | rfl | rfl | rfl | rfl
  all_goals
    simp [stOk1] at h
    first | (refine ⟨fun _ _ => ?_, fun _ => ?_⟩; exact h.1.2; exact h.2) | (refine ⟨fun _ h6 => absurd rfl h6, fun _ => h.2⟩) | (refine ⟨fun h5 => absurd rfl h5, fun h5 => absurd rfl h5⟩)
theorem exsDeep_one (e : Ex) (d : Nat) : exsDeep [e] d = exDeep e d := by simp [exsDeep]
theorem stGood_parts {k : Int} {name : List UInt8} {e f : Ex} {body els : List St} (h : stOk1 k name f body.length els.length = true) (d : Nat) :
    stGood (.mk k name e f body els) d = (decide (d ≤ 7) && exsGood (asksL k e f) (d + 1) && blksGood (blocksL k body els) (d + 1)) ∧
    stN (.mk k name e f body els) = 1 + exsN (asksL k e f) + blksN (blocksL k body els) ∧
    stDeep (.mk k name e f body els) d = max d (max (exsDeep (asksL k e f) (d + 1)) (blksDeep (blocksL k body els) (d + 1))) := by
  have hk := stOk1_kind h
  obtain ⟨hb1, hb2⟩ := stOk1_blocks h
  rw [stGood_mk, stN_mk, stDeep_mk, h]
  have hks : k = 0 ∨ k = 1 ∨ k = 2 ∨ k = 3 ∨ k = 4 ∨ k = 5 ∨ k = 6 ∨ k = 7 := by omega
  rcases hks with rfl | rfl | rfl | rfl | rfl | rfl | rfl | rfl
  all_goals
    first
      | (have b1 := hb1 (by omega) (by omega); have b2 := hb2 (by omega); subst b1; subst b2)
      | (have b2 := hb2 (by omega); subst b2)
      | skip
    simp [asksL, blocksL, exsGood, exsN, exsDeep, blksGood, blksN, blksDeep, stsGood, stsN, stsDeep]
    try simp [Bool.and_assoc, Nat.add_assoc]
theorem stsDeep_le : ∀ (l : List St) (d : Nat), stsGood l d = true → stsDeep l d ≤ 7 := by
  have h2 : ∀ (s : St) (d : Nat), stGood s d = true → stDeep s d ≤ 7 := fun s => St.ind (P := fun s => ∀ d, stGood s d = true → stDeep s d ≤ 7) (fun k name e f body els ih1 ih2 d hg => by
    rw [stGood_mk] at hg
    simp only [Bool.and_eq_true, decide_eq_true_eq] at hg
    have hl : ∀ (l : List St), (∀ s ∈ l, ∀ d, stGood s d = true → stDeep s d ≤ 7) → ∀ d, stsGood l d = true → stsDeep l d ≤ 7 := by
      intro l
      induction l with
      | nil => intro _ d _; simp [stsDeep]
      | cons x t iht =>
        intro hx d hg
        simp only [stsGood, Bool.and_eq_true] at hg
        have := hx x (by simp) d hg.1
        have := iht (fun e he => hx e (by simp [he])) d hg.2
        simp only [stsDeep]; omega
    have a1 := hl body ih1 (d + 1) hg.1.2
    have a2 := hl els ih2 (d + 1) hg.2
    have a3 := exsDeep_le [e] (d + 1) (by simp [exsGood, hg.1.1.1.2])
    rw [exsDeep_one] at a3
    have a4 : (if k = 2 then exDeep f (d + 1) else 0) ≤ 7 := by
      by_cases hk : k = 2
      · rw [if_pos hk]
        have hf : exGood f (d + 1) = true := by have := hg.1.1.2; simpa [hk] using this
        have a4 := exsDeep_le [f] (d + 1) (by simp [exsGood, hf])
        rwa [exsDeep_one] at a4
      · rw [if_neg hk]; omega
    rw [stDeep_mk]
    have := hg.1.1.1.1.1
    omega) s
  intro l
  induction l with
  | nil => intro d _; simp [stsDeep]
  | cons x t iht =>
    intro d hg
    simp only [stsGood, Bool.and_eq_true] at hg
    have := h2 x d hg.1
    have := iht d hg.2
    simp only [stsDeep]; omega
theorem blksDeep_le : ∀ (l : List (List St)) (d : Nat), blksGood l d = true → blksDeep l d ≤ 7 := by
  intro l
  induction l with
  | nil => intro d _; simp [blksDeep]
  | cons x t iht =>
    intro d hg
    unfold blksGood at hg iht
    simp only [List.all_cons, Bool.and_eq_true] at hg
    have := stsDeep_le x d hg.1
    have := iht d hg.2
    unfold blksDeep at this ⊢
    simp only [List.map_cons, List.foldr_cons]; omega
end Go.Proofs.Ytmejbmfopdfbjaa

namespace Go.Proofs.Ytmejbmfopdfbjaa
open Go.RowKit
set_option linter.unusedVariables false

def MeaSts (l : List St) : Prop := ∀ (A : Option Addr) (cp L B g d : Nat) (a c : Int) (w : World), StL w L B A l → B ≤ w.heap.size → B ≤ g → stsSz l ≤ 1048576 →
  Blk w g 102 #[.int .i64 a, .int .i64 c] → 0 ≤ a → a ≤ 90 → 0 ≤ c → c ≤ 100 → d ≤ 8 →
  Calls Try.prog 57 #[.pointer (some ⟨g, 0, none⟩), .slice A l.length cp, .int .i64 (d : Int)] w (MeaP (stsGood l d) (stsN l) (stsDeep l d) g a c w)

def MeaSt (s : St) : Prop := ∀ (vs : List Value) (L B g d : Nat) (a c : Int) (w : World), StV w L B vs s → B ≤ w.heap.size → B ≤ g → stSz s ≤ 1048576 →
  Blk w g 102 #[.int .i64 a, .int .i64 c] → 0 ≤ a → a ≤ 90 → 0 ≤ c → c ≤ 100 → d ≤ 8 →
  Calls Try.prog 88 #[.pointer (some ⟨g, 0, none⟩), .agg vs.toArray, .int .i64 (d : Int)] w (MeaP (stGood s d) (stN s) (stDeep s d) g a c w)

theorem exr_one {w : World} {g g' L B : Nat} {t : TypeId} {e0 e1 e2 e3 : Value} {e : Ex} (hb : Blk w g' t #[e0, e1, e2, e3]) (hne : g' ≠ g) (h : ExV w L B e0 e1 e2 e3 e) : ExR w g L B (some ⟨g', 0, none⟩) [e] := by
  refine ⟨by unfold maxLen; simp, fun _ => ⟨_, rfl, hne, hb.lt, fun k hk => ?_⟩⟩
  obtain rfl : k = 0 := by simpa using hk
  refine ⟨e0, e1, e2, e3, ?_, h⟩
  rw [show (Addr.add ⟨g', 0, none⟩ (0 * 4)) = ⟨g', 0, none⟩ from rfl]
  exact ⟨hb.cell_of 0 rfl, hb.cell_of 1 rfl, hb.cell_of 2 rfl, hb.cell_of 3 rfl⟩
theorem exr_two {w : World} {g g' L B : Nat} {t : TypeId} {e0 e1 e2 e3 f0 f1 f2 f3 : Value} {e f : Ex} (hb : Blk w g' t #[e0, e1, e2, e3, f0, f1, f2, f3]) (hne : g' ≠ g) (h : ExV w L B e0 e1 e2 e3 e) (h' : ExV w L B f0 f1 f2 f3 f) : ExR w g L B (some ⟨g', 0, none⟩) [e, f] := by
  refine ⟨by unfold maxLen; simp, fun _ => ⟨_, rfl, hne, hb.lt, fun k hk => ?_⟩⟩
  have hk2 : k = 0 ∨ k = 1 := by simp at hk; omega
  rcases hk2 with rfl | rfl
  · refine ⟨e0, e1, e2, e3, ?_, h⟩
    rw [show (Addr.add ⟨g', 0, none⟩ (0 * 4)) = ⟨g', 0, none⟩ from rfl]
    exact ⟨hb.cell_of 0 rfl, hb.cell_of 1 rfl, hb.cell_of 2 rfl, hb.cell_of 3 rfl⟩
  · refine ⟨f0, f1, f2, f3, ?_, h'⟩
    rw [show (Addr.add ⟨g', 0, none⟩ (1 * 4)) = ⟨g', 4, none⟩ from rfl]
    exact ⟨hb.cell_of 4 rfl, hb.cell_of 5 rfl, hb.cell_of 6 rfl, hb.cell_of 7 rfl⟩

/-- a row of blocks in memory, each with its measure -/
def BlkRow (w : World) (g L B g' : Nat) (bl : List (List St)) : Prop :=
  ∀ j (h : j < bl.length), ∃ (A : Option Addr) (c : Nat), w.cell? ⟨g', j, none⟩ = some (.slice A bl[j].length c) ∧ StL w L B A bl[j] ∧ MeaSts bl[j] ∧ stsSz bl[j] ≤ 1048576
theorem BlkRow.past {w w' : World} {g L B g' : Nat} {bl : List (List St)} (h : BlkRow w g L B g' bl) (hp : Past g w w') (hne : g' ≠ g) (hlt : g' < w.heap.size) (hg : B ≤ g) (hB : B ≤ w.heap.size) : BlkRow w' g L B g' bl := fun j hj => by
  obtain ⟨A, c, hc, hs, hm, hz⟩ := h j hj
  exact ⟨A, c, (World.cell?_of_block (hp.block g' hlt hne)).trans hc, hs.below (hp.below hg hB), hm, hz⟩

end Go.Proofs.Ytmejbmfopdfbjaa
