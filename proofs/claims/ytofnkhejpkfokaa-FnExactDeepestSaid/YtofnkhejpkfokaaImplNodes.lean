/-
  The program's FormOk, Nodes, Deepest.
-/
import Derived.Test.YtofnkhejpkfokaaImplForm
import Derived.Test.YtofnkhejpkfokaaImplSt
namespace Go.Proofs.Ytofnkhejpkfokaa
open Go.RowKit
set_option linter.unusedVariables false

theorem measureSt_c (s : St) : MeaSt s :=
  St.ind (P := MeaSt) (fun k name e f body els ih1 ih2 => measureSt_of k name e f body els (measureSts_of body ih1) (measureSts_of els ih2)) s
theorem measureSts_c (l : List St) : MeaSts l := measureSts_of l fun s _ => measureSt_c s
theorem measureProg_c (l : List Fn) (A : Option Addr) (cp L B : Nat) (w : World) (hB : B ≤ w.heap.size) (hsz : fnsSz l ≤ 1048576) (h : FnL w L B A l) :
    Calls Try.prog 54 #[.agg #[.slice A l.length cp]] w (MeaProg l w) :=
  measureProg_of l (fun f _ => measureSts_c f.body) A cp L B w hB hsz h

def nodesOf (l : List Fn) : Int := if formOk l = true then fnsN l else 0
def deepOf (l : List Fn) : Int := if formOk l = true then fnsDeep l else 0

set_option maxHeartbeats 1000000 in
theorem implFormOk_c (l : List Fn) (A : Option Addr) (cp L B : Nat) (w : World) (hB : B ≤ w.heap.size) (hsz : fnsSz l ≤ 1048576) (h : FnL w L B A l) :
    Calls Try.prog 17 #[.agg #[.slice A l.length cp]] w fun r w' => r = .returned (.bool (formOk l)) ∧ Below w.heap.size w w' := by
  have hb0 : ∀ o, Below w.heap.size w (w.alloc o) := fun o => (Below.refl _ _).alloc (Nat.le_refl _) _
  have hc := fun o => measureProg_c l A cp L B (w.alloc o) (by rw [World.size_alloc]; omega) hsz (h.below ((hb0 o).mono hB))
  have Hc := Lib.hid hc
  clear hc h hsz
  go_enter Try.func17, Try.ntmps17
  go_wp2_with fail
  refine (Hc.out _).mono ?_
  rintro r w1 ⟨b, a, c, rfl, hb1, hiff, himp⟩
  have hbn := (hb0 _).trans (hb1.mono (hb0 _).size)
  have hb : b = formOk l := by rw [Bool.eq_iff_iff]; exact hiff
  have Hb := Lib.hid hb
  clear hb hiff himp
  go_wp2
  go_ret
  exact ⟨ret_bool' Hb.out.symm, hbn.alloc hbn.size _⟩

set_option maxHeartbeats 1000000 in
theorem implNodes_c (l : List Fn) (A : Option Addr) (cp L B : Nat) (w : World) (hB : B ≤ w.heap.size) (hsz : fnsSz l ≤ 1048576) (h : FnL w L B A l) :
    Calls Try.prog 20 #[.agg #[.slice A l.length cp]] w fun r w' => r = .returned (.int .i64 (nodesOf l)) ∧ Below w.heap.size w w' := by
  have hb0 : ∀ o, Below w.heap.size w (w.alloc o) := fun o => (Below.refl _ _).alloc (Nat.le_refl _) _
  have hc := fun o => measureProg_c l A cp L B (w.alloc o) (by rw [World.size_alloc]; omega) hsz (h.below ((hb0 o).mono hB))
  have Hc := Lib.hid hc
  clear hc h hsz
  go_enter Try.func20, Try.ntmps20
  go_wp2_with fail
  refine (Hc.out _).mono ?_
  rintro r w1 ⟨b, a, c, rfl, hb1, hiff, himp⟩
  have hbn := (hb0 _).trans (hb1.mono (hb0 _).size)
  cases b
  · have hn : nodesOf l = 0 := by unfold nodesOf; rw [if_neg (fun hh => Bool.noConfusion (hiff.2 hh))]
    have Hn := Lib.hid hn
    clear hn hiff himp
    go_wp2
    go_ret
    exact ⟨by rw [Hn.out]; rfl, hbn.alloc hbn.size _⟩
  · have hn : nodesOf l = a := by unfold nodesOf; rw [if_pos (hiff.1 rfl)]; exact (himp rfl).1.symm
    have Hn := Lib.hid hn
    clear hn hiff himp
    go_wp2
    go_ret
    exact ⟨by rw [Hn.out]; rfl, hbn.alloc hbn.size _⟩

set_option maxHeartbeats 1000000 in
theorem implDeepest_c (l : List Fn) (A : Option Addr) (cp L B : Nat) (w : World) (hB : B ≤ w.heap.size) (hsz : fnsSz l ≤ 1048576) (h : FnL w L B A l) :
    Calls Try.prog 22 #[.agg #[.slice A l.length cp]] w fun r w' => r = .returned (.int .i64 (deepOf l)) ∧ Below w.heap.size w w' := by
  have hb0 : ∀ o, Below w.heap.size w (w.alloc o) := fun o => (Below.refl _ _).alloc (Nat.le_refl _) _
  have hc := fun o => measureProg_c l A cp L B (w.alloc o) (by rw [World.size_alloc]; omega) hsz (h.below ((hb0 o).mono hB))
  have Hc := Lib.hid hc
  clear hc h hsz
  go_enter Try.func22, Try.ntmps22
  go_wp2_with fail
  refine (Hc.out _).mono ?_
  rintro r w1 ⟨b, a, c, rfl, hb1, hiff, himp⟩
  have hbn := (hb0 _).trans (hb1.mono (hb0 _).size)
  cases b
  · have hn : deepOf l = 0 := by unfold deepOf; rw [if_neg (fun hh => Bool.noConfusion (hiff.2 hh))]
    have Hn := Lib.hid hn
    clear hn hiff himp
    go_wp2
    go_ret
    exact ⟨by rw [Hn.out]; rfl, hbn.alloc hbn.size _⟩
  · have hn : deepOf l = c := by unfold deepOf; rw [if_pos (hiff.1 rfl)]; exact (himp rfl).2.symm
    have Hn := Lib.hid hn
    clear hn hiff himp
    go_wp2
    go_ret
    exact ⟨by rw [Hn.out]; rfl, hbn.alloc hbn.size _⟩
end Go.Proofs.Ytofnkhejpkfokaa
