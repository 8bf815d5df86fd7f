/-
  The program's check of a function's head.
-/
import Derived.Test.YtmejbmfopdfbjaaImplBase
namespace Go.Proofs.Ytmejbmfopdfbjaa
open Go.RowKit
set_option linter.unusedVariables false

theorem all_take' {α : Type} {p : α → Bool} {l : List α} {k : Nat} (h : (l.take k).all p = true) (hk : k < l.length) (hp : p l[k] = true) : (l.take (k + 1)).all p = true := by
  rw [List.take_succ_eq_append_getElem hk, List.all_append, h]; simp [hp]
theorem all_no' {α : Type} {p : α → Bool} {l : List α} {k : Nat} (hk : k < l.length) (hp : p l[k] = false) : l.all p = false := by
  rw [List.all_eq_false]; exact ⟨l[k], List.getElem_mem hk, by simp [hp]⟩

set_option maxHeartbeats 2000000 in
theorem headOk_c (f : Fn) (v0 v1 v2 : Value) (L B : Nat) (w : World) (hB : B ≤ w.heap.size) (hsz : fnSz f ≤ 1048576) (h : FnV w L B v0 v1 v2 f) :
    Calls Try.prog 115 #[.agg #[v0, v1, v2]] w fun r w' => r = .returned (.bool (headOk f)) ∧ Below w.heap.size w w' := by
  obtain ⟨A, c, A1, c1, A2, c2, rfl, rfl, rfl, hR, hm, hp, hbd, hcp⟩ := h
  unfold maxLen at hm
  have hm1 := hp.1
  have hm2 := hbd.1
  unfold maxLen at hm1 hm2
  have hsz1 : f.name.length + bsSz f.params ≤ 1048576 := by unfold fnSz at hsz; omega
  have hnm : f.name.length ≤ 4294967296 := by omega
  have Hsz := Lib.hid hsz1
  have hb0 : ∀ o, Below w.heap.size w (w.alloc o) := fun o => (Below.refl _ _).alloc (Nat.le_refl _) _
  have hc := fun o => implNameOk_c f.name A c B (w.alloc o) hnm (hR.1.alloc hB o)
  have Hc := Lib.hid hc
  clear hc hR hbd hsz hsz1
  cases hn : nameOk f.name
  · have hh : headOk f = false := by unfold headOk; rw [hn]; rfl
    rw [hh]
    rw [hn] at Hc
    clear hh hn
    go_enter Try.func115, Try.ntmps115
    go_wp2_with (go_at_call 117; refine (Hc.out _).mono ?_; rintro e w' ⟨rfl, rfl⟩)
    go_ret
    exact ⟨rfl, hb0 _⟩
  by_cases h3 : 3 < (f.params.length : Int)
  · have hh : headOk f = false := by unfold headOk; simp; omega
    rw [hh]
    rw [hn] at Hc
    clear hh hn
    go_enter Try.func115, Try.ntmps115
    go_wp2_with (go_at_call 117; refine (Hc.out _).mono ?_; rintro e w' ⟨rfl, rfl⟩)
    go_ret
    exact ⟨rfl, hb0 _⟩
  have h3' : (f.params.length : Int) ≤ 3 := by omega
  have hh : headOk f = f.params.all nameOk := by unfold headOk; rw [hn]; simp; omega
  have Hh := Lib.hid hh
  rw [hn] at Hc
  clear hn h3 hh
  go_enter Try.func115, Try.ntmps115
  go_wp2_with (go_at_call 117; refine (Hc.out _).mono ?_; rintro e w' ⟨rfl, rfl⟩)
  go_loopw [18] (fun i wr => ∃ (k : Nat), k ≤ f.params.length ∧ i = .int .i64 k ∧ Below w.heap.size w wr ∧ Hid ((f.params.take k).all nameOk = true)) (fun i _ => f.params.length - (intOf i).toNat)
  case atStart => exact ⟨0, Nat.zero_le _, rfl, hb0 _, Lib.hid (by simp)⟩
  case round =>
    obtain ⟨k, hk, rfl, hbl, ha⟩ := hrel
    by_cases hlt : k < f.params.length
    · obtain ⟨ad, rfl, _, hbk, hat⟩ := (hp.below (hbl.mono hB)).2 (by omega)
      obtain ⟨A', c', c0, hR', hm'⟩ := hat k hlt
      unfold maxLen at hm'
      have hx := implNameOk_c f.params[k] A' c' B wr (by have := bsSz_get hlt; have := Hsz.out; omega) hR'.1
      cases hs : nameOk f.params[k]
      · rw [hs] at hx
        have Hs := Lib.hid hs
        have Hx := Lib.hid hx
        clear hs hx hat
        go_wp2_with (go_at_call 117; refine Hx.out.mono ?_; rintro e w' ⟨rfl, rfl⟩)
        go_ret
        exact ⟨by rw [Hh.out, all_no' hlt Hs.out]; rfl, hbl⟩
      · rw [hs] at hx
        have Hs := Lib.hid hs
        have Hx := Lib.hid hx
        clear hs hx hat
        go_wp2_with (go_at_call 117; refine Hx.out.mono ?_; rintro e w' ⟨rfl, rfl⟩)
        go_roundw
        case rel => exact ⟨k + 1, by omega, by go_num, hbl, Lib.hid (all_take' ha.out hlt Hs.out)⟩
        case measure => simp [intOf]; omega
    · go_wp2
      go_ret
      have : k = f.params.length := by omega
      subst this
      exact ⟨by rw [Hh.out, ← List.take_length (l := f.params), ha.out]; rfl, hbl⟩
end Go.Proofs.Ytmejbmfopdfbjaa
