/-
  The model's counts of expressions: how many, how deep.
-/
import Derived.Test.YtofnkhejpkfokaaParts
import Derived.Deep.RegionHeld3
namespace Go.Proofs.Ytofnkhejpkfokaa
open Go.RowKit
set_option linter.unusedVariables false

theorem wrapI {x : Int} (h0 : -9223372036854775808 ≤ x) (h1 : x ≤ 9223372036854775807) : IntKind.i64.wrap x = x := IntWalk.i64_in _ (by omega)

def NodEx (e : Ex) : Prop := ∀ (v0 v1 v2 v3 : Value) (L B : Nat) (w : World), ExV w L B v0 v1 v2 v3 e → B ≤ w.heap.size → exN e ≤ 1000 →
  Calls Try.prog 92 #[.agg #[v0, v1, v2, v3]] w fun r w' => r = .returned (.int .i64 (exN e)) ∧ Below w.heap.size w w'

set_option maxHeartbeats 2000000 in
theorem nodesEx_c (e : Ex) : NodEx e := by
  refine Ex.ind (P := NodEx) ?_ e
  intro k n name args ih v0 v1 v2 v3 L B w h hB hN
  obtain ⟨A, c, A', c', rfl, rfl, rfl, rfl, hR, hm, hx⟩ := h.open_
  have hn := hx.1
  unfold maxLen at hn
  rw [exN_mk] at hN ⊢
  have hb0 : Below w.heap.size w (w.alloc (.cells #[.int .i64 k, .int .i64 n, .slice A name.length c, .slice A' args.length c'] 78)) := (Below.refl _ _).alloc (Nat.le_refl _) _
  have KB := Blk.new w 78 #[.int .i64 k, .int .i64 n, .slice A name.length c, .slice A' args.length c']
  have Ih := Lib.hid ih
  have HN := Lib.hid hN
  clear ih h hR hN
  go_enter Try.func92, Try.ntmps92
  go_wp2
  go_loopw [3, 4] (fun s i wr => ∃ (j : Nat) (u : Int), j ≤ args.length ∧ i = .int .i64 j ∧ s = .int .i64 u ∧ Hid (u = 1 + exsN (args.take j)) ∧ 0 ≤ u ∧ u ≤ 1000 ∧ Below w.heap.size w wr ∧ Blk wr w.heap.size 78 #[.int .i64 k, .int .i64 n, .slice A name.length c, .slice A' args.length c']) (fun _ i _ => args.length - (intOf i).toNat)
  case atStart => exact ⟨0, 1, Nat.zero_le _, rfl, rfl, Lib.hid (by simp [exsN]), by omega, by omega, hb0, KB⟩
  case round =>
    obtain ⟨j, u, hj, rfl, rfl, hu, hu0, hu1, hbl, hK⟩ := hrel
    have b3 := hK.cell_of 3 rfl
    by_cases hlt : j < args.length
    · obtain ⟨ad, rfl, _, hbk, hat⟩ := (hx.below (hbl.mono hB)).2 (by omega)
      obtain ⟨x0, x1, x2, x3, ⟨y0, y1, y2, y3⟩, hv⟩ := hat j hlt
      have hget := exsN_get hlt
      have hNN := HN.out
      have hu' := hu.out
      have hc := Ih.out args[j] (List.getElem_mem hlt) x0 x1 x2 x3 L B wr hv (Nat.le_trans hB hbl.size) (by omega)
      have hsum : u + (exN args[j] : Int) ≤ 1000 := by omega
      have hstep := exsN_step hlt
      have F : Hid (u + (exN args[j] : Int) = 1 + exsN (args.take (j + 1))) := Lib.hid (by rw [hstep]; omega)
      have Hc := Lib.hid hc
      clear hc hat hv hget hNN hu' hstep
      go_wp2_with fail
      refine Hc.out.mono ?_
      rintro r w2 ⟨rfl, hb2⟩
      have hbn := hbl.trans (hb2.mono hbl.size)
      have hK2 := hK.below hb2 hK.lt
      clear b3 y0 y1 y2 y3
      go_wp2
      go_roundw
      case rel => exact ⟨j + 1, u + exN args[j], by omega, by go_num, by trivial, F, by omega, hsum, hbn, hK2⟩
      case measure => simp [intOf]; omega
    · go_wp2
      go_ret
      have hjl : j = args.length := by omega
      subst hjl
      have h1 := hu.out
      rw [List.take_length] at h1
      exact ⟨by rw [show ((1 + exsN args : Nat) : Int) = u by omega]; rfl, hbl⟩

theorem most_c (a b : Int) (w : World) :
    Calls Try.prog 57 #[.int .i64 a, .int .i64 b] w fun r w' => r = .returned (.int .i64 (max a b)) ∧ w = w' := by
  by_cases h : a < b
  · rw [show max a b = b by omega]
    go_enter Try.func57, Try.ntmps57
    go_wp2
    go_ret
    exact ⟨rfl, rfl⟩
  · rw [show max a b = a by omega]
    have h' : b ≤ a := by omega
    clear h
    go_enter Try.func57, Try.ntmps57
    go_wp2
    go_ret
    exact ⟨rfl, rfl⟩

def DepEx (e : Ex) : Prop := ∀ (v0 v1 v2 v3 : Value) (L B d : Nat) (w : World), ExV w L B v0 v1 v2 v3 e → B ≤ w.heap.size → exGood e d = true →
  Calls Try.prog 93 #[.agg #[v0, v1, v2, v3], .int .i64 (d : Int)] w fun r w' => r = .returned (.int .i64 (exDeep e d)) ∧ Below w.heap.size w w'

set_option maxHeartbeats 2000000 in
theorem deepEx_c (e : Ex) : DepEx e := by
  refine Ex.ind (P := DepEx) ?_ e
  intro k n name args ih v0 v1 v2 v3 L B d w h hB hG
  obtain ⟨A, c, A', c', rfl, rfl, rfl, rfl, hR, hm, hx⟩ := h.open_
  have hn := hx.1
  unfold maxLen at hn
  rw [exGood_mk] at hG
  simp only [Bool.and_eq_true, decide_eq_true_eq] at hG
  have hd7 := hG.1.1
  have HG := Lib.hid hG.2
  rw [exDeep_mk]
  have hb0 : Below w.heap.size w (w.alloc (.cells #[.int .i64 k, .int .i64 n, .slice A name.length c, .slice A' args.length c'] 78)) := (Below.refl _ _).alloc (Nat.le_refl _) _
  have KB := Blk.new w 78 #[.int .i64 k, .int .i64 n, .slice A name.length c, .slice A' args.length c']
  have Ih := Lib.hid ih
  clear ih h hR hG
  go_enter Try.func93, Try.ntmps93
  go_wp2
  go_loopw [5, 6] (fun s i wr => ∃ (j : Nat) (u : Int), j ≤ args.length ∧ i = .int .i64 j ∧ s = .int .i64 u ∧ Hid (u = max (d : Int) (exsDeep (args.take j) (d + 1))) ∧ Below w.heap.size w wr ∧ Blk wr w.heap.size 78 #[.int .i64 k, .int .i64 n, .slice A name.length c, .slice A' args.length c']) (fun _ i _ => args.length - (intOf i).toNat)
  case atStart => exact ⟨0, d, Nat.zero_le _, rfl, rfl, Lib.hid (by simp [exsDeep]), hb0, KB⟩
  case round =>
    obtain ⟨j, u, hj, rfl, rfl, hu, hbl, hK⟩ := hrel
    have b3 := hK.cell_of 3 rfl
    by_cases hlt : j < args.length
    · obtain ⟨ad, rfl, _, hbk, hat⟩ := (hx.below (hbl.mono hB)).2 (by omega)
      obtain ⟨x0, x1, x2, x3, ⟨y0, y1, y2, y3⟩, hv⟩ := hat j hlt
      have hc := Ih.out args[j] (List.getElem_mem hlt) x0 x1 x2 x3 L B (d + 1) wr hv (Nat.le_trans hB hbl.size) (exsGood_get hlt HG.out)
      rw [show (((d + 1 : Nat)) : Int) = (d : Int) + 1 by omega] at hc
      have F : Hid (max u (exDeep args[j] (d + 1) : Int) = max (d : Int) (exsDeep (args.take (j + 1)) (d + 1))) := Lib.hid (by rw [exsDeep_step hlt, hu.out]; omega)
      have Hc := Lib.hid hc
      clear hc hat hv
      go_wp2_with fail
      refine Hc.out.mono ?_
      rintro r w2 ⟨rfl, hb2⟩
      have hbn := hbl.trans (hb2.mono hbl.size)
      have hK2 := hK.below hb2 hK.lt
      clear b3 y0 y1 y2 y3
      go_wp2_with fail
      refine (most_c u (exDeep args[j] (d + 1)) _).mono ?_
      rintro r w' ⟨rfl, rfl⟩
      go_wp2
      go_roundw
      case rel => exact ⟨j + 1, max u (exDeep args[j] (d + 1)), by omega, by go_num, by trivial, F, hbn, hK2⟩
      case measure => simp [intOf]; omega
    · go_wp2
      go_ret
      have hjl : j = args.length := by omega
      subst hjl
      have h1 := hu.out
      rw [List.take_length] at h1
      exact ⟨by rw [show ((max d (exsDeep args (d + 1)) : Nat) : Int) = u by omega]; rfl, hbl⟩
end Go.Proofs.Ytofnkhejpkfokaa
