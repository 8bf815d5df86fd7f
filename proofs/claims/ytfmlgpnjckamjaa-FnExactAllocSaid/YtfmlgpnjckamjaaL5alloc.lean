/-
  The model's l5alloc over an arena in a box.
-/
import Derived.Test.YtfmlgpnjckamjaaAllocI
import Derived.Test.YtfmlgpnjckamjaaKeepS
namespace Go.Proofs.Ytfmlgpnjckamjaa
open Go.RowKit
set_option linter.unusedVariables false
set_option linter.unusedSimpArgs false
namespace AllocI
open ArnM

set_option maxRecDepth 100000 in
set_option maxHeartbeats 4000000 in
theorem l5alloc_c (S : List Sl) (Q P : List Int) (bt lo : Nat) (w : World) (hS : S.length ≤ 1050000) (hG : ∀ i (hi : i < S.length), -1000000000000 ≤ S[i].gen ∧ S[i].gen ≤ 1000000000000) (h : BoxQ w lo bt ⟨S, Q, P⟩) :
    Calls Try.prog 53 #[.pointer (some ⟨bt, 0, none⟩)] w fun e w' => e = .returned (.tuple #[.agg #[.int .i64 (allocK S), .int .i64 (allocN S), .int .i64 (allocG S)], .bool (allocF S)]) ∧ BoxQ w' lo bt ⟨allocS S, Q, P⟩ ∧ Below lo w w' := by
  obtain ⟨A0, A1, A2, c0, c1, c2, g, fb, nb, g1, g2, hK, hlo, hO, hl, hcap⟩ := h
  dsimp only at hK hcap
  have hlt := hK.lt
  have hlow : lo ≤ w.heap.size := by omega
  obtain ⟨X, hX⟩ : ∃ X, X = w.alloc (.cells #[.int .i64 0, .int .i64 0, .int .i64 0] 43) := ⟨_, rfl⟩
  have hbX : Below w.heap.size w X := hX ▸ CopyOf.blw1 w (.cells #[.int .i64 0, .int .i64 0, .int .i64 0] 43)
  have HKv : Hid (Blk X w.heap.size 43 #[.int .i64 0, .int .i64 0, .int .i64 0]) := Lib.hid (hX ▸ Blk.new w _ _)
  have HK := Lib.hid (hK.below hbX hlt)
  have HO := Lib.hid (hO.apart (S := fun _ => False) (Apart.of_below hbX) (fun _ _ h => h))
  have Hl := Lib.hid hl
  have HG := Lib.hid hG
  have Hb := Lib.hid (hbX.mono hlow)
  have hsX : w.heap.size + 1 ≤ X.heap.size := by rw [hX]; simp
  have HX := Lib.hid hX
  clear hX hbX hK hO hl hG
  go_enter Try.func53, Try.ntmps53
  go_wp2_with fail
  rw [← HX.out]
  have t0 := HK.out.cel 0 (v := .slice A0 S.length c0) rfl
  go_loopw [4] (fun i wr => ∃ (k : Nat), k ≤ S.length ∧ i = .int .i64 k ∧ Hid (∀ j (hj : j < S.length), j < k → S[j].live = true) ∧ wr = X) (fun i _ => S.length - (intOf i).toNat)
  case atStart => exact ⟨0, Nat.zero_le _, rfl, Lib.hid (fun j hj h => absurd h (Nat.not_lt_zero _)), by trivial⟩
  case round =>
    obtain ⟨k, hk, rfl, hlv, rfl⟩ := hrel
    by_cases hltk : k < S.length
    · obtain ⟨rfl, hgl, cs, hGb, hat⟩ := HO.out.slots.row (by dsimp only; omega)
      obtain ⟨e0, e1, e2, FA, fc, e3, hF⟩ := hat k hltk
      dsimp only at e0 e1 e2 e3
      have d0 : wr.cell? ⟨g, k * 4, none⟩ = some (.bool S[k].live) := by rw [hGb.cell]; exact e0
      have d1 : wr.cell? ⟨g, k * 4 + 1, none⟩ = some (.int .i64 S[k].gen) := by rw [hGb.cell]; exact e1
      have d2 : wr.cell? ⟨g, k * 4 + 2, none⟩ = some (.int .i64 S[k].count) := by rw [hGb.cell]; exact e2
      have d3 : wr.cell? ⟨g, k * 4 + 3, none⟩ = some (.slice FA S[k].fs.length fc) := by rw [hGb.cell]; exact e3
      obtain ⟨fl, hfl⟩ : ∃ n, n = S[k].fs.length := ⟨_, rfl⟩
      obtain ⟨gn, hgn⟩ : ∃ n, n = S[k].gen := ⟨_, rfl⟩
      obtain ⟨ct, hct⟩ : ∃ n, n = S[k].count := ⟨_, rfl⟩
      have hgb := HG.out k hltk
      rw [← hfl] at d3
      rw [← hgn] at d1 hgb
      rw [← hct] at d2
      cases hlive : S[k].live
      · have HE := Lib.hid (alloc_at hltk hlv.out hlive)
        rw [hlive] at d0
        have hgw : g < w.heap.size := (Hl.out g (.inl (.inl ⟨by dsimp only; omega, rfl⟩))).1
        have hgb2 : ¬ g = bt := (Hl.out g (.inl (.inl ⟨by dsimp only; omega, rfl⟩))).2
        have HF := Lib.hid (fin_of (k := k) (n := w.heap.size) HK.out HK.out HKv.out HO.out Hb.out (by omega) hltk (by omega) (by omega) (by omega) hgl (gn + 1) 1)
        have f0 : wr.frozen? ⟨g, k * 4, none⟩ = false := hGb.frozen _
        have f1 : wr.frozen? ⟨g, k * 4 + 1, none⟩ = false := hGb.frozen _
        have f2 : wr.frozen? ⟨g, k * 4 + 2, none⟩ = false := hGb.frozen _
        have f3 : wr.frozen? ⟨g, k * 4 + 3, none⟩ = false := hGb.frozen _
        have hwr : IntKind.i64.wrap (gn + 1) = gn + 1 := by rw [IntKind.wrap_i64]; omega
        have Hgn := Lib.hid hgn
        clear hGb hat e0 e1 e2 e3 hF hfl hgn hct hlive hlv
        go_upto_region 5 with fail
        go_cut [38] (fun _ wx => Hid (Fin wx lo bt bt w.heap.size 32 32 #[.slice (some ⟨g, 0, none⟩) S.length c0, .slice A1 Q.length c1, .slice A2 P.length c2] #[.slice (some ⟨g, 0, none⟩) S.length c0, .slice A1 Q.length c1, .slice A2 P.length c2] #[.int .i64 0, .int .i64 0, .int .i64 0] (some ⟨g, 0, none⟩) A1 A2 ⟨S.set k ⟨true, gn + 1, 1, []⟩, Q, P⟩ g fb nb g1 g2 w w.heap.size))
        case first =>
          go_region_with fail
          all_goals
            try go_wp2_with fail
            go_meet
            case rel => first | exact HF | exact Lib.hid HF.out.drew
        case rest =>
          obtain ⟨Z, hZ⟩ : ∃ x, x = wc := ⟨_, rfl⟩
          subst hZ
          have HZ := hcut
          have hvz := hcut.out.2.2.1
          have t0 := hcut.out.1.cel 0 (v := .slice (some ⟨g, 0, none⟩) S.length c0) rfl
          have d1 : Z.cell? ⟨g, k * 4 + 1, none⟩ = some (.int .i64 (gn + 1)) := by
            obtain ⟨-, -, cs, hGz, hat⟩ := hcut.out.2.2.2.1.slots.row (by dsimp only; rw [List.length_set]; omega)
            have := (hat k (by dsimp only; rw [List.length_set]; exact hltk)).2.1
            rw [hGz.cell, this]
            simp
          have m0 := hvz.cel 0 rfl
          have m1 := hvz.cel 1 rfl
          have m2 := hvz.cel 2 rfl
          have y0 : Z.frozen? ⟨w.heap.size, 0, none⟩ = false := hvz.frozen 0
          have y1 : Z.frozen? ⟨w.heap.size, 1, none⟩ = false := hvz.frozen 1
          have y2 : Z.frozen? ⟨w.heap.size, 2, none⟩ = false := hvz.frozen 2
          clear hvz hcut HF f0 f1 f2 f3
          go_wp2_with fail
          refine bodyPost_ret (v := .tuple #[.agg #[.int .i64 2, .int .i64 k, .int .i64 (gn + 1)], .bool true]) (by simp [results, Try.results53, go_sem, m0, m1, m2]) rfl ?_
          obtain ⟨E1, E2, E3, E4, E5⟩ := HE.out
          rw [E1, E2, E3, E4, E5, ← Hgn.out]
          obtain ⟨zk, -, -, zo, zb, zn⟩ := HZ.out
          have hap := ((((Apart.refl (fun b => b = w.heap.size) Z).setCell (p := ⟨w.heap.size, 0, none⟩) rfl (.int .i64 2)).setCell (p := ⟨w.heap.size, 1, none⟩) rfl (.int .i64 k)).setCell (p := ⟨w.heap.size, 2, none⟩) rfl (.int .i64 (gn + 1)))
          refine ⟨rfl, ⟨_, A1, A2, c0, c1, c2, g, fb, nb, g1, g2, ?_, hlo, zo.apart hap (fun b hb e => by have := (Hl.out b (asOf_set hb)).1; omega), fun b hb => ⟨?_, (Hl.out b (asOf_set hb)).2⟩, hcap⟩, ?_⟩
          · dsimp only
            rw [List.length_set]
            exact zk.apart hap (by omega)
          · have := (Hl.out b (asOf_set hb)).1
            have := hap.size
            omega
          · exact zb.trans (hap.below (by omega) (fun k hk e => by omega))
      · have hlv' : Hid (∀ j (hj : j < S.length), j < k + 1 → S[j].live = true) := Lib.hid (fun j hj h => by
          by_cases e : j = k
          · subst e; exact hlive
          · exact hlv.out j hj (by omega))
        rw [hlive] at d0
        clear hGb hat e0 e1 e2 e3 hF hfl hgn hct hlive hlv
        go_wp2
        go_roundw
        case rel => exact ⟨k + 1, by omega, by go_num, hlv', by trivial⟩
        case measure => simp [intOf]; omega
    · obtain rfl : k = S.length := by omega
      obtain ⟨E1, E2, E3, E4, E5⟩ := alloc_no hlv.out
      have HE := Lib.hid (And.intro E1 (And.intro E2 (And.intro E3 (And.intro E4 E5))))
      have m0 := HKv.out.cel 0 rfl
      have m1 := HKv.out.cel 1 rfl
      have m2 := HKv.out.cel 2 rfl
      have y0 : wr.frozen? ⟨w.heap.size, 0, none⟩ = false := HKv.out.frozen 0
      have y1 : wr.frozen? ⟨w.heap.size, 1, none⟩ = false := HKv.out.frozen 1
      have y2 : wr.frozen? ⟨w.heap.size, 2, none⟩ = false := HKv.out.frozen 2
      clear E1 E2 E3 E4 E5
      go_wp2_with fail
      refine bodyPost_ret (v := .tuple #[.agg #[.int .i64 0, .int .i64 0, .int .i64 0], .bool false]) (by simp [results, Try.results53, go_sem, m0, m1, m2]) rfl ?_
      obtain ⟨E1, E2, E3, E4, E5⟩ := HE.out
      rw [E1, E2, E3, E4, E5]
      have hap := ((((Apart.refl (fun b => b = w.heap.size) wr).setCell (p := ⟨w.heap.size, 0, none⟩) rfl (.int .i64 0)).setCell (p := ⟨w.heap.size, 1, none⟩) rfl (.int .i64 0)).setCell (p := ⟨w.heap.size, 2, none⟩) rfl (.int .i64 0))
      refine ⟨rfl, ⟨A0, A1, A2, c0, c1, c2, g, fb, nb, g1, g2, HK.out.apart hap (by omega), hlo, HO.out.apart hap (fun b hb e => by have := (Hl.out b hb).1; omega), fun b hb => ⟨?_, (Hl.out b hb).2⟩, hcap⟩, ?_⟩
      · have := (Hl.out b hb).1
        have := hap.size
        omega
      · exact Hb.out.trans (hap.below (by omega) (fun k hk e => by omega))
end AllocI
end Go.Proofs.Ytfmlgpnjckamjaa
