/-
  The program's alloc over a tally.
-/
import Derived.Test.YtfmlgpnjckamjaaAllocD
namespace Go.Proofs.Ytfmlgpnjckamjaa
open Go.RowKit
set_option linter.unusedVariables false
set_option linter.unusedSimpArgs false
namespace AllocI
open ArnM

/-- what lies where a slot has been made -/
def Fin (w : World) (lo bt gs gv : Nat) (tt ts : TypeId) (ct cs cv : Array Value) (A0 A1 A2 : Option Addr) (a : Ar) (g : Nat) (fb : Nat → Nat) (nb : Nat → Nat → Nat) (g1 g2 : Nat) (w0 : World) (n : Nat) : Prop :=
  Blk w bt tt ct ∧ Blk w gs ts cs ∧ Blk w gv 43 cv ∧ OwnAr w lo A0 A1 A2 a g fb nb g1 g2 ∧ Below lo w0 w ∧ n ≤ w.heap.size
theorem Fin.drew {w : World} {lo bt gs gv : Nat} {tt ts : TypeId} {ct cs cv : Array Value} {A0 A1 A2 : Option Addr} {a : Ar} {g : Nat} {fb : Nat → Nat} {nb : Nat → Nat → Nat} {g1 g2 : Nat} {w0 : World} {n : Nat} (h : Fin w lo bt gs gv tt ts ct cs cv A0 A1 A2 a g fb nb g1 g2 w0 n) : Fin w.drew lo bt gs gv tt ts ct cs cv A0 A1 A2 a g fb nb g1 g2 w0 n :=
  ⟨h.1.drew, h.2.1.drew, h.2.2.1.drew, h.2.2.2.1.apart (S := fun _ => False) (Apart.refl _ _).drew (fun _ _ h => h), h.2.2.2.2.1.drew, h.2.2.2.2.2⟩
theorem fin_of {w : World} {lo bt gs gv n k : Nat} {tt ts : TypeId} {ct cs cv : Array Value} {A0 A1 A2 : Option Addr} {S : List Sl} {Q P : List Int} {g : Nat} {fb : Nat → Nat} {nb : Nat → Nat → Nat} {g1 g2 : Nat} {w0 : World} (hb : Blk w bt tt ct) (hs : Blk w gs ts cs) (hv : Blk w gv 43 cv)
    (hO : OwnAr w lo A0 A1 A2 ⟨S, Q, P⟩ g fb nb g1 g2) (hB : Below lo w0 w) (hn : n ≤ w.heap.size) (hk : k < S.length) (n1 : bt ≠ g) (n2 : gs ≠ g) (n3 : gv ≠ g) (hg : lo ≤ g) (gn c : Int) :
    Fin (wr4 w g k true gn c) lo bt gs gv tt ts ct cs cv A0 A1 A2 ⟨S.set k ⟨true, gn, c, []⟩, Q, P⟩ g fb nb g1 g2 w0 n := by
  have ha := wr4_apart w g k true gn c
  refine ⟨hb.apart ha n1, hs.apart ha n2, hv.apart ha n3, hO.put k hk true gn c, hB.trans ?_, by rw [wr4_size]; exact hn⟩
  unfold wr4
  exact ((((Below.refl lo w).setCell (p := ⟨g, k * 4, none⟩) hg _).setCell (p := ⟨g, k * 4 + 1, none⟩) hg _).setCell (p := ⟨g, k * 4 + 2, none⟩) hg _).setCell (p := ⟨g, k * 4 + 3, none⟩) hg _

set_option maxRecDepth 100000 in
set_option maxHeartbeats 4000000 in
theorem alloc_c (S : List Sl) (Q P : List Int) (bt lo : Nat) (d : Value) (w : World) (hS : S.length ≤ 1050000) (hG : ∀ i (hi : i < S.length), -1000000000000 ≤ S[i].gen ∧ S[i].gen ≤ 1000000000000) (h : TalQ w lo bt d ⟨S, Q, P⟩) :
    Calls Try.prog 55 #[.pointer (some ⟨bt, 0, none⟩)] w fun e w' => e = .returned (.tuple #[.agg #[.int .i64 (allocK S), .int .i64 (allocN S), .int .i64 (allocG S)], .bool (allocF S)]) ∧ TalQ w' lo bt d ⟨allocS S, Q, P⟩ ∧ Below lo w w' := by
  obtain ⟨A0, A1, A2, c0, c1, c2, g, fb, nb, g1, g2, hK, hlo, hO, hl⟩ := h
  dsimp only at hK
  have hlt := hK.lt
  have hlow : lo ≤ w.heap.size := by omega
  obtain ⟨X, hX⟩ : ∃ X, X = w.alloc (.cells #[.int .i64 0, .int .i64 0, .int .i64 0] 43) := ⟨_, rfl⟩
  have hbX : Below w.heap.size w X := hX ▸ CopyOf.blw1 w (.cells #[.int .i64 0, .int .i64 0, .int .i64 0] 43)
  have HKv : Hid (Blk X w.heap.size 43 #[.int .i64 0, .int .i64 0, .int .i64 0]) := Lib.hid (hX ▸ Blk.new w _ _)
  have HK := Lib.hid (hK.below hbX hlt)
  have HO := Lib.hid (hO.apart (S := fun _ => False) (Apart.of_below hbX) (fun _ _ h => h))
  have Hl := Lib.hid hl
  have HG := Lib.hid hG
  have Hb := Lib.hid (hbX.mono hlow)
  have hsX : w.heap.size + 1 ≤ X.heap.size := by rw [hX]; simp
  have t0 := HK.out.cel 0 (v := .slice A0 S.length c0) rfl
  have HX := Lib.hid hX
  rw [hX] at t0
  clear hX hbX hK hO hl hG
  go_enter Try.func55, Try.ntmps55
  go_wp2_with fail
  rw [← HX.out]
  clear t0
  go_loopw [12] (fun i wr => ∃ (k : Nat), k ≤ S.length ∧ i = .int .i64 k ∧ Hid (∀ j (hj : j < S.length), j < k → S[j].live = true) ∧ Hid (Below X.heap.size X wr)) (fun i _ => S.length - (intOf i).toNat)
  case atStart => exact ⟨0, Nat.zero_le _, rfl, Lib.hid (fun j hj h => absurd h (Nat.not_lt_zero _)), Lib.hid (Below.refl _ _)⟩
  case round =>
    obtain ⟨k, hk, rfl, hlv, hY⟩ := hrel
    have hsY := hY.out.size
    by_cases hltk : k < S.length
    · have hOr := HO.out.apart (S := fun _ => False) (Apart.of_below hY.out) (fun _ _ h => h)
      obtain ⟨rfl, hgl, cs, hGb, hat⟩ := hOr.slots.row (by dsimp only; omega)
      obtain ⟨e0, e1, e2, FA, fc, e3, hF⟩ := hat k hltk
      dsimp only at e0 e1 e2 e3
      have d0 : wr.cell? ⟨g, k * 4, none⟩ = some (.bool S[k].live) := by rw [hGb.cell]; exact e0
      have d1 : wr.cell? ⟨g, k * 4 + 1, none⟩ = some (.int .i64 S[k].gen) := by rw [hGb.cell]; exact e1
      have d2 : wr.cell? ⟨g, k * 4 + 2, none⟩ = some (.int .i64 S[k].count) := by rw [hGb.cell]; exact e2
      have d3 : wr.cell? ⟨g, k * 4 + 3, none⟩ = some (.slice FA S[k].fs.length fc) := by rw [hGb.cell]; exact e3
      obtain ⟨fl, hfl⟩ : ∃ n, n = S[k].fs.length := ⟨_, rfl⟩
      obtain ⟨gn, hgn⟩ : ∃ n, n = S[k].gen := ⟨_, rfl⟩
      obtain ⟨ct, hct⟩ : ∃ n, n = S[k].count := ⟨_, rfl⟩
      have hgb := HG.out k hltk
      rw [← hfl] at d3
      rw [← hgn] at d1 hgb
      rw [← hct] at d2
      cases hlive : S[k].live
      · have HE := Lib.hid (alloc_at hltk hlv.out hlive)
        rw [hlive] at d0
        have hbs := CopyOf.blw1 wr (.cells #[.bool false, .int .i64 gn, .int .i64 ct, .slice FA fl fc] 90)
        obtain ⟨Y, hYe⟩ : ∃ Y, Y = wr.alloc (.cells #[.bool false, .int .i64 gn, .int .i64 ct, .slice FA fl fc] 90) := ⟨_, rfl⟩
        have hKs : Blk Y wr.heap.size 90 #[.bool false, .int .i64 gn, .int .i64 ct, .slice FA fl fc] := hYe ▸ Blk.new wr _ _
        obtain ⟨gs, hgs⟩ : ∃ x, x = wr.heap.size := ⟨_, rfl⟩
        rw [← hYe] at hbs
        rw [← hgs] at hKs
        have hGY : Blk Y g 90 cs := hGb.below hbs hGb.lt
        have hgw : g < w.heap.size := (Hl.out g (.inl (.inl ⟨by dsimp only; omega, rfl⟩))).1
        have hgb2 : ¬ g = bt := (Hl.out g (.inl (.inl ⟨by dsimp only; omega, rfl⟩))).2
        have hKY := (HK.out.below hY.out (by omega)).below hbs (by omega)
        have hVY := (HKv.out.below hY.out (by omega)).below hbs (by omega)
        have hOY := hOr.apart (S := fun _ => False) (Apart.of_below hbs) (fun _ _ h => h)
        have hBY := Hb.out.trans ((hY.out.trans (hbs.mono hsY)).mono (by omega))
        have hsYY := hbs.size
        have HF := Lib.hid (fin_of (k := k) (n := w.heap.size) hKY hKs hVY hOY hBY (by omega) hltk (by omega) (by omega) (by omega) hgl (gn + 1) 1)
        have t0 := hKY.cel 0 (v := .slice (some ⟨g, 0, none⟩) S.length c0) rfl
        have s0 := hKs.cel 0 (v := .bool false) rfl
        have s1 := hKs.cel 1 (v := .int .i64 gn) rfl
        have p0 : Y.cell? ⟨g, k * 4, none⟩ = some (.bool false) := by rw [hGY.cell, ← hGb.cell]; exact d0
        have p1 : Y.cell? ⟨g, k * 4 + 1, none⟩ = some (.int .i64 gn) := by rw [hGY.cell, ← hGb.cell]; exact d1
        have p2 : Y.cell? ⟨g, k * 4 + 2, none⟩ = some (.int .i64 ct) := by rw [hGY.cell, ← hGb.cell]; exact d2
        have p3 : Y.cell? ⟨g, k * 4 + 3, none⟩ = some (.slice FA fl fc) := by rw [hGY.cell, ← hGb.cell]; exact d3
        have f0 : Y.frozen? ⟨g, k * 4, none⟩ = false := hGY.frozen _
        have f1 : Y.frozen? ⟨g, k * 4 + 1, none⟩ = false := hGY.frozen _
        have f2 : Y.frozen? ⟨g, k * 4 + 2, none⟩ = false := hGY.frozen _
        have f3 : Y.frozen? ⟨g, k * 4 + 3, none⟩ = false := hGY.frozen _
        have hwr : IntKind.i64.wrap (gn + 1) = gn + 1 := by rw [IntKind.wrap_i64]; omega
        have Hgn := Lib.hid hgn
        have HYe := Lib.hid hYe
        have Hgs := Lib.hid hgs
        clear hOr hGb hat e0 e1 e2 e3 hF hfl hgn hct hlive hlv hY hbs hKs hGY hKY hVY hOY hBY hYe hgs
        go_upto_region 5 with fail
        rw [← HYe.out, ← Hgs.out]
        clear d0 d1 d2 d3
        go_cut [30] (fun _ wx => Hid (Fin wx lo bt gs w.heap.size 111 90 #[.slice (some ⟨g, 0, none⟩) S.length c0, .slice A1 Q.length c1, .slice A2 P.length c2, d] #[.bool false, .int .i64 gn, .int .i64 ct, .slice FA fl fc] #[.int .i64 0, .int .i64 0, .int .i64 0] (some ⟨g, 0, none⟩) A1 A2 ⟨S.set k ⟨true, gn + 1, 1, []⟩, Q, P⟩ g fb nb g1 g2 w w.heap.size))
        case first =>
          go_region_with fail
          all_goals
            try go_wp2_with fail
            go_meet
            case rel => first | exact HF | exact Lib.hid HF.out.drew
        case rest =>
          obtain ⟨Z, hZ⟩ : ∃ x, x = wc := ⟨_, rfl⟩
          subst hZ
          have HZ := hcut
          have hvz := hcut.out.2.2.1
          have s1 := hcut.out.2.1.cel 1 (v := .int .i64 gn) rfl
          have m0 := hvz.cel 0 rfl
          have m1 := hvz.cel 1 rfl
          have m2 := hvz.cel 2 rfl
          have y0 : Z.frozen? ⟨w.heap.size, 0, none⟩ = false := hvz.frozen 0
          have y1 : Z.frozen? ⟨w.heap.size, 1, none⟩ = false := hvz.frozen 1
          have y2 : Z.frozen? ⟨w.heap.size, 2, none⟩ = false := hvz.frozen 2
          clear hvz hcut HF t0 p0 p1 p2 p3 f0 f1 f2 f3
          go_wp2_with fail
          refine bodyPost_ret (v := .tuple #[.agg #[.int .i64 2, .int .i64 k, .int .i64 (gn + 1)], .bool true]) (by simp [results, Try.results55, go_sem, m0, m1, m2]) rfl ?_
          obtain ⟨E1, E2, E3, E4, E5⟩ := HE.out
          rw [E1, E2, E3, E4, E5, ← Hgn.out]
          obtain ⟨zk, -, -, zo, zb, zn⟩ := HZ.out
          have hap := ((((Apart.refl (fun b => b = w.heap.size) Z).setCell (p := ⟨w.heap.size, 0, none⟩) rfl (.int .i64 2)).setCell (p := ⟨w.heap.size, 1, none⟩) rfl (.int .i64 k)).setCell (p := ⟨w.heap.size, 2, none⟩) rfl (.int .i64 (gn + 1)))
          refine ⟨rfl, ⟨_, A1, A2, c0, c1, c2, g, fb, nb, g1, g2, ?_, hlo, zo.apart hap (fun b hb e => by have := (Hl.out b (asOf_set hb)).1; omega), fun b hb => ⟨?_, (Hl.out b (asOf_set hb)).2⟩⟩, ?_⟩
          · dsimp only
            rw [List.length_set]
            exact zk.apart hap (by omega)
          · have := (Hl.out b (asOf_set hb)).1
            have := hap.size
            omega
          · exact zb.trans (hap.below (by omega) (fun k hk e => by omega))
      · have hlv' : Hid (∀ j (hj : j < S.length), j < k + 1 → S[j].live = true) := Lib.hid (fun j hj h => by
          by_cases e : j = k
          · subst e; exact hlive
          · exact hlv.out j hj (by omega))
        rw [hlive] at d0
        have hY' := Lib.hid (hY.out.alloc (Nat.le_trans (Nat.le_refl _) hsY) (.cells #[.bool true, .int .i64 gn, .int .i64 ct, .slice FA fl fc] 90))
        clear hOr hGb hat e0 e1 e2 e3 hF hfl hgn hct hlive hlv hY
        go_wp2
        go_roundw
        case rel => exact ⟨k + 1, by omega, by go_num, hlv', hY'⟩
        case measure => simp [intOf]; omega
    · obtain rfl : k = S.length := by omega
      obtain ⟨E1, E2, E3, E4, E5⟩ := alloc_no hlv.out
      have HE := Lib.hid (And.intro E1 (And.intro E2 (And.intro E3 (And.intro E4 E5))))
      have hKv := HKv.out.below hY.out (by omega)
      have m0 := hKv.cel 0 rfl
      have m1 := hKv.cel 1 rfl
      have m2 := hKv.cel 2 rfl
      have y0 : wr.frozen? ⟨w.heap.size, 0, none⟩ = false := hKv.frozen 0
      have y1 : wr.frozen? ⟨w.heap.size, 1, none⟩ = false := hKv.frozen 1
      have y2 : wr.frozen? ⟨w.heap.size, 2, none⟩ = false := hKv.frozen 2
      clear hKv E1 E2 E3 E4 E5
      go_wp2_with fail
      refine bodyPost_ret (v := .tuple #[.agg #[.int .i64 0, .int .i64 0, .int .i64 0], .bool false]) (by simp [results, Try.results55, go_sem, m0, m1, m2]) rfl ?_
      obtain ⟨E1, E2, E3, E4, E5⟩ := HE.out
      rw [E1, E2, E3, E4, E5]
      have hap := ((((Apart.of_below (S := fun b => b = w.heap.size) (hY.out)).setCell (p := ⟨w.heap.size, 0, none⟩) rfl (.int .i64 0)).setCell (p := ⟨w.heap.size, 1, none⟩) rfl (.int .i64 0)).setCell (p := ⟨w.heap.size, 2, none⟩) rfl (.int .i64 0))
      refine ⟨rfl, ⟨A0, A1, A2, c0, c1, c2, g, fb, nb, g1, g2, HK.out.apart hap (by omega), hlo, HO.out.apart hap (fun b hb e => by have := (Hl.out b hb).1; omega), fun b hb => ⟨?_, (Hl.out b hb).2⟩⟩, ?_⟩
      · have := (Hl.out b hb).1
        have := hap.size
        omega
      · exact Hb.out.trans (hap.below (by omega) (fun k hk e => by omega))
end AllocI
end Go.Proofs.Ytfmlgpnjckamjaa
