/-
  RefRegs: both sides.
-/
import Derived.Test.YtddjcjjnpidhiaaGreatDoorVmS
import Derived.Test.YtddjcjjnpidhiaaGreatDoorVmI
namespace Go.Proofs.YtddjcjjnpidhiaaGreatDoor
open Go.RowKit
set_option linter.unusedVariables false
set_option linter.unusedSimpArgs false

/-- how many of them refer to anything -/
def rfN (l : List Vl) : Nat := (refsV l l.length).length
theorem rfN_app (l r : List Vl) : rfN (l ++ r) = rfN l + rfN r := by
  unfold rfN refsV
  rw [List.take_length, List.take_length, List.take_length, List.filter_append, List.map_append, List.length_append]
theorem rfN_le (l : List Vl) : rfN l ≤ l.length := refsV_le l l.length
def refRegsV (m : Ma) : Int := if vmOk m then (rfN (rootsTo m.frames m.frames.length) : Int) else -1

set_option maxRecDepth 100000 in
set_option maxHeartbeats 8000000 in
theorem implRefRegs_c (m : Ma) (A0 A1 A2 A3 A4 A5 : Option Addr) (c0 c1 c2 c3 c4 c5 L B : Nat) (w : World) (hB : B ≤ w.heap.size) (hl : maSz m ≤ 1048576) (h : MaL w L B A0 A1 A2 A3 A4 A5 m) (hT : Cod.Forms w B) :
    Calls Tryz.prog 24 #[.agg (maV A0 A1 A2 A3 A4 A5 c0 c1 c2 c3 c4 c5 m)] w fun e w' => e = .returned (.int .i64 (refRegsV m)) ∧ Below w.heap.size w w' := by
  obtain ⟨co, a, F, lg, tk, st⟩ := m
  have hb0 : Below w.heap.size w (w.alloc (.cells #[.slice A0 co.length c0, .slice A1 a.slots.length c1, .slice A2 a.queue.length c2, .slice A3 a.purple.length c3, .slice A4 F.length c4, .slice A5 lg.length c5, .int .i64 tk, .int .i64 st] 43)) := (Below.refl _ _).alloc (Nat.le_refl _) _
  have HK := Lib.hid (Blk.new w 43 #[.slice A0 co.length c0, .slice A1 a.slots.length c1, .slice A2 a.queue.length c2, .slice A3 a.purple.length c3, .slice A4 F.length c4, .slice A5 lg.length c5, .int .i64 tk, .int .i64 st])
  have hv := implVmOk_c ⟨co, a, F, lg, tk, st⟩ A0 A1 A2 A3 A4 A5 c0 c1 c2 c3 c4 c5 L B (w.alloc (.cells #[.slice A0 co.length c0, .slice A1 a.slots.length c1, .slice A2 a.queue.length c2, .slice A3 a.purple.length c3, .slice A4 F.length c4, .slice A5 lg.length c5, .int .i64 tk, .int .i64 st] 43)) (Nat.le_trans hB hb0.size) hl (h.below (hb0.mono hB)) (hT.below (hb0.mono hB))
  have hlf : frsSz F ≤ 1048576 := by unfold maSz at hl; dsimp only at hl; omega
  have hFl : F.length ≤ 1048576 := by unfold frsSz at hlf; omega
  have H := Lib.hid (show FrL w L B A4 F from h.2.2.1)
  have Hlf := Lib.hid hlf
  have HB := Lib.hid hB
  unfold maV at hv ⊢
  dsimp only at hv ⊢
  have Hb0 := Lib.hid hb0
  have Hv := Lib.hid hv
  have hro := fun X (hX : Below w.heap.size w X) => rootsOf_c F A4 c4 L B X (Nat.le_trans hB hX.size) hlf (h.2.2.1.below (hX.mono hB))
  have Hro := Lib.hid hro
  clear hb0 hv h hl hlf hB hT hro
  go_enter Tryz.func24, Tryz.ntmps24
  go_wp2_with fail
  refine Hv.out.mono ?_
  rintro e w1 ⟨rfl, hb1⟩
  have Hb1 := Lib.hid (Hb0.out.trans (hb1.mono Hb0.out.size))
  have HK1 := Lib.hid (HK.out.below hb1 HK.out.lt)
  have K := HK1.out
  have q0 := K.cel 0 rfl
  have q1 := K.cel 1 rfl
  have q2 := K.cel 2 rfl
  have q3 := K.cel 3 rfl
  have q4 := K.cel 4 rfl
  have q5 := K.cel 5 rfl
  have q6 := K.cel 6 rfl
  have q7 := K.cel 7 rfl
  clear hb1 K Hv HK Hb0
  cases hok : vmOk ⟨co, a, F, lg, tk, st⟩ with
  | false =>
    have Hr := Lib.hid (show refRegsV ⟨co, a, F, lg, tk, st⟩ = -1 by unfold refRegsV; rw [hok]; rfl)
    clear hok
    go_wp2
    go_ret
    exact ⟨by rw [Hr.out]; rfl, Hb1.out⟩
  | true =>
    have Hr := Lib.hid (show refRegsV ⟨co, a, F, lg, tk, st⟩ = (rfN (rootsTo F F.length) : Int) by unfold refRegsV; rw [hok]; rfl)
    have Hro1 := Lib.hid (Hro.out w1 Hb1.out)
    have Hrl : Hid ((rootsTo F F.length).length ≤ 1048576) := Lib.hid (by have := rootsTo_le (F := F) (Nat.le_refl _); have := Hlf.out; omega)
    clear hok Hro
    go_wp2_with fail
    refine Hro1.out.mono ?_
    rintro e w2 ⟨v2, rfl, hV, hb2⟩
    obtain ⟨VA, vc, rfl, hlc⟩ := hV.form
    have Hb2 := Lib.hid (Hb1.out.trans (hb2.mono Hb1.out.size))
    have Hra := Lib.hid (refsAmong_c (rootsTo F F.length) VA vc _ _ w2 (Nat.le_refl _) Hrl.out (hV.vl (by have := Hrl.out; unfold maxLen; omega)))
    clear hV hb2 hlc Hro1
    go_wp2_with fail
    refine Hra.out.mono ?_
    rintro e w3 ⟨A9, c9, rfl, -, hb3⟩
    have Hb3 := Lib.hid (Hb2.out.trans (hb3.mono Hb2.out.size))
    have Hr2 := Lib.hid (show refRegsV ⟨co, a, F, lg, tk, st⟩ = ((refsV (rootsTo F F.length) (rootsTo F F.length).length).length : Int) from Hr.out)
    obtain ⟨nn, hnn⟩ : ∃ n, n = (refsV (rootsTo F F.length) (rootsTo F F.length).length).length := ⟨_, rfl⟩
    rw [← hnn] at Hr2
    rw [← hnn]
    clear hb3 Hra hnn Hr
    go_wp2
    go_ret
    exact ⟨by rw [Hr2.out]; rfl, Hb3.out⟩

set_option maxRecDepth 100000 in
set_option maxHeartbeats 8000000 in
theorem specRefRegs_c (m : Ma) (A0 A1 A2 A3 A4 A5 : Option Addr) (c0 c1 c2 c3 c4 c5 L B : Nat) (w : World) (hB : B ≤ w.heap.size) (hl : maSz m ≤ 1048576) (hcap : m.arena.purple.length ≤ c3) (h : MaL w L B A0 A1 A2 A3 A4 A5 m) :
    Calls Tryz.prog 23 #[.agg (maV A0 A1 A2 A3 A4 A5 c0 c1 c2 c3 c4 c5 m)] w fun e w' => e = .returned (.int .i64 (refRegsV m)) ∧ Below w.heap.size w w' := by
  obtain ⟨co, a, F, lg, tk, st⟩ := m
  have hb0 : Below w.heap.size w (w.alloc (.cells #[.slice A0 co.length c0, .slice A1 a.slots.length c1, .slice A2 a.queue.length c2, .slice A3 a.purple.length c3, .slice A4 F.length c4, .slice A5 lg.length c5, .int .i64 tk, .int .i64 st] 43)) := (Below.refl _ _).alloc (Nat.le_refl _) _
  have HK := Lib.hid (Blk.new w 43 #[.slice A0 co.length c0, .slice A1 a.slots.length c1, .slice A2 a.queue.length c2, .slice A3 a.purple.length c3, .slice A4 F.length c4, .slice A5 lg.length c5, .int .i64 tk, .int .i64 st])
  have hv := VmS.specVmOk_c ⟨co, a, F, lg, tk, st⟩ A0 A1 A2 A3 A4 A5 c0 c1 c2 c3 c4 c5 L B (w.alloc (.cells #[.slice A0 co.length c0, .slice A1 a.slots.length c1, .slice A2 a.queue.length c2, .slice A3 a.purple.length c3, .slice A4 F.length c4, .slice A5 lg.length c5, .int .i64 tk, .int .i64 st] 43)) (Nat.le_trans hB hb0.size) hl hcap (h.below (hb0.mono hB))
  have hlf : frsSz F ≤ 1048576 := by unfold maSz at hl; dsimp only at hl; omega
  have hFl : F.length ≤ 1048576 := by unfold frsSz at hlf; omega
  have H := Lib.hid (show FrL w L B A4 F from h.2.2.1)
  have Hlf := Lib.hid hlf
  have HB := Lib.hid hB
  unfold maV at hv ⊢
  dsimp only at hv ⊢
  have Hb0 := Lib.hid hb0
  have Hv := Lib.hid hv
  clear hb0 hv h hl hlf hB hcap
  go_enter Tryz.func23, Tryz.ntmps23
  go_wp2_with fail
  refine Hv.out.mono ?_
  rintro e w1 ⟨rfl, hb1⟩
  have Hb1 := Lib.hid (Hb0.out.trans (hb1.mono Hb0.out.size))
  have HK1 := Lib.hid (HK.out.below hb1 HK.out.lt)
  have K := HK1.out
  have q0 := K.cel 0 rfl
  have q1 := K.cel 1 rfl
  have q2 := K.cel 2 rfl
  have q3 := K.cel 3 rfl
  have q4 := K.cel 4 rfl
  have q5 := K.cel 5 rfl
  have q6 := K.cel 6 rfl
  have q7 := K.cel 7 rfl
  clear hb1 K Hv HK Hb0
  cases hok : vmOk ⟨co, a, F, lg, tk, st⟩ with
  | false =>
    have Hr := Lib.hid (show refRegsV ⟨co, a, F, lg, tk, st⟩ = -1 by unfold refRegsV; rw [hok]; rfl)
    clear hok
    go_wp2
    go_ret
    exact ⟨by rw [Hr.out]; rfl, Hb1.out⟩
  | true =>
    have Hr := Lib.hid (show refRegsV ⟨co, a, F, lg, tk, st⟩ = (rfN (rootsTo F F.length) : Int) by unfold refRegsV; rw [hok]; rfl)
    have HF1 := Lib.hid (H.out.below (Hb1.out.mono HB.out))
    clear hok q0 q1 q2 q3 q5 q6 q7
    go_wp2_with fail
    go_loopw [3, 4] (fun s i wr => ∃ k : Nat, k ≤ F.length ∧ i = .int .i64 k ∧ s = .int .i64 (rfN (rootsTo F k) : Int) ∧ Hid (wr = w1)) (fun _ i _ => F.length - (intOf i).toNat)
    case atStart => exact ⟨0, Nat.zero_le _, rfl, rfl, Lib.hid (by first | rfl | trivial)⟩
    case round =>
      obtain ⟨k, hk, rfl, rfl, hw⟩ := hrel
      obtain rfl := hw.out
      clear hw
      by_cases hlt : k < F.length
      · obtain ⟨ad, rfl, _, hbk, hat⟩ := HF1.out.2 (by omega)
        obtain ⟨v0, v1, v2, v3, ⟨d0, d1, d2, d3⟩, rfl, rfl, rfl, D, dc, rfl, hV, hz⟩ := hat k hlt
        have hrl := rootsTo_le (F := F) (k := k + 1) (by omega)
        rw [rootsTo_succ hlt, List.length_append] at hrl
        have Hn := Lib.hid (show rfN (rootsTo F (k + 1)) = rfN (rootsTo F k) + rfN F[k].regs by rw [rootsTo_succ hlt, rfN_app])
        have hn1 := rfN_le (rootsTo F k)
        have hn2 := rfN_le F[k].regs
        obtain ⟨fr, hfr⟩ : ∃ f, f = F[k].regs := ⟨_, rfl⟩
        rw [← hfr] at d3 hV Hn hn2 hrl
        obtain ⟨nb, hnb⟩ : ∃ n, n = rfN (rootsTo F k) := ⟨_, rfl⟩
        rw [← hnb] at hn1 Hn
        rw [← hnb]
        have hfl : fr.length ≤ 1048576 := by have := Hlf.out; omega
        have hbs : nb + fr.length ≤ 1048576 := by have := Hlf.out; omega
        have HV := Lib.hid hV
        clear hat hfr hnb hrl hV hz d0 d1 d2 hn1 hn2
        obtain ⟨W, hW⟩ : ∃ W, W = wr := ⟨_, rfl⟩
        subst hW
        go_wp2_with fail
        go_loopw [3, 5] (fun s j wr => ∃ q : Nat, q ≤ fr.length ∧ j = .int .i64 q ∧ s = .int .i64 ((nb + (refsV fr q).length : Nat) : Int) ∧ Hid (wr = W)) (fun _ j _ => fr.length - (intOf j).toNat)
        case atStart => exact ⟨0, Nat.zero_le _, rfl, rfl, Lib.hid (by first | rfl | trivial)⟩
        case round =>
          obtain ⟨q, hq, rfl, rfl, hw⟩ := hrel
          obtain rfl := hw.out
          clear hw
          have hqn := refsV_le fr q
          by_cases hql : q < fr.length
          · obtain ⟨a2, rfl, _, hb2, hat2⟩ := HV.out.2 (by omega)
            obtain ⟨x0, x1, x2, ⟨e0, e1, e2⟩, rfl, rfl, rfl⟩ := hat2 q hql
            have Hy := Lib.hid (fun h => refsV_yes (l := fr) (k := q) hql h)
            have Hno := Lib.hid (fun h => refsV_no (l := fr) (k := q) hql h)
            obtain ⟨vk, hvk⟩ : ∃ f, f = fr[q].k := ⟨_, rfl⟩
            rw [← hvk] at e0 Hy Hno
            clear hat2 hvk e1 e2
            by_cases he : vk = 2
            · subst he
              have Hl := Lib.hid (show (refsV fr (q + 1)).length = (refsV fr q).length + 1 by rw [Hy.out rfl, List.length_append]; rfl)
              obtain ⟨rq, hrq⟩ : ∃ n, n = (refsV fr q).length := ⟨_, rfl⟩
              rw [← hrq] at Hl hqn
              rw [← hrq]
              clear Hy Hno hrq
              go_wp2
              go_roundw
              case rel => exact ⟨q + 1, by omega, by go_num, by rw [Hl.out]; go_num, Lib.hid (by first | rfl | trivial)⟩
              case measure => simp [intOf]; omega
            · have Hl := Lib.hid (show (refsV fr (q + 1)).length = (refsV fr q).length by rw [Hno.out he])
              obtain ⟨rq, hrq⟩ : ∃ n, n = (refsV fr q).length := ⟨_, rfl⟩
              rw [← hrq] at Hl hqn
              rw [← hrq]
              clear Hy Hno hrq
              go_wp2
              go_roundw
              case rel => exact ⟨q + 1, by omega, by go_num, by rw [Hl.out], Lib.hid (by first | rfl | trivial)⟩
              case measure => simp [intOf]; omega
          · obtain rfl : q = fr.length := by omega
            have Hl := Lib.hid (show nb + (refsV fr fr.length).length = rfN (rootsTo F (k + 1)) from Hn.out.symm)
            obtain ⟨rq, hrq⟩ : ∃ n, n = nb + (refsV fr fr.length).length := ⟨_, rfl⟩
            rw [← hrq] at Hl
            rw [← hrq]
            have hr3 : rq ≤ 1048576 := by omega
            clear hrq hqn
            go_wp2
            go_roundw
            case rel => exact ⟨k + 1, by omega, by go_num, by rw [Hl.out], Lib.hid (by first | rfl | trivial)⟩
            case measure => simp [intOf]; omega
      · obtain rfl : k = F.length := by omega
        go_wp2
        go_ret
        exact ⟨by rw [Hr.out]; rfl, Hb1.out⟩

end Go.Proofs.YtddjcjjnpidhiaaGreatDoor
