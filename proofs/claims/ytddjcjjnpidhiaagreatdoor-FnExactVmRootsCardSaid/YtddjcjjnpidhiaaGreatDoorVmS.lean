/-
  The model's VmOk.
-/
import Derived.Test.YtddjcjjnpidhiaaGreatDoorFrmI
import Derived.Test.YtddjcjjnpidhiaaGreatDoorMfrm
import Derived.Test.YtddjcjjnpidhiaaGreatDoorMcnt
import Derived.Test.YtddjcjjnpidhiaaGreatDoorMspecCode
import Derived.Test.YtddjcjjnpidhiaaGreatDoorMcntS
import Derived.Deep.RegionHeld3
namespace Go.Proofs.YtddjcjjnpidhiaaGreatDoor
open Go.RowKit
set_option linter.unusedVariables false
set_option linter.unusedSimpArgs false

namespace VmS
theorem oct8 {w : World} {g : Nat} {t : TypeId} {a b c d e f x y : Value} (h : Blk w g t #[a, b, c, d, e, f, x, y]) : w.cell? ⟨g, 0, none⟩ = some a ∧ w.cell? ⟨g, 1, none⟩ = some b ∧ w.cell? ⟨g, 2, none⟩ = some c ∧ w.cell? ⟨g, 3, none⟩ = some d ∧ w.cell? ⟨g, 4, none⟩ = some e ∧ w.cell? ⟨g, 5, none⟩ = some f ∧ w.cell? ⟨g, 6, none⟩ = some x ∧ w.cell? ⟨g, 7, none⟩ = some y :=
  ⟨h.cel 0 rfl, h.cel 1 rfl, h.cel 2 rfl, h.cel 3 rfl, h.cel 4 rfl, h.cel 5 rfl, h.cel 6 rfl, h.cel 7 rfl⟩
theorem frOk_pc {C : List Un} {ah : Int} {f : Fr} {u : Nat} (hu : u < C.length) (e : f.unit = (u : Int)) (h : f.pc < 0 ∨ (C[u].l.length : Int) ≤ f.pc ∨ ¬ (f.regs.length : Int) = C[u].regs) : frOk C ah f = false := by
  unfold frOk
  rw [e, Int.toNat_natCast, getD_at hu]
  rcases h with h | h | h
  · rw [decide_eq_false (by omega : ¬ 0 ≤ f.pc)]; simp
  · rw [decide_eq_false (by omega : ¬ f.pc < (C[u].l.length : Int))]; simp
  · rw [decide_eq_false h]; simp
/-- why a machine may not be -/
theorem no {m : Ma} (h : Cod.codeOk m.code = false ∨ arOk m.arena = false ∨ 13 < m.frames.length ∨ 100000 < m.log.length ∨ m.ticks < 0 ∨ 2000 < m.ticks ∨ m.state < 0 ∨ 4 < m.state ∨ (¬ m.state = 0 ∧ 0 < m.frames.length) ∨ frsOk m.code m.frames = false) : vmOk m = false := by
  unfold vmOk framesOk cntedA
  rcases h with h | h | h | h | h | h | h | h | ⟨h, h'⟩ | h
  · rw [h]; simp
  · rw [h]; simp
  · rw [decide_eq_false (by omega : ¬ (m.frames.length : Int) ≤ 13)]; simp
  · rw [decide_eq_false (by omega : ¬ (m.log.length : Int) ≤ 100000)]; simp
  · rw [decide_eq_false (by omega : ¬ 0 ≤ m.ticks)]; simp
  · rw [decide_eq_false (by omega : ¬ m.ticks ≤ 2000)]; simp
  · rw [decide_eq_false (by omega : ¬ 0 ≤ m.state)]; simp
  · rw [decide_eq_false (by omega : ¬ m.state ≤ 4)]; simp
  · rw [decide_eq_false h, decide_eq_false (by omega : ¬ m.frames.length = 0)]; simp
  · rw [h]; simp
theorem of {m : Ma} (h0 : Cod.codeOk m.code = true) (h1 : arOk m.arena = true) (h2 : ¬ 13 < m.frames.length) (h3 : ¬ 100000 < m.log.length) (h4 : ¬ m.ticks < 0) (h5 : ¬ 2000 < m.ticks) (h6 : ¬ m.state < 0) (h7 : ¬ 4 < m.state) (h8 : m.frames.length = 0 ∨ m.state = 0) (h9 : frsOk m.code m.frames = true) :
    vmOk m = (rootsA m.arena.slots (rootsTo m.frames m.frames.length) && cntEq m.arena.slots m.arena.queue (rootsTo m.frames m.frames.length)) := by
  unfold vmOk framesOk cntedA
  have h8' : (decide (m.frames.length = 0) || decide (m.state = 0)) = true := by
    rcases h8 with h | h
    · rw [decide_eq_true h]; rfl
    · rw [decide_eq_true h]; simp
  rw [h0, h1, h8', h9, decide_eq_true (by omega : (m.frames.length : Int) ≤ 13), decide_eq_true (by omega : (m.log.length : Int) ≤ 100000), decide_eq_true (by omega : 0 ≤ m.ticks), decide_eq_true (by omega : m.ticks ≤ 2000), decide_eq_true (by omega : 0 ≤ m.state), decide_eq_true (by omega : m.state ≤ 4)]
  simp

set_option maxRecDepth 100000 in
set_option maxHeartbeats 16000000 in
theorem specVmOk_c (m : Ma) (A0 A1 A2 A3 A4 A5 : Option Addr) (c0 c1 c2 c3 c4 c5 L B : Nat) (w : World) (hB : B ≤ w.heap.size) (hl : maSz m ≤ 1048576) (hcap : m.arena.purple.length ≤ c3) (h : MaL w L B A0 A1 A2 A3 A4 A5 m) :
    Calls Tryz.prog 9 #[.agg (maV A0 A1 A2 A3 A4 A5 c0 c1 c2 c3 c4 c5 m)] w fun e w' => e = .returned (.bool (vmOk m)) ∧ Below w.heap.size w w' := by
  have Hno := Lib.hid (fun h => no (m := m) h)
  have Hof := Lib.hid (fun h0 h1 h2 h3 h4 h5 h6 h7 h8 h9 => of (m := m) h0 h1 h2 h3 h4 h5 h6 h7 h8 h9)
  obtain ⟨co, a, F, lg, tk, st⟩ := m
  obtain ⟨hC, hA, hF, hN, hlg⟩ := h
  unfold maSz at hl
  unfold maxLen at hlg
  dsimp only at *
  have hb0 : Below w.heap.size w (w.alloc (.cells #[.slice A0 co.length c0, .slice A1 a.slots.length c1, .slice A2 a.queue.length c2, .slice A3 a.purple.length c3, .slice A4 F.length c4, .slice A5 lg.length c5, .int .i64 tk, .int .i64 st] 43)) := (Below.refl _ _).alloc (Nat.le_refl _) _
  have HK := Lib.hid (Blk.new w 43 #[.slice A0 co.length c0, .slice A1 a.slots.length c1, .slice A2 a.queue.length c2, .slice A3 a.purple.length c3, .slice A4 F.length c4, .slice A5 lg.length c5, .int .i64 tk, .int .i64 st])
  have Hco := Lib.hid (Cod.specCodeOk_c co A0 c0 L B (w.alloc (.cells #[.slice A0 co.length c0, .slice A1 a.slots.length c1, .slice A2 a.queue.length c2, .slice A3 a.purple.length c3, .slice A4 F.length c4, .slice A5 lg.length c5, .int .i64 tk, .int .i64 st] 43)) (Nat.le_trans hB hb0.size) (by omega) (hC.below (hb0.mono hB)))
  have Hb0 := Lib.hid hb0
  have har := fun X (hX : Below w.heap.size w X) => okAt a A1 A2 A3 c1 c2 c3 L B w X hA (by omega) hcap (hX.mono hB) (Nat.le_trans hB hX.size)
  have hro := fun X (hX : Below w.heap.size w X) => l7roots_c ⟨co, a, F, lg, tk, st⟩ A0 A1 A2 A3 A4 A5 c0 c1 c2 c3 c4 c5 L B X (Nat.le_trans hB hX.size) (by dsimp only; omega) (hF.below (hX.mono hB))
  have hrl := rootsTo_le (F := F) (Nat.le_refl _)
  have hvs := fun (X : World) (hX : Below w.heap.size w X) VA vc LV BV (hV : VlL X LV BV VA (rootsTo F F.length)) (hBV : BV ≤ X.heap.size) =>
    l4vals_c a.slots A1 A2 A3 c1 a.queue.length c2 a.purple.length c3 (rootsTo F F.length) VA vc L B LV BV X (Nat.le_trans hB hX.size) hBV (by omega) (hA.1.below (hX.mono hB)) hV
  have hct := fun (hok : arOk a = true) (hra : rootsA a.slots (rootsTo F F.length) = true) (X : World) (hX : Below w.heap.size w X) VA vc LV BV (hV : VlL X LV BV VA (rootsTo F F.length)) (hBV : BV ≤ X.heap.size) =>
    l4counted_c a A1 A2 A3 c1 c2 c3 L B X (rootsTo F F.length) VA vc LV BV (Nat.le_trans hB hX.size) hBV (hA.below (hX.mono hB)) (by omega) hok hra hV
  have HC := Lib.hid hC
  have HF := Lib.hid hF
  have Hlc : Hid (unsSz co ≤ 1048576) := Lib.hid (by omega)
  have Hlf : Hid (frsSz F ≤ 1048576) := Lib.hid (by omega)
  have hFl : F.length ≤ 1048576 := by have := Hlf.out; unfold frsSz at this; omega
  have hCl : co.length ≤ 1048576 := by have := Hlc.out; unfold unsSz at this; omega
  unfold maV at hro ⊢
  dsimp only at hro ⊢
  have Har := Lib.hid har
  have Hro := Lib.hid hro
  have Hvs := Lib.hid hvs
  have Hct := Lib.hid hct
  have HB := Lib.hid hB
  have Hrl : Hid ((rootsTo F F.length).length ≤ maxLen) := Lib.hid (by unfold maxLen; omega)
  clear hb0 hC hA hF hN har hro hvs hct hrl hB hl hcap
  go_enter Tryz.func9, Tryz.ntmps9
  go_wp2_with fail
  refine Hco.out.mono ?_
  rintro e w1 ⟨rfl, hb1⟩
  have Hb1 := Lib.hid (Hb0.out.trans (hb1.mono Hb0.out.size))
  have HK1 := Lib.hid (HK.out.below hb1 HK.out.lt)
  have K := HK1.out
  have q0 := K.cel 0 rfl
  have q1 := K.cel 1 rfl
  have q2 := K.cel 2 rfl
  have q3 := K.cel 3 rfl
  have q4 := K.cel 4 rfl
  have q5 := K.cel 5 rfl
  have q6 := K.cel 6 rfl
  have q7 := K.cel 7 rfl
  clear hb1 K Hco HK Hb0
  cases hco : Cod.codeOk co with
  | false =>
    have Hr := Lib.hid (Hno.out (.inl hco))
    clear Hno Hof hco
    go_wp2
    go_ret
    exact ⟨by rw [Hr.out]; rfl, Hb1.out⟩
  | true =>
  have Hcf := Lib.hid (Har.out w1 Hb1.out)
  have Hhco := Lib.hid hco
  clear hco
  go_wp2_with fail
  refine Hcf.out.mono ?_
  rintro e w2 ⟨rfl, hb2⟩
  have Hb2 := Lib.hid (Hb1.out.trans (hb2.mono Hb1.out.size))
  have HK2 := Lib.hid (HK1.out.below hb2 HK1.out.lt)
  clear q0 q1 q2 q3 q4 q5 q6 q7
  have K := HK2.out
  have q0 := K.cel 0 rfl
  have q1 := K.cel 1 rfl
  have q2 := K.cel 2 rfl
  have q3 := K.cel 3 rfl
  have q4 := K.cel 4 rfl
  have q5 := K.cel 5 rfl
  have q6 := K.cel 6 rfl
  have q7 := K.cel 7 rfl
  clear hb2 K Hcf HK1 Hb1 Har
  cases har : arOk a with
  | false =>
    have Hr := Lib.hid (Hno.out (.inr (.inl har)))
    clear Hno Hof har
    go_wp2
    go_ret
    exact ⟨by rw [Hr.out]; rfl, Hb2.out⟩
  | true =>
  have Hhar := Lib.hid har
  have Hct2 := Lib.hid (Hct.out har)
  clear har Hct
  by_cases h13 : 13 < F.length
  · have Hr := Lib.hid (Hno.out (.inr (.inr (.inl h13))))
    clear Hno Hof
    go_wp2
    go_ret
    exact ⟨by rw [Hr.out]; rfl, Hb2.out⟩
  by_cases hlog : 100000 < lg.length
  · have Hr := Lib.hid (Hno.out (.inr (.inr (.inr (.inl hlog)))))
    clear Hno Hof
    go_wp2
    go_ret
    exact ⟨by rw [Hr.out]; rfl, Hb2.out⟩
  by_cases ht0 : tk < 0
  · have Hr := Lib.hid (Hno.out (.inr (.inr (.inr (.inr (.inl ht0))))))
    clear Hno Hof
    go_wp2
    go_ret
    exact ⟨by rw [Hr.out]; rfl, Hb2.out⟩
  by_cases ht2 : 2000 < tk
  · have Hr := Lib.hid (Hno.out (.inr (.inr (.inr (.inr (.inr (.inl ht2)))))))
    clear Hno Hof
    go_wp2
    go_ret
    exact ⟨by rw [Hr.out]; rfl, Hb2.out⟩
  by_cases hs0 : st < 0
  · have Hr := Lib.hid (Hno.out (.inr (.inr (.inr (.inr (.inr (.inr (.inl hs0))))))))
    clear Hno Hof
    go_wp2
    go_ret
    exact ⟨by rw [Hr.out]; rfl, Hb2.out⟩
  by_cases hs4 : 4 < st
  · have Hr := Lib.hid (Hno.out (.inr (.inr (.inr (.inr (.inr (.inr (.inr (.inl hs4)))))))))
    clear Hno Hof
    go_wp2
    go_ret
    exact ⟨by rw [Hr.out]; rfl, Hb2.out⟩
  by_cases hsf : ¬ st = 0 ∧ 0 < F.length
  · have Hr := Lib.hid (Hno.out (.inr (.inr (.inr (.inr (.inr (.inr (.inr (.inr (.inl hsf))))))))))
    obtain ⟨hsn, hf0⟩ := hsf
    have hb3 : (st != 0) = true := by simpa using hsn
    have hfn : ¬ F = [] := List.length_pos_iff.1 hf0
    clear Hno Hof
    go_wp2
    go_ret
    exact ⟨by rw [Hr.out]; rfl, Hb2.out⟩
  have Hof2 := Lib.hid (fun h9 => Hof.out Hhco.out Hhar.out (by omega) (by omega) (by omega) (by omega) (by omega) (by omega) (by omega) h9)
  have Hno2 := Lib.hid (fun k (hk : k < F.length) (hn : frOk co (ahead F k) F[k] = false) => Hno.out (.inr (.inr (.inr (.inr (.inr (.inr (.inr (.inr (.inr (frsOk_no hk hn)))))))))))
  by_cases hst : st = 0
  · subst hst
    go_wp2_with fail
    go_loopw [3] (fun i wr => ∃ k : Nat, k ≤ F.length ∧ i = .int .i64 k ∧ Hid (∀ j (hj : j < F.length), j < k → frOk co (ahead F j) F[j] = true) ∧ Below w2.heap.size w2 wr) (fun i _ => F.length - (intOf i).toNat)
    case atStart => exact ⟨0, Nat.zero_le _, rfl, Lib.hid (fun j hj h => by omega), Below.refl _ _⟩
    case round =>
    obtain ⟨k, hk, rfl, hall, hbl⟩ := hrel
    have hws := hbl.size
    have HKr := Lib.hid (HK2.out.below hbl HK2.out.lt)
    by_cases hlt : k < F.length
    · have HF2 := Lib.hid (HF.out.below (Hb2.out.mono HB.out))
      have HBW := Lib.hid (Nat.le_trans HB.out Hb2.out.size)
      obtain ⟨ad, rfl, _, hbk, hat⟩ := (HF2.out.below (hbl.mono HBW.out)).2 (by omega)
      obtain ⟨v0, v1, v2, v3, ⟨d0, d1, d2, d3⟩, rfl, rfl, rfl, D, dc, rfl, hV, hz⟩ := hat k hlt
      have q4 := HKr.out.cel 4 rfl
      have Hn := Lib.hid (Hno2.out k hlt)
      have Hall' := Lib.hid (show frOk co (ahead F k) F[k] = true → ∀ j (hj : j < F.length), j < k + 1 → frOk co (ahead F j) F[j] = true from fun h j hj hjk => by
        by_cases e : j = k
        · subst e; exact h
        · exact hall.out j hj (by omega))
      have hrl : F[k].regs.length ≤ 1048576 := Nat.le_trans (sum_get frSz hlt : F[k].regs.length ≤ (F.map frSz).sum) (by have h2 := Hlf.out; unfold frsSz at h2; omega)
      obtain ⟨fk, hfk⟩ : ∃ f, f = F[k] := ⟨_, rfl⟩
      rw [← hfk] at d0 d1 d2 d3 Hn Hall' hrl
      obtain ⟨ah, hah⟩ : ∃ x, x = ahead F k := ⟨_, rfl⟩
      have Hah := Lib.hid hah
      rw [← hah] at Hn Hall'
      obtain ⟨fu, fp, fd, fr⟩ := fk
      dsimp only at *
      clear hat hfk hah hV hz hall
      have hbx := (Below.refl wr.heap.size wr).alloc (Nat.le_refl _) (.cells #[.int .i64 fu, .int .i64 fp, .int .i64 fd, .slice D fr.length dc] 60)
      have HKF := Lib.hid (Blk.new wr 60 #[.int .i64 fu, .int .i64 fp, .int .i64 fd, .slice D fr.length dc])
      have hbl1 := hbl.trans (hbx.mono hws)
      have q0 := (HK2.out.below hbl1 HK2.out.lt).cel 0 rfl
      have HblF := Lib.hid hbl1
      by_cases hu : fu < 0
      · have Hr := Lib.hid (Hn.out (frOk_unit (.inl hu)))
        clear hbx hbl1 hbl Hn Hall'
        go_wp2
        go_ret
        exact ⟨by rw [Hr.out]; rfl, Hb2.out.trans (HblF.out.mono Hb2.out.size)⟩
      by_cases hu1 : (co.length : Int) ≤ fu
      · have Hr := Lib.hid (Hn.out (frOk_unit (.inr hu1)))
        clear hbx hbl1 hbl Hn Hall'
        go_wp2
        go_ret
        exact ⟨by rw [Hr.out]; rfl, Hb2.out.trans (HblF.out.mono Hb2.out.size)⟩
      obtain ⟨u, rfl⟩ : ∃ u : Nat, fu = (u : Int) := ⟨fu.toNat, by omega⟩
      have hul : u < co.length := by omega
      have Hpc := Lib.hid (fun h => frOk_pc (ah := ah) (f := ⟨(u : Int), fp, fd, fr⟩) hul rfl h)
      have Hof3 := Lib.hid (fun h0 h1 => frOk_of (ah := ah) (f := ⟨(u : Int), fp, fd, fr⟩) hul rfl h0 h1)
      obtain ⟨ad0, rfl, _, hbk0, hat0⟩ := (HC.out.below ((Hb2.out.trans (hbl1.mono Hb2.out.size)).mono HB.out)).2 (by omega)
      obtain ⟨x0, x1, x2, ⟨e0, e1, e2⟩, rfl, rfl, UA, uc, rfl, hI⟩ := hat0 u hul
      have hlu : co[u].l.length ≤ 1048576 := Nat.le_trans (Nat.le_add_right _ _ : co[u].l.length ≤ insSz co[u].l) (Nat.le_trans (sum_get unSz hul : insSz co[u].l ≤ (co.map unSz).sum) (by have h2 := Hlc.out; unfold unsSz at h2; omega))
      obtain ⟨ou, hou⟩ : ∃ o, o = co[u] := ⟨_, rfl⟩
      rw [← hou] at e0 e1 e2 Hpc Hof3 hlu
      obtain ⟨pm, rg, ul⟩ := ou
      dsimp only at e0 e1 e2 Hpc Hof3 hlu
      clear hat0 hou hI
      have hbu := (Below.refl (wr.alloc (.cells #[.int .i64 (u : Int), .int .i64 fp, .int .i64 fd, .slice D fr.length dc] 60)).heap.size (wr.alloc (.cells #[.int .i64 (u : Int), .int .i64 fp, .int .i64 fd, .slice D fr.length dc] 60))).alloc (Nat.le_refl _) (.cells #[.int .i64 pm, .int .i64 rg, .slice UA ul.length uc] 63)
      have HKU := Lib.hid (Blk.new (wr.alloc (.cells #[.int .i64 (u : Int), .int .i64 fp, .int .i64 fd, .slice D fr.length dc] 60)) 63 #[.int .i64 pm, .int .i64 rg, .slice UA ul.length uc])
      have HKF2 := Lib.hid (HKF.out.below hbu HKF.out.lt)
      have Hbl2 := Lib.hid (hbl1.trans (hbu.mono hbl1.size))
      have HKX := Lib.hid (HK2.out.below Hbl2.out HK2.out.lt)
      clear hbx hbl1 hbl hbu HKr HKF HblF
      go_wp2
      obtain ⟨X, hX⟩ : ∃ X, X = (wr.alloc (.cells #[.int .i64 (u : Int), .int .i64 fp, .int .i64 fd, .slice D fr.length dc] 60)).alloc (.cells #[.int .i64 pm, .int .i64 rg, .slice UA ul.length uc] 63) := ⟨_, rfl⟩
      rw [← hX] at HKU HKF2 Hbl2 HKX
      rw [← hX]
      have f1 := HKF2.out.cel 1 rfl
      have f2 := HKF2.out.cel 2 rfl
      have f3 := HKF2.out.cel 3 rfl
      have g1 := HKU.out.cel 1 rfl
      have g2 := HKU.out.cel 2 rfl
      rw [World.size_alloc] at g1 g2
      have r4 := HKX.out.cel 4 rfl
      clear hX q0 q4 d0 d1 d2 d3 e0 e1 e2
      by_cases hp0 : fp < 0
      · have Hr := Lib.hid (Hn.out (Hpc.out (.inl hp0)))
        clear Hn Hall' Hpc Hof3
        go_big_quiet (fail)
        go_wp2
        go_ret
        exact ⟨by rw [Hr.out]; rfl, blw_drewN (Hb2.out.trans (Hbl2.out.mono Hb2.out.size)) _⟩
      by_cases hp1 : (ul.length : Int) ≤ fp
      · have Hr := Lib.hid (Hn.out (Hpc.out (.inr (.inl hp1))))
        clear Hn Hall' Hpc Hof3
        go_big_quiet (fail)
        go_wp2
        go_ret
        exact ⟨by rw [Hr.out]; rfl, blw_drewN (Hb2.out.trans (Hbl2.out.mono Hb2.out.size)) _⟩
      by_cases hre : ¬ (fr.length : Int) = rg
      · have Hr := Lib.hid (Hn.out (Hpc.out (.inr (.inr hre))))
        have hre2 : ((fr.length : Int) != rg) = true := by simpa using hre
        clear Hn Hall' Hpc Hof3
        go_big_quiet (fail)
        go_wp2
        go_ret
        exact ⟨by rw [Hr.out]; rfl, blw_drewN (Hb2.out.trans (Hbl2.out.mono Hb2.out.size)) _⟩
      obtain rfl : (fr.length : Int) = rg := Decidable.not_not.1 hre
      by_cases hd0 : fd < 0
      · have Hr := Lib.hid (Hn.out (frOk_dst (.inl hd0)))
        clear Hn Hall' Hpc Hof3
        go_big_quiet (fail)
        go_wp2
        go_ret
        exact ⟨by rw [Hr.out]; rfl, blw_drewN (Hb2.out.trans (Hbl2.out.mono Hb2.out.size)) _⟩
      have Hyes : Hid (fd < ah → frOk co ah ⟨(u : Int), fp, fd, fr⟩ = true) := Lib.hid (fun h => by
        rw [Hof3.out (by omega) h, decide_eq_true (by omega : 0 ≤ fp), decide_eq_true (by omega : fp < (ul.length : Int))]; simp)
      clear Hpc Hof3 hre
      cases k with
      | zero =>
        obtain rfl : ah = 1 := Hah.out
        by_cases hdz : fd = 0
        · subst hdz
          have Hk := Lib.hid (Hall'.out (Hyes.out (by omega)))
          have Hblx := Lib.hid (fun n => blw_drewN Hbl2.out n)
          clear Hn Hall' Hyes
          go_big_quiet (fail)
          go_wp2
          go_roundw
          case rel => exact ⟨1, by omega, by go_num, Hk, Hblx.out _⟩
          case measure => simp [intOf]; omega
        · have Hr := Lib.hid (Hn.out (frOk_dst (.inr (by show (1 : Int) ≤ fd; omega))))
          have hdz2 : (fd != 0) = true := by simpa using hdz
          clear Hn Hall' Hyes
          go_big_quiet (fail)
          go_wp2
          go_ret
          exact ⟨by rw [Hr.out]; rfl, blw_drewN (Hb2.out.trans (Hbl2.out.mono Hb2.out.size)) _⟩
      | succ j =>
        obtain rfl : ah = (F[j].regs.length : Int) := by rw [Hah.out, ahead_succ (by omega)]
        obtain ⟨ad', e', _, hbk', hat⟩ := (HF2.out.below (Hbl2.out.mono HBW.out)).2 (by omega)
        injection e' with e'
        subst e'
        obtain ⟨y0, y1, y2, y3, ⟨-, -, -, p3⟩, -, -, -, D', dc', rfl, -, -⟩ := hat j (by omega)
        obtain ⟨pr, hpr⟩ : ∃ f, f = F[j].regs.length := ⟨_, rfl⟩
        rw [← hpr] at p3 Hn Hall' Hyes
        clear hat hpr Hah
        have z1 : decide ((j : Int) + 1 = 0) = false := decide_eq_false (by omega)
        have z1b : ((j : Int) + 1 == 0) = false := by simp; omega
        have z2 : (0 : Int) < (j : Int) + 1 := by omega
        have z3 : (j : Int) < (F.length : Int) := by omega
        have z4 : (0 : Int) ≤ (j : Int) := by omega
        have z5 : j < F.length := by omega
        have y1 : decide (fp < 0) = false := decide_eq_false (by omega)
        have y2 : decide ((ul.length : Int) ≤ fp) = false := decide_eq_false (by omega)
        have y3 : decide (fd < 0) = false := decide_eq_false (by omega)
        by_cases hdz : (pr : Int) ≤ fd
        · have Hr := Lib.hid (Hn.out (frOk_dst (.inr hdz)))
          clear Hn Hall' Hyes
          go_big_quiet (fail)
          go_wp2
          go_ret
          exact ⟨by rw [Hr.out]; rfl, blw_drewN (Hb2.out.trans (Hbl2.out.mono Hb2.out.size)) _⟩
        · have y4 : decide ((pr : Int) ≤ fd) = false := decide_eq_false hdz
          have Hk := Lib.hid (Hall'.out (Hyes.out (by omega)))
          have Hblx := Lib.hid (fun n => blw_drewN Hbl2.out n)
          clear Hn Hall' Hyes
          go_big_quiet (fail)
          go_wp2
          go_roundw
          case rel => exact ⟨j + 1 + 1, by omega, by go_num, Hk, Hblx.out _⟩
          case measure => simp [intOf]; omega
    · obtain rfl : k = F.length := by omega
      have HbA := Lib.hid (Hb2.out.trans (hbl.mono Hb2.out.size))
      have Hr := Lib.hid (Hof2.out (frsOk_yes (fun j hj => hall.out j hj hj)))
      have q4 := HKr.out.cel 4 rfl
      clear hbl hall Hof2 Hno2
      cases hra : rootsA a.slots (rootsTo F F.length) with
      | false =>
        rw [hra] at Hvs Hr
        clear hra Hct2
        have HbA := Lib.hid (show Below w.heap.size w wr.drew from ⟨HbA.out.os, HbA.out.tape, HbA.out.output, HbA.out.size, HbA.out.block⟩)
        have HKr := Lib.hid (HKr.out.below (show Below wr.heap.size wr wr.drew from ⟨rfl, rfl, rfl, Nat.le_refl _, fun _ _ => rfl⟩) HKr.out.lt)
        go_wp2_with fail
        refine wp_region_noPanic ?_
        refine wp_region_held_drew (S := (fun W => Blk W w.heap.size 43 #[.slice A0 co.length c0, .slice A1 a.slots.length c1, .slice A2 a.queue.length c2, .slice A3 a.purple.length c3, .slice A4 F.length c4, .slice A5 lg.length c5, .int .i64 tk, .int .i64 0])) (by kernel_rfl) ?_ (fun hHeld => ?_)
        · exact HKr.out
        refine wpAnyH_take (i := 0) (oi := _) (v := ?_) rfl (by kernel_rfl) (by kernel_rfl) (by kernel_rfl) (fun _ _ _ h => h) (Or.inl ⟨by rfl, ?_⟩) (by assumption) ?_
        rotate_left
        focus
          intro w hSw
          obtain ⟨qs0, qs1, qs2, qs3, qs4, qs5, qs6, qs7⟩ := oct8 hSw
          go_simp
          try with_reducible rfl
        try simp only [List.getElem_toArray, List.getElem_cons_succ, List.getElem_cons_zero, Act.put, List.setIfInBounds_toArray, List.set_cons_zero, List.set_cons_succ]
        refine wpAnyH_take (i := 1) (oi := _) (v := ?_) rfl (by kernel_rfl) (by kernel_rfl) (by kernel_rfl) (fun _ _ _ h => h) (Or.inl ⟨by rfl, ?_⟩) (by assumption) ?_
        rotate_left
        focus
          intro w hSw
          obtain ⟨qs0, qs1, qs2, qs3, qs4, qs5, qs6, qs7⟩ := oct8 hSw
          go_simp
          try with_reducible rfl
        try simp only [List.getElem_toArray, List.getElem_cons_succ, List.getElem_cons_zero, Act.put, List.setIfInBounds_toArray, List.set_cons_zero, List.set_cons_succ]
        refine wpAnyH_take (i := 2) (oi := _) (v := ?_) rfl (by kernel_rfl) (by kernel_rfl) (by kernel_rfl) (fun _ _ _ h => h) (Or.inl ⟨by rfl, ?_⟩) (by assumption) ?_
        rotate_left
        focus
          intro w hSw
          obtain ⟨qs0, qs1, qs2, qs3, qs4, qs5, qs6, qs7⟩ := oct8 hSw
          go_simp
          try with_reducible rfl
        try simp only [List.getElem_toArray, List.getElem_cons_succ, List.getElem_cons_zero, Act.put, List.setIfInBounds_toArray, List.set_cons_zero, List.set_cons_succ]
        refine wpAnyH_ready (rs := [3]) (by kernel_rfl) (by simp) ?_
        refine AllReadyH.cons (o := _) rfl (fun K hK => ?_) ?_
        · go_simp
          refine Calls.mono (Hro.out wr.drew HbA.out) ?_
          rintro e w4 ⟨v4, rfl, hV, hb⟩
          have hsz0 := HbA.out.size
          have hst := hb
          have HKr := Lib.hid (HKr.out.below hst HKr.out.lt)
          have HbA := Lib.hid (HbA.out.trans (hst.mono HbA.out.size))
          obtain ⟨VA, vc, rfl, hlc⟩ := hV.form
          have HV := Lib.hid (hV.vl Hrl.out)
          clear hst hb hsz0 hV hlc
          refine hK.out _ _ ?_ (fun hHeld => ?_)
          · exact HKr.out
          · clear hK K
            try simp only [List.getElem_toArray, List.getElem_cons_succ, List.getElem_cons_zero, Act.put, List.setIfInBounds_toArray, List.set_cons_zero, List.set_cons_succ]
            refine wpAnyH_ready (rs := [4]) (by kernel_rfl) (by simp) ?_
            refine AllReadyH.cons (o := _) rfl (fun K hK => ?_) ?_
            · go_simp
              refine Calls.mono (Hvs.out w4 HbA.out VA vc _ _ HV.out (Nat.le_refl _)) ?_
              rintro e w5 ⟨rfl, hb⟩
              have hsz0 := HbA.out.size
              have hst := hb
              have HKr := Lib.hid (HKr.out.below hst HKr.out.lt)
              have HbA := Lib.hid (HbA.out.trans (hst.mono HbA.out.size))
              clear hst hb hsz0 HV
              refine hK.out _ _ ?_ (fun hHeld => ?_)
              · exact HKr.out
              · clear hK K
                try simp only [List.getElem_toArray, List.getElem_cons_succ, List.getElem_cons_zero, Act.put, List.setIfInBounds_toArray, List.set_cons_zero, List.set_cons_succ]
                refine wpAnyH_take (i := 5) (oi := _) (v := ?_) rfl (by kernel_rfl) (by kernel_rfl) (by kernel_rfl) (fun _ _ _ h => h) (Or.inl ⟨by rfl, ?_⟩) (by assumption) ?_
                rotate_left
                focus
                  intro w hSw
                  obtain ⟨qs0, qs1, qs2, qs3, qs4, qs5, qs6, qs7⟩ := oct8 hSw
                  go_simp
                  try with_reducible rfl
                try simp only [List.getElem_toArray, List.getElem_cons_succ, List.getElem_cons_zero, Act.put, List.setIfInBounds_toArray, List.set_cons_zero, List.set_cons_succ]
                refine wpAnyH_take (i := 6) (oi := _) (v := undef) rfl (by kernel_rfl) (by kernel_rfl) (by kernel_rfl) (fun _ _ _ h => h) (Or.inr ⟨by rfl, rfl⟩) (by assumption) ?_
                try simp only [List.getElem_toArray, List.getElem_cons_succ, List.getElem_cons_zero, Act.put, List.setIfInBounds_toArray, List.set_cons_zero, List.set_cons_succ]
                refine wpAnyH_take (i := 7) (oi := _) (v := undef) rfl (by kernel_rfl) (by kernel_rfl) (by kernel_rfl) (fun _ _ _ h => h) (Or.inr ⟨by rfl, rfl⟩) (by assumption) ?_
                try simp only [List.getElem_toArray, List.getElem_cons_succ, List.getElem_cons_zero, Act.put, List.setIfInBounds_toArray, List.set_cons_zero, List.set_cons_succ]
                refine wpAnyH_take (i := 8) (oi := _) (v := undef) rfl (by kernel_rfl) (by kernel_rfl) (by kernel_rfl) (fun _ _ _ h => h) (Or.inr ⟨by rfl, rfl⟩) (by assumption) ?_
                try simp only [List.getElem_toArray, List.getElem_cons_succ, List.getElem_cons_zero, Act.put, List.setIfInBounds_toArray, List.set_cons_zero, List.set_cons_succ]
                refine wpAnyH_take (i := 9) (oi := _) (v := undef) rfl (by kernel_rfl) (by kernel_rfl) (by kernel_rfl) (fun _ _ _ h => h) (Or.inr ⟨by rfl, rfl⟩) (by assumption) ?_
                try simp only [List.getElem_toArray, List.getElem_cons_succ, List.getElem_cons_zero, Act.put, List.setIfInBounds_toArray, List.set_cons_zero, List.set_cons_succ]
                refine wpAnyH_take (i := 10) (oi := _) (v := undef) rfl (by kernel_rfl) (by kernel_rfl) (by kernel_rfl) (fun _ _ _ h => h) (Or.inr ⟨by rfl, rfl⟩) (by assumption) ?_
                try simp only [List.getElem_toArray, List.getElem_cons_succ, List.getElem_cons_zero, Act.put, List.setIfInBounds_toArray, List.set_cons_zero, List.set_cons_succ]
                refine wpAnyH_take (i := 11) (oi := _) (v := ?_) rfl (by kernel_rfl) (by kernel_rfl) (by kernel_rfl) (fun _ _ _ h => h) (Or.inl ⟨by rfl, ?_⟩) (by assumption) ?_
                rotate_left
                focus
                  intro w hSw
                  obtain ⟨qs0, qs1, qs2, qs3, qs4, qs5, qs6, qs7⟩ := oct8 hSw
                  go_simp
                  try with_reducible rfl
                try simp only [List.getElem_toArray, List.getElem_cons_succ, List.getElem_cons_zero, Act.put, List.setIfInBounds_toArray, List.set_cons_zero, List.set_cons_succ]
                refine wpAnyH_take (i := 12) (oi := _) (v := ?_) rfl (by kernel_rfl) (by kernel_rfl) (by kernel_rfl) (fun _ _ _ h => h) (Or.inl ⟨by rfl, ?_⟩) (by assumption) ?_
                rotate_left
                focus
                  intro w hSw
                  obtain ⟨qs0, qs1, qs2, qs3, qs4, qs5, qs6, qs7⟩ := oct8 hSw
                  go_simp
                  try with_reducible rfl
                try simp only [List.getElem_toArray, List.getElem_cons_succ, List.getElem_cons_zero, Act.put, List.setIfInBounds_toArray, List.set_cons_zero, List.set_cons_succ]
                refine wpAnyH_done (by kernel_rfl) ?_ _
                refine NoPanic.normal ?_
                go_wp2_with fail
                go_ret
                exact ⟨by rw [Hr.out]; first | rfl | simp, HbA.out⟩
            exact AllReadyH.nil
        exact AllReadyH.nil
      | true =>
        have Hct3 := Lib.hid (Hct2.out hra)
        rw [hra] at Hvs Hr
        clear hra Hct2
        have HbA := Lib.hid (show Below w.heap.size w wr.drew from ⟨HbA.out.os, HbA.out.tape, HbA.out.output, HbA.out.size, HbA.out.block⟩)
        have HKr := Lib.hid (HKr.out.below (show Below wr.heap.size wr wr.drew from ⟨rfl, rfl, rfl, Nat.le_refl _, fun _ _ => rfl⟩) HKr.out.lt)
        go_wp2_with fail
        refine wp_region_noPanic ?_
        refine wp_region_held_drew (S := (fun W => Blk W w.heap.size 43 #[.slice A0 co.length c0, .slice A1 a.slots.length c1, .slice A2 a.queue.length c2, .slice A3 a.purple.length c3, .slice A4 F.length c4, .slice A5 lg.length c5, .int .i64 tk, .int .i64 0])) (by kernel_rfl) ?_ (fun hHeld => ?_)
        · exact HKr.out
        refine wpAnyH_take (i := 0) (oi := _) (v := ?_) rfl (by kernel_rfl) (by kernel_rfl) (by kernel_rfl) (fun _ _ _ h => h) (Or.inl ⟨by rfl, ?_⟩) (by assumption) ?_
        rotate_left
        focus
          intro w hSw
          obtain ⟨qs0, qs1, qs2, qs3, qs4, qs5, qs6, qs7⟩ := oct8 hSw
          go_simp
          try with_reducible rfl
        try simp only [List.getElem_toArray, List.getElem_cons_succ, List.getElem_cons_zero, Act.put, List.setIfInBounds_toArray, List.set_cons_zero, List.set_cons_succ]
        refine wpAnyH_take (i := 1) (oi := _) (v := ?_) rfl (by kernel_rfl) (by kernel_rfl) (by kernel_rfl) (fun _ _ _ h => h) (Or.inl ⟨by rfl, ?_⟩) (by assumption) ?_
        rotate_left
        focus
          intro w hSw
          obtain ⟨qs0, qs1, qs2, qs3, qs4, qs5, qs6, qs7⟩ := oct8 hSw
          go_simp
          try with_reducible rfl
        try simp only [List.getElem_toArray, List.getElem_cons_succ, List.getElem_cons_zero, Act.put, List.setIfInBounds_toArray, List.set_cons_zero, List.set_cons_succ]
        refine wpAnyH_take (i := 2) (oi := _) (v := ?_) rfl (by kernel_rfl) (by kernel_rfl) (by kernel_rfl) (fun _ _ _ h => h) (Or.inl ⟨by rfl, ?_⟩) (by assumption) ?_
        rotate_left
        focus
          intro w hSw
          obtain ⟨qs0, qs1, qs2, qs3, qs4, qs5, qs6, qs7⟩ := oct8 hSw
          go_simp
          try with_reducible rfl
        try simp only [List.getElem_toArray, List.getElem_cons_succ, List.getElem_cons_zero, Act.put, List.setIfInBounds_toArray, List.set_cons_zero, List.set_cons_succ]
        refine wpAnyH_ready (rs := [3]) (by kernel_rfl) (by simp) ?_
        refine AllReadyH.cons (o := _) rfl (fun K hK => ?_) ?_
        · go_simp
          refine Calls.mono (Hro.out wr.drew HbA.out) ?_
          rintro e w4 ⟨v4, rfl, hV, hb⟩
          have hsz0 := HbA.out.size
          have hst := hb
          have HKr := Lib.hid (HKr.out.below hst HKr.out.lt)
          have HbA := Lib.hid (HbA.out.trans (hst.mono HbA.out.size))
          obtain ⟨VA, vc, rfl, hlc⟩ := hV.form
          have HV := Lib.hid (hV.vl Hrl.out)
          clear hst hb hsz0 hV hlc
          refine hK.out _ _ ?_ (fun hHeld => ?_)
          · exact HKr.out
          · clear hK K
            try simp only [List.getElem_toArray, List.getElem_cons_succ, List.getElem_cons_zero, Act.put, List.setIfInBounds_toArray, List.set_cons_zero, List.set_cons_succ]
            refine wpAnyH_ready (rs := [4]) (by kernel_rfl) (by simp) ?_
            refine AllReadyH.cons (o := _) rfl (fun K hK => ?_) ?_
            · go_simp
              refine Calls.mono (Hvs.out w4 HbA.out VA vc _ _ HV.out (Nat.le_refl _)) ?_
              rintro e w5 ⟨rfl, hb⟩
              have hsz0 := HbA.out.size
              have hst := hb
              have HKr := Lib.hid (HKr.out.below hst HKr.out.lt)
              have HbA := Lib.hid (HbA.out.trans (hst.mono HbA.out.size))
              clear hst hb hsz0 HV
              refine hK.out _ _ ?_ (fun hHeld => ?_)
              · exact HKr.out
              · clear hK K
                try simp only [List.getElem_toArray, List.getElem_cons_succ, List.getElem_cons_zero, Act.put, List.setIfInBounds_toArray, List.set_cons_zero, List.set_cons_succ]
                refine wpAnyH_take (i := 5) (oi := _) (v := ?_) rfl (by kernel_rfl) (by kernel_rfl) (by kernel_rfl) (fun _ _ _ h => h) (Or.inl ⟨by rfl, ?_⟩) (by assumption) ?_
                rotate_left
                focus
                  intro w hSw
                  obtain ⟨qs0, qs1, qs2, qs3, qs4, qs5, qs6, qs7⟩ := oct8 hSw
                  go_simp
                  try with_reducible rfl
                try simp only [List.getElem_toArray, List.getElem_cons_succ, List.getElem_cons_zero, Act.put, List.setIfInBounds_toArray, List.set_cons_zero, List.set_cons_succ]
                refine wpAnyH_take (i := 6) (oi := _) (v := ?_) rfl (by kernel_rfl) (by kernel_rfl) (by kernel_rfl) (fun _ _ _ h => h) (Or.inl ⟨by rfl, ?_⟩) (by assumption) ?_
                rotate_left
                focus
                  intro w hSw
                  obtain ⟨qs0, qs1, qs2, qs3, qs4, qs5, qs6, qs7⟩ := oct8 hSw
                  go_simp
                  try with_reducible rfl
                try simp only [List.getElem_toArray, List.getElem_cons_succ, List.getElem_cons_zero, Act.put, List.setIfInBounds_toArray, List.set_cons_zero, List.set_cons_succ]
                refine wpAnyH_take (i := 7) (oi := _) (v := ?_) rfl (by kernel_rfl) (by kernel_rfl) (by kernel_rfl) (fun _ _ _ h => h) (Or.inl ⟨by rfl, ?_⟩) (by assumption) ?_
                rotate_left
                focus
                  intro w hSw
                  obtain ⟨qs0, qs1, qs2, qs3, qs4, qs5, qs6, qs7⟩ := oct8 hSw
                  go_simp
                  try with_reducible rfl
                try simp only [List.getElem_toArray, List.getElem_cons_succ, List.getElem_cons_zero, Act.put, List.setIfInBounds_toArray, List.set_cons_zero, List.set_cons_succ]
                refine wpAnyH_take (i := 8) (oi := _) (v := ?_) rfl (by kernel_rfl) (by kernel_rfl) (by kernel_rfl) (fun _ _ _ h => h) (Or.inl ⟨by rfl, ?_⟩) (by assumption) ?_
                rotate_left
                focus
                  intro w hSw
                  obtain ⟨qs0, qs1, qs2, qs3, qs4, qs5, qs6, qs7⟩ := oct8 hSw
                  go_simp
                  try with_reducible rfl
                try simp only [List.getElem_toArray, List.getElem_cons_succ, List.getElem_cons_zero, Act.put, List.setIfInBounds_toArray, List.set_cons_zero, List.set_cons_succ]
                refine wpAnyH_ready (rs := [9]) (by kernel_rfl) (by simp) ?_
                refine AllReadyH.cons (o := _) rfl (fun K hK => ?_) ?_
                · go_simp
                  refine Calls.mono (Hro.out w5 HbA.out) ?_
                  rintro e w6 ⟨v6, rfl, hV, hb⟩
                  have hsz0 := HbA.out.size
                  have hst := hb
                  have HKr := Lib.hid (HKr.out.below hst HKr.out.lt)
                  have HbA := Lib.hid (HbA.out.trans (hst.mono HbA.out.size))
                  obtain ⟨VA6, vc6, rfl, hlc⟩ := hV.form
                  have HV := Lib.hid (hV.vl Hrl.out)
                  clear hst hb hsz0 hV hlc
                  refine hK.out _ _ ?_ (fun hHeld => ?_)
                  · exact HKr.out
                  · clear hK K
                    try simp only [List.getElem_toArray, List.getElem_cons_succ, List.getElem_cons_zero, Act.put, List.setIfInBounds_toArray, List.set_cons_zero, List.set_cons_succ]
                    refine wpAnyH_ready (rs := [10]) (by kernel_rfl) (by simp) ?_
                    refine AllReadyH.cons (o := _) rfl (fun K hK => ?_) ?_
                    · go_simp
                      refine Calls.mono (Hct3.out w6 HbA.out VA6 vc6 _ _ HV.out (Nat.le_refl _)) ?_
                      rintro e w7 ⟨rfl, hb⟩
                      have hsz0 := HbA.out.size
                      have hst := hb
                      have HKr := Lib.hid (HKr.out.below hst HKr.out.lt)
                      have HbA := Lib.hid (HbA.out.trans (hst.mono HbA.out.size))
                      clear hst hb hsz0 HV
                      refine hK.out _ _ ?_ (fun hHeld => ?_)
                      · exact HKr.out
                      · clear hK K
                        try simp only [List.getElem_toArray, List.getElem_cons_succ, List.getElem_cons_zero, Act.put, List.setIfInBounds_toArray, List.set_cons_zero, List.set_cons_succ]
                        refine wpAnyH_take (i := 11) (oi := _) (v := ?_) rfl (by kernel_rfl) (by kernel_rfl) (by kernel_rfl) (fun _ _ _ h => h) (Or.inl ⟨by rfl, ?_⟩) (by assumption) ?_
                        rotate_left
                        focus
                          intro w hSw
                          obtain ⟨qs0, qs1, qs2, qs3, qs4, qs5, qs6, qs7⟩ := oct8 hSw
                          go_simp
                          try with_reducible rfl
                        try simp only [List.getElem_toArray, List.getElem_cons_succ, List.getElem_cons_zero, Act.put, List.setIfInBounds_toArray, List.set_cons_zero, List.set_cons_succ]
                        refine wpAnyH_take (i := 12) (oi := _) (v := ?_) rfl (by kernel_rfl) (by kernel_rfl) (by kernel_rfl) (fun _ _ _ h => h) (Or.inl ⟨by rfl, ?_⟩) (by assumption) ?_
                        rotate_left
                        focus
                          intro w hSw
                          obtain ⟨qs0, qs1, qs2, qs3, qs4, qs5, qs6, qs7⟩ := oct8 hSw
                          go_simp
                          try with_reducible rfl
                        try simp only [List.getElem_toArray, List.getElem_cons_succ, List.getElem_cons_zero, Act.put, List.setIfInBounds_toArray, List.set_cons_zero, List.set_cons_succ]
                        refine wpAnyH_done (by kernel_rfl) ?_ _
                        refine NoPanic.normal ?_
                        go_wp2_with fail
                        go_ret
                        exact ⟨by rw [Hr.out]; first | rfl | simp, HbA.out⟩
                    exact AllReadyH.nil
                exact AllReadyH.nil
            exact AllReadyH.nil
        exact AllReadyH.nil
  · have hf0 : F.length = 0 := by omega
    have hst2 : (st != 0) = true := by simpa using hst
    have Hr := Lib.hid (Hof2.out (frsOk_yes (fun j hj => by omega)))
    have hFe : F = [] := List.length_eq_zero_iff.1 hf0
    clear Hof2 Hno2 Hno Hof
    go_wp2_with fail
    have Hf0 := Lib.hid hf0
    clear hf0 hFe
    go_loopw [3] (fun i wr => i = .int .i64 0 ∧ Below w2.heap.size w2 wr) (fun i _ => 0)
    case atStart => exact ⟨rfl, Below.refl _ _⟩
    case round =>
    obtain ⟨rfl, hbl⟩ := hrel
    have HKr := Lib.hid (HK2.out.below hbl HK2.out.lt)
    have HbA := Lib.hid (Hb2.out.trans (hbl.mono Hb2.out.size))
    have q4 := HKr.out.cel 4 rfl
    have hn0 : ¬ 0 < F.length := by have := Hf0.out; omega
    clear hbl
    cases hra : rootsA a.slots (rootsTo F F.length) with
    | false =>
      rw [hra] at Hvs Hr
      clear hra Hct2
      have HbA := Lib.hid (show Below w.heap.size w wr.drew from ⟨HbA.out.os, HbA.out.tape, HbA.out.output, HbA.out.size, HbA.out.block⟩)
      have HKr := Lib.hid (HKr.out.below (show Below wr.heap.size wr wr.drew from ⟨rfl, rfl, rfl, Nat.le_refl _, fun _ _ => rfl⟩) HKr.out.lt)
      go_wp2_with fail
      refine wp_region_noPanic ?_
      refine wp_region_held_drew (S := (fun W => Blk W w.heap.size 43 #[.slice A0 co.length c0, .slice A1 a.slots.length c1, .slice A2 a.queue.length c2, .slice A3 a.purple.length c3, .slice A4 F.length c4, .slice A5 lg.length c5, .int .i64 tk, .int .i64 st])) (by kernel_rfl) ?_ (fun hHeld => ?_)
      · exact HKr.out
      refine wpAnyH_take (i := 0) (oi := _) (v := ?_) rfl (by kernel_rfl) (by kernel_rfl) (by kernel_rfl) (fun _ _ _ h => h) (Or.inl ⟨by rfl, ?_⟩) (by assumption) ?_
      rotate_left
      focus
        intro w hSw
        obtain ⟨qs0, qs1, qs2, qs3, qs4, qs5, qs6, qs7⟩ := oct8 hSw
        go_simp
        try with_reducible rfl
      try simp only [List.getElem_toArray, List.getElem_cons_succ, List.getElem_cons_zero, Act.put, List.setIfInBounds_toArray, List.set_cons_zero, List.set_cons_succ]
      refine wpAnyH_take (i := 1) (oi := _) (v := ?_) rfl (by kernel_rfl) (by kernel_rfl) (by kernel_rfl) (fun _ _ _ h => h) (Or.inl ⟨by rfl, ?_⟩) (by assumption) ?_
      rotate_left
      focus
        intro w hSw
        obtain ⟨qs0, qs1, qs2, qs3, qs4, qs5, qs6, qs7⟩ := oct8 hSw
        go_simp
        try with_reducible rfl
      try simp only [List.getElem_toArray, List.getElem_cons_succ, List.getElem_cons_zero, Act.put, List.setIfInBounds_toArray, List.set_cons_zero, List.set_cons_succ]
      refine wpAnyH_take (i := 2) (oi := _) (v := ?_) rfl (by kernel_rfl) (by kernel_rfl) (by kernel_rfl) (fun _ _ _ h => h) (Or.inl ⟨by rfl, ?_⟩) (by assumption) ?_
      rotate_left
      focus
        intro w hSw
        obtain ⟨qs0, qs1, qs2, qs3, qs4, qs5, qs6, qs7⟩ := oct8 hSw
        go_simp
        try with_reducible rfl
      try simp only [List.getElem_toArray, List.getElem_cons_succ, List.getElem_cons_zero, Act.put, List.setIfInBounds_toArray, List.set_cons_zero, List.set_cons_succ]
      refine wpAnyH_ready (rs := [3]) (by kernel_rfl) (by simp) ?_
      refine AllReadyH.cons (o := _) rfl (fun K hK => ?_) ?_
      · go_simp
        refine Calls.mono (Hro.out wr.drew HbA.out) ?_
        rintro e w4 ⟨v4, rfl, hV, hb⟩
        have hsz0 := HbA.out.size
        have hst := hb
        have HKr := Lib.hid (HKr.out.below hst HKr.out.lt)
        have HbA := Lib.hid (HbA.out.trans (hst.mono HbA.out.size))
        obtain ⟨VA, vc, rfl, hlc⟩ := hV.form
        have HV := Lib.hid (hV.vl Hrl.out)
        clear hst hb hsz0 hV hlc
        refine hK.out _ _ ?_ (fun hHeld => ?_)
        · exact HKr.out
        · clear hK K
          try simp only [List.getElem_toArray, List.getElem_cons_succ, List.getElem_cons_zero, Act.put, List.setIfInBounds_toArray, List.set_cons_zero, List.set_cons_succ]
          refine wpAnyH_ready (rs := [4]) (by kernel_rfl) (by simp) ?_
          refine AllReadyH.cons (o := _) rfl (fun K hK => ?_) ?_
          · go_simp
            refine Calls.mono (Hvs.out w4 HbA.out VA vc _ _ HV.out (Nat.le_refl _)) ?_
            rintro e w5 ⟨rfl, hb⟩
            have hsz0 := HbA.out.size
            have hst := hb
            have HKr := Lib.hid (HKr.out.below hst HKr.out.lt)
            have HbA := Lib.hid (HbA.out.trans (hst.mono HbA.out.size))
            clear hst hb hsz0 HV
            refine hK.out _ _ ?_ (fun hHeld => ?_)
            · exact HKr.out
            · clear hK K
              try simp only [List.getElem_toArray, List.getElem_cons_succ, List.getElem_cons_zero, Act.put, List.setIfInBounds_toArray, List.set_cons_zero, List.set_cons_succ]
              refine wpAnyH_take (i := 5) (oi := _) (v := ?_) rfl (by kernel_rfl) (by kernel_rfl) (by kernel_rfl) (fun _ _ _ h => h) (Or.inl ⟨by rfl, ?_⟩) (by assumption) ?_
              rotate_left
              focus
                intro w hSw
                obtain ⟨qs0, qs1, qs2, qs3, qs4, qs5, qs6, qs7⟩ := oct8 hSw
                go_simp
                try with_reducible rfl
              try simp only [List.getElem_toArray, List.getElem_cons_succ, List.getElem_cons_zero, Act.put, List.setIfInBounds_toArray, List.set_cons_zero, List.set_cons_succ]
              refine wpAnyH_take (i := 6) (oi := _) (v := undef) rfl (by kernel_rfl) (by kernel_rfl) (by kernel_rfl) (fun _ _ _ h => h) (Or.inr ⟨by rfl, rfl⟩) (by assumption) ?_
              try simp only [List.getElem_toArray, List.getElem_cons_succ, List.getElem_cons_zero, Act.put, List.setIfInBounds_toArray, List.set_cons_zero, List.set_cons_succ]
              refine wpAnyH_take (i := 7) (oi := _) (v := undef) rfl (by kernel_rfl) (by kernel_rfl) (by kernel_rfl) (fun _ _ _ h => h) (Or.inr ⟨by rfl, rfl⟩) (by assumption) ?_
              try simp only [List.getElem_toArray, List.getElem_cons_succ, List.getElem_cons_zero, Act.put, List.setIfInBounds_toArray, List.set_cons_zero, List.set_cons_succ]
              refine wpAnyH_take (i := 8) (oi := _) (v := undef) rfl (by kernel_rfl) (by kernel_rfl) (by kernel_rfl) (fun _ _ _ h => h) (Or.inr ⟨by rfl, rfl⟩) (by assumption) ?_
              try simp only [List.getElem_toArray, List.getElem_cons_succ, List.getElem_cons_zero, Act.put, List.setIfInBounds_toArray, List.set_cons_zero, List.set_cons_succ]
              refine wpAnyH_take (i := 9) (oi := _) (v := undef) rfl (by kernel_rfl) (by kernel_rfl) (by kernel_rfl) (fun _ _ _ h => h) (Or.inr ⟨by rfl, rfl⟩) (by assumption) ?_
              try simp only [List.getElem_toArray, List.getElem_cons_succ, List.getElem_cons_zero, Act.put, List.setIfInBounds_toArray, List.set_cons_zero, List.set_cons_succ]
              refine wpAnyH_take (i := 10) (oi := _) (v := undef) rfl (by kernel_rfl) (by kernel_rfl) (by kernel_rfl) (fun _ _ _ h => h) (Or.inr ⟨by rfl, rfl⟩) (by assumption) ?_
              try simp only [List.getElem_toArray, List.getElem_cons_succ, List.getElem_cons_zero, Act.put, List.setIfInBounds_toArray, List.set_cons_zero, List.set_cons_succ]
              refine wpAnyH_take (i := 11) (oi := _) (v := ?_) rfl (by kernel_rfl) (by kernel_rfl) (by kernel_rfl) (fun _ _ _ h => h) (Or.inl ⟨by rfl, ?_⟩) (by assumption) ?_
              rotate_left
              focus
                intro w hSw
                obtain ⟨qs0, qs1, qs2, qs3, qs4, qs5, qs6, qs7⟩ := oct8 hSw
                go_simp
                try with_reducible rfl
              try simp only [List.getElem_toArray, List.getElem_cons_succ, List.getElem_cons_zero, Act.put, List.setIfInBounds_toArray, List.set_cons_zero, List.set_cons_succ]
              refine wpAnyH_take (i := 12) (oi := _) (v := ?_) rfl (by kernel_rfl) (by kernel_rfl) (by kernel_rfl) (fun _ _ _ h => h) (Or.inl ⟨by rfl, ?_⟩) (by assumption) ?_
              rotate_left
              focus
                intro w hSw
                obtain ⟨qs0, qs1, qs2, qs3, qs4, qs5, qs6, qs7⟩ := oct8 hSw
                go_simp
                try with_reducible rfl
              try simp only [List.getElem_toArray, List.getElem_cons_succ, List.getElem_cons_zero, Act.put, List.setIfInBounds_toArray, List.set_cons_zero, List.set_cons_succ]
              refine wpAnyH_done (by kernel_rfl) ?_ _
              refine NoPanic.normal ?_
              go_wp2_with fail
              go_ret
              exact ⟨by rw [Hr.out]; first | rfl | simp, HbA.out⟩
          exact AllReadyH.nil
      exact AllReadyH.nil
    | true =>
      have Hct3 := Lib.hid (Hct2.out hra)
      rw [hra] at Hvs Hr
      clear hra Hct2
      have HbA := Lib.hid (show Below w.heap.size w wr.drew from ⟨HbA.out.os, HbA.out.tape, HbA.out.output, HbA.out.size, HbA.out.block⟩)
      have HKr := Lib.hid (HKr.out.below (show Below wr.heap.size wr wr.drew from ⟨rfl, rfl, rfl, Nat.le_refl _, fun _ _ => rfl⟩) HKr.out.lt)
      go_wp2_with fail
      refine wp_region_noPanic ?_
      refine wp_region_held_drew (S := (fun W => Blk W w.heap.size 43 #[.slice A0 co.length c0, .slice A1 a.slots.length c1, .slice A2 a.queue.length c2, .slice A3 a.purple.length c3, .slice A4 F.length c4, .slice A5 lg.length c5, .int .i64 tk, .int .i64 st])) (by kernel_rfl) ?_ (fun hHeld => ?_)
      · exact HKr.out
      refine wpAnyH_take (i := 0) (oi := _) (v := ?_) rfl (by kernel_rfl) (by kernel_rfl) (by kernel_rfl) (fun _ _ _ h => h) (Or.inl ⟨by rfl, ?_⟩) (by assumption) ?_
      rotate_left
      focus
        intro w hSw
        obtain ⟨qs0, qs1, qs2, qs3, qs4, qs5, qs6, qs7⟩ := oct8 hSw
        go_simp
        try with_reducible rfl
      try simp only [List.getElem_toArray, List.getElem_cons_succ, List.getElem_cons_zero, Act.put, List.setIfInBounds_toArray, List.set_cons_zero, List.set_cons_succ]
      refine wpAnyH_take (i := 1) (oi := _) (v := ?_) rfl (by kernel_rfl) (by kernel_rfl) (by kernel_rfl) (fun _ _ _ h => h) (Or.inl ⟨by rfl, ?_⟩) (by assumption) ?_
      rotate_left
      focus
        intro w hSw
        obtain ⟨qs0, qs1, qs2, qs3, qs4, qs5, qs6, qs7⟩ := oct8 hSw
        go_simp
        try with_reducible rfl
      try simp only [List.getElem_toArray, List.getElem_cons_succ, List.getElem_cons_zero, Act.put, List.setIfInBounds_toArray, List.set_cons_zero, List.set_cons_succ]
      refine wpAnyH_take (i := 2) (oi := _) (v := ?_) rfl (by kernel_rfl) (by kernel_rfl) (by kernel_rfl) (fun _ _ _ h => h) (Or.inl ⟨by rfl, ?_⟩) (by assumption) ?_
      rotate_left
      focus
        intro w hSw
        obtain ⟨qs0, qs1, qs2, qs3, qs4, qs5, qs6, qs7⟩ := oct8 hSw
        go_simp
        try with_reducible rfl
      try simp only [List.getElem_toArray, List.getElem_cons_succ, List.getElem_cons_zero, Act.put, List.setIfInBounds_toArray, List.set_cons_zero, List.set_cons_succ]
      refine wpAnyH_ready (rs := [3]) (by kernel_rfl) (by simp) ?_
      refine AllReadyH.cons (o := _) rfl (fun K hK => ?_) ?_
      · go_simp
        refine Calls.mono (Hro.out wr.drew HbA.out) ?_
        rintro e w4 ⟨v4, rfl, hV, hb⟩
        have hsz0 := HbA.out.size
        have hst := hb
        have HKr := Lib.hid (HKr.out.below hst HKr.out.lt)
        have HbA := Lib.hid (HbA.out.trans (hst.mono HbA.out.size))
        obtain ⟨VA, vc, rfl, hlc⟩ := hV.form
        have HV := Lib.hid (hV.vl Hrl.out)
        clear hst hb hsz0 hV hlc
        refine hK.out _ _ ?_ (fun hHeld => ?_)
        · exact HKr.out
        · clear hK K
          try simp only [List.getElem_toArray, List.getElem_cons_succ, List.getElem_cons_zero, Act.put, List.setIfInBounds_toArray, List.set_cons_zero, List.set_cons_succ]
          refine wpAnyH_ready (rs := [4]) (by kernel_rfl) (by simp) ?_
          refine AllReadyH.cons (o := _) rfl (fun K hK => ?_) ?_
          · go_simp
            refine Calls.mono (Hvs.out w4 HbA.out VA vc _ _ HV.out (Nat.le_refl _)) ?_
            rintro e w5 ⟨rfl, hb⟩
            have hsz0 := HbA.out.size
            have hst := hb
            have HKr := Lib.hid (HKr.out.below hst HKr.out.lt)
            have HbA := Lib.hid (HbA.out.trans (hst.mono HbA.out.size))
            clear hst hb hsz0 HV
            refine hK.out _ _ ?_ (fun hHeld => ?_)
            · exact HKr.out
            · clear hK K
              try simp only [List.getElem_toArray, List.getElem_cons_succ, List.getElem_cons_zero, Act.put, List.setIfInBounds_toArray, List.set_cons_zero, List.set_cons_succ]
              refine wpAnyH_take (i := 5) (oi := _) (v := ?_) rfl (by kernel_rfl) (by kernel_rfl) (by kernel_rfl) (fun _ _ _ h => h) (Or.inl ⟨by rfl, ?_⟩) (by assumption) ?_
              rotate_left
              focus
                intro w hSw
                obtain ⟨qs0, qs1, qs2, qs3, qs4, qs5, qs6, qs7⟩ := oct8 hSw
                go_simp
                try with_reducible rfl
              try simp only [List.getElem_toArray, List.getElem_cons_succ, List.getElem_cons_zero, Act.put, List.setIfInBounds_toArray, List.set_cons_zero, List.set_cons_succ]
              refine wpAnyH_take (i := 6) (oi := _) (v := ?_) rfl (by kernel_rfl) (by kernel_rfl) (by kernel_rfl) (fun _ _ _ h => h) (Or.inl ⟨by rfl, ?_⟩) (by assumption) ?_
              rotate_left
              focus
                intro w hSw
                obtain ⟨qs0, qs1, qs2, qs3, qs4, qs5, qs6, qs7⟩ := oct8 hSw
                go_simp
                try with_reducible rfl
              try simp only [List.getElem_toArray, List.getElem_cons_succ, List.getElem_cons_zero, Act.put, List.setIfInBounds_toArray, List.set_cons_zero, List.set_cons_succ]
              refine wpAnyH_take (i := 7) (oi := _) (v := ?_) rfl (by kernel_rfl) (by kernel_rfl) (by kernel_rfl) (fun _ _ _ h => h) (Or.inl ⟨by rfl, ?_⟩) (by assumption) ?_
              rotate_left
              focus
                intro w hSw
                obtain ⟨qs0, qs1, qs2, qs3, qs4, qs5, qs6, qs7⟩ := oct8 hSw
                go_simp
                try with_reducible rfl
              try simp only [List.getElem_toArray, List.getElem_cons_succ, List.getElem_cons_zero, Act.put, List.setIfInBounds_toArray, List.set_cons_zero, List.set_cons_succ]
              refine wpAnyH_take (i := 8) (oi := _) (v := ?_) rfl (by kernel_rfl) (by kernel_rfl) (by kernel_rfl) (fun _ _ _ h => h) (Or.inl ⟨by rfl, ?_⟩) (by assumption) ?_
              rotate_left
              focus
                intro w hSw
                obtain ⟨qs0, qs1, qs2, qs3, qs4, qs5, qs6, qs7⟩ := oct8 hSw
                go_simp
                try with_reducible rfl
              try simp only [List.getElem_toArray, List.getElem_cons_succ, List.getElem_cons_zero, Act.put, List.setIfInBounds_toArray, List.set_cons_zero, List.set_cons_succ]
              refine wpAnyH_ready (rs := [9]) (by kernel_rfl) (by simp) ?_
              refine AllReadyH.cons (o := _) rfl (fun K hK => ?_) ?_
              · go_simp
                refine Calls.mono (Hro.out w5 HbA.out) ?_
                rintro e w6 ⟨v6, rfl, hV, hb⟩
                have hsz0 := HbA.out.size
                have hst := hb
                have HKr := Lib.hid (HKr.out.below hst HKr.out.lt)
                have HbA := Lib.hid (HbA.out.trans (hst.mono HbA.out.size))
                obtain ⟨VA6, vc6, rfl, hlc⟩ := hV.form
                have HV := Lib.hid (hV.vl Hrl.out)
                clear hst hb hsz0 hV hlc
                refine hK.out _ _ ?_ (fun hHeld => ?_)
                · exact HKr.out
                · clear hK K
                  try simp only [List.getElem_toArray, List.getElem_cons_succ, List.getElem_cons_zero, Act.put, List.setIfInBounds_toArray, List.set_cons_zero, List.set_cons_succ]
                  refine wpAnyH_ready (rs := [10]) (by kernel_rfl) (by simp) ?_
                  refine AllReadyH.cons (o := _) rfl (fun K hK => ?_) ?_
                  · go_simp
                    refine Calls.mono (Hct3.out w6 HbA.out VA6 vc6 _ _ HV.out (Nat.le_refl _)) ?_
                    rintro e w7 ⟨rfl, hb⟩
                    have hsz0 := HbA.out.size
                    have hst := hb
                    have HKr := Lib.hid (HKr.out.below hst HKr.out.lt)
                    have HbA := Lib.hid (HbA.out.trans (hst.mono HbA.out.size))
                    clear hst hb hsz0 HV
                    refine hK.out _ _ ?_ (fun hHeld => ?_)
                    · exact HKr.out
                    · clear hK K
                      try simp only [List.getElem_toArray, List.getElem_cons_succ, List.getElem_cons_zero, Act.put, List.setIfInBounds_toArray, List.set_cons_zero, List.set_cons_succ]
                      refine wpAnyH_take (i := 11) (oi := _) (v := ?_) rfl (by kernel_rfl) (by kernel_rfl) (by kernel_rfl) (fun _ _ _ h => h) (Or.inl ⟨by rfl, ?_⟩) (by assumption) ?_
                      rotate_left
                      focus
                        intro w hSw
                        obtain ⟨qs0, qs1, qs2, qs3, qs4, qs5, qs6, qs7⟩ := oct8 hSw
                        go_simp
                        try with_reducible rfl
                      try simp only [List.getElem_toArray, List.getElem_cons_succ, List.getElem_cons_zero, Act.put, List.setIfInBounds_toArray, List.set_cons_zero, List.set_cons_succ]
                      refine wpAnyH_take (i := 12) (oi := _) (v := ?_) rfl (by kernel_rfl) (by kernel_rfl) (by kernel_rfl) (fun _ _ _ h => h) (Or.inl ⟨by rfl, ?_⟩) (by assumption) ?_
                      rotate_left
                      focus
                        intro w hSw
                        obtain ⟨qs0, qs1, qs2, qs3, qs4, qs5, qs6, qs7⟩ := oct8 hSw
                        go_simp
                        try with_reducible rfl
                      try simp only [List.getElem_toArray, List.getElem_cons_succ, List.getElem_cons_zero, Act.put, List.setIfInBounds_toArray, List.set_cons_zero, List.set_cons_succ]
                      refine wpAnyH_done (by kernel_rfl) ?_ _
                      refine NoPanic.normal ?_
                      go_wp2_with fail
                      go_ret
                      exact ⟨by rw [Hr.out]; first | rfl | simp, HbA.out⟩
                  exact AllReadyH.nil
              exact AllReadyH.nil
          exact AllReadyH.nil
      exact AllReadyH.nil
end VmS
end Go.Proofs.YtddjcjjnpidhiaaGreatDoor
