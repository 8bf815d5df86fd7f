/-
  The program's framesOk.
-/
import Derived.Test.YtddjcjjnpidhiaaGreatDoorMfrm
import Derived.Test.YtddjcjjnpidhiaaGreatDoorMimplCode
namespace Go.Proofs.YtddjcjjnpidhiaaGreatDoor
open Go.RowKit
set_option linter.unusedVariables false
set_option linter.unusedSimpArgs false

theorem frOk_unit {C : List Un} {ah : Int} {f : Fr} (h : f.unit < 0 ∨ (C.length : Int) ≤ f.unit) : frOk C ah f = false := by
  unfold frOk
  rcases h with h | h
  · rw [decide_eq_false (by omega : ¬ 0 ≤ f.unit)]; simp
  · rw [decide_eq_false (by omega : ¬ f.unit < (C.length : Int))]; simp
theorem frOk_dst {C : List Un} {ah : Int} {f : Fr} (h : f.dst < 0 ∨ ah ≤ f.dst) : frOk C ah f = false := by
  unfold frOk
  rcases h with h | h
  · rw [decide_eq_false (by omega : ¬ 0 ≤ f.dst)]; simp
  · rw [decide_eq_false (by omega : ¬ f.dst < ah)]; simp
/-- a frame of a unit that there is -/
theorem frOk_of {C : List Un} {ah : Int} {f : Fr} {u : Nat} (hu : u < C.length) (e : f.unit = (u : Int)) (h0 : 0 ≤ f.dst) (h1 : f.dst < ah) :
    frOk C ah f = (decide (0 ≤ f.pc) && decide (f.pc < (C[u].l.length : Int)) && decide ((f.regs.length : Int) = C[u].regs)) := by
  unfold frOk
  rw [e, Int.toNat_natCast, getD_at hu, decide_eq_true (by omega : (0 : Int) ≤ (u : Int)), decide_eq_true (by omega : ((u : Nat) : Int) < (C.length : Int)), decide_eq_true h0, decide_eq_true h1]
  simp

set_option maxRecDepth 100000 in
set_option maxHeartbeats 8000000 in
theorem implFramesOk_c (m : Ma) (A0 A1 A2 A3 A4 A5 : Option Addr) (c0 c1 c2 c3 c4 c5 L B : Nat) (w : World) (hB : B ≤ w.heap.size) (hlc : unsSz m.code ≤ 1048576) (hl : frsSz m.frames ≤ 1048576) (hC : UnL w L B A0 m.code) (h : FrL w L B A4 m.frames) :
    Calls Tryz.prog 39 #[.agg (maV A0 A1 A2 A3 A4 A5 c0 c1 c2 c3 c4 c5 m)] w fun e w' => e = .returned (.bool (framesOk m.code m.frames m.state)) ∧ Below w.heap.size w w' := by
  obtain ⟨co, a, F, lg, tk, st⟩ := m
  unfold maV
  dsimp only at *
  have hFl : F.length ≤ 1048576 := by unfold frsSz at hl; omega
  have hCl : co.length ≤ 1048576 := by unfold unsSz at hlc; omega
  have hb0 : Below w.heap.size w (w.alloc (.cells #[.slice A0 co.length c0, .slice A1 a.slots.length c1, .slice A2 a.queue.length c2, .slice A3 a.purple.length c3, .slice A4 F.length c4, .slice A5 lg.length c5, .int .i64 tk, .int .i64 st] 43)) := (Below.refl _ _).alloc (Nat.le_refl _) _
  have Hb0 := Lib.hid hb0
  by_cases h13 : 13 < F.length
  · have Hres := Lib.hid (show framesOk co F st = false by unfold framesOk; rw [decide_eq_false (by omega)]; rfl)
    clear hC h hb0
    go_enter Tryz.func39, Tryz.ntmps39
    go_wp2
    go_ret
    exact ⟨by rw [Hres.out]; rfl, Hb0.out⟩
  by_cases hF0 : F = []
  · subst hF0
    have Hres := Lib.hid (show framesOk co [] st = true by unfold framesOk frsOk; simp)
    clear hC h hb0 h13 hFl hl
    go_enter Tryz.func39, Tryz.ntmps39
    go_wp2_with fail
    generalize w.alloc (.cells _ 43) = W at Hb0 ⊢
    go_loopw [3, 25] (fun n i wr => i = .int .i64 0 ∧ Below W.heap.size W wr) (fun _ i _ => 0)
    case atStart => exact ⟨rfl, Below.refl _ _⟩
    case round =>
      obtain ⟨rfl, hbl⟩ := hrel
      have Hbl := Lib.hid (Hb0.out.trans (hbl.mono Hb0.out.size))
      clear hbl
      go_wp2
      go_ret
      exact ⟨by rw [Hres.out]; rfl, Hbl.out⟩
  have hF1 : 0 < F.length := List.length_pos_iff.2 hF0
  by_cases hst : st = 0
  · subst hst
    have hres : framesOk co F 0 = frsOk co F := by unfold framesOk; rw [decide_eq_true (by omega : (F.length : Int) ≤ 13)]; simp
    have Hno := Lib.hid (fun k (hk : k < F.length) (h : frOk co (ahead F k) F[k] = false) => show framesOk co F 0 = false by rw [hres]; exact frsOk_no hk h)
    have Hyes := Lib.hid (fun (h : ∀ k (hk : k < F.length), frOk co (ahead F k) F[k] = true) => show framesOk co F 0 = true by rw [hres]; exact frsOk_yes h)
    have HK := Lib.hid (Blk.new w 43 #[.slice A0 co.length c0, .slice A1 a.slots.length c1, .slice A2 a.queue.length c2, .slice A3 a.purple.length c3, .slice A4 F.length c4, .slice A5 lg.length c5, .int .i64 tk, .int .i64 0])
    have HC := Lib.hid (hC.below (hb0.mono hB))
    have H := Lib.hid (h.below (hb0.mono hB))
    have Hlc := Lib.hid hlc
    have Hlf := Lib.hid hl
    have HB0 := Lib.hid hB
    clear hC h hb0 hres hlc hl
    go_enter Tryz.func39, Tryz.ntmps39
    go_wp2_with fail
    generalize w.alloc (.cells _ 43) = W at Hb0 HK HC H ⊢
    have hBW : B ≤ W.heap.size := Nat.le_trans hB Hb0.out.size
    have HBW := Lib.hid hBW
    clear hBW hB
    go_loopw [3, 25] (fun n i wr => ∃ k : Nat, k ≤ F.length ∧ i = .int .i64 k ∧ n = .int .i64 (ahead F k) ∧ Hid (∀ j (hj : j < F.length), j < k → frOk co (ahead F j) F[j] = true) ∧ Below W.heap.size W wr) (fun _ i _ => F.length - (intOf i).toNat)
    case atStart => exact ⟨0, Nat.zero_le _, rfl, rfl, Lib.hid (fun j hj h => by omega), Below.refl _ _⟩
    case round =>
      obtain ⟨k, hk, rfl, rfl, hall, hbl⟩ := hrel
      have hws := hbl.size
      by_cases hlt : k < F.length
      · obtain ⟨ad, rfl, _, hbk, hat⟩ := (H.out.below (hbl.mono HBW.out)).2 (by omega)
        obtain ⟨v0, v1, v2, v3, ⟨d0, d1, d2, d3⟩, rfl, rfl, rfl, D, dc, rfl, hV, hz⟩ := hat k hlt
        have Hn := Lib.hid (Hno.out k hlt)
        have Hah := Lib.hid (ahead_succ hlt)
        have Hall' := Lib.hid (show frOk co (ahead F k) F[k] = true → ∀ j (hj : j < F.length), j < k + 1 → frOk co (ahead F j) F[j] = true from fun h j hj hjk => by
          by_cases e : j = k
          · subst e; exact h
          · exact hall.out j hj (by omega))
        have hrl : F[k].regs.length ≤ 1048576 := Nat.le_trans (sum_get frSz hlt : F[k].regs.length ≤ (F.map frSz).sum) (by have h2 := Hlf.out; unfold frsSz at h2; omega)
        obtain ⟨fk, hfk⟩ : ∃ f, f = F[k] := ⟨_, rfl⟩
        rw [← hfk] at d0 d1 d2 d3 Hn Hah Hall' hrl
        obtain ⟨ah, hah⟩ : ∃ x, x = ahead F k := ⟨_, rfl⟩
        rw [← hah] at Hn Hall'
        rw [← hah]
        obtain ⟨fu, fp, fd, fr⟩ := fk
        dsimp only at *
        clear hat hfk hah hV hz hall
        have hbx := (Below.refl wr.heap.size wr).alloc (Nat.le_refl _) (.cells #[.int .i64 fu, .int .i64 fp, .int .i64 fd, .slice D fr.length dc] 60)
        have HKF := Lib.hid (Blk.new wr 60 #[.int .i64 fu, .int .i64 fp, .int .i64 fd, .slice D fr.length dc])
        have hbl1 := hbl.trans (hbx.mono hws)
        have q0 := (HK.out.below hbl1 HK.out.lt).cel 0 rfl
        have Hbl1 := Lib.hid hbl1
        have Hbx := Lib.hid hbx
        by_cases hu : fu < 0 ∨ (co.length : Int) ≤ fu
        · have Hr := Lib.hid (Hn.out (frOk_unit hu))
          clear hbx hbl1 hbl Hn Hall' Hah
          rcases hu with hu | hu
          · go_wp2
            go_ret
            exact ⟨by rw [Hr.out]; rfl, Hb0.out.trans (Hbl1.out.mono Hb0.out.size)⟩
          · have hu0 : ¬ fu < 0 := by omega
            go_wp2
            go_ret
            exact ⟨by rw [Hr.out]; rfl, Hb0.out.trans (Hbl1.out.mono Hb0.out.size)⟩
        have hu0 : ¬ fu < 0 := by omega
        have hu1 : ¬ (co.length : Int) ≤ fu := by omega
        clear hu
        by_cases hd : fd < 0
        · have Hr := Lib.hid (Hn.out (frOk_dst (.inl hd)))
          clear hbx hbl1 hbl Hn Hall' Hah
          go_wp2
          go_ret
          exact ⟨by rw [Hr.out]; rfl, Hb0.out.trans (Hbl1.out.mono Hb0.out.size)⟩
        by_cases hd2 : ah ≤ fd
        · have Hr := Lib.hid (Hn.out (frOk_dst (.inr hd2)))
          clear hbx hbl1 hbl Hn Hall' Hah
          go_wp2
          go_ret
          exact ⟨by rw [Hr.out]; rfl, Hb0.out.trans (Hbl1.out.mono Hb0.out.size)⟩
        obtain ⟨u, rfl⟩ : ∃ u : Nat, fu = (u : Int) := ⟨fu.toNat, by omega⟩
        have hul : u < co.length := by omega
        have hof := frOk_of (ah := ah) (f := ⟨(u : Int), fp, fd, fr⟩) hul rfl (by dsimp only; omega) (by dsimp only; omega)
        obtain ⟨ad0, rfl, _, hbk0, hat0⟩ := (HC.out.below (hbl1.mono HBW.out)).2 (by omega)
        obtain ⟨x0, x1, x2, ⟨e0, e1, e2⟩, rfl, rfl, UA, uc, rfl, hI⟩ := hat0 u hul
        have hlu : co[u].l.length ≤ 1048576 := Nat.le_trans (Nat.le_add_right _ _ : co[u].l.length ≤ insSz co[u].l) (Nat.le_trans (sum_get unSz hul : insSz co[u].l ≤ (co.map unSz).sum) (by have h2 := Hlc.out; unfold unsSz at h2; omega))
        obtain ⟨ou, hou⟩ : ∃ o, o = co[u] := ⟨_, rfl⟩
        rw [← hou] at e0 e1 e2 hof hlu
        obtain ⟨pm, rg, ul⟩ := ou
        dsimp only at e0 e1 e2 hof hlu
        clear hat0 hou hI
        have hbu := (Below.refl (wr.alloc (.cells #[.int .i64 (u : Int), .int .i64 fp, .int .i64 fd, .slice D fr.length dc] 60)).heap.size (wr.alloc (.cells #[.int .i64 (u : Int), .int .i64 fp, .int .i64 fd, .slice D fr.length dc] 60))).alloc (Nat.le_refl _) (.cells #[.int .i64 pm, .int .i64 rg, .slice UA ul.length uc] 63)
        have HKU := Lib.hid (Blk.new (wr.alloc (.cells #[.int .i64 (u : Int), .int .i64 fp, .int .i64 fd, .slice D fr.length dc] 60)) 63 #[.int .i64 pm, .int .i64 rg, .slice UA ul.length uc])
        have HKF2 := Lib.hid (HKF.out.below hbu HKF.out.lt)
        have Hbl2 := Lib.hid (hbl1.trans (hbu.mono hbl1.size))
        have Hpl := Lib.hid (Cod.isPlace_c ⟨pm, rg, ul⟩ UA uc fp ((wr.alloc (.cells #[.int .i64 (u : Int), .int .i64 fp, .int .i64 fd, .slice D fr.length dc] 60)).alloc (.cells #[.int .i64 pm, .int .i64 rg, .slice UA ul.length uc] 63)) hlu)
        have Hof := Lib.hid hof
        clear hbx hbl1 hbl hof hbu
        go_wp2_with fail
        refine Hpl.out.mono ?_
        rintro e w5 ⟨rfl, hb5⟩
        have KF := HKF2.out.below hb5 HKF2.out.lt
        have KU := HKU.out.below hb5 HKU.out.lt
        have Hbl5 := Lib.hid (Hbl2.out.trans (hb5.mono Hbl2.out.size))
        have f3 := KF.cel 3 rfl
        have g1 := KU.cel 1 rfl
        rw [World.size_alloc] at g1
        obtain ⟨bp, hbp⟩ : ∃ b, b = (decide (0 ≤ fp) && decide (fp < (ul.length : Int))) := ⟨_, rfl⟩
        rw [← hbp] at Hof
        rw [← hbp]
        clear hb5 KF KU hbp Hpl Hbl2 HKF2 HKU
        cases bp with
        | false =>
          have Hr := Lib.hid (Hn.out (by rw [Hof.out]; rfl))
          clear Hn Hall' Hah
          go_wp2
          go_ret
          exact ⟨by rw [Hr.out]; rfl, Hb0.out.trans (Hbl5.out.mono Hb0.out.size)⟩
        | true =>
          by_cases hre : (fr.length : Int) = rg
          · subst hre
            have Hk := Lib.hid (Hall'.out (by rw [Hof.out]; simp))
            clear Hn Hall'
            go_wp2
            go_roundw
            case rel => exact ⟨k + 1, by omega, by go_num, by rw [Hah.out], Hk, Hbl5.out⟩
            case measure => simp [intOf]; omega
          · have Hr := Lib.hid (Hn.out (by rw [Hof.out, decide_eq_false hre]; rfl))
            have hre2 : ((fr.length : Int) != rg) = true := by simpa using hre
            clear Hn Hall' Hah
            go_wp2
            go_ret
            exact ⟨by rw [Hr.out]; rfl, Hb0.out.trans (Hbl5.out.mono Hb0.out.size)⟩
      · obtain rfl : k = F.length := by omega
        have Hbw := Lib.hid (Hb0.out.trans (hbl.mono Hb0.out.size))
        have Hr := Lib.hid (Hyes.out (fun j hj => hall.out j hj hj))
        clear hbl hall
        go_wp2
        go_ret
        exact ⟨by rw [Hr.out]; rfl, Hbw.out⟩
  · have Hres := Lib.hid (show framesOk co F st = false by unfold framesOk; rw [decide_eq_false (by omega : ¬ F.length = 0), decide_eq_false hst]; simp)
    have hs2 : (st != 0) = true := by simpa using hst
    clear hC h hb0
    go_enter Tryz.func39, Tryz.ntmps39
    go_wp2
    go_ret
    exact ⟨by rw [Hres.out]; rfl, Hb0.out⟩
end Go.Proofs.YtddjcjjnpidhiaaGreatDoor
