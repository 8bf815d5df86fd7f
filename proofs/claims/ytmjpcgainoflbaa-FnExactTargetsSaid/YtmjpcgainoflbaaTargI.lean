/-
  The program's Targets.
-/
import Derived.Test.YtmjpcgainoflbaaTargD
namespace Go.Proofs.Ytmjpcgainoflbaa
open Go.RowKit
set_option linter.unusedVariables false
set_option linter.unusedSimpArgs false

theorem place_c (u : Un) (A : Option Addr) (c : Nat) (n : Int) (w : World) (hl : u.l.length ≤ 1048576) :
    Calls Try.prog 84 #[.agg #[.int .i64 u.params, .int .i64 u.regs, .slice A u.l.length c], .int .i64 n] w fun e w' => e = .returned (.bool (decide (0 ≤ n) && decide (n < u.l.length))) ∧ Below w.heap.size w w' := by
  obtain ⟨pm, rg, l⟩ := u
  dsimp only at *
  by_cases h : 0 ≤ n
  · rw [decide_eq_true h, Bool.true_and]
    go_enter Try.func84, Try.ntmps84
    go_wp2
    go_ret
    exact ⟨rfl, blwC _ _⟩
  · rw [decide_eq_false h, Bool.false_and]
    go_enter Try.func84, Try.ntmps84
    go_wp2
    go_ret
    exact ⟨rfl, blwC _ _⟩

/-- the set after a place was put to it, or not -/
def putPl (n : Nat) (x : Int) (r : List Int) : List Int := if 0 ≤ x ∧ x < n then insI r x else r

set_option maxRecDepth 100000 in
set_option maxHeartbeats 2000000 in
theorem put_c (u : Un) (A : Option Addr) (c : Nat) (x : Int) (r : List Int) (v : Value) (lo uB rB : Nat) (w : World) (hl : u.l.length ≤ 1048576) (hr : r.length ≤ 1048575) (hs : r.Pairwise (· < ·)) (hv : SetV w lo v r) (hlo : lo ≤ w.heap.size)
    (hK : Blk w uB 71 #[.int .i64 u.params, .int .i64 u.regs, .slice A u.l.length c]) (hR : Blk w rB 108 #[v]) :
    Calls Try.prog 83 #[.int .i64 x, .pointer (some ⟨uB, 0, none⟩), .pointer (some ⟨rB, 0, none⟩)] w fun e w' => (∃ z, e = .returned z) ∧ ∃ v', SetV w' lo v' (putPl u.l.length x r) ∧ Blk w' rB 108 #[v'] ∧ Apart (fun k => k = rB ∨ At v k) w w' ∧ Near w v v' := by
  have Hp := Lib.hid (place_c u A c x w hl)
  obtain ⟨pm, rg, l⟩ := u
  dsimp only at *
  have q0 := hK.cel 0 (v := .int .i64 pm) rfl
  have q1 := hK.cel 1 (v := .int .i64 rg) rfl
  have q2 := hK.cel 2 (v := .slice A l.length c) rfl
  have HR := Lib.hid hR
  have HV := Lib.hid hv
  have Hs := Lib.hid hs
  clear hK hR hv hs
  by_cases hp : 0 ≤ x ∧ x < l.length
  · have E := Lib.hid (show putPl l.length x r = insI r x by unfold putPl; rw [if_pos hp])
    have hd : (decide (0 ≤ x) && decide (x < l.length)) = true := by simp [hp]
    rw [hd] at Hp
    clear hd hp
    go_enter Try.func83, Try.ntmps83
    go_wp2_with fail
    refine Hp.out.mono ?_
    rintro e w1 ⟨rfl, hb1⟩
    have Hadd := Lib.hid (setAdd2_c r v lo x w1 rB 0 108 #[v] hr Hs.out (HV.out.below hb1) (Nat.le_trans hlo hb1.size) (HR.out.below hb1 HR.out.lt) rfl (by decide))
    have Hb1 := Lib.hid hb1
    clear hb1 Hp q0 q1 q2
    go_wp2_with fail
    refine Hadd.out.mono ?_
    rintro e w2 ⟨rfl, v', hs2, hk2, ha2, hn2⟩
    have hend : Hid (∃ v', SetV w2 lo v' (putPl l.length x r) ∧ Blk w2 rB 108 #[v'] ∧ Apart (fun k => k = rB ∨ At v k) w w2 ∧ Near w v v') := Lib.hid ⟨v', by rw [E.out]; exact hs2, hk2, (Apart.of_below Hb1.out).trans ha2, fun k hk => (hn2 k hk).imp id fun h => Nat.le_trans Hb1.out.size h⟩
    clear hs2 hk2 ha2 hn2
    go_wp2
    refine bodyPost_end (results_none rfl _ _ _) rfl ?_
    exact ⟨⟨_, rfl⟩, hend.out⟩
  · have E := Lib.hid (show putPl l.length x r = r by unfold putPl; rw [if_neg hp])
    have hd : (decide (0 ≤ x) && decide (x < l.length)) = false := by
      rcases Decidable.not_and_iff_or_not.1 hp with h | h <;> simp [h]
    rw [hd] at Hp
    clear hd hp
    go_enter Try.func83, Try.ntmps83
    go_wp2_with fail
    refine Hp.out.mono ?_
    rintro e w1 ⟨rfl, hb1⟩
    have hend : Hid (∃ v', SetV w1 lo v' (putPl l.length x r) ∧ Blk w1 rB 108 #[v'] ∧ Apart (fun k => k = rB ∨ At v k) w w1 ∧ Near w v v') := Lib.hid ⟨v, by rw [E.out]; exact HV.out.below hb1, HR.out.below hb1 HR.out.lt, Apart.of_below hb1, fun k hk => .inl hk⟩
    clear hb1 Hp q0 q1 q2
    go_wp2
    refine bodyPost_end (results_none rfl _ _ _) rfl ?_
    exact ⟨⟨_, rfl⟩, hend.out⟩

theorem setAns {w w' : World} {v : Value} {l : List Int} (h : SetV w' w.heap.size v l) (hb : Below w.heap.size w w') : AnsI w l (.returned v) w' := by
  rcases h with ⟨rfl, rfl⟩ | ⟨g, cs, rfl, hg, hB, h1, h2, h3⟩
  · exact AnsI.nil hb
  · exact ⟨_, _, rfl, fun hn => ⟨g, cs, rfl, hB, hg, h1, fun i hi => by rw [h3 i hi, gI_get hi]⟩, hb⟩
theorem tagOf_8 {n : Nat} {x : In} {r : List Int} (h : x.op = 8) : tagOf n x r = putPl n x.a r := by unfold tagOf putPl; rw [if_pos h]
theorem tagOf_9 {n : Nat} {x : In} {r : List Int} (h : x.op = 9) : tagOf n x r = putPl n x.b r := by unfold tagOf putPl; rw [if_neg (by omega), if_pos h]
theorem tagOf_no {n : Nat} {x : In} {r : List Int} (h : ¬ x.op = 8) (h' : ¬ x.op = 9) : tagOf n x r = r := by unfold tagOf; rw [if_neg h, if_neg h']
theorem op89 (o : Int) : o = 8 ∨ o = 9 ∨ (¬ o = 8 ∧ ¬ o = 9) := by omega

set_option maxRecDepth 100000 in
set_option maxHeartbeats 8000000 in
theorem implTargets_c (u : Un) (A : Option Addr) (c L B : Nat) (w : World) (hB : B ≤ w.heap.size) (hsz : unSz u ≤ 1048576) (h : InL w L B A u.l) :
    Calls Try.prog 42 #[.agg #[.int .i64 u.params, .int .i64 u.regs, .slice A u.l.length c]] w (AnsI w (targU u)) := by
  obtain ⟨pm, rg, l⟩ := u
  dsimp only at *
  have hl : l.length ≤ 1048576 := by unfold unSz insSz at hsz; dsimp only at hsz; omega
  have hbr := blwC w (.cells #[.int .i64 pm, .int .i64 rg, .slice A l.length c] 71)
  have Hb := Lib.hid hbr
  by_cases hbn : ¬ l.length ≤ 300
  · have E := Lib.hid (show targU ⟨pm, rg, l⟩ = [] by unfold targU; rw [if_neg hbn])
    clear h hbr hsz
    go_enter Try.func42, Try.ntmps42
    go_wp2
    go_ret
    rw [E.out]
    exact AnsI.nil Hb.out
  have hbig : l.length ≤ 300 := by omega
  clear hbn
  have E := Lib.hid (show targU ⟨pm, rg, l⟩ = tagTo l l.length by rw [tagTo_fin]; unfold targU; rw [if_pos hbig])
  obtain ⟨W, hW⟩ : ∃ W, W = (w.alloc (.cells #[.int .i64 pm, .int .i64 rg, .slice A l.length c] 71)).alloc (.cells #[.slice none 0 0] 108) := ⟨_, rfl⟩
  have hbW : Below w.heap.size w W := by rw [hW]; exact hbr.alloc (by simp) _
  have hK : Blk W w.heap.size 71 #[.int .i64 pm, .int .i64 rg, .slice A l.length c] := by rw [hW]; exact (Blk.new w _ _).alloc _
  have hR : Blk W (w.heap.size + 1) 108 #[.slice none 0 0] := by
    rw [hW]
    have := Blk.new (w.alloc (.cells #[.int .i64 pm, .int .i64 rg, .slice A l.length c] 71)) 108 #[.slice none 0 0]
    rwa [World.size_alloc] at this
  have HW := Lib.hid hW
  have HbW := Lib.hid hbW
  have HK := Lib.hid hK
  have HR := Lib.hid hR
  have H := Lib.hid h
  clear h hbr hsz hW hbW hK hR Hb
  go_enter Try.func42, Try.ntmps42
  go_wp2_with fail
  rw [← HW.out]
  clear HW
  go_loopw [15] (fun i wr => ∃ (k : Nat) (v : Value), k ≤ l.length ∧ i = .int .i64 k ∧ Hid (SetV wr w.heap.size v (tagTo l k)) ∧ Hid (Blk wr (w.heap.size + 1) 108 #[v]) ∧ Hid (Blk wr w.heap.size 71 #[.int .i64 pm, .int .i64 rg, .slice A l.length c]) ∧ Hid (Below w.heap.size w wr)) (fun i _ => l.length - (intOf i).toNat)
  case atStart => exact ⟨0, _, Nat.zero_le _, rfl, Lib.hid (SetV.nil _ _), HR, HK, HbW⟩
  case round =>
    obtain ⟨k, v, hk, rfl, hset, hkR, hkU, hbw⟩ := hrel
    obtain ⟨SA, sc, rfl⟩ := hset.out.form
    have hln := tagTo_len l k hk
    by_cases hlt : k < l.length
    · obtain ⟨ad, rfl, _, hbk, hat⟩ := (H.out.below (hbw.out.mono hB)).2 (by omega)
      obtain ⟨x0, x1, x2, x3, x4, ⟨d0, d1, d2, d3, d4⟩, rfl, rfl, rfl, rfl, NA, nc, rfl, -, -⟩ := hat k hlt
      have Hnx := Lib.hid (tagTo_succ hlt)
      have Hso := Lib.hid (tagTo_sorted l k hk)
      have H8 := Lib.hid (fun r (h : l[k].op = 8) => tagOf_8 (n := l.length) (r := r) h)
      have H9 := Lib.hid (fun r (h : l[k].op = 9) => tagOf_9 (n := l.length) (r := r) h)
      have H0 := Lib.hid (fun r (h : ¬ l[k].op = 8) (h' : ¬ l[k].op = 9) => tagOf_no (n := l.length) (r := r) h h')
      obtain ⟨R, hR⟩ : ∃ r, r = tagTo l k := ⟨_, rfl⟩
      obtain ⟨o, ho⟩ : ∃ f, f = l[k].op := ⟨_, rfl⟩
      obtain ⟨ia, hia⟩ : ∃ f, f = l[k].a := ⟨_, rfl⟩
      obtain ⟨ib, hib⟩ : ∃ f, f = l[k].b := ⟨_, rfl⟩
      obtain ⟨ic, hic⟩ : ∃ f, f = l[k].c := ⟨_, rfl⟩
      obtain ⟨nl, hnl⟩ : ∃ f, f = l[k].name.length := ⟨_, rfl⟩
      rw [← hR] at Hnx Hso hset hkR hln
      rw [← ho] at d0 H8 H9 H0
      rw [← hia] at d1 H8
      rw [← hib] at d2 H9
      rw [← hic] at d3
      rw [← hnl] at d4
      clear hat hR ho hia hib hic hnl
      have hbx := blwC wr (.cells #[.int .i64 o, .int .i64 ia, .int .i64 ib, .int .i64 ic, .slice NA nl nc] 118)
      have Hbx := Lib.hid (hbw.out.trans (hbx.mono hbw.out.size))
      have hsx := hset.out.below hbx
      have Hsx := Lib.hid hsx
      have HRx := Lib.hid (hkR.out.below hbx hkR.out.lt)
      have HUx := Lib.hid (hkU.out.below hbx hkU.out.lt)
      have hpc := fun x => put_c ⟨pm, rg, l⟩ (some ad) c x R (.slice SA R.length sc) w.heap.size w.heap.size (w.heap.size + 1) (wr.alloc (.cells #[.int .i64 o, .int .i64 ia, .int .i64 ib, .int .i64 ic, .slice NA nl nc] 118)) hl (by omega) Hso.out hsx Hbx.out.size HUx.out HRx.out
      dsimp only at hpc
      have Hpc := Lib.hid hpc
      have Hfin : Hid (∀ w2 v', SetV w2 w.heap.size v' (tagTo l (k + 1)) → Blk w2 (w.heap.size + 1) 108 #[v'] → Apart (fun k => k = w.heap.size + 1 ∨ At (.slice SA R.length sc) k) (wr.alloc (.cells #[.int .i64 o, .int .i64 ia, .int .i64 ib, .int .i64 ic, .slice NA nl nc] 118)) w2 → Blk w2 w.heap.size 71 #[.int .i64 pm, .int .i64 rg, .slice (some ad) l.length c] ∧ Below w.heap.size w w2) := Lib.hid (fun w2 v' h1 h2 h3 => by
        refine ⟨HUx.out.apart h3 ?_, Hbx.out.trans (h3.below Hbx.out.size ?_)⟩
        · rintro (h | h)
          · omega
          · obtain ⟨_, _, cs', hb'⟩ := Hsx.out.at_lt h
            exact (HUx.out.ne_ hb' (by decide)) rfl
        · rintro j hj (h | h)
          · omega
          · have := (Hsx.out.at_lt h).1; omega)
      clear hpc hbx hsx hset hkR hkU hbw
      rcases op89 o with h8 | h9 | ⟨h8, h9⟩
      · subst h8
        have Hn := Lib.hid (Hnx.out.trans (H8.out _ rfl))
        clear H8 H9 H0 Hnx
        go_wp2_with fail
        refine (Hpc.out ia).mono ?_
        rintro e w2 ⟨⟨z, rfl⟩, v', hs2, hk2, ha2, -⟩
        rw [← Hn.out] at hs2
        have Hf := Lib.hid (Hfin.out w2 v' hs2 hk2 ha2)
        have Hs2 := Lib.hid hs2
        have Hk2 := Lib.hid hk2
        clear hs2 hk2 ha2 Hfin
        go_wp2
        go_roundw
        case rel => exact ⟨k + 1, v', by omega, by go_num, Hs2, Hk2, Lib.hid Hf.out.1, Lib.hid Hf.out.2⟩
        case measure => simp [intOf]; omega
      · subst h9
        have Hn := Lib.hid (Hnx.out.trans (H9.out _ rfl))
        clear H8 H9 H0 Hnx
        go_wp2_with fail
        refine (Hpc.out ib).mono ?_
        rintro e w2 ⟨⟨z, rfl⟩, v', hs2, hk2, ha2, -⟩
        rw [← Hn.out] at hs2
        have Hf := Lib.hid (Hfin.out w2 v' hs2 hk2 ha2)
        have Hs2 := Lib.hid hs2
        have Hk2 := Lib.hid hk2
        clear hs2 hk2 ha2 Hfin
        go_wp2
        go_roundw
        case rel => exact ⟨k + 1, v', by omega, by go_num, Hs2, Hk2, Lib.hid Hf.out.1, Lib.hid Hf.out.2⟩
        case measure => simp [intOf]; omega
      · have Hn := Lib.hid (Hnx.out.trans (H0.out _ h8 h9))
        have e8 : decide (o = 8) = false := decide_eq_false h8
        have e9 : decide (o = 9) = false := decide_eq_false h9
        clear H8 H9 H0 Hnx Hpc Hfin
        go_wp2
        go_roundw
        case rel => exact ⟨k + 1, _, by omega, by go_num, by rw [Hn.out]; exact Hsx, HRx, HUx, Hbx⟩
        case measure => simp [intOf]; omega
    · obtain rfl : k = l.length := by omega
      have q0 := hkR.out.cel 0 (v := .slice SA (tagTo l l.length).length sc) rfl
      have Ha := Lib.hid (setAns hset.out hbw.out)
      have E2 := Lib.hid E.out
      obtain ⟨R, hR⟩ : ∃ r, r = tagTo l l.length := ⟨_, rfl⟩
      rw [← hR] at Ha q0
      have HR2 := Lib.hid hR
      clear hset hkR hkU hbw hR hln
      go_wp2
      go_ret
      rw [E2.out, ← HR2.out]
      exact Ha.out
end Go.Proofs.Ytmjpcgainoflbaa
