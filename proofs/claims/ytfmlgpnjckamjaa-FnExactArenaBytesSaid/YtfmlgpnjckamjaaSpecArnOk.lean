/-
  The model's ArenaOk.
-/
import Derived.Test.YtfmlgpnjckamjaaMroom
namespace Go.Proofs.Ytfmlgpnjckamjaa
open Go.RowKit
set_option linter.unusedVariables false
set_option linter.unusedSimpArgs false

theorem arOk_no {S : List Sl} {Q P : List Int} (h : ¬ (1 ≤ S.length ∧ S.length ≤ 16 ∧ Q.length ≤ 500 ∧ P.length ≤ 16)) : arOk ⟨S, Q, P⟩ = false := by
  unfold arOk
  by_cases a : 1 ≤ S.length
  · by_cases b : S.length ≤ 16
    · by_cases c : Q.length ≤ 500
      · have d : ¬ P.length ≤ 16 := fun d => h ⟨a, b, c, d⟩
        simp [d]
      · simp [c]
    · simp [b]
  · simp [a]
theorem arOk_q {S : List Sl} {Q P : List Int} (h : inAll Q S.length = false) : arOk ⟨S, Q, P⟩ = false := by unfold arOk; simp [h]
theorem arOk_p {S : List Sl} {Q P : List Int} (h : inAll P S.length = false) : arOk ⟨S, Q, P⟩ = false := by unfold arOk; simp [h]
theorem arOk_slot {S : List Sl} {Q P : List Int} {k : Nat} (hk : k < S.length) (h : slOk S S[k] = false) : arOk ⟨S, Q, P⟩ = false := by
  unfold arOk
  have := all_not hk h
  simp only [this, Bool.and_false, Bool.false_and]
theorem arOk_queue {S : List Sl} {Q P : List Int} {k : Nat} (hk : k < Q.length) (h : liveAt S Q[k] = false) : arOk ⟨S, Q, P⟩ = false := by
  unfold arOk
  have := all_not hk h
  simp only [this, Bool.and_false, Bool.false_and]
theorem arOk_purple {S : List Sl} {Q P : List Int} {k : Nat} (hk : k < P.length) (h : purAt S P k = false) : arOk ⟨S, Q, P⟩ = false := by
  unfold arOk
  have := range_not hk h
  simp only [this, Bool.and_false]
theorem arOk_yes {S : List Sl} {Q P : List Int} (h : 1 ≤ S.length ∧ S.length ≤ 16 ∧ Q.length ≤ 500 ∧ P.length ≤ 16) (h1 : inAll Q S.length = true) (h2 : inAll P S.length = true)
    (h3 : S.all (slOk S) = true) (h4 : Q.all (liveAt S) = true) (h5 : (List.range P.length).all (purAt S P) = true) : arOk ⟨S, Q, P⟩ = true := by
  unfold arOk
  simp [h, h1, h2, h3, h4, h5]
theorem name_len {S : List Sl} {k j : Nat} (hk : k < S.length) (hj : j < S[k].fs.length) : S[k].fs[j].name.length ≤ slsSz S := by
  have h1 := sum_get slSz hk
  have h2 := sum_get fdSz hj
  unfold slsSz
  have h3 : slSz S[k] = S[k].fs.length + (S[k].fs.map fdSz).sum := rfl
  have h4 : fdSz S[k].fs[j] = S[k].fs[j].name.length := rfl
  omega
theorem slBd_no (S : List Sl) {s : Sl} (h : slBd s = false) : slOk S s = false := by unfold slOk; rw [h]; rfl
theorem slOk_field {S : List Sl} {s : Sl} {j : Nat} (hj : j < s.fs.length) (h : fdAt S s.fs j = false) : slOk S s = false := by
  unfold slOk fdsOk
  rw [range_not hj h, Bool.and_false]

set_option maxRecDepth 100000 in
set_option maxHeartbeats 16000000 in
theorem specArenaOk_c (S : List Sl) (Q P : List Int) (A0 A1 A2 : Option Addr) (c0 c1 c2 L B : Nat) (w : World) (hB : B ≤ w.heap.size) (hsz : slsSz S ≤ 1050000) (hcap : P.length ≤ c2) (h0 : SlL w L B A0 S) (h1 : IL w L B A1 Q) (h2 : IL w L B A2 P) :
    Calls Try.prog 34 #[.agg #[.slice A0 S.length c0, .slice A1 Q.length c1, .slice A2 P.length c2]] w fun e w' => e = .returned (.bool (arOk ⟨S, Q, P⟩)) ∧ Below w.heap.size w w' := by
  have hm0 := h0.1
  have hm1 := h1.1
  have hm2 := h2.1
  unfold maxLen at hm0 hm1 hm2
  have hbx := blw1 w (.cells #[.slice A0 S.length c0, .slice A1 Q.length c1, .slice A2 P.length c2] 32)
  have KB0 := Blk.new w 32 #[.slice A0 S.length c0, .slice A1 Q.length c1, .slice A2 P.length c2]
  by_cases g : (S.length : Int) < 1
  · have e : arOk ⟨S, Q, P⟩ = false := arOk_no (by omega)
    clear hm0 hm1 hm2 h0 h1 h2 hbx KB0
    go_enter Try.func34, Try.ntmps34
    go_wp2
    go_ret
    exact ⟨by rw [e]; rfl, blw1 _ _⟩
  have b1 : 1 ≤ (S.length : Int) := by omega
  clear g
  by_cases g : 16 < (S.length : Int)
  · have e : arOk ⟨S, Q, P⟩ = false := arOk_no (by omega)
    clear hm0 hm1 hm2 h0 h1 h2 hbx KB0
    go_enter Try.func34, Try.ntmps34
    go_wp2
    go_ret
    exact ⟨by rw [e]; rfl, blw1 _ _⟩
  have b2 : (S.length : Int) ≤ 16 := by omega
  clear g
  by_cases g : 500 < (Q.length : Int)
  · have e : arOk ⟨S, Q, P⟩ = false := arOk_no (by omega)
    clear hm0 hm1 hm2 h0 h1 h2 hbx KB0
    go_enter Try.func34, Try.ntmps34
    go_wp2
    go_ret
    exact ⟨by rw [e]; rfl, blw1 _ _⟩
  have b3 : (Q.length : Int) ≤ 500 := by omega
  clear g
  by_cases g : 16 < (P.length : Int)
  · have e : arOk ⟨S, Q, P⟩ = false := arOk_no (by omega)
    clear hm0 hm1 hm2 h0 h1 h2 hbx KB0
    go_enter Try.func34, Try.ntmps34
    go_wp2
    go_ret
    exact ⟨by rw [e]; rfl, blw1 _ _⟩
  have b4 : (P.length : Int) ≤ 16 := by omega
  clear g
  have hq := l4list_c Q A1 c1 L B S.length _ (h1.below (hbx.mono hB))
  have hp := l4list_c P A2 c2 L B S.length _ (h2.below (hbx.mono hB))
  cases hqa : inAll Q S.length
  · have e : arOk ⟨S, Q, P⟩ = false := arOk_q hqa
    rw [hqa] at hq
    have Hq := Lib.hid hq
    have Hp := Lib.hid hp
    clear hq hp h0 h1 h2 hbx KB0 hqa
    go_enter Try.func34, Try.ntmps34
    go_wp2_with (first
      | (go_at_call_of 67 (Value.slice A1 Q.length c1); refine Hq.out.mono ?_; rintro e w' ⟨rfl, rfl⟩)
      | (go_at_call_of 67 (Value.slice A2 P.length c2); refine Hp.out.mono ?_; rintro e w' ⟨rfl, rfl⟩))
    go_ret
    exact ⟨by rw [e]; rfl, blw1 _ _⟩
  rw [hqa] at hq
  have Hq := Lib.hid hq
  have Hqa := Lib.hid hqa
  clear hq hqa
  cases hpa : inAll P S.length
  · have e : arOk ⟨S, Q, P⟩ = false := arOk_p hpa
    rw [hpa] at hp
    have Hp := Lib.hid hp
    clear hp h0 h1 h2 hbx KB0 hpa
    go_enter Try.func34, Try.ntmps34
    go_wp2_with (first
      | (go_at_call_of 67 (Value.slice A1 Q.length c1); refine Hq.out.mono ?_; rintro e w' ⟨rfl, rfl⟩)
      | (go_at_call_of 67 (Value.slice A2 P.length c2); refine Hp.out.mono ?_; rintro e w' ⟨rfl, rfl⟩))
    go_ret
    exact ⟨by rw [e]; rfl, blw1 _ _⟩
  rw [hpa] at hp
  have Hp := Lib.hid hp
  have Hpa := Lib.hid hpa
  have H0 := Lib.hid h0
  have H1 := Lib.hid h1
  have H2 := Lib.hid h2
  have Hb := Lib.hid (show 1 ≤ S.length ∧ S.length ≤ 16 ∧ Q.length ≤ 500 ∧ P.length ≤ 16 from by omega)
  have Hbx := Lib.hid hbx
  have KB1 := Lib.hid KB0
  clear hp hpa h0 h1 h2 hbx KB0
  go_enter Try.func34, Try.ntmps34
  go_wp2_with (first
    | (go_at_call_of 67 (Value.slice A1 Q.length c1); refine Hq.out.mono ?_; rintro e w' ⟨rfl, rfl⟩)
    | (go_at_call_of 67 (Value.slice A2 P.length c2); refine Hp.out.mono ?_; rintro e w' ⟨rfl, rfl⟩))
  clear Hq Hp
  generalize hW : w.alloc (.cells #[.slice A0 S.length c0, .slice A1 Q.length c1, .slice A2 P.length c2] 32) = W
  have hbW : Below w.heap.size w W := by rw [← hW]; exact Hbx.out
  have KW : Blk W w.heap.size 32 #[.slice A0 S.length c0, .slice A1 Q.length c1, .slice A2 P.length c2] := by rw [← hW]; exact KB1.out
  clear hW Hbx KB1
  go_loopw [3] (fun i wr => ∃ k : Nat, k ≤ S.length ∧ i = .int .i64 k ∧ (S.take k).all (slOk S) = true ∧ Below w.heap.size w wr ∧ Blk wr w.heap.size 32 #[.slice A0 S.length c0, .slice A1 Q.length c1, .slice A2 P.length c2]) (fun i _ => S.length - (intOf i).toNat)
  case atStart => exact ⟨0, Nat.zero_le _, rfl, by simp, hbW, KW⟩
  case round =>
    obtain ⟨wo, hwo⟩ : ∃ x, x = wr := ⟨_, rfl⟩
    subst hwo
    obtain ⟨k, hk, rfl, hall, hbl, KP⟩ := hrel
    have Hall := Lib.hid hall
    clear hall hbW KW
    have p0 := KP.cel 0 (v := .slice A0 S.length c0) rfl
    by_cases hlt : k < S.length
    · obtain ⟨ad, rfl, _, hbk, hat⟩ := H0.out.2 (by omega)
      obtain ⟨x0, x1, x2, x3, hc4w, hx0, hx1, hx2, FA, fc, hx3, hF⟩ := hat k hlt
      obtain ⟨⟨lv, gn, ct, fs⟩, hs⟩ : ∃ s, s = S[k] := ⟨_, rfl⟩
      rw [← hs] at hx0 hx1 hx2 hx3 hF
      dsimp only at hx0 hx1 hx2 hx3 hF
      subst hx0 hx1 hx2 hx3
      have Hs := Lib.hid hs
      have hbs : Below w.heap.size w (wo.alloc (.cells #[.bool lv, .int .i64 gn, .int .i64 ct, .slice FA fs.length fc] 90)) := hbl.alloc hbl.size _
      have KS := Blk.new wo 90 #[.bool lv, .int .i64 gn, .int .i64 ct, .slice FA fs.length fc]
      have KP' := KP.alloc (.cells #[.bool lv, .int .i64 gn, .int .i64 ct, .slice FA fs.length fc] 90)
      have HF := Lib.hid hF
      have Hbs := Lib.hid hbs
      have HS := Lib.hid KS
      have HP := Lib.hid KP'
      have Hbl := Lib.hid hbl
      have hwr := hbl.size
      obtain ⟨d0, d1, d2, d3⟩ := hc4w.keep (w' := wo) (fun q hq => Hbl.out.cell (by rw [hq, block_of_add]; omega))
      clear hc4w
      have hfm := hF.1
      unfold maxLen at hfm
      clear hat hs hF hbs KS KP' hbl hm0 hm1 hm2
      by_cases g : gn < 0
      · have e : arOk ⟨S, Q, P⟩ = false := arOk_slot hlt (slBd_no S (by rw [← Hs.out]; simp [slBd, show ¬ (0 ≤ gn) by omega]))
        have hbs := Hbs.out
        clear Hs HF Hbs HS HP Hbl H0 H1 H2 Hall Hb Hqa Hpa b1 b2 b3 b4
        go_wp2
        go_ret
        exact ⟨by rw [e]; rfl, hbs⟩
      have e1 : 0 ≤ gn := by omega
      clear g
      by_cases g : 1000000 < gn
      · have e : arOk ⟨S, Q, P⟩ = false := arOk_slot hlt (slBd_no S (by rw [← Hs.out]; simp [slBd, show ¬ (gn ≤ 1000000) by omega]))
        have hbs := Hbs.out
        clear Hs HF Hbs HS HP Hbl H0 H1 H2 Hall Hb Hqa Hpa b1 b2 b3 b4
        go_wp2
        go_ret
        exact ⟨by rw [e]; rfl, hbs⟩
      have e2 : gn ≤ 1000000 := by omega
      clear g
      by_cases g : ct < 0
      · have e : arOk ⟨S, Q, P⟩ = false := arOk_slot hlt (slBd_no S (by rw [← Hs.out]; simp [slBd, show ¬ (0 ≤ ct) by omega]))
        have hbs := Hbs.out
        clear Hs HF Hbs HS HP Hbl H0 H1 H2 Hall Hb Hqa Hpa b1 b2 b3 b4
        go_wp2
        go_ret
        exact ⟨by rw [e]; rfl, hbs⟩
      have e3 : 0 ≤ ct := by omega
      clear g
      by_cases g : 1000000 < ct
      · have e : arOk ⟨S, Q, P⟩ = false := arOk_slot hlt (slBd_no S (by rw [← Hs.out]; simp [slBd, show ¬ (ct ≤ 1000000) by omega]))
        have hbs := Hbs.out
        clear Hs HF Hbs HS HP Hbl H0 H1 H2 Hall Hb Hqa Hpa b1 b2 b3 b4
        go_wp2
        go_ret
        exact ⟨by rw [e]; rfl, hbs⟩
      have e4 : ct ≤ 1000000 := by omega
      clear g
      cases lv
      · by_cases g : ¬ ct = 0
        · have e : arOk ⟨S, Q, P⟩ = false := arOk_slot hlt (slBd_no S (by rw [← Hs.out]; simp [slBd, g]))
          have g' : (ct == 0) = false := by simpa using g
          have hbs := Hbs.out
          clear Hs HF Hbs HS HP Hbl H0 H1 H2 Hall Hb Hqa Hpa b1 b2 b3 b4
          go_wp2
          go_ret
          exact ⟨by rw [e]; rfl, hbs⟩
        have g := Decidable.not_not.1 g
        subst g
        by_cases g : 0 < (fs.length : Int)
        · have e : arOk ⟨S, Q, P⟩ = false := arOk_slot hlt (slBd_no S (by rw [← Hs.out]; have hne : fs ≠ [] := (by rintro rfl; simp at g); simp [slBd, hne]))
          have hne : ¬ fs = [] := (by rintro rfl; simp at g)
          have hbs := Hbs.out
          clear Hs HF Hbs HS HP Hbl H0 H1 H2 Hall Hb Hqa Hpa b1 b2 b3 b4
          go_wp2
          go_ret
          exact ⟨by first | rfl | (rw [e]; rfl) | simp [e], hbs⟩
        have hnil : fs = [] := by apply List.eq_nil_of_length_eq_zero; omega
        subst hnil
        have hok : slOk S S[k] = true := by rw [← Hs.out]; simp [slOk, slBd, fdsOk, e1, e2]
        have Hok := Lib.hid hok
        clear g hok HF
        go_wp2
        generalize hW2 : wo.alloc (.cells #[.bool false, .int .i64 gn, .int .i64 0, .slice FA (List.length ([] : List Fd)) fc] 90) = W2
        have hbW2 : Below w.heap.size w W2 := by rw [← hW2]; exact Hbs.out
        have KW2 : Blk W2 w.heap.size 32 #[.slice (some ad) S.length c0, .slice A1 Q.length c1, .slice A2 P.length c2] := by rw [← hW2]; exact HP.out
        have KS2 : Blk W2 wo.heap.size 90 #[.bool false, .int .i64 gn, .int .i64 0, .slice FA 0 fc] := by rw [← hW2]; exact HS.out
        clear hW2 Hbs HP HS d0 d1 d2 d3 p0 KP
        go_loopw [5] (fun i wr => i = .int .i64 0 ∧ Below w.heap.size w wr ∧ Blk wr w.heap.size 32 #[.slice (some ad) S.length c0, .slice A1 Q.length c1, .slice A2 P.length c2] ∧ Blk wr wo.heap.size 90 #[.bool false, .int .i64 gn, .int .i64 0, .slice FA 0 fc]) (fun i _ => 0)
        case atStart => exact ⟨rfl, hbW2, KW2, KS2⟩
        case round =>
          obtain ⟨rfl, hbi, KPi, KSi⟩ := hrel
          have q3 := KSi.cel 3 (v := .slice FA 0 fc) rfl
          go_wp2
          go_roundw
          case rel => exact ⟨k + 1, by omega, by go_num, all_next Hall.out hlt Hok.out, hbi, KPi⟩
          case measure => simp [intOf]; omega
      · by_cases g : gn = 0
        · subst g
          have e : arOk ⟨S, Q, P⟩ = false := arOk_slot hlt (slBd_no S (by rw [← Hs.out]; simp [slBd]))
          have hbs := Hbs.out
          clear Hs HF Hbs HS HP Hbl H0 H1 H2 Hall Hb Hqa Hpa b1 b2 b3 b4
          go_wp2
          go_ret
          exact ⟨by rw [e]; rfl, hbs⟩
        have g1 : (gn == 0) = false := by simpa using g
        by_cases g' : ct = 0
        · subst g'
          have e : arOk ⟨S, Q, P⟩ = false := arOk_slot hlt (slBd_no S (by rw [← Hs.out]; simp [slBd]))
          have hbs := Hbs.out
          clear Hs HF Hbs HS HP Hbl H0 H1 H2 Hall Hb Hqa Hpa b1 b2 b3 b4
          go_wp2
          go_ret
          exact ⟨by rw [e]; rfl, hbs⟩
        have g2 : (ct == 0) = false := by simpa using g'
        have hbd : slBd S[k] = true := by rw [← Hs.out]; simp [slBd, e1, e2, e3, e4, g, g']
        have Hbd := Lib.hid hbd
        clear hbd
        go_wp2
        generalize hW2 : wo.alloc (.cells #[.bool true, .int .i64 gn, .int .i64 ct, .slice FA fs.length fc] 90) = W2
        have hbW2 : Below w.heap.size w W2 := by rw [← hW2]; exact Hbs.out
        have KW2 : Blk W2 w.heap.size 32 #[.slice (some ad) S.length c0, .slice A1 Q.length c1, .slice A2 P.length c2] := by rw [← hW2]; exact HP.out
        have KS2 : Blk W2 wo.heap.size 90 #[.bool true, .int .i64 gn, .int .i64 ct, .slice FA fs.length fc] := by rw [← hW2]; exact HS.out
        have hsz2 : wo.heap.size < W2.heap.size := KS2.lt
        clear hW2 Hbs HP HS d0 d1 d2 d3 p0 KP g g' g1 g2 e1 e2 e3 e4
        go_loopw [5] (fun i wr => ∃ j : Nat, j ≤ fs.length ∧ i = .int .i64 j ∧ (List.range j).all (fdAt S fs) = true ∧ Below w.heap.size w wr ∧ Blk wr w.heap.size 32 #[.slice (some ad) S.length c0, .slice A1 Q.length c1, .slice A2 P.length c2] ∧ Blk wr wo.heap.size 90 #[.bool true, .int .i64 gn, .int .i64 ct, .slice FA fs.length fc]) (fun i _ => fs.length - (intOf i).toNat)
        case atStart => exact ⟨0, Nat.zero_le _, rfl, rfl, hbW2, KW2, KS2⟩
        case round =>
          obtain ⟨j, hj, rfl, hfa, hbi, KPi, KSi⟩ := hrel
          have Hfa := Lib.hid hfa
          clear hfa hbW2 KW2 KS2 hsz2
          by_cases hjl : j < fs.length
          · obtain ⟨fd, rfl, _, hfb, hfat⟩ := HF.out.2 (by omega)
            obtain ⟨y0, y1, y2, y3, hy4, NA, nc, rfl, hN, hnm, rfl, rfl, rfl⟩ := hfat j hjl
            obtain ⟨⟨nm, fk, fn, fg⟩, hf⟩ : ∃ f, f = fs[j] := ⟨_, rfl⟩
            rw [← hf] at hy4 hN hnm
            dsimp only at hy4 hN hnm
            have Hf := Lib.hid hf
            have hnm : nm.length ≤ 4294967296 := by have := name_len hlt (j := j) (by rw [← Hs.out]; exact hjl); simp only [← Hs.out, ← Hf.out] at this; omega
            have hlow : ∀ W, Below wr.heap.size wr W → Below w.heap.size w W := fun W hW => hbi.trans (hW.mono hbi.size)
            have hss : ∀ W, Below wr.heap.size wr W → (W.cell? ⟨wo.heap.size, 3, none⟩ = some (.slice (some fd) fs.length fc) ∧ W.cell? ⟨w.heap.size, 0, none⟩ = some (.slice (some ad) S.length c0) ∧ W.cell? ⟨w.heap.size, 1, none⟩ = some (.slice A1 Q.length c1) ∧ W.cell? ⟨w.heap.size, 2, none⟩ = some (.slice A2 P.length c2) ∧ W.cell? (fd.add (j * 4)) = some (.slice NA nm.length nc) ∧ W.cell? ⟨(fd.add (j * 4)).block, (fd.add (j * 4)).off + 1, none⟩ = some (.int .i64 fk) ∧ W.cell? ⟨(fd.add (j * 4)).block, (fd.add (j * 4)).off + 2, none⟩ = some (.int .i64 fn) ∧ W.cell? ⟨(fd.add (j * 4)).block, (fd.add (j * 4)).off + 3, none⟩ = some (.int .i64 fg)) := fun W hW => by
              obtain ⟨f0, f1, f2, f3⟩ := hy4.keep (w' := W) fun q hq => (hlow W hW).cell (by rw [hq, block_of_add]; omega)
              exact ⟨(KSi.below hW KSi.lt).cel 3 rfl, (KPi.below hW KPi.lt).cel 0 rfl, (KPi.below hW KPi.lt).cel 1 rfl, (KPi.below hW KPi.lt).cel 2 rfl, f0, f1, f2, f3⟩
            have hwo : ∀ W, Below wr.heap.size wr W → Calls Try.prog 57 #[.slice NA nm.length nc] W fun e w' => e = .returned (.bool (wordOk nm)) ∧ Below wr.heap.size wr w' := fun W hW => by
              refine (specWordOk_c nm NA nc B W hnm (hN.1.below ((hlow W hW).mono hB))).mono ?_
              rintro e w' ⟨rfl, rfl⟩
              exact ⟨rfl, hW⟩
            have hvl : ∀ W, Below wr.heap.size wr W → Calls Try.prog 44 #[.agg #[.slice (some ad) S.length c0, .slice A1 Q.length c1, .slice A2 P.length c2], .agg #[.int .i64 fk, .int .i64 fn, .int .i64 fg]] W fun e w' => e = .returned (.bool (valOk S fk fn fg)) ∧ Below wr.heap.size wr w' := fun W hW => by
              refine (l4val_c S (some ad) c0 L B (.slice A1 Q.length c1) (.slice A2 P.length c2) fk fn fg rfl rfl W (Nat.le_trans hB (hlow W hW).size) (H0.out.below ((hlow W hW).mono hB))).mono ?_
              rintro e w' ⟨rfl, hb⟩
              exact ⟨rfl, hW.trans (hb.mono hW.size)⟩
            have HSS := Lib.hid hss
            have Hwo := Lib.hid hwo
            have Hvl := Lib.hid hvl
            have HL := Lib.hid hlow
            have HKP := Lib.hid (fun W (hW : Below wr.heap.size wr W) => KPi.below hW KPi.lt)
            have HKS := Lib.hid (fun W (hW : Below wr.heap.size wr W) => KSi.below hW KSi.lt)
            have Hhat := Lib.hid hfat
            have HN1 := Lib.hid (fun W (hW : Below wr.heap.size wr W) => hN.1.below ((hlow W hW).mono hB))
            obtain ⟨k0, k1, k2, k3, f0, f1, f2, f3⟩ := hss wr (Below.refl _ _)
            clear hss hfat hf hlow hwo hvl hN hbi KPi KSi hy4
            cases hw : wordOk nm
            · have e : arOk ⟨S, Q, P⟩ = false := arOk_slot hlt (slOk_field (by rw [← Hs.out]; exact hjl) (fdAt_word (by rw [← Hs.out]; exact hjl) (by simp only [← Hs.out, ← Hf.out, hw])))
              have Hwq := Lib.hid (fun (m : Nat) => specWordOk_c nm NA nc B (wr.drewN m) hnm (HN1.out _ (blw_drewN (Below.refl _ _) m)))
              rw [hw] at Hwq
              clear hw Hvl Hwo
              have Ht := Lib.hid (show ∀ x, Calls Try.prog 57 #[.slice NA nm.length nc] (wr.drewN x) fun e w'' => e = .returned (.bool false) ∧ ∃ n, w'' = wr.drewN n from fun x => by
                refine Calls.quiet_of_same ((Hwq.out _).mono ?_)
                rintro e w' ⟨rfl, rfl⟩
                exact ⟨rfl, rfl⟩)
              clear Hwq
              go_wp2_with fail
              go_quiet ((go_at_call 57; exact Ht.out _))
              go_wp2
              go_ret
              exact ⟨by rw [e]; rfl, HL.out _ (blw_drewN (Below.refl _ _) _)⟩
            rw [hw] at Hwo
            have Hw := Lib.hid hw
            clear hw
            cases hv : valOk S fk fn fg
            · have e : arOk ⟨S, Q, P⟩ = false := arOk_slot hlt (slOk_field (by rw [← Hs.out]; exact hjl) (fdAt_val (by rw [← Hs.out]; exact hjl) (by simp only [← Hs.out, ← Hf.out, hv])))
              rw [hv] at Hvl
              clear hv
              go_wp2_with fail
              clear k0 k1 k2 k3 f0 f1 f2 f3
              refine wp_region_noPanic ?_
              refine wp_region_held_drew (S := (fun W => Below wr.heap.size wr W)) (by kernel_rfl) ?_ (fun hHeld => ?_)
              · exact (Below.refl _ _).drew
              refine wpAnyH_take (i := 0) (oi := _) (v := ?_) rfl (by kernel_rfl) (by kernel_rfl) (by kernel_rfl) (fun _ _ _ h => h) (Or.inl ⟨by rfl, ?_⟩) (by assumption) ?_
              rotate_left
              focus
                intro w hSw
                try dsimp only at hSw
                go_simp
                try with_reducible rfl
              try simp only [List.getElem_toArray, List.getElem_cons_succ, List.getElem_cons_zero, Act.put, List.setIfInBounds_toArray, List.set_cons_zero, List.set_cons_succ]
              refine wpAnyH_take (i := 1) (oi := _) (v := ?_) rfl (by kernel_rfl) (by kernel_rfl) (by kernel_rfl) (fun _ _ _ h => h) (Or.inl ⟨by rfl, ?_⟩) (by assumption) ?_
              rotate_left
              focus
                intro w hSw
                obtain ⟨s3, s0, s1, s2, f0, f1, f2, f3⟩ := HSS.out w hSw
                go_simp
                try with_reducible rfl
              try simp only [List.getElem_toArray, List.getElem_cons_succ, List.getElem_cons_zero, Act.put, List.setIfInBounds_toArray, List.set_cons_zero, List.set_cons_succ]
              refine wpAnyH_take (i := 2) (oi := _) (v := ?_) rfl (by kernel_rfl) (by kernel_rfl) (by kernel_rfl) (fun _ _ _ h => h) (Or.inl ⟨by rfl, ?_⟩) (by assumption) ?_
              rotate_left
              focus
                intro w hSw
                try dsimp only at hSw
                go_simp
                try with_reducible rfl
              try simp only [List.getElem_toArray, List.getElem_cons_succ, List.getElem_cons_zero, Act.put, List.setIfInBounds_toArray, List.set_cons_zero, List.set_cons_succ]
              refine wpAnyH_take (i := 3) (oi := _) (v := ?_) rfl (by kernel_rfl) (by kernel_rfl) (by kernel_rfl) (fun _ _ _ h => h) (Or.inl ⟨by rfl, ?_⟩) (by assumption) ?_
              rotate_left
              focus
                intro w hSw
                try dsimp only at hSw
                go_simp
                try with_reducible rfl
              try simp only [List.getElem_toArray, List.getElem_cons_succ, List.getElem_cons_zero, Act.put, List.setIfInBounds_toArray, List.set_cons_zero, List.set_cons_succ]
              refine wpAnyH_take (i := 4) (oi := _) (v := ?_) rfl (by kernel_rfl) (by kernel_rfl) (by kernel_rfl) (fun _ _ _ h => h) (Or.inl ⟨by rfl, ?_⟩) (by assumption) ?_
              rotate_left
              focus
                intro w hSw
                try dsimp only at hSw
                go_simp
                try with_reducible rfl
              try simp only [List.getElem_toArray, List.getElem_cons_succ, List.getElem_cons_zero, Act.put, List.setIfInBounds_toArray, List.set_cons_zero, List.set_cons_succ]
              refine wpAnyH_take (i := 5) (oi := _) (v := ?_) rfl (by kernel_rfl) (by kernel_rfl) (by kernel_rfl) (fun _ _ _ h => h) (Or.inl ⟨by rfl, ?_⟩) (by assumption) ?_
              rotate_left
              focus
                intro w hSw
                obtain ⟨s3, s0, s1, s2, f0, f1, f2, f3⟩ := HSS.out w hSw
                go_simp
                try with_reducible rfl
              try simp only [List.getElem_toArray, List.getElem_cons_succ, List.getElem_cons_zero, Act.put, List.setIfInBounds_toArray, List.set_cons_zero, List.set_cons_succ]
              refine wpAnyH_ready (rs := [6]) (by kernel_rfl) (by simp) ?_
              refine AllReadyH.cons (o := _) rfl (fun K hK => ?_) ?_
              · go_simp
                refine (Hwo.out _ (by assumption)).mono ?_
                rintro e w1 ⟨rfl, hS1⟩
                refine hK.out _ _ ?_ (fun hHeld => ?_)
                · ((try dsimp only); with_reducible assumption)
                · clear hK K
                  try simp only [List.getElem_toArray, List.getElem_cons_succ, List.getElem_cons_zero, Act.put, List.setIfInBounds_toArray, List.set_cons_zero, List.set_cons_succ]
                  refine wpAnyH_take (i := 7) (oi := _) (v := ?_) rfl (by kernel_rfl) (by kernel_rfl) (by kernel_rfl) (fun _ _ _ h => h) (Or.inl ⟨by rfl, ?_⟩) (by assumption) ?_
                  rotate_left
                  focus
                    intro w hSw
                    try dsimp only at hSw
                    go_simp
                    try with_reducible rfl
                  try simp only [List.getElem_toArray, List.getElem_cons_succ, List.getElem_cons_zero, Act.put, List.setIfInBounds_toArray, List.set_cons_zero, List.set_cons_succ]
                  refine wpAnyH_take (i := 8) (oi := _) (v := ?_) rfl (by kernel_rfl) (by kernel_rfl) (by kernel_rfl) (fun _ _ _ h => h) (Or.inl ⟨by rfl, ?_⟩) (by assumption) ?_
                  rotate_left
                  focus
                    intro w hSw
                    try dsimp only at hSw
                    go_simp
                    try with_reducible rfl
                  try simp only [List.getElem_toArray, List.getElem_cons_succ, List.getElem_cons_zero, Act.put, List.setIfInBounds_toArray, List.set_cons_zero, List.set_cons_succ]
                  refine wpAnyH_take (i := 9) (oi := _) (v := ?_) rfl (by kernel_rfl) (by kernel_rfl) (by kernel_rfl) (fun _ _ _ h => h) (Or.inl ⟨by rfl, ?_⟩) (by assumption) ?_
                  rotate_left
                  focus
                    intro w hSw
                    obtain ⟨s3, s0, s1, s2, f0, f1, f2, f3⟩ := HSS.out w hSw
                    go_simp
                    try with_reducible rfl
                  try simp only [List.getElem_toArray, List.getElem_cons_succ, List.getElem_cons_zero, Act.put, List.setIfInBounds_toArray, List.set_cons_zero, List.set_cons_succ]
                  refine wpAnyH_take (i := 10) (oi := _) (v := ?_) rfl (by kernel_rfl) (by kernel_rfl) (by kernel_rfl) (fun _ _ _ h => h) (Or.inl ⟨by rfl, ?_⟩) (by assumption) ?_
                  rotate_left
                  focus
                    intro w hSw
                    try dsimp only at hSw
                    go_simp
                    try with_reducible rfl
                  try simp only [List.getElem_toArray, List.getElem_cons_succ, List.getElem_cons_zero, Act.put, List.setIfInBounds_toArray, List.set_cons_zero, List.set_cons_succ]
                  refine wpAnyH_take (i := 11) (oi := _) (v := ?_) rfl (by kernel_rfl) (by kernel_rfl) (by kernel_rfl) (fun _ _ _ h => h) (Or.inl ⟨by rfl, ?_⟩) (by assumption) ?_
                  rotate_left
                  focus
                    intro w hSw
                    obtain ⟨s3, s0, s1, s2, f0, f1, f2, f3⟩ := HSS.out w hSw
                    go_simp
                    try with_reducible rfl
                  try simp only [List.getElem_toArray, List.getElem_cons_succ, List.getElem_cons_zero, Act.put, List.setIfInBounds_toArray, List.set_cons_zero, List.set_cons_succ]
                  refine wpAnyH_take (i := 12) (oi := _) (v := ?_) rfl (by kernel_rfl) (by kernel_rfl) (by kernel_rfl) (fun _ _ _ h => h) (Or.inl ⟨by rfl, ?_⟩) (by assumption) ?_
                  rotate_left
                  focus
                    intro w hSw
                    try dsimp only at hSw
                    go_simp
                    try with_reducible rfl
                  try simp only [List.getElem_toArray, List.getElem_cons_succ, List.getElem_cons_zero, Act.put, List.setIfInBounds_toArray, List.set_cons_zero, List.set_cons_succ]
                  refine wpAnyH_take (i := 13) (oi := _) (v := ?_) rfl (by kernel_rfl) (by kernel_rfl) (by kernel_rfl) (fun _ _ _ h => h) (Or.inl ⟨by rfl, ?_⟩) (by assumption) ?_
                  rotate_left
                  focus
                    intro w hSw
                    try dsimp only at hSw
                    go_simp
                    try with_reducible rfl
                  try simp only [List.getElem_toArray, List.getElem_cons_succ, List.getElem_cons_zero, Act.put, List.setIfInBounds_toArray, List.set_cons_zero, List.set_cons_succ]
                  refine wpAnyH_take (i := 14) (oi := _) (v := ?_) rfl (by kernel_rfl) (by kernel_rfl) (by kernel_rfl) (fun _ _ _ h => h) (Or.inl ⟨by rfl, ?_⟩) (by assumption) ?_
                  rotate_left
                  focus
                    intro w hSw
                    try dsimp only at hSw
                    go_simp
                    try with_reducible rfl
                  try simp only [List.getElem_toArray, List.getElem_cons_succ, List.getElem_cons_zero, Act.put, List.setIfInBounds_toArray, List.set_cons_zero, List.set_cons_succ]
                  refine wpAnyH_take (i := 15) (oi := _) (v := ?_) rfl (by kernel_rfl) (by kernel_rfl) (by kernel_rfl) (fun _ _ _ h => h) (Or.inl ⟨by rfl, ?_⟩) (by assumption) ?_
                  rotate_left
                  focus
                    intro w hSw
                    obtain ⟨s3, s0, s1, s2, f0, f1, f2, f3⟩ := HSS.out w hSw
                    go_simp
                    try with_reducible rfl
                  try simp only [List.getElem_toArray, List.getElem_cons_succ, List.getElem_cons_zero, Act.put, List.setIfInBounds_toArray, List.set_cons_zero, List.set_cons_succ]
                  refine wpAnyH_ready (rs := [16]) (by kernel_rfl) (by simp) ?_
                  refine AllReadyH.cons (o := _) rfl (fun K hK => ?_) ?_
                  · go_simp
                    refine (Hvl.out _ (by assumption)).mono ?_
                    rintro e w2 ⟨rfl, hS2⟩
                    refine hK.out _ _ ?_ (fun hHeld => ?_)
                    · ((try dsimp only); with_reducible assumption)
                    · clear hK K
                      try simp only [List.getElem_toArray, List.getElem_cons_succ, List.getElem_cons_zero, Act.put, List.setIfInBounds_toArray, List.set_cons_zero, List.set_cons_succ]
                      refine wpAnyH_take (i := 17) (oi := _) (v := ?_) rfl (by kernel_rfl) (by kernel_rfl) (by kernel_rfl) (fun _ _ _ h => h) (Or.inl ⟨by rfl, ?_⟩) (by assumption) ?_
                      rotate_left
                      focus
                        intro w hSw
                        try dsimp only at hSw
                        go_simp
                        try with_reducible rfl
                      try simp only [List.getElem_toArray, List.getElem_cons_succ, List.getElem_cons_zero, Act.put, List.setIfInBounds_toArray, List.set_cons_zero, List.set_cons_succ]
                      refine wpAnyH_take (i := 18) (oi := _) (v := ?_) rfl (by kernel_rfl) (by kernel_rfl) (by kernel_rfl) (fun _ _ _ h => h) (Or.inl ⟨by rfl, ?_⟩) (by assumption) ?_
                      rotate_left
                      focus
                        intro w hSw
                        try dsimp only at hSw
                        go_simp
                        try with_reducible rfl
                      try simp only [List.getElem_toArray, List.getElem_cons_succ, List.getElem_cons_zero, Act.put, List.setIfInBounds_toArray, List.set_cons_zero, List.set_cons_succ]
                      refine wpAnyH_take (i := 19) (oi := _) (v := ?_) rfl (by kernel_rfl) (by kernel_rfl) (by kernel_rfl) (fun _ _ _ h => h) (Or.inl ⟨by rfl, ?_⟩) (by assumption) ?_
                      rotate_left
                      focus
                        intro w hSw
                        try dsimp only at hSw
                        go_simp
                        try with_reducible rfl
                      try simp only [List.getElem_toArray, List.getElem_cons_succ, List.getElem_cons_zero, Act.put, List.setIfInBounds_toArray, List.set_cons_zero, List.set_cons_succ]
                      refine wpAnyH_take (i := 20) (oi := _) (v := undef) rfl (by kernel_rfl) (by kernel_rfl) (by kernel_rfl) (fun _ _ _ h => h) (Or.inr ⟨by rfl, rfl⟩) (by assumption) ?_
                      try simp only [List.getElem_toArray, List.getElem_cons_succ, List.getElem_cons_zero, Act.put, List.setIfInBounds_toArray, List.set_cons_zero, List.set_cons_succ]
                      refine wpAnyH_take (i := 21) (oi := _) (v := undef) rfl (by kernel_rfl) (by kernel_rfl) (by kernel_rfl) (fun _ _ _ h => h) (Or.inr ⟨by rfl, rfl⟩) (by assumption) ?_
                      try simp only [List.getElem_toArray, List.getElem_cons_succ, List.getElem_cons_zero, Act.put, List.setIfInBounds_toArray, List.set_cons_zero, List.set_cons_succ]
                      refine wpAnyH_take (i := 22) (oi := _) (v := undef) rfl (by kernel_rfl) (by kernel_rfl) (by kernel_rfl) (fun _ _ _ h => h) (Or.inr ⟨by rfl, rfl⟩) (by assumption) ?_
                      try simp only [List.getElem_toArray, List.getElem_cons_succ, List.getElem_cons_zero, Act.put, List.setIfInBounds_toArray, List.set_cons_zero, List.set_cons_succ]
                      refine wpAnyH_take (i := 23) (oi := _) (v := undef) rfl (by kernel_rfl) (by kernel_rfl) (by kernel_rfl) (fun _ _ _ h => h) (Or.inr ⟨by rfl, rfl⟩) (by assumption) ?_
                      try simp only [List.getElem_toArray, List.getElem_cons_succ, List.getElem_cons_zero, Act.put, List.setIfInBounds_toArray, List.set_cons_zero, List.set_cons_succ]
                      refine wpAnyH_take (i := 24) (oi := _) (v := undef) rfl (by kernel_rfl) (by kernel_rfl) (by kernel_rfl) (fun _ _ _ h => h) (Or.inr ⟨by rfl, rfl⟩) (by assumption) ?_
                      try simp only [List.getElem_toArray, List.getElem_cons_succ, List.getElem_cons_zero, Act.put, List.setIfInBounds_toArray, List.set_cons_zero, List.set_cons_succ]
                      refine wpAnyH_take (i := 25) (oi := _) (v := undef) rfl (by kernel_rfl) (by kernel_rfl) (by kernel_rfl) (fun _ _ _ h => h) (Or.inr ⟨by rfl, rfl⟩) (by assumption) ?_
                      try simp only [List.getElem_toArray, List.getElem_cons_succ, List.getElem_cons_zero, Act.put, List.setIfInBounds_toArray, List.set_cons_zero, List.set_cons_succ]
                      refine wpAnyH_take (i := 26) (oi := _) (v := undef) rfl (by kernel_rfl) (by kernel_rfl) (by kernel_rfl) (fun _ _ _ h => h) (Or.inr ⟨by rfl, rfl⟩) (by assumption) ?_
                      try simp only [List.getElem_toArray, List.getElem_cons_succ, List.getElem_cons_zero, Act.put, List.setIfInBounds_toArray, List.set_cons_zero, List.set_cons_succ]
                      refine wpAnyH_take (i := 27) (oi := _) (v := undef) rfl (by kernel_rfl) (by kernel_rfl) (by kernel_rfl) (fun _ _ _ h => h) (Or.inr ⟨by rfl, rfl⟩) (by assumption) ?_
                      try simp only [List.getElem_toArray, List.getElem_cons_succ, List.getElem_cons_zero, Act.put, List.setIfInBounds_toArray, List.set_cons_zero, List.set_cons_succ]
                      refine wpAnyH_take (i := 28) (oi := _) (v := undef) rfl (by kernel_rfl) (by kernel_rfl) (by kernel_rfl) (fun _ _ _ h => h) (Or.inr ⟨by rfl, rfl⟩) (by assumption) ?_
                      try simp only [List.getElem_toArray, List.getElem_cons_succ, List.getElem_cons_zero, Act.put, List.setIfInBounds_toArray, List.set_cons_zero, List.set_cons_succ]
                      refine wpAnyH_take (i := 29) (oi := _) (v := undef) rfl (by kernel_rfl) (by kernel_rfl) (by kernel_rfl) (fun _ _ _ h => h) (Or.inr ⟨by rfl, rfl⟩) (by assumption) ?_
                      try simp only [List.getElem_toArray, List.getElem_cons_succ, List.getElem_cons_zero, Act.put, List.setIfInBounds_toArray, List.set_cons_zero, List.set_cons_succ]
                      refine wpAnyH_take (i := 30) (oi := _) (v := undef) rfl (by kernel_rfl) (by kernel_rfl) (by kernel_rfl) (fun _ _ _ h => h) (Or.inr ⟨by rfl, rfl⟩) (by assumption) ?_
                      try simp only [List.getElem_toArray, List.getElem_cons_succ, List.getElem_cons_zero, Act.put, List.setIfInBounds_toArray, List.set_cons_zero, List.set_cons_succ]
                      refine wpAnyH_take (i := 31) (oi := _) (v := undef) rfl (by kernel_rfl) (by kernel_rfl) (by kernel_rfl) (fun _ _ _ h => h) (Or.inr ⟨by rfl, rfl⟩) (by assumption) ?_
                      try simp only [List.getElem_toArray, List.getElem_cons_succ, List.getElem_cons_zero, Act.put, List.setIfInBounds_toArray, List.set_cons_zero, List.set_cons_succ]
                      refine wpAnyH_take (i := 32) (oi := _) (v := undef) rfl (by kernel_rfl) (by kernel_rfl) (by kernel_rfl) (fun _ _ _ h => h) (Or.inr ⟨by rfl, rfl⟩) (by assumption) ?_
                      try simp only [List.getElem_toArray, List.getElem_cons_succ, List.getElem_cons_zero, Act.put, List.setIfInBounds_toArray, List.set_cons_zero, List.set_cons_succ]
                      refine wpAnyH_take (i := 33) (oi := _) (v := undef) rfl (by kernel_rfl) (by kernel_rfl) (by kernel_rfl) (fun _ _ _ h => h) (Or.inr ⟨by rfl, rfl⟩) (by assumption) ?_
                      try simp only [List.getElem_toArray, List.getElem_cons_succ, List.getElem_cons_zero, Act.put, List.setIfInBounds_toArray, List.set_cons_zero, List.set_cons_succ]
                      refine wpAnyH_take (i := 34) (oi := _) (v := undef) rfl (by kernel_rfl) (by kernel_rfl) (by kernel_rfl) (fun _ _ _ h => h) (Or.inr ⟨by rfl, rfl⟩) (by assumption) ?_
                      try simp only [List.getElem_toArray, List.getElem_cons_succ, List.getElem_cons_zero, Act.put, List.setIfInBounds_toArray, List.set_cons_zero, List.set_cons_succ]
                      refine wpAnyH_take (i := 35) (oi := _) (v := undef) rfl (by kernel_rfl) (by kernel_rfl) (by kernel_rfl) (fun _ _ _ h => h) (Or.inr ⟨by rfl, rfl⟩) (by assumption) ?_
                      try simp only [List.getElem_toArray, List.getElem_cons_succ, List.getElem_cons_zero, Act.put, List.setIfInBounds_toArray, List.set_cons_zero, List.set_cons_succ]
                      refine wpAnyH_take (i := 36) (oi := _) (v := undef) rfl (by kernel_rfl) (by kernel_rfl) (by kernel_rfl) (fun _ _ _ h => h) (Or.inr ⟨by rfl, rfl⟩) (by assumption) ?_
                      try simp only [List.getElem_toArray, List.getElem_cons_succ, List.getElem_cons_zero, Act.put, List.setIfInBounds_toArray, List.set_cons_zero, List.set_cons_succ]
                      refine wpAnyH_take (i := 37) (oi := _) (v := undef) rfl (by kernel_rfl) (by kernel_rfl) (by kernel_rfl) (fun _ _ _ h => h) (Or.inr ⟨by rfl, rfl⟩) (by assumption) ?_
                      try simp only [List.getElem_toArray, List.getElem_cons_succ, List.getElem_cons_zero, Act.put, List.setIfInBounds_toArray, List.set_cons_zero, List.set_cons_succ]
                      refine wpAnyH_take (i := 38) (oi := _) (v := undef) rfl (by kernel_rfl) (by kernel_rfl) (by kernel_rfl) (fun _ _ _ h => h) (Or.inr ⟨by rfl, rfl⟩) (by assumption) ?_
                      try simp only [List.getElem_toArray, List.getElem_cons_succ, List.getElem_cons_zero, Act.put, List.setIfInBounds_toArray, List.set_cons_zero, List.set_cons_succ]
                      refine wpAnyH_take (i := 39) (oi := _) (v := undef) rfl (by kernel_rfl) (by kernel_rfl) (by kernel_rfl) (fun _ _ _ h => h) (Or.inr ⟨by rfl, rfl⟩) (by assumption) ?_
                      try simp only [List.getElem_toArray, List.getElem_cons_succ, List.getElem_cons_zero, Act.put, List.setIfInBounds_toArray, List.set_cons_zero, List.set_cons_succ]
                      refine wpAnyH_take (i := 40) (oi := _) (v := ?_) rfl (by kernel_rfl) (by kernel_rfl) (by kernel_rfl) (fun _ _ _ h => h) (Or.inl ⟨by rfl, ?_⟩) (by assumption) ?_
                      rotate_left
                      focus
                        intro w hSw
                        try dsimp only at hSw
                        go_simp
                        try with_reducible rfl
                      try simp only [List.getElem_toArray, List.getElem_cons_succ, List.getElem_cons_zero, Act.put, List.setIfInBounds_toArray, List.set_cons_zero, List.set_cons_succ]
                      refine wpAnyH_done (by kernel_rfl) ?_ _
                      refine NoPanic.normal ?_
                      go_wp2
                      go_ret
                      exact ⟨by rw [e]; rfl, HL.out _ (by assumption)⟩
                  exact AllReadyH.nil
              exact AllReadyH.nil
            rw [hv] at Hvl
            have Hv := Lib.hid hv
            clear hv
            rcases Nat.eq_zero_or_pos j with h0j | h0j
            · have hok : fdAt S fs j = true := by subst h0j; rw [fdAt_zero hjl]; simp only [← Hf.out, Hw.out, Hv.out]; rfl
              have hj1 : ¬ (0 < (j : Int)) := by omega
              have hj2 : ¬ (0 < j) := by omega
              clear h0j
              have Hok := Lib.hid hok
              clear hok
              go_wp2_with fail
              clear k0 k1 k2 k3 f0 f1 f2 f3
              refine wp_region_noPanic ?_
              refine wp_region_held_drew (S := (fun W => Below wr.heap.size wr W)) (by kernel_rfl) ?_ (fun hHeld => ?_)
              · exact (Below.refl _ _).drew
              refine wpAnyH_take (i := 0) (oi := _) (v := ?_) rfl (by kernel_rfl) (by kernel_rfl) (by kernel_rfl) (fun _ _ _ h => h) (Or.inl ⟨by rfl, ?_⟩) (by assumption) ?_
              rotate_left
              focus
                intro w hSw
                try dsimp only at hSw
                go_simp
                try with_reducible rfl
              try simp only [List.getElem_toArray, List.getElem_cons_succ, List.getElem_cons_zero, Act.put, List.setIfInBounds_toArray, List.set_cons_zero, List.set_cons_succ]
              refine wpAnyH_take (i := 1) (oi := _) (v := ?_) rfl (by kernel_rfl) (by kernel_rfl) (by kernel_rfl) (fun _ _ _ h => h) (Or.inl ⟨by rfl, ?_⟩) (by assumption) ?_
              rotate_left
              focus
                intro w hSw
                obtain ⟨s3, s0, s1, s2, f0, f1, f2, f3⟩ := HSS.out w hSw
                go_simp
                try with_reducible rfl
              try simp only [List.getElem_toArray, List.getElem_cons_succ, List.getElem_cons_zero, Act.put, List.setIfInBounds_toArray, List.set_cons_zero, List.set_cons_succ]
              refine wpAnyH_take (i := 2) (oi := _) (v := ?_) rfl (by kernel_rfl) (by kernel_rfl) (by kernel_rfl) (fun _ _ _ h => h) (Or.inl ⟨by rfl, ?_⟩) (by assumption) ?_
              rotate_left
              focus
                intro w hSw
                try dsimp only at hSw
                go_simp
                try with_reducible rfl
              try simp only [List.getElem_toArray, List.getElem_cons_succ, List.getElem_cons_zero, Act.put, List.setIfInBounds_toArray, List.set_cons_zero, List.set_cons_succ]
              refine wpAnyH_take (i := 3) (oi := _) (v := ?_) rfl (by kernel_rfl) (by kernel_rfl) (by kernel_rfl) (fun _ _ _ h => h) (Or.inl ⟨by rfl, ?_⟩) (by assumption) ?_
              rotate_left
              focus
                intro w hSw
                try dsimp only at hSw
                go_simp
                try with_reducible rfl
              try simp only [List.getElem_toArray, List.getElem_cons_succ, List.getElem_cons_zero, Act.put, List.setIfInBounds_toArray, List.set_cons_zero, List.set_cons_succ]
              refine wpAnyH_take (i := 4) (oi := _) (v := ?_) rfl (by kernel_rfl) (by kernel_rfl) (by kernel_rfl) (fun _ _ _ h => h) (Or.inl ⟨by rfl, ?_⟩) (by assumption) ?_
              rotate_left
              focus
                intro w hSw
                try dsimp only at hSw
                go_simp
                try with_reducible rfl
              try simp only [List.getElem_toArray, List.getElem_cons_succ, List.getElem_cons_zero, Act.put, List.setIfInBounds_toArray, List.set_cons_zero, List.set_cons_succ]
              refine wpAnyH_take (i := 5) (oi := _) (v := ?_) rfl (by kernel_rfl) (by kernel_rfl) (by kernel_rfl) (fun _ _ _ h => h) (Or.inl ⟨by rfl, ?_⟩) (by assumption) ?_
              rotate_left
              focus
                intro w hSw
                obtain ⟨s3, s0, s1, s2, f0, f1, f2, f3⟩ := HSS.out w hSw
                go_simp
                try with_reducible rfl
              try simp only [List.getElem_toArray, List.getElem_cons_succ, List.getElem_cons_zero, Act.put, List.setIfInBounds_toArray, List.set_cons_zero, List.set_cons_succ]
              refine wpAnyH_ready (rs := [6]) (by kernel_rfl) (by simp) ?_
              refine AllReadyH.cons (o := _) rfl (fun K hK => ?_) ?_
              · go_simp
                refine (Hwo.out _ (by assumption)).mono ?_
                rintro e w1 ⟨rfl, hS1⟩
                refine hK.out _ _ ?_ (fun hHeld => ?_)
                · ((try dsimp only); with_reducible assumption)
                · clear hK K
                  try simp only [List.getElem_toArray, List.getElem_cons_succ, List.getElem_cons_zero, Act.put, List.setIfInBounds_toArray, List.set_cons_zero, List.set_cons_succ]
                  refine wpAnyH_take (i := 7) (oi := _) (v := ?_) rfl (by kernel_rfl) (by kernel_rfl) (by kernel_rfl) (fun _ _ _ h => h) (Or.inl ⟨by rfl, ?_⟩) (by assumption) ?_
                  rotate_left
                  focus
                    intro w hSw
                    try dsimp only at hSw
                    go_simp
                    try with_reducible rfl
                  try simp only [List.getElem_toArray, List.getElem_cons_succ, List.getElem_cons_zero, Act.put, List.setIfInBounds_toArray, List.set_cons_zero, List.set_cons_succ]
                  refine wpAnyH_take (i := 8) (oi := _) (v := ?_) rfl (by kernel_rfl) (by kernel_rfl) (by kernel_rfl) (fun _ _ _ h => h) (Or.inl ⟨by rfl, ?_⟩) (by assumption) ?_
                  rotate_left
                  focus
                    intro w hSw
                    try dsimp only at hSw
                    go_simp
                    try with_reducible rfl
                  try simp only [List.getElem_toArray, List.getElem_cons_succ, List.getElem_cons_zero, Act.put, List.setIfInBounds_toArray, List.set_cons_zero, List.set_cons_succ]
                  refine wpAnyH_take (i := 9) (oi := _) (v := ?_) rfl (by kernel_rfl) (by kernel_rfl) (by kernel_rfl) (fun _ _ _ h => h) (Or.inl ⟨by rfl, ?_⟩) (by assumption) ?_
                  rotate_left
                  focus
                    intro w hSw
                    obtain ⟨s3, s0, s1, s2, f0, f1, f2, f3⟩ := HSS.out w hSw
                    go_simp
                    try with_reducible rfl
                  try simp only [List.getElem_toArray, List.getElem_cons_succ, List.getElem_cons_zero, Act.put, List.setIfInBounds_toArray, List.set_cons_zero, List.set_cons_succ]
                  refine wpAnyH_take (i := 10) (oi := _) (v := ?_) rfl (by kernel_rfl) (by kernel_rfl) (by kernel_rfl) (fun _ _ _ h => h) (Or.inl ⟨by rfl, ?_⟩) (by assumption) ?_
                  rotate_left
                  focus
                    intro w hSw
                    try dsimp only at hSw
                    go_simp
                    try with_reducible rfl
                  try simp only [List.getElem_toArray, List.getElem_cons_succ, List.getElem_cons_zero, Act.put, List.setIfInBounds_toArray, List.set_cons_zero, List.set_cons_succ]
                  refine wpAnyH_take (i := 11) (oi := _) (v := ?_) rfl (by kernel_rfl) (by kernel_rfl) (by kernel_rfl) (fun _ _ _ h => h) (Or.inl ⟨by rfl, ?_⟩) (by assumption) ?_
                  rotate_left
                  focus
                    intro w hSw
                    obtain ⟨s3, s0, s1, s2, f0, f1, f2, f3⟩ := HSS.out w hSw
                    go_simp
                    try with_reducible rfl
                  try simp only [List.getElem_toArray, List.getElem_cons_succ, List.getElem_cons_zero, Act.put, List.setIfInBounds_toArray, List.set_cons_zero, List.set_cons_succ]
                  refine wpAnyH_take (i := 12) (oi := _) (v := ?_) rfl (by kernel_rfl) (by kernel_rfl) (by kernel_rfl) (fun _ _ _ h => h) (Or.inl ⟨by rfl, ?_⟩) (by assumption) ?_
                  rotate_left
                  focus
                    intro w hSw
                    try dsimp only at hSw
                    go_simp
                    try with_reducible rfl
                  try simp only [List.getElem_toArray, List.getElem_cons_succ, List.getElem_cons_zero, Act.put, List.setIfInBounds_toArray, List.set_cons_zero, List.set_cons_succ]
                  refine wpAnyH_take (i := 13) (oi := _) (v := ?_) rfl (by kernel_rfl) (by kernel_rfl) (by kernel_rfl) (fun _ _ _ h => h) (Or.inl ⟨by rfl, ?_⟩) (by assumption) ?_
                  rotate_left
                  focus
                    intro w hSw
                    try dsimp only at hSw
                    go_simp
                    try with_reducible rfl
                  try simp only [List.getElem_toArray, List.getElem_cons_succ, List.getElem_cons_zero, Act.put, List.setIfInBounds_toArray, List.set_cons_zero, List.set_cons_succ]
                  refine wpAnyH_take (i := 14) (oi := _) (v := ?_) rfl (by kernel_rfl) (by kernel_rfl) (by kernel_rfl) (fun _ _ _ h => h) (Or.inl ⟨by rfl, ?_⟩) (by assumption) ?_
                  rotate_left
                  focus
                    intro w hSw
                    try dsimp only at hSw
                    go_simp
                    try with_reducible rfl
                  try simp only [List.getElem_toArray, List.getElem_cons_succ, List.getElem_cons_zero, Act.put, List.setIfInBounds_toArray, List.set_cons_zero, List.set_cons_succ]
                  refine wpAnyH_take (i := 15) (oi := _) (v := ?_) rfl (by kernel_rfl) (by kernel_rfl) (by kernel_rfl) (fun _ _ _ h => h) (Or.inl ⟨by rfl, ?_⟩) (by assumption) ?_
                  rotate_left
                  focus
                    intro w hSw
                    obtain ⟨s3, s0, s1, s2, f0, f1, f2, f3⟩ := HSS.out w hSw
                    go_simp
                    try with_reducible rfl
                  try simp only [List.getElem_toArray, List.getElem_cons_succ, List.getElem_cons_zero, Act.put, List.setIfInBounds_toArray, List.set_cons_zero, List.set_cons_succ]
                  refine wpAnyH_ready (rs := [16]) (by kernel_rfl) (by simp) ?_
                  refine AllReadyH.cons (o := _) rfl (fun K hK => ?_) ?_
                  · go_simp
                    refine (Hvl.out _ (by assumption)).mono ?_
                    rintro e w2 ⟨rfl, hS2⟩
                    refine hK.out _ _ ?_ (fun hHeld => ?_)
                    · ((try dsimp only); with_reducible assumption)
                    · clear hK K
                      try simp only [List.getElem_toArray, List.getElem_cons_succ, List.getElem_cons_zero, Act.put, List.setIfInBounds_toArray, List.set_cons_zero, List.set_cons_succ]
                      refine wpAnyH_take (i := 17) (oi := _) (v := ?_) rfl (by kernel_rfl) (by kernel_rfl) (by kernel_rfl) (fun _ _ _ h => h) (Or.inl ⟨by rfl, ?_⟩) (by assumption) ?_
                      rotate_left
                      focus
                        intro w hSw
                        try dsimp only at hSw
                        go_simp
                        try with_reducible rfl
                      try simp only [List.getElem_toArray, List.getElem_cons_succ, List.getElem_cons_zero, Act.put, List.setIfInBounds_toArray, List.set_cons_zero, List.set_cons_succ]
                      refine wpAnyH_take (i := 18) (oi := _) (v := ?_) rfl (by kernel_rfl) (by kernel_rfl) (by kernel_rfl) (fun _ _ _ h => h) (Or.inl ⟨by rfl, ?_⟩) (by assumption) ?_
                      rotate_left
                      focus
                        intro w hSw
                        try dsimp only at hSw
                        go_simp
                        try with_reducible rfl
                      try simp only [List.getElem_toArray, List.getElem_cons_succ, List.getElem_cons_zero, Act.put, List.setIfInBounds_toArray, List.set_cons_zero, List.set_cons_succ]
                      refine wpAnyH_take (i := 19) (oi := _) (v := ?_) rfl (by kernel_rfl) (by kernel_rfl) (by kernel_rfl) (fun _ _ _ h => h) (Or.inl ⟨by rfl, ?_⟩) (by assumption) ?_
                      rotate_left
                      focus
                        intro w hSw
                        try dsimp only at hSw
                        go_simp
                        try with_reducible rfl
                      try simp only [List.getElem_toArray, List.getElem_cons_succ, List.getElem_cons_zero, Act.put, List.setIfInBounds_toArray, List.set_cons_zero, List.set_cons_succ]
                      refine wpAnyH_take (i := 20) (oi := _) (v := ?_) rfl (by kernel_rfl) (by kernel_rfl) (by kernel_rfl) (fun _ _ _ h => h) (Or.inl ⟨by rfl, ?_⟩) (by assumption) ?_
                      rotate_left
                      focus
                        intro w hSw
                        try dsimp only at hSw
                        go_simp
                        try with_reducible rfl
                      try simp only [List.getElem_toArray, List.getElem_cons_succ, List.getElem_cons_zero, Act.put, List.setIfInBounds_toArray, List.set_cons_zero, List.set_cons_succ]
                      refine wpAnyH_take (i := 21) (oi := _) (v := ?_) rfl (by kernel_rfl) (by kernel_rfl) (by kernel_rfl) (fun _ _ _ h => h) (Or.inl ⟨by rfl, ?_⟩) (by assumption) ?_
                      rotate_left
                      focus
                        intro w hSw
                        try dsimp only at hSw
                        go_simp
                        try with_reducible rfl
                      try simp only [List.getElem_toArray, List.getElem_cons_succ, List.getElem_cons_zero, Act.put, List.setIfInBounds_toArray, List.set_cons_zero, List.set_cons_succ]
                      refine wpAnyH_take (i := 22) (oi := _) (v := ?_) rfl (by kernel_rfl) (by kernel_rfl) (by kernel_rfl) (fun _ _ _ h => h) (Or.inl ⟨by rfl, ?_⟩) (by assumption) ?_
                      rotate_left
                      focus
                        intro w hSw
                        try dsimp only at hSw
                        go_simp
                        try with_reducible rfl
                      try simp only [List.getElem_toArray, List.getElem_cons_succ, List.getElem_cons_zero, Act.put, List.setIfInBounds_toArray, List.set_cons_zero, List.set_cons_succ]
                      refine wpAnyH_take (i := 23) (oi := _) (v := undef) rfl (by kernel_rfl) (by kernel_rfl) (by kernel_rfl) (fun _ _ _ h => h) (Or.inr ⟨by rfl, rfl⟩) (by assumption) ?_
                      try simp only [List.getElem_toArray, List.getElem_cons_succ, List.getElem_cons_zero, Act.put, List.setIfInBounds_toArray, List.set_cons_zero, List.set_cons_succ]
                      refine wpAnyH_take (i := 24) (oi := _) (v := undef) rfl (by kernel_rfl) (by kernel_rfl) (by kernel_rfl) (fun _ _ _ h => h) (Or.inr ⟨by rfl, rfl⟩) (by assumption) ?_
                      try simp only [List.getElem_toArray, List.getElem_cons_succ, List.getElem_cons_zero, Act.put, List.setIfInBounds_toArray, List.set_cons_zero, List.set_cons_succ]
                      refine wpAnyH_take (i := 25) (oi := _) (v := undef) rfl (by kernel_rfl) (by kernel_rfl) (by kernel_rfl) (fun _ _ _ h => h) (Or.inr ⟨by rfl, rfl⟩) (by assumption) ?_
                      try simp only [List.getElem_toArray, List.getElem_cons_succ, List.getElem_cons_zero, Act.put, List.setIfInBounds_toArray, List.set_cons_zero, List.set_cons_succ]
                      refine wpAnyH_take (i := 26) (oi := _) (v := undef) rfl (by kernel_rfl) (by kernel_rfl) (by kernel_rfl) (fun _ _ _ h => h) (Or.inr ⟨by rfl, rfl⟩) (by assumption) ?_
                      try simp only [List.getElem_toArray, List.getElem_cons_succ, List.getElem_cons_zero, Act.put, List.setIfInBounds_toArray, List.set_cons_zero, List.set_cons_succ]
                      refine wpAnyH_take (i := 27) (oi := _) (v := undef) rfl (by kernel_rfl) (by kernel_rfl) (by kernel_rfl) (fun _ _ _ h => h) (Or.inr ⟨by rfl, rfl⟩) (by assumption) ?_
                      try simp only [List.getElem_toArray, List.getElem_cons_succ, List.getElem_cons_zero, Act.put, List.setIfInBounds_toArray, List.set_cons_zero, List.set_cons_succ]
                      refine wpAnyH_take (i := 28) (oi := _) (v := undef) rfl (by kernel_rfl) (by kernel_rfl) (by kernel_rfl) (fun _ _ _ h => h) (Or.inr ⟨by rfl, rfl⟩) (by assumption) ?_
                      try simp only [List.getElem_toArray, List.getElem_cons_succ, List.getElem_cons_zero, Act.put, List.setIfInBounds_toArray, List.set_cons_zero, List.set_cons_succ]
                      refine wpAnyH_take (i := 29) (oi := _) (v := undef) rfl (by kernel_rfl) (by kernel_rfl) (by kernel_rfl) (fun _ _ _ h => h) (Or.inr ⟨by rfl, rfl⟩) (by assumption) ?_
                      try simp only [List.getElem_toArray, List.getElem_cons_succ, List.getElem_cons_zero, Act.put, List.setIfInBounds_toArray, List.set_cons_zero, List.set_cons_succ]
                      refine wpAnyH_take (i := 30) (oi := _) (v := undef) rfl (by kernel_rfl) (by kernel_rfl) (by kernel_rfl) (fun _ _ _ h => h) (Or.inr ⟨by rfl, rfl⟩) (by assumption) ?_
                      try simp only [List.getElem_toArray, List.getElem_cons_succ, List.getElem_cons_zero, Act.put, List.setIfInBounds_toArray, List.set_cons_zero, List.set_cons_succ]
                      refine wpAnyH_take (i := 31) (oi := _) (v := undef) rfl (by kernel_rfl) (by kernel_rfl) (by kernel_rfl) (fun _ _ _ h => h) (Or.inr ⟨by rfl, rfl⟩) (by assumption) ?_
                      try simp only [List.getElem_toArray, List.getElem_cons_succ, List.getElem_cons_zero, Act.put, List.setIfInBounds_toArray, List.set_cons_zero, List.set_cons_succ]
                      refine wpAnyH_take (i := 32) (oi := _) (v := undef) rfl (by kernel_rfl) (by kernel_rfl) (by kernel_rfl) (fun _ _ _ h => h) (Or.inr ⟨by rfl, rfl⟩) (by assumption) ?_
                      try simp only [List.getElem_toArray, List.getElem_cons_succ, List.getElem_cons_zero, Act.put, List.setIfInBounds_toArray, List.set_cons_zero, List.set_cons_succ]
                      refine wpAnyH_take (i := 33) (oi := _) (v := undef) rfl (by kernel_rfl) (by kernel_rfl) (by kernel_rfl) (fun _ _ _ h => h) (Or.inr ⟨by rfl, rfl⟩) (by assumption) ?_
                      try simp only [List.getElem_toArray, List.getElem_cons_succ, List.getElem_cons_zero, Act.put, List.setIfInBounds_toArray, List.set_cons_zero, List.set_cons_succ]
                      refine wpAnyH_take (i := 34) (oi := _) (v := undef) rfl (by kernel_rfl) (by kernel_rfl) (by kernel_rfl) (fun _ _ _ h => h) (Or.inr ⟨by rfl, rfl⟩) (by assumption) ?_
                      try simp only [List.getElem_toArray, List.getElem_cons_succ, List.getElem_cons_zero, Act.put, List.setIfInBounds_toArray, List.set_cons_zero, List.set_cons_succ]
                      refine wpAnyH_take (i := 35) (oi := _) (v := undef) rfl (by kernel_rfl) (by kernel_rfl) (by kernel_rfl) (fun _ _ _ h => h) (Or.inr ⟨by rfl, rfl⟩) (by assumption) ?_
                      try simp only [List.getElem_toArray, List.getElem_cons_succ, List.getElem_cons_zero, Act.put, List.setIfInBounds_toArray, List.set_cons_zero, List.set_cons_succ]
                      refine wpAnyH_take (i := 36) (oi := _) (v := undef) rfl (by kernel_rfl) (by kernel_rfl) (by kernel_rfl) (fun _ _ _ h => h) (Or.inr ⟨by rfl, rfl⟩) (by assumption) ?_
                      try simp only [List.getElem_toArray, List.getElem_cons_succ, List.getElem_cons_zero, Act.put, List.setIfInBounds_toArray, List.set_cons_zero, List.set_cons_succ]
                      refine wpAnyH_take (i := 37) (oi := _) (v := undef) rfl (by kernel_rfl) (by kernel_rfl) (by kernel_rfl) (fun _ _ _ h => h) (Or.inr ⟨by rfl, rfl⟩) (by assumption) ?_
                      try simp only [List.getElem_toArray, List.getElem_cons_succ, List.getElem_cons_zero, Act.put, List.setIfInBounds_toArray, List.set_cons_zero, List.set_cons_succ]
                      refine wpAnyH_take (i := 38) (oi := _) (v := undef) rfl (by kernel_rfl) (by kernel_rfl) (by kernel_rfl) (fun _ _ _ h => h) (Or.inr ⟨by rfl, rfl⟩) (by assumption) ?_
                      try simp only [List.getElem_toArray, List.getElem_cons_succ, List.getElem_cons_zero, Act.put, List.setIfInBounds_toArray, List.set_cons_zero, List.set_cons_succ]
                      refine wpAnyH_take (i := 39) (oi := _) (v := ?_) rfl (by kernel_rfl) (by kernel_rfl) (by kernel_rfl) (fun _ _ _ h => h) (Or.inl ⟨by rfl, ?_⟩) (by assumption) ?_
                      rotate_left
                      focus
                        intro w hSw
                        try dsimp only at hSw
                        go_simp
                        try with_reducible rfl
                      try simp only [List.getElem_toArray, List.getElem_cons_succ, List.getElem_cons_zero, Act.put, List.setIfInBounds_toArray, List.set_cons_zero, List.set_cons_succ]
                      refine wpAnyH_take (i := 40) (oi := _) (v := ?_) rfl (by kernel_rfl) (by kernel_rfl) (by kernel_rfl) (fun _ _ _ h => h) (Or.inl ⟨by rfl, ?_⟩) (by assumption) ?_
                      rotate_left
                      focus
                        intro w hSw
                        try dsimp only at hSw
                        go_simp
                        try with_reducible rfl
                      try simp only [List.getElem_toArray, List.getElem_cons_succ, List.getElem_cons_zero, Act.put, List.setIfInBounds_toArray, List.set_cons_zero, List.set_cons_succ]
                      refine wpAnyH_done (by kernel_rfl) ?_ _
                      refine NoPanic.normal ?_
                      go_wp2
                      go_roundw
                      case rel => exact ⟨j + 1, by omega, by go_num, range_next Hfa.out Hok.out, HL.out _ (by assumption), HKP.out _ (by assumption), HKS.out _ (by assumption)⟩
                      case measure => simp [intOf]; omega
                  exact AllReadyH.nil
              exact AllReadyH.nil
            · obtain ⟨i, hij⟩ : ∃ i, j = i + 1 := ⟨j - 1, by omega⟩
              obtain ⟨z0, z1, z2, z3, hz4, NA0, nc0, rfl, hN0, hnm0, rfl, rfl, rfl⟩ := Hhat.out i (by omega)
              obtain ⟨⟨nm0, fk0, fn0, fg0⟩, hf0⟩ : ∃ f, f = fs[i] := ⟨_, rfl⟩
              rw [← hf0] at hz4 hN0 hnm0
              dsimp only at hz4 hN0 hnm0
              have HP0 := Lib.hid (fun W (hW : Below wr.heap.size wr W) => (hz4.keep (w' := W) fun q hq => (HL.out W hW).cell (by rw [hq, block_of_add]; omega)).1)
              have HN0 := Lib.hid (fun W (hW : Below wr.heap.size wr W) => hN0.1.below ((HL.out W hW).mono hB))
              have hsub : IntKind.i64.wrap ((j : Int) - 1) = (i : Int) := by rw [show (j : Int) - 1 = i by omega]; exact IntWalk.i64_in _ (by omega)
              have hi1 : i < fs.length := by omega
              have hjp : 0 < (j : Int) := by omega
              cases hc : Op.bytesLess nm0 nm
              · have e : arOk ⟨S, Q, P⟩ = false := arOk_slot hlt (slOk_field (by rw [← Hs.out]; exact hjl) (by subst hij; simp only [← Hs.out]; rw [fdAt_succ hjl]; simp only [← Hf.out, ← hf0, Hw.out, Hv.out, hc]; rfl))
                clear hz4 hN0 hf0 hij
                go_wp2_with fail
                clear k0 k1 k2 k3 f0 f1 f2 f3
                refine wp_region_noPanic ?_
                refine wp_region_held_drew (S := (fun W => Below wr.heap.size wr W)) (by kernel_rfl) ?_ (fun hHeld => ?_)
                · exact (Below.refl _ _).drew
                refine wpAnyH_take (i := 0) (oi := _) (v := ?_) rfl (by kernel_rfl) (by kernel_rfl) (by kernel_rfl) (fun _ _ _ h => h) (Or.inl ⟨by rfl, ?_⟩) (by assumption) ?_
                rotate_left
                focus
                  intro w hSw
                  try dsimp only at hSw
                  go_simp
                  try with_reducible rfl
                try simp only [List.getElem_toArray, List.getElem_cons_succ, List.getElem_cons_zero, Act.put, List.setIfInBounds_toArray, List.set_cons_zero, List.set_cons_succ]
                refine wpAnyH_take (i := 1) (oi := _) (v := ?_) rfl (by kernel_rfl) (by kernel_rfl) (by kernel_rfl) (fun _ _ _ h => h) (Or.inl ⟨by rfl, ?_⟩) (by assumption) ?_
                rotate_left
                focus
                  intro w hSw
                  obtain ⟨s3, s0, s1, s2, f0, f1, f2, f3⟩ := HSS.out w hSw
                  go_simp
                  try with_reducible rfl
                try simp only [List.getElem_toArray, List.getElem_cons_succ, List.getElem_cons_zero, Act.put, List.setIfInBounds_toArray, List.set_cons_zero, List.set_cons_succ]
                refine wpAnyH_take (i := 2) (oi := _) (v := ?_) rfl (by kernel_rfl) (by kernel_rfl) (by kernel_rfl) (fun _ _ _ h => h) (Or.inl ⟨by rfl, ?_⟩) (by assumption) ?_
                rotate_left
                focus
                  intro w hSw
                  try dsimp only at hSw
                  go_simp
                  try with_reducible rfl
                try simp only [List.getElem_toArray, List.getElem_cons_succ, List.getElem_cons_zero, Act.put, List.setIfInBounds_toArray, List.set_cons_zero, List.set_cons_succ]
                refine wpAnyH_take (i := 3) (oi := _) (v := ?_) rfl (by kernel_rfl) (by kernel_rfl) (by kernel_rfl) (fun _ _ _ h => h) (Or.inl ⟨by rfl, ?_⟩) (by assumption) ?_
                rotate_left
                focus
                  intro w hSw
                  try dsimp only at hSw
                  go_simp
                  try with_reducible rfl
                try simp only [List.getElem_toArray, List.getElem_cons_succ, List.getElem_cons_zero, Act.put, List.setIfInBounds_toArray, List.set_cons_zero, List.set_cons_succ]
                refine wpAnyH_take (i := 4) (oi := _) (v := ?_) rfl (by kernel_rfl) (by kernel_rfl) (by kernel_rfl) (fun _ _ _ h => h) (Or.inl ⟨by rfl, ?_⟩) (by assumption) ?_
                rotate_left
                focus
                  intro w hSw
                  try dsimp only at hSw
                  go_simp
                  try with_reducible rfl
                try simp only [List.getElem_toArray, List.getElem_cons_succ, List.getElem_cons_zero, Act.put, List.setIfInBounds_toArray, List.set_cons_zero, List.set_cons_succ]
                refine wpAnyH_take (i := 5) (oi := _) (v := ?_) rfl (by kernel_rfl) (by kernel_rfl) (by kernel_rfl) (fun _ _ _ h => h) (Or.inl ⟨by rfl, ?_⟩) (by assumption) ?_
                rotate_left
                focus
                  intro w hSw
                  obtain ⟨s3, s0, s1, s2, f0, f1, f2, f3⟩ := HSS.out w hSw
                  go_simp
                  try with_reducible rfl
                try simp only [List.getElem_toArray, List.getElem_cons_succ, List.getElem_cons_zero, Act.put, List.setIfInBounds_toArray, List.set_cons_zero, List.set_cons_succ]
                refine wpAnyH_ready (rs := [6]) (by kernel_rfl) (by simp) ?_
                refine AllReadyH.cons (o := _) rfl (fun K hK => ?_) ?_
                · go_simp
                  refine (Hwo.out _ (by assumption)).mono ?_
                  rintro e w1 ⟨rfl, hS1⟩
                  refine hK.out _ _ ?_ (fun hHeld => ?_)
                  · ((try dsimp only); with_reducible assumption)
                  · clear hK K
                    try simp only [List.getElem_toArray, List.getElem_cons_succ, List.getElem_cons_zero, Act.put, List.setIfInBounds_toArray, List.set_cons_zero, List.set_cons_succ]
                    refine wpAnyH_take (i := 7) (oi := _) (v := ?_) rfl (by kernel_rfl) (by kernel_rfl) (by kernel_rfl) (fun _ _ _ h => h) (Or.inl ⟨by rfl, ?_⟩) (by assumption) ?_
                    rotate_left
                    focus
                      intro w hSw
                      try dsimp only at hSw
                      go_simp
                      try with_reducible rfl
                    try simp only [List.getElem_toArray, List.getElem_cons_succ, List.getElem_cons_zero, Act.put, List.setIfInBounds_toArray, List.set_cons_zero, List.set_cons_succ]
                    refine wpAnyH_take (i := 8) (oi := _) (v := ?_) rfl (by kernel_rfl) (by kernel_rfl) (by kernel_rfl) (fun _ _ _ h => h) (Or.inl ⟨by rfl, ?_⟩) (by assumption) ?_
                    rotate_left
                    focus
                      intro w hSw
                      try dsimp only at hSw
                      go_simp
                      try with_reducible rfl
                    try simp only [List.getElem_toArray, List.getElem_cons_succ, List.getElem_cons_zero, Act.put, List.setIfInBounds_toArray, List.set_cons_zero, List.set_cons_succ]
                    refine wpAnyH_take (i := 9) (oi := _) (v := ?_) rfl (by kernel_rfl) (by kernel_rfl) (by kernel_rfl) (fun _ _ _ h => h) (Or.inl ⟨by rfl, ?_⟩) (by assumption) ?_
                    rotate_left
                    focus
                      intro w hSw
                      obtain ⟨s3, s0, s1, s2, f0, f1, f2, f3⟩ := HSS.out w hSw
                      go_simp
                      try with_reducible rfl
                    try simp only [List.getElem_toArray, List.getElem_cons_succ, List.getElem_cons_zero, Act.put, List.setIfInBounds_toArray, List.set_cons_zero, List.set_cons_succ]
                    refine wpAnyH_take (i := 10) (oi := _) (v := ?_) rfl (by kernel_rfl) (by kernel_rfl) (by kernel_rfl) (fun _ _ _ h => h) (Or.inl ⟨by rfl, ?_⟩) (by assumption) ?_
                    rotate_left
                    focus
                      intro w hSw
                      try dsimp only at hSw
                      go_simp
                      try with_reducible rfl
                    try simp only [List.getElem_toArray, List.getElem_cons_succ, List.getElem_cons_zero, Act.put, List.setIfInBounds_toArray, List.set_cons_zero, List.set_cons_succ]
                    refine wpAnyH_take (i := 11) (oi := _) (v := ?_) rfl (by kernel_rfl) (by kernel_rfl) (by kernel_rfl) (fun _ _ _ h => h) (Or.inl ⟨by rfl, ?_⟩) (by assumption) ?_
                    rotate_left
                    focus
                      intro w hSw
                      obtain ⟨s3, s0, s1, s2, f0, f1, f2, f3⟩ := HSS.out w hSw
                      go_simp
                      try with_reducible rfl
                    try simp only [List.getElem_toArray, List.getElem_cons_succ, List.getElem_cons_zero, Act.put, List.setIfInBounds_toArray, List.set_cons_zero, List.set_cons_succ]
                    refine wpAnyH_take (i := 12) (oi := _) (v := ?_) rfl (by kernel_rfl) (by kernel_rfl) (by kernel_rfl) (fun _ _ _ h => h) (Or.inl ⟨by rfl, ?_⟩) (by assumption) ?_
                    rotate_left
                    focus
                      intro w hSw
                      try dsimp only at hSw
                      go_simp
                      try with_reducible rfl
                    try simp only [List.getElem_toArray, List.getElem_cons_succ, List.getElem_cons_zero, Act.put, List.setIfInBounds_toArray, List.set_cons_zero, List.set_cons_succ]
                    refine wpAnyH_take (i := 13) (oi := _) (v := ?_) rfl (by kernel_rfl) (by kernel_rfl) (by kernel_rfl) (fun _ _ _ h => h) (Or.inl ⟨by rfl, ?_⟩) (by assumption) ?_
                    rotate_left
                    focus
                      intro w hSw
                      try dsimp only at hSw
                      go_simp
                      try with_reducible rfl
                    try simp only [List.getElem_toArray, List.getElem_cons_succ, List.getElem_cons_zero, Act.put, List.setIfInBounds_toArray, List.set_cons_zero, List.set_cons_succ]
                    refine wpAnyH_take (i := 14) (oi := _) (v := ?_) rfl (by kernel_rfl) (by kernel_rfl) (by kernel_rfl) (fun _ _ _ h => h) (Or.inl ⟨by rfl, ?_⟩) (by assumption) ?_
                    rotate_left
                    focus
                      intro w hSw
                      try dsimp only at hSw
                      go_simp
                      try with_reducible rfl
                    try simp only [List.getElem_toArray, List.getElem_cons_succ, List.getElem_cons_zero, Act.put, List.setIfInBounds_toArray, List.set_cons_zero, List.set_cons_succ]
                    refine wpAnyH_take (i := 15) (oi := _) (v := ?_) rfl (by kernel_rfl) (by kernel_rfl) (by kernel_rfl) (fun _ _ _ h => h) (Or.inl ⟨by rfl, ?_⟩) (by assumption) ?_
                    rotate_left
                    focus
                      intro w hSw
                      obtain ⟨s3, s0, s1, s2, f0, f1, f2, f3⟩ := HSS.out w hSw
                      go_simp
                      try with_reducible rfl
                    try simp only [List.getElem_toArray, List.getElem_cons_succ, List.getElem_cons_zero, Act.put, List.setIfInBounds_toArray, List.set_cons_zero, List.set_cons_succ]
                    refine wpAnyH_ready (rs := [16]) (by kernel_rfl) (by simp) ?_
                    refine AllReadyH.cons (o := _) rfl (fun K hK => ?_) ?_
                    · go_simp
                      refine (Hvl.out _ (by assumption)).mono ?_
                      rintro e w2 ⟨rfl, hS2⟩
                      refine hK.out _ _ ?_ (fun hHeld => ?_)
                      · ((try dsimp only); with_reducible assumption)
                      · clear hK K
                        try simp only [List.getElem_toArray, List.getElem_cons_succ, List.getElem_cons_zero, Act.put, List.setIfInBounds_toArray, List.set_cons_zero, List.set_cons_succ]
                        refine wpAnyH_take (i := 17) (oi := _) (v := ?_) rfl (by kernel_rfl) (by kernel_rfl) (by kernel_rfl) (fun _ _ _ h => h) (Or.inl ⟨by rfl, ?_⟩) (by assumption) ?_
                        rotate_left
                        focus
                          intro w hSw
                          try dsimp only at hSw
                          go_simp
                          try with_reducible rfl
                        try simp only [List.getElem_toArray, List.getElem_cons_succ, List.getElem_cons_zero, Act.put, List.setIfInBounds_toArray, List.set_cons_zero, List.set_cons_succ]
                        refine wpAnyH_take (i := 18) (oi := _) (v := ?_) rfl (by kernel_rfl) (by kernel_rfl) (by kernel_rfl) (fun _ _ _ h => h) (Or.inl ⟨by rfl, ?_⟩) (by assumption) ?_
                        rotate_left
                        focus
                          intro w hSw
                          try dsimp only at hSw
                          go_simp
                          try with_reducible rfl
                        try simp only [List.getElem_toArray, List.getElem_cons_succ, List.getElem_cons_zero, Act.put, List.setIfInBounds_toArray, List.set_cons_zero, List.set_cons_succ]
                        refine wpAnyH_take (i := 19) (oi := _) (v := ?_) rfl (by kernel_rfl) (by kernel_rfl) (by kernel_rfl) (fun _ _ _ h => h) (Or.inl ⟨by rfl, ?_⟩) (by assumption) ?_
                        rotate_left
                        focus
                          intro w hSw
                          try dsimp only at hSw
                          go_simp
                          try with_reducible rfl
                        try simp only [List.getElem_toArray, List.getElem_cons_succ, List.getElem_cons_zero, Act.put, List.setIfInBounds_toArray, List.set_cons_zero, List.set_cons_succ]
                        refine wpAnyH_take (i := 20) (oi := _) (v := ?_) rfl (by kernel_rfl) (by kernel_rfl) (by kernel_rfl) (fun _ _ _ h => h) (Or.inl ⟨by rfl, ?_⟩) (by assumption) ?_
                        rotate_left
                        focus
                          intro w hSw
                          try dsimp only at hSw
                          go_simp
                          try with_reducible rfl
                        try simp only [List.getElem_toArray, List.getElem_cons_succ, List.getElem_cons_zero, Act.put, List.setIfInBounds_toArray, List.set_cons_zero, List.set_cons_succ]
                        refine wpAnyH_take (i := 21) (oi := _) (v := ?_) rfl (by kernel_rfl) (by kernel_rfl) (by kernel_rfl) (fun _ _ _ h => h) (Or.inl ⟨by rfl, ?_⟩) (by assumption) ?_
                        rotate_left
                        focus
                          intro w hSw
                          try dsimp only at hSw
                          go_simp
                          try with_reducible rfl
                        try simp only [List.getElem_toArray, List.getElem_cons_succ, List.getElem_cons_zero, Act.put, List.setIfInBounds_toArray, List.set_cons_zero, List.set_cons_succ]
                        refine wpAnyH_take (i := 22) (oi := _) (v := ?_) rfl (by kernel_rfl) (by kernel_rfl) (by kernel_rfl) (fun _ _ _ h => h) (Or.inl ⟨by rfl, ?_⟩) (by assumption) ?_
                        rotate_left
                        focus
                          intro w hSw
                          try dsimp only at hSw
                          go_simp
                          try with_reducible rfl
                        try simp only [List.getElem_toArray, List.getElem_cons_succ, List.getElem_cons_zero, Act.put, List.setIfInBounds_toArray, List.set_cons_zero, List.set_cons_succ]
                        refine wpAnyH_take (i := 23) (oi := _) (v := ?_) rfl (by kernel_rfl) (by kernel_rfl) (by kernel_rfl) (fun _ _ _ h => h) (Or.inl ⟨by rfl, ?_⟩) (by assumption) ?_
                        rotate_left
                        focus
                          intro w hSw
                          try dsimp only at hSw
                          go_simp
                          try with_reducible rfl
                        try simp only [List.getElem_toArray, List.getElem_cons_succ, List.getElem_cons_zero, Act.put, List.setIfInBounds_toArray, List.set_cons_zero, List.set_cons_succ]
                        refine wpAnyH_take (i := 24) (oi := _) (v := ?_) rfl (by kernel_rfl) (by kernel_rfl) (by kernel_rfl) (fun _ _ _ h => h) (Or.inl ⟨by rfl, ?_⟩) (by assumption) ?_
                        rotate_left
                        focus
                          intro w hSw
                          obtain ⟨s3, s0, s1, s2, f0, f1, f2, f3⟩ := HSS.out w hSw
                          go_simp
                          try with_reducible rfl
                        try simp only [List.getElem_toArray, List.getElem_cons_succ, List.getElem_cons_zero, Act.put, List.setIfInBounds_toArray, List.set_cons_zero, List.set_cons_succ]
                        refine wpAnyH_take (i := 25) (oi := _) (v := ?_) rfl (by kernel_rfl) (by kernel_rfl) (by kernel_rfl) (fun _ _ _ h => h) (Or.inl ⟨by rfl, ?_⟩) (by assumption) ?_
                        rotate_left
                        focus
                          intro w hSw
                          try dsimp only at hSw
                          go_simp
                          try with_reducible rfl
                        try simp only [List.getElem_toArray, List.getElem_cons_succ, List.getElem_cons_zero, Act.put, List.setIfInBounds_toArray, List.set_cons_zero, List.set_cons_succ]
                        refine wpAnyH_take (i := 26) (oi := _) (v := ?_) rfl (by kernel_rfl) (by kernel_rfl) (by kernel_rfl) (fun _ _ _ h => h) (Or.inl ⟨by rfl, ?_⟩) (by assumption) ?_
                        rotate_left
                        focus
                          intro w hSw
                          try dsimp only at hSw
                          go_simp
                          try with_reducible rfl
                        try simp only [List.getElem_toArray, List.getElem_cons_succ, List.getElem_cons_zero, Act.put, List.setIfInBounds_toArray, List.set_cons_zero, List.set_cons_succ]
                        refine wpAnyH_take (i := 27) (oi := _) (v := ?_) rfl (by kernel_rfl) (by kernel_rfl) (by kernel_rfl) (fun _ _ _ h => h) (Or.inl ⟨by rfl, ?_⟩) (by assumption) ?_
                        rotate_left
                        focus
                          intro w hSw
                          try dsimp only at hSw
                          go_simp
                          try with_reducible rfl
                        try simp only [List.getElem_toArray, List.getElem_cons_succ, List.getElem_cons_zero, Act.put, List.setIfInBounds_toArray, List.set_cons_zero, List.set_cons_succ]
                        refine wpAnyH_take (i := 28) (oi := _) (v := ?_) rfl (by kernel_rfl) (by kernel_rfl) (by kernel_rfl) (fun _ _ _ h => h) (Or.inl ⟨by rfl, ?_⟩) (by assumption) ?_
                        rotate_left
                        focus
                          intro w hSw
                          try dsimp only at hSw
                          go_simp
                          try with_reducible rfl
                        try simp only [List.getElem_toArray, List.getElem_cons_succ, List.getElem_cons_zero, Act.put, List.setIfInBounds_toArray, List.set_cons_zero, List.set_cons_succ]
                        refine wpAnyH_take (i := 29) (oi := _) (v := ?_) rfl (by kernel_rfl) (by kernel_rfl) (by kernel_rfl) (fun _ _ _ h => h) (Or.inl ⟨by rfl, ?_⟩) (by assumption) ?_
                        rotate_left
                        focus
                          intro w hSw
                          obtain ⟨s3, s0, s1, s2, f0, f1, f2, f3⟩ := HSS.out w hSw
                          have e0 := HP0.out w hSw
                          go_simp
                          try with_reducible rfl
                        try simp only [List.getElem_toArray, List.getElem_cons_succ, List.getElem_cons_zero, Act.put, List.setIfInBounds_toArray, List.set_cons_zero, List.set_cons_succ]
                        refine wpAnyH_take (i := 30) (oi := _) (v := ?_) rfl (by kernel_rfl) (by kernel_rfl) (by kernel_rfl) (fun _ _ _ h => h) (Or.inl ⟨by rfl, ?_⟩) (by assumption) ?_
                        rotate_left
                        focus
                          intro w hSw
                          go_simp
                          have hcv := convert_RB (P := Try.prog) (HN0.out w hSw) 27 5 9 nc0 Try.underlying27 Try.underlying5 Try.underlying9
                          rw [hcv]
                          first | with_reducible rfl | rw [Result.andThen_ok] | simp only [Result.andThen_ok]
                        try simp only [List.getElem_toArray, List.getElem_cons_succ, List.getElem_cons_zero, Act.put, List.setIfInBounds_toArray, List.set_cons_zero, List.set_cons_succ]
                        refine wpAnyH_take (i := 31) (oi := _) (v := ?_) rfl (by kernel_rfl) (by kernel_rfl) (by kernel_rfl) (fun _ _ _ h => h) (Or.inl ⟨by rfl, ?_⟩) (by assumption) ?_
                        rotate_left
                        focus
                          intro w hSw
                          try dsimp only at hSw
                          go_simp
                          try with_reducible rfl
                        try simp only [List.getElem_toArray, List.getElem_cons_succ, List.getElem_cons_zero, Act.put, List.setIfInBounds_toArray, List.set_cons_zero, List.set_cons_succ]
                        refine wpAnyH_take (i := 32) (oi := _) (v := ?_) rfl (by kernel_rfl) (by kernel_rfl) (by kernel_rfl) (fun _ _ _ h => h) (Or.inl ⟨by rfl, ?_⟩) (by assumption) ?_
                        rotate_left
                        focus
                          intro w hSw
                          obtain ⟨s3, s0, s1, s2, f0, f1, f2, f3⟩ := HSS.out w hSw
                          go_simp
                          try with_reducible rfl
                        try simp only [List.getElem_toArray, List.getElem_cons_succ, List.getElem_cons_zero, Act.put, List.setIfInBounds_toArray, List.set_cons_zero, List.set_cons_succ]
                        refine wpAnyH_take (i := 33) (oi := _) (v := ?_) rfl (by kernel_rfl) (by kernel_rfl) (by kernel_rfl) (fun _ _ _ h => h) (Or.inl ⟨by rfl, ?_⟩) (by assumption) ?_
                        rotate_left
                        focus
                          intro w hSw
                          try dsimp only at hSw
                          go_simp
                          try with_reducible rfl
                        try simp only [List.getElem_toArray, List.getElem_cons_succ, List.getElem_cons_zero, Act.put, List.setIfInBounds_toArray, List.set_cons_zero, List.set_cons_succ]
                        refine wpAnyH_take (i := 34) (oi := _) (v := ?_) rfl (by kernel_rfl) (by kernel_rfl) (by kernel_rfl) (fun _ _ _ h => h) (Or.inl ⟨by rfl, ?_⟩) (by assumption) ?_
                        rotate_left
                        focus
                          intro w hSw
                          try dsimp only at hSw
                          go_simp
                          try with_reducible rfl
                        try simp only [List.getElem_toArray, List.getElem_cons_succ, List.getElem_cons_zero, Act.put, List.setIfInBounds_toArray, List.set_cons_zero, List.set_cons_succ]
                        refine wpAnyH_take (i := 35) (oi := _) (v := ?_) rfl (by kernel_rfl) (by kernel_rfl) (by kernel_rfl) (fun _ _ _ h => h) (Or.inl ⟨by rfl, ?_⟩) (by assumption) ?_
                        rotate_left
                        focus
                          intro w hSw
                          try dsimp only at hSw
                          go_simp
                          try with_reducible rfl
                        try simp only [List.getElem_toArray, List.getElem_cons_succ, List.getElem_cons_zero, Act.put, List.setIfInBounds_toArray, List.set_cons_zero, List.set_cons_succ]
                        refine wpAnyH_take (i := 36) (oi := _) (v := ?_) rfl (by kernel_rfl) (by kernel_rfl) (by kernel_rfl) (fun _ _ _ h => h) (Or.inl ⟨by rfl, ?_⟩) (by assumption) ?_
                        rotate_left
                        focus
                          intro w hSw
                          obtain ⟨s3, s0, s1, s2, f0, f1, f2, f3⟩ := HSS.out w hSw
                          go_simp
                          try with_reducible rfl
                        try simp only [List.getElem_toArray, List.getElem_cons_succ, List.getElem_cons_zero, Act.put, List.setIfInBounds_toArray, List.set_cons_zero, List.set_cons_succ]
                        refine wpAnyH_take (i := 37) (oi := _) (v := ?_) rfl (by kernel_rfl) (by kernel_rfl) (by kernel_rfl) (fun _ _ _ h => h) (Or.inl ⟨by rfl, ?_⟩) (by assumption) ?_
                        rotate_left
                        focus
                          intro w hSw
                          go_simp
                          have hcv := convert_RB (P := Try.prog) (HN1.out w hSw) 27 5 9 nc Try.underlying27 Try.underlying5 Try.underlying9
                          rw [hcv]
                          first | with_reducible rfl | rw [Result.andThen_ok] | simp only [Result.andThen_ok]
                        try simp only [List.getElem_toArray, List.getElem_cons_succ, List.getElem_cons_zero, Act.put, List.setIfInBounds_toArray, List.set_cons_zero, List.set_cons_succ]
                        refine wpAnyH_take (i := 38) (oi := _) (v := ?_) rfl (by kernel_rfl) (by kernel_rfl) (by kernel_rfl) (fun _ _ _ h => h) (Or.inl ⟨by rfl, ?_⟩) (by assumption) ?_
                        rotate_left
                        focus
                          intro w hSw
                          try dsimp only at hSw
                          go_simp
                          try with_reducible rfl
                        try simp only [List.getElem_toArray, List.getElem_cons_succ, List.getElem_cons_zero, Act.put, List.setIfInBounds_toArray, List.set_cons_zero, List.set_cons_succ]
                        refine wpAnyH_take (i := 39) (oi := _) (v := ?_) rfl (by kernel_rfl) (by kernel_rfl) (by kernel_rfl) (fun _ _ _ h => h) (Or.inl ⟨by rfl, ?_⟩) (by assumption) ?_
                        rotate_left
                        focus
                          intro w hSw
                          try dsimp only at hSw
                          go_simp
                          try with_reducible rfl
                        try simp only [List.getElem_toArray, List.getElem_cons_succ, List.getElem_cons_zero, Act.put, List.setIfInBounds_toArray, List.set_cons_zero, List.set_cons_succ]
                        refine wpAnyH_take (i := 40) (oi := _) (v := ?_) rfl (by kernel_rfl) (by kernel_rfl) (by kernel_rfl) (fun _ _ _ h => h) (Or.inl ⟨by rfl, ?_⟩) (by assumption) ?_
                        rotate_left
                        focus
                          intro w hSw
                          try dsimp only at hSw
                          go_simp
                          try with_reducible rfl
                        try simp only [List.getElem_toArray, List.getElem_cons_succ, List.getElem_cons_zero, Act.put, List.setIfInBounds_toArray, List.set_cons_zero, List.set_cons_succ]
                        refine wpAnyH_done (by kernel_rfl) ?_ _
                        refine NoPanic.normal ?_
                        go_wp2
                        go_ret
                        exact ⟨by rw [e]; rfl, HL.out _ (by assumption)⟩
                    exact AllReadyH.nil
                exact AllReadyH.nil
              · have hok : fdAt S fs j = true := by subst hij; rw [fdAt_succ hjl]; simp only [← Hf.out, ← hf0, Hw.out, Hv.out, hc]; rfl
                have Hok := Lib.hid hok
                clear hok hz4 hN0 hf0 hij
                go_wp2_with fail
                clear k0 k1 k2 k3 f0 f1 f2 f3
                refine wp_region_noPanic ?_
                refine wp_region_held_drew (S := (fun W => Below wr.heap.size wr W)) (by kernel_rfl) ?_ (fun hHeld => ?_)
                · exact (Below.refl _ _).drew
                refine wpAnyH_take (i := 0) (oi := _) (v := ?_) rfl (by kernel_rfl) (by kernel_rfl) (by kernel_rfl) (fun _ _ _ h => h) (Or.inl ⟨by rfl, ?_⟩) (by assumption) ?_
                rotate_left
                focus
                  intro w hSw
                  try dsimp only at hSw
                  go_simp
                  try with_reducible rfl
                try simp only [List.getElem_toArray, List.getElem_cons_succ, List.getElem_cons_zero, Act.put, List.setIfInBounds_toArray, List.set_cons_zero, List.set_cons_succ]
                refine wpAnyH_take (i := 1) (oi := _) (v := ?_) rfl (by kernel_rfl) (by kernel_rfl) (by kernel_rfl) (fun _ _ _ h => h) (Or.inl ⟨by rfl, ?_⟩) (by assumption) ?_
                rotate_left
                focus
                  intro w hSw
                  obtain ⟨s3, s0, s1, s2, f0, f1, f2, f3⟩ := HSS.out w hSw
                  go_simp
                  try with_reducible rfl
                try simp only [List.getElem_toArray, List.getElem_cons_succ, List.getElem_cons_zero, Act.put, List.setIfInBounds_toArray, List.set_cons_zero, List.set_cons_succ]
                refine wpAnyH_take (i := 2) (oi := _) (v := ?_) rfl (by kernel_rfl) (by kernel_rfl) (by kernel_rfl) (fun _ _ _ h => h) (Or.inl ⟨by rfl, ?_⟩) (by assumption) ?_
                rotate_left
                focus
                  intro w hSw
                  try dsimp only at hSw
                  go_simp
                  try with_reducible rfl
                try simp only [List.getElem_toArray, List.getElem_cons_succ, List.getElem_cons_zero, Act.put, List.setIfInBounds_toArray, List.set_cons_zero, List.set_cons_succ]
                refine wpAnyH_take (i := 3) (oi := _) (v := ?_) rfl (by kernel_rfl) (by kernel_rfl) (by kernel_rfl) (fun _ _ _ h => h) (Or.inl ⟨by rfl, ?_⟩) (by assumption) ?_
                rotate_left
                focus
                  intro w hSw
                  try dsimp only at hSw
                  go_simp
                  try with_reducible rfl
                try simp only [List.getElem_toArray, List.getElem_cons_succ, List.getElem_cons_zero, Act.put, List.setIfInBounds_toArray, List.set_cons_zero, List.set_cons_succ]
                refine wpAnyH_take (i := 4) (oi := _) (v := ?_) rfl (by kernel_rfl) (by kernel_rfl) (by kernel_rfl) (fun _ _ _ h => h) (Or.inl ⟨by rfl, ?_⟩) (by assumption) ?_
                rotate_left
                focus
                  intro w hSw
                  try dsimp only at hSw
                  go_simp
                  try with_reducible rfl
                try simp only [List.getElem_toArray, List.getElem_cons_succ, List.getElem_cons_zero, Act.put, List.setIfInBounds_toArray, List.set_cons_zero, List.set_cons_succ]
                refine wpAnyH_take (i := 5) (oi := _) (v := ?_) rfl (by kernel_rfl) (by kernel_rfl) (by kernel_rfl) (fun _ _ _ h => h) (Or.inl ⟨by rfl, ?_⟩) (by assumption) ?_
                rotate_left
                focus
                  intro w hSw
                  obtain ⟨s3, s0, s1, s2, f0, f1, f2, f3⟩ := HSS.out w hSw
                  go_simp
                  try with_reducible rfl
                try simp only [List.getElem_toArray, List.getElem_cons_succ, List.getElem_cons_zero, Act.put, List.setIfInBounds_toArray, List.set_cons_zero, List.set_cons_succ]
                refine wpAnyH_ready (rs := [6]) (by kernel_rfl) (by simp) ?_
                refine AllReadyH.cons (o := _) rfl (fun K hK => ?_) ?_
                · go_simp
                  refine (Hwo.out _ (by assumption)).mono ?_
                  rintro e w1 ⟨rfl, hS1⟩
                  refine hK.out _ _ ?_ (fun hHeld => ?_)
                  · ((try dsimp only); with_reducible assumption)
                  · clear hK K
                    try simp only [List.getElem_toArray, List.getElem_cons_succ, List.getElem_cons_zero, Act.put, List.setIfInBounds_toArray, List.set_cons_zero, List.set_cons_succ]
                    refine wpAnyH_take (i := 7) (oi := _) (v := ?_) rfl (by kernel_rfl) (by kernel_rfl) (by kernel_rfl) (fun _ _ _ h => h) (Or.inl ⟨by rfl, ?_⟩) (by assumption) ?_
                    rotate_left
                    focus
                      intro w hSw
                      try dsimp only at hSw
                      go_simp
                      try with_reducible rfl
                    try simp only [List.getElem_toArray, List.getElem_cons_succ, List.getElem_cons_zero, Act.put, List.setIfInBounds_toArray, List.set_cons_zero, List.set_cons_succ]
                    refine wpAnyH_take (i := 8) (oi := _) (v := ?_) rfl (by kernel_rfl) (by kernel_rfl) (by kernel_rfl) (fun _ _ _ h => h) (Or.inl ⟨by rfl, ?_⟩) (by assumption) ?_
                    rotate_left
                    focus
                      intro w hSw
                      try dsimp only at hSw
                      go_simp
                      try with_reducible rfl
                    try simp only [List.getElem_toArray, List.getElem_cons_succ, List.getElem_cons_zero, Act.put, List.setIfInBounds_toArray, List.set_cons_zero, List.set_cons_succ]
                    refine wpAnyH_take (i := 9) (oi := _) (v := ?_) rfl (by kernel_rfl) (by kernel_rfl) (by kernel_rfl) (fun _ _ _ h => h) (Or.inl ⟨by rfl, ?_⟩) (by assumption) ?_
                    rotate_left
                    focus
                      intro w hSw
                      obtain ⟨s3, s0, s1, s2, f0, f1, f2, f3⟩ := HSS.out w hSw
                      go_simp
                      try with_reducible rfl
                    try simp only [List.getElem_toArray, List.getElem_cons_succ, List.getElem_cons_zero, Act.put, List.setIfInBounds_toArray, List.set_cons_zero, List.set_cons_succ]
                    refine wpAnyH_take (i := 10) (oi := _) (v := ?_) rfl (by kernel_rfl) (by kernel_rfl) (by kernel_rfl) (fun _ _ _ h => h) (Or.inl ⟨by rfl, ?_⟩) (by assumption) ?_
                    rotate_left
                    focus
                      intro w hSw
                      try dsimp only at hSw
                      go_simp
                      try with_reducible rfl
                    try simp only [List.getElem_toArray, List.getElem_cons_succ, List.getElem_cons_zero, Act.put, List.setIfInBounds_toArray, List.set_cons_zero, List.set_cons_succ]
                    refine wpAnyH_take (i := 11) (oi := _) (v := ?_) rfl (by kernel_rfl) (by kernel_rfl) (by kernel_rfl) (fun _ _ _ h => h) (Or.inl ⟨by rfl, ?_⟩) (by assumption) ?_
                    rotate_left
                    focus
                      intro w hSw
                      obtain ⟨s3, s0, s1, s2, f0, f1, f2, f3⟩ := HSS.out w hSw
                      go_simp
                      try with_reducible rfl
                    try simp only [List.getElem_toArray, List.getElem_cons_succ, List.getElem_cons_zero, Act.put, List.setIfInBounds_toArray, List.set_cons_zero, List.set_cons_succ]
                    refine wpAnyH_take (i := 12) (oi := _) (v := ?_) rfl (by kernel_rfl) (by kernel_rfl) (by kernel_rfl) (fun _ _ _ h => h) (Or.inl ⟨by rfl, ?_⟩) (by assumption) ?_
                    rotate_left
                    focus
                      intro w hSw
                      try dsimp only at hSw
                      go_simp
                      try with_reducible rfl
                    try simp only [List.getElem_toArray, List.getElem_cons_succ, List.getElem_cons_zero, Act.put, List.setIfInBounds_toArray, List.set_cons_zero, List.set_cons_succ]
                    refine wpAnyH_take (i := 13) (oi := _) (v := ?_) rfl (by kernel_rfl) (by kernel_rfl) (by kernel_rfl) (fun _ _ _ h => h) (Or.inl ⟨by rfl, ?_⟩) (by assumption) ?_
                    rotate_left
                    focus
                      intro w hSw
                      try dsimp only at hSw
                      go_simp
                      try with_reducible rfl
                    try simp only [List.getElem_toArray, List.getElem_cons_succ, List.getElem_cons_zero, Act.put, List.setIfInBounds_toArray, List.set_cons_zero, List.set_cons_succ]
                    refine wpAnyH_take (i := 14) (oi := _) (v := ?_) rfl (by kernel_rfl) (by kernel_rfl) (by kernel_rfl) (fun _ _ _ h => h) (Or.inl ⟨by rfl, ?_⟩) (by assumption) ?_
                    rotate_left
                    focus
                      intro w hSw
                      try dsimp only at hSw
                      go_simp
                      try with_reducible rfl
                    try simp only [List.getElem_toArray, List.getElem_cons_succ, List.getElem_cons_zero, Act.put, List.setIfInBounds_toArray, List.set_cons_zero, List.set_cons_succ]
                    refine wpAnyH_take (i := 15) (oi := _) (v := ?_) rfl (by kernel_rfl) (by kernel_rfl) (by kernel_rfl) (fun _ _ _ h => h) (Or.inl ⟨by rfl, ?_⟩) (by assumption) ?_
                    rotate_left
                    focus
                      intro w hSw
                      obtain ⟨s3, s0, s1, s2, f0, f1, f2, f3⟩ := HSS.out w hSw
                      go_simp
                      try with_reducible rfl
                    try simp only [List.getElem_toArray, List.getElem_cons_succ, List.getElem_cons_zero, Act.put, List.setIfInBounds_toArray, List.set_cons_zero, List.set_cons_succ]
                    refine wpAnyH_ready (rs := [16]) (by kernel_rfl) (by simp) ?_
                    refine AllReadyH.cons (o := _) rfl (fun K hK => ?_) ?_
                    · go_simp
                      refine (Hvl.out _ (by assumption)).mono ?_
                      rintro e w2 ⟨rfl, hS2⟩
                      refine hK.out _ _ ?_ (fun hHeld => ?_)
                      · ((try dsimp only); with_reducible assumption)
                      · clear hK K
                        try simp only [List.getElem_toArray, List.getElem_cons_succ, List.getElem_cons_zero, Act.put, List.setIfInBounds_toArray, List.set_cons_zero, List.set_cons_succ]
                        refine wpAnyH_take (i := 17) (oi := _) (v := ?_) rfl (by kernel_rfl) (by kernel_rfl) (by kernel_rfl) (fun _ _ _ h => h) (Or.inl ⟨by rfl, ?_⟩) (by assumption) ?_
                        rotate_left
                        focus
                          intro w hSw
                          try dsimp only at hSw
                          go_simp
                          try with_reducible rfl
                        try simp only [List.getElem_toArray, List.getElem_cons_succ, List.getElem_cons_zero, Act.put, List.setIfInBounds_toArray, List.set_cons_zero, List.set_cons_succ]
                        refine wpAnyH_take (i := 18) (oi := _) (v := ?_) rfl (by kernel_rfl) (by kernel_rfl) (by kernel_rfl) (fun _ _ _ h => h) (Or.inl ⟨by rfl, ?_⟩) (by assumption) ?_
                        rotate_left
                        focus
                          intro w hSw
                          try dsimp only at hSw
                          go_simp
                          try with_reducible rfl
                        try simp only [List.getElem_toArray, List.getElem_cons_succ, List.getElem_cons_zero, Act.put, List.setIfInBounds_toArray, List.set_cons_zero, List.set_cons_succ]
                        refine wpAnyH_take (i := 19) (oi := _) (v := ?_) rfl (by kernel_rfl) (by kernel_rfl) (by kernel_rfl) (fun _ _ _ h => h) (Or.inl ⟨by rfl, ?_⟩) (by assumption) ?_
                        rotate_left
                        focus
                          intro w hSw
                          try dsimp only at hSw
                          go_simp
                          try with_reducible rfl
                        try simp only [List.getElem_toArray, List.getElem_cons_succ, List.getElem_cons_zero, Act.put, List.setIfInBounds_toArray, List.set_cons_zero, List.set_cons_succ]
                        refine wpAnyH_take (i := 20) (oi := _) (v := ?_) rfl (by kernel_rfl) (by kernel_rfl) (by kernel_rfl) (fun _ _ _ h => h) (Or.inl ⟨by rfl, ?_⟩) (by assumption) ?_
                        rotate_left
                        focus
                          intro w hSw
                          try dsimp only at hSw
                          go_simp
                          try with_reducible rfl
                        try simp only [List.getElem_toArray, List.getElem_cons_succ, List.getElem_cons_zero, Act.put, List.setIfInBounds_toArray, List.set_cons_zero, List.set_cons_succ]
                        refine wpAnyH_take (i := 21) (oi := _) (v := ?_) rfl (by kernel_rfl) (by kernel_rfl) (by kernel_rfl) (fun _ _ _ h => h) (Or.inl ⟨by rfl, ?_⟩) (by assumption) ?_
                        rotate_left
                        focus
                          intro w hSw
                          try dsimp only at hSw
                          go_simp
                          try with_reducible rfl
                        try simp only [List.getElem_toArray, List.getElem_cons_succ, List.getElem_cons_zero, Act.put, List.setIfInBounds_toArray, List.set_cons_zero, List.set_cons_succ]
                        refine wpAnyH_take (i := 22) (oi := _) (v := ?_) rfl (by kernel_rfl) (by kernel_rfl) (by kernel_rfl) (fun _ _ _ h => h) (Or.inl ⟨by rfl, ?_⟩) (by assumption) ?_
                        rotate_left
                        focus
                          intro w hSw
                          try dsimp only at hSw
                          go_simp
                          try with_reducible rfl
                        try simp only [List.getElem_toArray, List.getElem_cons_succ, List.getElem_cons_zero, Act.put, List.setIfInBounds_toArray, List.set_cons_zero, List.set_cons_succ]
                        refine wpAnyH_take (i := 23) (oi := _) (v := ?_) rfl (by kernel_rfl) (by kernel_rfl) (by kernel_rfl) (fun _ _ _ h => h) (Or.inl ⟨by rfl, ?_⟩) (by assumption) ?_
                        rotate_left
                        focus
                          intro w hSw
                          try dsimp only at hSw
                          go_simp
                          try with_reducible rfl
                        try simp only [List.getElem_toArray, List.getElem_cons_succ, List.getElem_cons_zero, Act.put, List.setIfInBounds_toArray, List.set_cons_zero, List.set_cons_succ]
                        refine wpAnyH_take (i := 24) (oi := _) (v := ?_) rfl (by kernel_rfl) (by kernel_rfl) (by kernel_rfl) (fun _ _ _ h => h) (Or.inl ⟨by rfl, ?_⟩) (by assumption) ?_
                        rotate_left
                        focus
                          intro w hSw
                          obtain ⟨s3, s0, s1, s2, f0, f1, f2, f3⟩ := HSS.out w hSw
                          go_simp
                          try with_reducible rfl
                        try simp only [List.getElem_toArray, List.getElem_cons_succ, List.getElem_cons_zero, Act.put, List.setIfInBounds_toArray, List.set_cons_zero, List.set_cons_succ]
                        refine wpAnyH_take (i := 25) (oi := _) (v := ?_) rfl (by kernel_rfl) (by kernel_rfl) (by kernel_rfl) (fun _ _ _ h => h) (Or.inl ⟨by rfl, ?_⟩) (by assumption) ?_
                        rotate_left
                        focus
                          intro w hSw
                          try dsimp only at hSw
                          go_simp
                          try with_reducible rfl
                        try simp only [List.getElem_toArray, List.getElem_cons_succ, List.getElem_cons_zero, Act.put, List.setIfInBounds_toArray, List.set_cons_zero, List.set_cons_succ]
                        refine wpAnyH_take (i := 26) (oi := _) (v := ?_) rfl (by kernel_rfl) (by kernel_rfl) (by kernel_rfl) (fun _ _ _ h => h) (Or.inl ⟨by rfl, ?_⟩) (by assumption) ?_
                        rotate_left
                        focus
                          intro w hSw
                          try dsimp only at hSw
                          go_simp
                          try with_reducible rfl
                        try simp only [List.getElem_toArray, List.getElem_cons_succ, List.getElem_cons_zero, Act.put, List.setIfInBounds_toArray, List.set_cons_zero, List.set_cons_succ]
                        refine wpAnyH_take (i := 27) (oi := _) (v := ?_) rfl (by kernel_rfl) (by kernel_rfl) (by kernel_rfl) (fun _ _ _ h => h) (Or.inl ⟨by rfl, ?_⟩) (by assumption) ?_
                        rotate_left
                        focus
                          intro w hSw
                          try dsimp only at hSw
                          go_simp
                          try with_reducible rfl
                        try simp only [List.getElem_toArray, List.getElem_cons_succ, List.getElem_cons_zero, Act.put, List.setIfInBounds_toArray, List.set_cons_zero, List.set_cons_succ]
                        refine wpAnyH_take (i := 28) (oi := _) (v := ?_) rfl (by kernel_rfl) (by kernel_rfl) (by kernel_rfl) (fun _ _ _ h => h) (Or.inl ⟨by rfl, ?_⟩) (by assumption) ?_
                        rotate_left
                        focus
                          intro w hSw
                          try dsimp only at hSw
                          go_simp
                          try with_reducible rfl
                        try simp only [List.getElem_toArray, List.getElem_cons_succ, List.getElem_cons_zero, Act.put, List.setIfInBounds_toArray, List.set_cons_zero, List.set_cons_succ]
                        refine wpAnyH_take (i := 29) (oi := _) (v := ?_) rfl (by kernel_rfl) (by kernel_rfl) (by kernel_rfl) (fun _ _ _ h => h) (Or.inl ⟨by rfl, ?_⟩) (by assumption) ?_
                        rotate_left
                        focus
                          intro w hSw
                          obtain ⟨s3, s0, s1, s2, f0, f1, f2, f3⟩ := HSS.out w hSw
                          have e0 := HP0.out w hSw
                          go_simp
                          try with_reducible rfl
                        try simp only [List.getElem_toArray, List.getElem_cons_succ, List.getElem_cons_zero, Act.put, List.setIfInBounds_toArray, List.set_cons_zero, List.set_cons_succ]
                        refine wpAnyH_take (i := 30) (oi := _) (v := ?_) rfl (by kernel_rfl) (by kernel_rfl) (by kernel_rfl) (fun _ _ _ h => h) (Or.inl ⟨by rfl, ?_⟩) (by assumption) ?_
                        rotate_left
                        focus
                          intro w hSw
                          go_simp
                          have hcv := convert_RB (P := Try.prog) (HN0.out w hSw) 27 5 9 nc0 Try.underlying27 Try.underlying5 Try.underlying9
                          rw [hcv]
                          first | with_reducible rfl | rw [Result.andThen_ok] | simp only [Result.andThen_ok]
                        try simp only [List.getElem_toArray, List.getElem_cons_succ, List.getElem_cons_zero, Act.put, List.setIfInBounds_toArray, List.set_cons_zero, List.set_cons_succ]
                        refine wpAnyH_take (i := 31) (oi := _) (v := ?_) rfl (by kernel_rfl) (by kernel_rfl) (by kernel_rfl) (fun _ _ _ h => h) (Or.inl ⟨by rfl, ?_⟩) (by assumption) ?_
                        rotate_left
                        focus
                          intro w hSw
                          try dsimp only at hSw
                          go_simp
                          try with_reducible rfl
                        try simp only [List.getElem_toArray, List.getElem_cons_succ, List.getElem_cons_zero, Act.put, List.setIfInBounds_toArray, List.set_cons_zero, List.set_cons_succ]
                        refine wpAnyH_take (i := 32) (oi := _) (v := ?_) rfl (by kernel_rfl) (by kernel_rfl) (by kernel_rfl) (fun _ _ _ h => h) (Or.inl ⟨by rfl, ?_⟩) (by assumption) ?_
                        rotate_left
                        focus
                          intro w hSw
                          obtain ⟨s3, s0, s1, s2, f0, f1, f2, f3⟩ := HSS.out w hSw
                          go_simp
                          try with_reducible rfl
                        try simp only [List.getElem_toArray, List.getElem_cons_succ, List.getElem_cons_zero, Act.put, List.setIfInBounds_toArray, List.set_cons_zero, List.set_cons_succ]
                        refine wpAnyH_take (i := 33) (oi := _) (v := ?_) rfl (by kernel_rfl) (by kernel_rfl) (by kernel_rfl) (fun _ _ _ h => h) (Or.inl ⟨by rfl, ?_⟩) (by assumption) ?_
                        rotate_left
                        focus
                          intro w hSw
                          try dsimp only at hSw
                          go_simp
                          try with_reducible rfl
                        try simp only [List.getElem_toArray, List.getElem_cons_succ, List.getElem_cons_zero, Act.put, List.setIfInBounds_toArray, List.set_cons_zero, List.set_cons_succ]
                        refine wpAnyH_take (i := 34) (oi := _) (v := ?_) rfl (by kernel_rfl) (by kernel_rfl) (by kernel_rfl) (fun _ _ _ h => h) (Or.inl ⟨by rfl, ?_⟩) (by assumption) ?_
                        rotate_left
                        focus
                          intro w hSw
                          try dsimp only at hSw
                          go_simp
                          try with_reducible rfl
                        try simp only [List.getElem_toArray, List.getElem_cons_succ, List.getElem_cons_zero, Act.put, List.setIfInBounds_toArray, List.set_cons_zero, List.set_cons_succ]
                        refine wpAnyH_take (i := 35) (oi := _) (v := ?_) rfl (by kernel_rfl) (by kernel_rfl) (by kernel_rfl) (fun _ _ _ h => h) (Or.inl ⟨by rfl, ?_⟩) (by assumption) ?_
                        rotate_left
                        focus
                          intro w hSw
                          try dsimp only at hSw
                          go_simp
                          try with_reducible rfl
                        try simp only [List.getElem_toArray, List.getElem_cons_succ, List.getElem_cons_zero, Act.put, List.setIfInBounds_toArray, List.set_cons_zero, List.set_cons_succ]
                        refine wpAnyH_take (i := 36) (oi := _) (v := ?_) rfl (by kernel_rfl) (by kernel_rfl) (by kernel_rfl) (fun _ _ _ h => h) (Or.inl ⟨by rfl, ?_⟩) (by assumption) ?_
                        rotate_left
                        focus
                          intro w hSw
                          obtain ⟨s3, s0, s1, s2, f0, f1, f2, f3⟩ := HSS.out w hSw
                          go_simp
                          try with_reducible rfl
                        try simp only [List.getElem_toArray, List.getElem_cons_succ, List.getElem_cons_zero, Act.put, List.setIfInBounds_toArray, List.set_cons_zero, List.set_cons_succ]
                        refine wpAnyH_take (i := 37) (oi := _) (v := ?_) rfl (by kernel_rfl) (by kernel_rfl) (by kernel_rfl) (fun _ _ _ h => h) (Or.inl ⟨by rfl, ?_⟩) (by assumption) ?_
                        rotate_left
                        focus
                          intro w hSw
                          go_simp
                          have hcv := convert_RB (P := Try.prog) (HN1.out w hSw) 27 5 9 nc Try.underlying27 Try.underlying5 Try.underlying9
                          rw [hcv]
                          first | with_reducible rfl | rw [Result.andThen_ok] | simp only [Result.andThen_ok]
                        try simp only [List.getElem_toArray, List.getElem_cons_succ, List.getElem_cons_zero, Act.put, List.setIfInBounds_toArray, List.set_cons_zero, List.set_cons_succ]
                        refine wpAnyH_take (i := 38) (oi := _) (v := ?_) rfl (by kernel_rfl) (by kernel_rfl) (by kernel_rfl) (fun _ _ _ h => h) (Or.inl ⟨by rfl, ?_⟩) (by assumption) ?_
                        rotate_left
                        focus
                          intro w hSw
                          try dsimp only at hSw
                          go_simp
                          try with_reducible rfl
                        try simp only [List.getElem_toArray, List.getElem_cons_succ, List.getElem_cons_zero, Act.put, List.setIfInBounds_toArray, List.set_cons_zero, List.set_cons_succ]
                        refine wpAnyH_take (i := 39) (oi := _) (v := ?_) rfl (by kernel_rfl) (by kernel_rfl) (by kernel_rfl) (fun _ _ _ h => h) (Or.inl ⟨by rfl, ?_⟩) (by assumption) ?_
                        rotate_left
                        focus
                          intro w hSw
                          try dsimp only at hSw
                          go_simp
                          try with_reducible rfl
                        try simp only [List.getElem_toArray, List.getElem_cons_succ, List.getElem_cons_zero, Act.put, List.setIfInBounds_toArray, List.set_cons_zero, List.set_cons_succ]
                        refine wpAnyH_take (i := 40) (oi := _) (v := ?_) rfl (by kernel_rfl) (by kernel_rfl) (by kernel_rfl) (fun _ _ _ h => h) (Or.inl ⟨by rfl, ?_⟩) (by assumption) ?_
                        rotate_left
                        focus
                          intro w hSw
                          try dsimp only at hSw
                          go_simp
                          try with_reducible rfl
                        try simp only [List.getElem_toArray, List.getElem_cons_succ, List.getElem_cons_zero, Act.put, List.setIfInBounds_toArray, List.set_cons_zero, List.set_cons_succ]
                        refine wpAnyH_done (by kernel_rfl) ?_ _
                        refine NoPanic.normal ?_
                        go_wp2
                        go_roundw
                        case rel => exact ⟨j + 1, by omega, by go_num, range_next Hfa.out Hok.out, HL.out _ (by assumption), HKP.out _ (by assumption), HKS.out _ (by assumption)⟩
                        case measure => simp [intOf]; omega
                    exact AllReadyH.nil
                exact AllReadyH.nil
          · have q3 := KSi.cel 3 rfl
            go_wp2
            go_roundw
            case rel =>
              have hjl2 : j = fs.length := by omega
              subst hjl2
              have hok : slOk S S[k] = true := by
                unfold slOk fdsOk
                rw [Hbd.out, ← Hs.out]
                exact Hfa.out
              exact ⟨k + 1, by omega, by go_num, all_next Hall.out hlt hok, hbi, KPi⟩
            case measure => simp [intOf]; omega
    · have hsl : S.all (slOk S) = true := by
        have h1 := Hall.out
        rw [show k = S.length by omega, List.take_length] at h1
        exact h1
      have Hsl := Lib.hid hsl
      have Hbl := Lib.hid hbl
      have HKP := Lib.hid KP
      clear hsl Hall hbl KP
      go_wp2
      clear p0
      go_loopw [6] (fun i wr => ∃ q : Nat, q ≤ Q.length ∧ i = .int .i64 q ∧ (Q.take q).all (liveAt S) = true ∧ Below w.heap.size w wr ∧ Blk wr w.heap.size 32 #[.slice A0 S.length c0, .slice A1 Q.length c1, .slice A2 P.length c2]) (fun i _ => Q.length - (intOf i).toNat)
      case atStart => exact ⟨0, Nat.zero_le _, rfl, by simp, Hbl.out, HKP.out⟩
      case round =>
        obtain ⟨q, hq, rfl, hall, hbl, KP⟩ := hrel
        have Hall := Lib.hid hall
        clear hall Hbl HKP
        have p0 := KP.cel 0 (v := .slice A0 S.length c0) rfl
        have p1 := KP.cel 1 (v := .slice A1 Q.length c1) rfl
        by_cases hlq : q < Q.length
        · obtain ⟨aq, rfl, _, hbq, hqat⟩ := H1.out.2 (by omega)
          obtain ⟨hx0, hx1⟩ := inAll_get Hqa.out hlq
          obtain ⟨m, hm⟩ : ∃ m : Nat, Q[q] = (m : Int) := ⟨Q[q].toNat, by omega⟩
          have hqc := (hbl.cell (by rw [block_of_add]; omega)).trans (hqat q hlq)
          have hml : m < S.length := by omega
          rw [hm] at hqc
          have hlive : liveAt S Q[q] = S[m].live := by rw [hm]; exact liveAt_eq hml
          have Hlive := Lib.hid hlive
          obtain ⟨ad, rfl, _, hbk, hat⟩ := H0.out.2 (by omega)
          obtain ⟨x0, x1, x2, x3, hc4w, hy0, _⟩ := hat m hml
          obtain ⟨d0, d1, d2, d3⟩ := hc4w.keep (w' := wr) (fun q hq => hbl.cell (by rw [hq, block_of_add]; omega))
          subst hy0
          obtain ⟨b, hb⟩ : ∃ b, b = S[m].live := ⟨_, rfl⟩
          rw [← hb] at d0
          have Hb1 := Lib.hid hb
          have Hbl := Lib.hid hbl
          have HKP := Lib.hid KP
          clear hb hlive hm hqat hat hc4w d1 d2 d3 hx0 hx1 hbl KP
          cases b
          · have e : arOk ⟨S, Q, P⟩ = false := arOk_queue hlq (by rw [Hlive.out]; exact Hb1.out.symm)
            go_wp2_with fail
            go_quiet (fail)
            go_wp2
            go_ret
            exact ⟨by rw [e]; rfl, blw_drewN Hbl.out _⟩
          · have hok : liveAt S Q[q] = true := by rw [Hlive.out]; exact Hb1.out.symm
            have Hok := Lib.hid hok
            clear hok
            go_wp2_with fail
            go_quiet (fail)
            go_wp2
            go_roundw
            case rel => exact ⟨q + 1, by omega, by go_num, all_next Hall.out hlq Hok.out, blw_drewN Hbl.out _, Blk.drewN HKP.out _⟩
            case measure => simp [intOf]; omega
        · have hql : Q.all (liveAt S) = true := by
            have h1 := Hall.out
            rw [show q = Q.length by omega, List.take_length] at h1
            exact h1
          have Hql := Lib.hid hql
          have Hbl := Lib.hid hbl
          have HKP := Lib.hid KP
          clear hql Hall hbl KP
          go_wp2
          clear p0 p1
          go_loopw [7] (fun i wr => ∃ q : Nat, q ≤ P.length ∧ i = .int .i64 q ∧ (List.range q).all (purAt S P) = true ∧ Below w.heap.size w wr ∧ Blk wr w.heap.size 32 #[.slice A0 S.length c0, .slice A1 Q.length c1, .slice A2 P.length c2]) (fun i _ => P.length - (intOf i).toNat)
          case atStart => exact ⟨0, Nat.zero_le _, rfl, by simp, Hbl.out, HKP.out⟩
          case round =>
            obtain ⟨r, hr, rfl, hall, hbl, KP⟩ := hrel
            have Hall := Lib.hid hall
            clear hall Hbl HKP
            have p0 := KP.cel 0 (v := .slice A0 S.length c0) rfl
            have p2 := KP.cel 2 (v := .slice A2 P.length c2) rfl
            by_cases hlr : r < P.length
            · obtain ⟨ap, rfl, _, hbp, hpat⟩ := H2.out.2 (by omega)
              obtain ⟨hx0, hx1⟩ := inAll_get Hpa.out hlr
              obtain ⟨m, hm⟩ : ∃ m : Nat, P[r] = (m : Int) := ⟨P[r].toNat, by omega⟩
              have hpc := (hbl.cell (by rw [block_of_add]; omega)).trans (hpat r hlr)
              have hml : m < S.length := by omega
              rw [hm] at hpc
              have hpur : purAt S P r = (S[m].live && !(P.take r).contains (m : Int)) := by rw [purAt_eq hlr, hm, liveAt_eq hml]
              have Hpur := Lib.hid hpur
              have hcr : (r : Int) ≤ (c2 : Int) := by omega
              obtain ⟨ad, rfl, _, hbk, hat⟩ := H0.out.2 (by omega)
              obtain ⟨x0, x1, x2, x3, hc4w, hy0, _⟩ := hat m hml
              obtain ⟨d0, d1, d2, d3⟩ := hc4w.keep (w' := wr) (fun q hq => hbl.cell (by rw [hq, block_of_add]; omega))
              subst hy0
              have Hh := Lib.hid (fun n => l4has_c P (some ap) c2 L B r (m : Int) (wr.drewN n) hr (IL.drewN (H2.out.below (hbl.mono hB)) n))
              obtain ⟨b, hb⟩ : ∃ b, b = S[m].live := ⟨_, rfl⟩
              rw [← hb] at d0
              have Hb1 := Lib.hid hb
              have Hbl := Lib.hid hbl
              have HKP := Lib.hid KP
              clear hb hpur hm hpat hat hc4w d1 d2 d3 hx0 hx1 hbl KP
              cases b
              · have e : arOk ⟨S, Q, P⟩ = false := arOk_purple hlr (by rw [Hpur.out, ← Hb1.out]; rfl)
                clear Hh
                go_wp2_with fail
                go_quiet (fail)
                go_wp2
                go_ret
                exact ⟨by rw [e]; rfl, blw_drewN Hbl.out _⟩
              cases hct : (P.take r).contains (m : Int)
              · have hok : purAt S P r = true := by rw [Hpur.out, ← Hb1.out, hct]; rfl
                have Hok := Lib.hid hok
                rw [hct] at Hh
                clear hok hct
                have Ht := Lib.hid (show ∀ x, Calls Try.prog 68 #[.slice (some ap) r c2, .int .i64 m] (wr.drewN x) fun e w'' => e = .returned (.bool false) ∧ ∃ n, w'' = wr.drewN n from fun x => by
                  refine Calls.quiet_of_same ((Hh.out _).mono ?_)
                  rintro e w' ⟨rfl, rfl⟩
                  exact ⟨rfl, rfl⟩)
                clear Hh
                go_wp2_with fail
                go_quiet ((go_at_call 68; exact Ht.out _))
                go_wp2
                go_roundw
                case rel => exact ⟨r + 1, by omega, by go_num, range_next Hall.out Hok.out, blw_drewN Hbl.out _, Blk.drewN HKP.out _⟩
                case measure => simp [intOf]; omega
              · have e : arOk ⟨S, Q, P⟩ = false := arOk_purple hlr (by rw [Hpur.out, ← Hb1.out, hct]; rfl)
                rw [hct] at Hh
                clear hct
                have Ht := Lib.hid (show ∀ x, Calls Try.prog 68 #[.slice (some ap) r c2, .int .i64 m] (wr.drewN x) fun e w'' => e = .returned (.bool true) ∧ ∃ n, w'' = wr.drewN n from fun x => by
                  refine Calls.quiet_of_same ((Hh.out _).mono ?_)
                  rintro e w' ⟨rfl, rfl⟩
                  exact ⟨rfl, rfl⟩)
                clear Hh
                go_wp2_with fail
                go_quiet ((go_at_call 68; exact Ht.out _))
                go_wp2
                go_ret
                exact ⟨by rw [e]; rfl, blw_drewN Hbl.out _⟩
            · have e : arOk ⟨S, Q, P⟩ = true := arOk_yes Hb.out Hqa.out Hpa.out Hsl.out Hql.out (by
                have h1 := Hall.out
                rwa [show r = P.length by omega] at h1)
              clear p0
              go_wp2
              go_ret
              exact ⟨by rw [e]; rfl, hbl⟩
end Go.Proofs.Ytfmlgpnjckamjaa
