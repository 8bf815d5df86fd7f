/-
  GetField of the program: names in order, the search among fields.
-/
import Derived.Test.YtmjpcgainoflbaaGetD
import Derived.Test.YtmjpcgainoflbaaCmpB
namespace Go.Proofs.Ytmjpcgainoflbaa
open Go.RowKit
set_option linter.unusedVariables false
set_option linter.unusedSimpArgs false

theorem bl_trans : ∀ (a b c : List UInt8), Op.bytesLess a b = true → Op.bytesLess b c = true → Op.bytesLess a c = true
  | a, [], _, h, _ => by cases a <;> simp [Op.bytesLess] at h
  | _, _ :: _, [], _, h => by simp [Op.bytesLess] at h
  | [], _ :: _, _ :: _, _, _ => by simp [Op.bytesLess]
  | x :: a, y :: b, z :: c, h1, h2 => by
    unfold Op.bytesLess at h1 h2 ⊢
    simp only [Bool.or_eq_true, Bool.and_eq_true, decide_eq_true_eq, beq_iff_eq] at *
    rcases h1 with h1 | ⟨rfl, h1⟩
    · rcases h2 with h2 | ⟨rfl, h2⟩
      · exact .inl (UInt8.lt_trans h1 h2)
      · exact .inl h1
    · rcases h2 with h2 | ⟨rfl, h2⟩
      · exact .inl h2
      · exact .inr ⟨rfl, bl_trans _ _ _ h1 h2⟩
theorem bl_irrefl : ∀ (a : List UInt8), Op.bytesLess a a = false
  | [] => by simp [Op.bytesLess]
  | x :: a => by unfold Op.bytesLess; simp [bl_irrefl a]
theorem cmp_zero : ∀ (a b : List UInt8), Lib.compareBytes a b = 0 ↔ a = b
  | [], [] => by simp [Lib.compareBytes]
  | [], _ :: _ => by simp [Lib.compareBytes]
  | _ :: _, [] => by simp [Lib.compareBytes]
  | x :: a, y :: b => by
    have ih := cmp_zero a b
    unfold Lib.compareBytes
    by_cases h1 : x < y
    · have hne : ¬ x = y := by rintro rfl; exact UInt8.lt_irrefl _ h1
      simp [h1, hne]
    · by_cases h2 : y < x
      · have hne : ¬ x = y := by rintro rfl; exact h1 h2
        simp [h1, h2, hne]
      · have : x = y := UInt8.le_antisymm (UInt8.not_lt.1 h2) (UInt8.not_lt.1 h1)
        subst this
        simp [h1, ih]
/-- names in order -/
def Srt (fs : List Fd) : Prop := ∀ i j (hi : i < fs.length) (hj : j < fs.length), i < j → Op.bytesLess fs[i].name fs[j].name = true
theorem fdsOk_srt {S : List Sl} {fs : List Fd} (h : fdsOk S fs = true) : Srt fs := by
  have step : ∀ k (hk : k + 1 < fs.length), Op.bytesLess fs[k].name fs[k + 1].name = true := fun k hk => by
    unfold fdsOk at h
    rw [List.all_eq_true] at h
    have := h (k + 1) (List.mem_range.2 hk)
    rw [fdAt_succ hk, Bool.and_eq_true] at this
    exact this.2
  have go : ∀ d i (hd : i + d + 1 < fs.length), Op.bytesLess (fs[i]'(by omega)).name fs[i + d + 1].name = true := fun d => by
    induction d with
    | zero => intro i hd; exact step i hd
    | succ d ih => intro i hd; exact bl_trans _ _ _ (ih i (by omega)) (step (i + d + 1) hd)
  intro i j hi hj hij
  have := go (j - i - 1) i (by omega)
  simpa [show i + (j - i - 1) + 1 = j by omega] using this

set_option maxHeartbeats 1000000 in
theorem cmpF_c (nm b : List UInt8) (NF NA : Option Addr) (nfc nc : Nat) (fk fn fg : Int) (BF BN : Nat) (w : World) (hBF : BF ≤ w.heap.size) (hBN : BN ≤ w.heap.size) (h : RB w BF NF nm) (hn : RB w BN NA b) :
    Calls Try.prog 119 #[.agg #[.slice NF nm.length nfc, .int .i64 fk, .int .i64 fn, .int .i64 fg], .slice NA b.length nc] w fun e w' => e = .returned (.int .i64 (Lib.compareBytes nm b)) ∧ Below w.heap.size w w' := by
  have hbw := blw1 w (.cells #[.slice NF nm.length nfc, .int .i64 fk, .int .i64 fn, .int .i64 fg] 130)
  have Hc := Lib.hid (bytesCompare_c nm b NF NA nfc nc BF BN (w.alloc (.cells #[.slice NF nm.length nfc, .int .i64 fk, .int .i64 fn, .int .i64 fg] 130)) (h.below (hbw.mono hBF)) (hn.below (hbw.mono hBN)))
  have Hb := Lib.hid hbw
  clear h hn hbw
  go_enter Try.func119, Try.ntmps119
  go_wp2_with fail
  refine Hc.out.mono ?_
  rintro e w' ⟨rfl, rfl⟩
  go_wp2
  go_ret
  exact ⟨rfl, Hb.out⟩

/-- where a name is, or would be -/
def FindA (fs : List Fd) (b : List UInt8) (i : Nat) (f : Bool) : Prop := i ≤ fs.length ∧ (f = true → ∃ h : i < fs.length, fs[i].name = b) ∧ (f = false → ∀ j (hj : j < fs.length), ¬ fs[j].name = b)

theorem FindA.miss {fs : List Fd} {b : List UInt8} {i : Nat} (hi : i ≤ fs.length) (hs : Srt fs) (h1 : ∀ t (ht : t < fs.length), t < i → Op.bytesLess fs[t].name b = true) (h2 : ∀ t (ht : t < fs.length), i ≤ t → Op.bytesLess fs[t].name b = false)
    (h3 : ∀ ht : i < fs.length, ¬ fs[i].name = b) : FindA fs b i false :=
  ⟨hi, (by intro h; cases h), fun _ j hj e => by
    rcases Nat.lt_trichotomy j i with h | h | h
    · have := h1 j hj h
      rw [e, bl_irrefl] at this
      cases this
    · subst h; exact h3 hj e
    · have h4 := hs i j (by omega) hj h
      rw [e] at h4
      have h5 := h2 i (by omega) (Nat.le_refl _)
      rw [h4] at h5
      cases h5⟩

set_option maxRecDepth 100000 in
set_option maxHeartbeats 4000000 in
theorem search_c (fs : List Fd) (b : List UInt8) (FA NA : Option Addr) (fc nc L B BN : Nat) (w : World) (hB : B ≤ w.heap.size) (hBN : BN ≤ w.heap.size) (hl : fs.length ≤ 1048576) (hs : Srt fs) (h : FdL w L B FA fs) (hn : RB w BN NA b) :
    Calls Try.prog 118 #[.slice FA fs.length fc, .slice NA b.length nc, .func (.func 119) #[] #[]] w fun e w' => ∃ i f, e = .returned (.tuple #[.int .i64 (i : Nat), .bool f]) ∧ FindA fs b i f ∧ Below w.heap.size w w' := by
  have HS := Lib.hid hs
  have H := Lib.hid h
  have HN := Lib.hid hn
  clear hs h hn
  go_enter Try.func118, Try.ntmps118
  go_wp2
  go_loopw [9, 10] (fun s9 s10 wr => ∃ lo hi : Nat, s9 = .int .i64 lo ∧ s10 = .int .i64 hi ∧ lo ≤ hi ∧ hi ≤ fs.length ∧ Hid (Below w.heap.size w wr) ∧ Hid (∀ t (ht : t < fs.length), t < lo → Op.bytesLess fs[t].name b = true) ∧ Hid (∀ t (ht : t < fs.length), hi ≤ t → Op.bytesLess fs[t].name b = false)) (fun s9 s10 _ => (intOf s10).toNat - (intOf s9).toNat)
  case atStart => exact ⟨0, fs.length, rfl, rfl, Nat.zero_le _, Nat.le_refl _, Lib.hid (Below.refl _ _), Lib.hid (fun t ht h => absurd h (Nat.not_lt_zero _)), Lib.hid (fun t ht h => by omega)⟩
  case round =>
    obtain ⟨lo, hi, rfl, rfl, hlh, hin, hbw, h1, h2⟩ := hrel
    by_cases hlt : lo < hi
    · obtain ⟨fd, rfl, _, hfb, hfat⟩ := (H.out.below (hbw.out.mono hB)).2 (by omega)
      have hmn : (lo + hi) / 2 < fs.length := by omega
      obtain ⟨y0, y1, y2, y3, ⟨f0, f1, f2, f3⟩, NF, nfc, rfl, hnf, -, rfl, rfl, rfl⟩ := hfat ((lo + hi) / 2) hmn
      have Hlow : Hid (Op.bytesLess fs[(lo + hi) / 2].name b = true → ∀ t (ht : t < fs.length), t < (lo + hi) / 2 + 1 → Op.bytesLess fs[t].name b = true) := Lib.hid (fun hy t ht h => by
        rcases Nat.lt_or_ge t ((lo + hi) / 2) with h' | h'
        · exact bl_trans _ _ _ (HS.out t _ ht hmn h') hy
        · obtain rfl : t = (lo + hi) / 2 := by omega
          exact hy)
      have Hhigh : Hid (Op.bytesLess fs[(lo + hi) / 2].name b = false → ∀ t (ht : t < fs.length), (lo + hi) / 2 ≤ t → Op.bytesLess fs[t].name b = false) := Lib.hid (fun hy t ht h => by
        rcases Nat.lt_or_ge ((lo + hi) / 2) t with h' | h'
        · cases hb : Op.bytesLess fs[t].name b
          · rfl
          · rw [bl_trans _ _ _ (HS.out _ t hmn ht h') hb] at hy; cases hy
        · obtain rfl : t = (lo + hi) / 2 := by omega
          exact hy)
      obtain ⟨⟨nm, fk, fn, fg⟩, hf⟩ : ∃ f, f = fs[(lo + hi) / 2] := ⟨_, rfl⟩
      rw [← hf] at f0 f1 f2 f3 hnf Hlow Hhigh
      dsimp only at f0 f1 f2 f3 hnf Hlow Hhigh
      have Hc := Lib.hid (cmpF_c nm b NF NA nfc nc fk fn fg B BN wr (Nat.le_trans hB hbw.out.size) (Nat.le_trans hBN hbw.out.size) hnf.1 (HN.out.below (hbw.out.mono hBN)))
      have hcl := compare_less nm b
      obtain ⟨z, hz⟩ : ∃ z, Lib.compareBytes nm b = z := ⟨_, rfl⟩
      rw [hz] at Hc hcl
      clear hfat hf hnf hz hmn
      by_cases hz0 : z < 0
      · have Hnew := Lib.hid (Hlow.out (by
          cases hb : Op.bytesLess nm b
          · have : 0 ≤ z := by rw [hcl]; exact hb
            omega
          · rfl))
        clear hcl Hlow Hhigh
        go_wp2_with fail
        refine Hc.out.mono ?_
        rintro e w' ⟨rfl, hb'⟩
        have Hb' := Lib.hid (hbw.out.trans (hb'.mono hbw.out.size))
        clear hb' Hc
        go_wp2
        go_roundw
        case rel => exact ⟨(lo + hi) / 2 + 1, hi, by rw [show ((lo : Int) + (hi : Int)) / 2 + 1 = (((lo + hi) / 2 + 1 : Nat) : Int) by omega], rfl, by omega, hin, Hb', Hnew, h2⟩
        case measure => simp [intOf]; omega
      · have Hnew := Lib.hid (Hhigh.out (by rw [← hcl]; omega))
        clear hcl Hlow Hhigh
        go_wp2_with fail
        refine Hc.out.mono ?_
        rintro e w' ⟨rfl, hb'⟩
        have Hb' := Lib.hid (hbw.out.trans (hb'.mono hbw.out.size))
        clear hb' Hc
        go_wp2
        go_roundw
        case rel => exact ⟨lo, (lo + hi) / 2, rfl, by rw [show ((lo : Int) + (hi : Int)) / 2 = (((lo + hi) / 2 : Nat) : Int) by omega], by omega, by omega, Hb', h1, Hnew⟩
        case measure => simp [intOf]; omega
    · obtain rfl : hi = lo := by omega
      by_cases hn : hi < fs.length
      · obtain ⟨fd, rfl, _, hfb, hfat⟩ := (H.out.below (hbw.out.mono hB)).2 (by omega)
        obtain ⟨y0, y1, y2, y3, ⟨f0, f1, f2, f3⟩, NF, nfc, rfl, hnf, -, rfl, rfl, rfl⟩ := hfat hi hn
        have Hmiss : Hid (¬ fs[hi].name = b → FindA fs b hi false) := Lib.hid (fun hne => FindA.miss hin HS.out h1.out h2.out (fun _ => hne))
        have Hhit : Hid (fs[hi].name = b → FindA fs b hi true) := Lib.hid (fun he => ⟨hin, fun _ => ⟨hn, he⟩, (by intro h; cases h)⟩)
        obtain ⟨⟨nm, fk, fn, fg⟩, hf⟩ : ∃ f, f = fs[hi] := ⟨_, rfl⟩
        rw [← hf] at f0 f1 f2 f3 hnf Hmiss Hhit
        dsimp only at f0 f1 f2 f3 hnf Hmiss Hhit
        have Hc := Lib.hid (cmpF_c nm b NF NA nfc nc fk fn fg B BN wr (Nat.le_trans hB hbw.out.size) (Nat.le_trans hBN hbw.out.size) hnf.1 (HN.out.below (hbw.out.mono hBN)))
        have hcz := cmp_zero nm b
        obtain ⟨z, hz⟩ : ∃ z, Lib.compareBytes nm b = z := ⟨_, rfl⟩
        rw [hz] at Hc hcz
        clear hfat hf hnf hz h1 h2
        by_cases hz0 : z = 0
        · have Hr := Lib.hid (Hhit.out (hcz.1 hz0))
          clear hcz Hmiss Hhit
          subst hz0
          go_wp2_with fail
          refine Hc.out.mono ?_
          rintro e w' ⟨rfl, hb'⟩
          have Hb' := Lib.hid (hbw.out.trans (hb'.mono hbw.out.size))
          clear hb' Hc
          go_wp2
          go_ret2
          exact ⟨hi, true, rfl, Hr.out, Hb'.out⟩
        · have Hr := Lib.hid (Hmiss.out (fun e => hz0 (hcz.2 e)))
          have hz1 : (z == 0) = false := by simpa using hz0
          clear hcz Hmiss Hhit
          go_wp2_with fail
          refine Hc.out.mono ?_
          rintro e w' ⟨rfl, hb'⟩
          have Hb' := Lib.hid (hbw.out.trans (hb'.mono hbw.out.size))
          clear hb' Hc
          go_wp2
          go_ret2
          exact ⟨hi, false, (by first | rfl | simp [hz1]), Hr.out, Hb'.out⟩
      · have Hr := Lib.hid (FindA.miss hin HS.out h1.out h2.out (fun ht => absurd ht hn))
        clear h1 h2
        go_wp2
        go_ret2
        exact ⟨hi, false, rfl, Hr.out, hbw.out⟩

set_option maxRecDepth 100000 in
set_option maxHeartbeats 1000000 in
theorem findField_c (fs : List Fd) (b : List UInt8) (FA NA : Option Addr) (fc nc L B BN : Nat) (w : World) (hB : B ≤ w.heap.size) (hBN : BN ≤ w.heap.size) (hl : fs.length ≤ 1048576) (hs : Srt fs) (h : FdL w L B FA fs) (hn : RB w BN NA b) :
    Calls Try.prog 94 #[.slice FA fs.length fc, .slice NA b.length nc] w fun e w' => ∃ i f, e = .returned (.tuple #[.int .i64 (i : Nat), .bool f]) ∧ FindA fs b i f ∧ Below w.heap.size w w' := by
  have Hc := Lib.hid (search_c fs b FA NA fc nc L B BN w hB hBN hl hs h hn)
  clear h hn hs
  go_enter Try.func94, Try.ntmps94
  go_wp2_with fail
  refine Hc.out.mono ?_
  rintro e w' ⟨i, f, rfl, hf, hb⟩
  have Hf := Lib.hid hf
  have Hb := Lib.hid hb
  clear hf hb Hc
  go_wp2
  go_ret2
  exact ⟨i, f, rfl, Hf.out, Hb.out⟩
end Go.Proofs.Ytmjpcgainoflbaa
