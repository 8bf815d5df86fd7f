/-
  The program: small checks, the measure of expressions.
-/
import Derived.Test.YtmejbmfopdfbjaaData
namespace Go.Proofs.Ytmejbmfopdfbjaa
open Go.RowKit
set_option linter.unusedVariables false

theorem implNameOk_c (l : List UInt8) (A : Option Addr) (c B : Nat) (w : World) (hl : l.length ≤ 4294967296) (h : RB w B A l) :
    Calls Try.prog 117 #[.slice A l.length c] w fun e w' => e = .returned (.bool (nameOk l)) ∧ w = w' := by
  cases hw : wordOk l
  · have hn : nameOk l = false := by unfold nameOk; rw [hw]; rfl
    rw [hn]
    have hc := implWordOk_c l A c B w hl h
    rw [hw] at hc
    have Hc := Lib.hid hc
    clear hc hw hn
    go_enter Try.func117, Try.ntmps117
    go_wp2_with (go_at_call 97; refine Hc.out.mono ?_; rintro e w' ⟨rfl, rfl⟩)
    go_ret
    exact ⟨rfl, rfl⟩
  · have hn : nameOk l = !kept l := by unfold nameOk; rw [hw]; rfl
    rw [hn]
    have hc := implWordOk_c l A c B w hl h
    rw [hw] at hc
    have Hc := Lib.hid hc
    clear hc hw hn
    go_enter Try.func117, Try.ntmps117
    go_wp2_with (first
      | (go_at_call 97; refine Hc.out.mono ?_; rintro e w' ⟨rfl, rfl⟩)
      | (go_at_call 121; refine (implKept_c l A c B _ h).mono ?_; rintro e w' ⟨rfl, rfl⟩))
    go_ret
    exact ⟨rfl, rfl⟩

theorem binSign_c (n : Int) (w : World) :
    Calls Try.prog 122 #[.int .i64 n] w fun e w' => e = .returned (.bool (isBin n)) ∧ w = w' := by
  by_cases h : n = 43 ∨ n = 45 ∨ n = 42 ∨ n = 60 ∨ n = 61
  · rcases h with rfl | rfl | rfl | rfl | rfl
    all_goals
      go_enter Try.func122, Try.ntmps122
      go_wp2
      go_ret
      exact ⟨rfl, rfl⟩
  · have hn : isBin n = false := by unfold isBin; simp; omega
    rw [hn]
    have h1 : ¬ n = 43 := by omega
    have h2 : ¬ n = 45 := by omega
    have h3 : ¬ n = 42 := by omega
    have h4 : ¬ n = 60 := by omega
    have h5 : ¬ n = 61 := by omega
    clear h hn
    go_enter Try.func122, Try.ntmps122
    go_wp2
    go_ret
    exact ⟨rfl, rfl⟩

theorem ret_bool' {a b : Bool} (h : b = a) : Ending.returned (.bool a) = .returned (.bool b) := by rw [h]

set_option maxHeartbeats 1000000 in
theorem exEmpty_c (e : Ex) (v0 v1 v2 v3 : Value) (L B : Nat) (w : World) (h : ExV w L B v0 v1 v2 v3 e) :
    Calls Try.prog 118 #[.agg #[v0, v1, v2, v3]] w fun r w' => r = .returned (.bool (exNone e)) ∧ Below w.heap.size w w' := by
  cases e with
  | mk k n name args =>
    obtain ⟨A, c, A', c', rfl, rfl, rfl, rfl, hR, hm, hx⟩ := h.open_
    unfold maxLen at hm
    have hm' := hx.1
    unfold maxLen at hm'
    have hb : Below w.heap.size w (w.alloc (.cells #[.int .i64 k, .int .i64 n, .slice A name.length c, .slice A' args.length c'] 73)) := (Below.refl _ _).alloc (Nat.le_refl _) _
    clear hx hR h
    go_enter Try.func118, Try.ntmps118
    go_wp2
    all_goals
      go_ret
      refine ⟨ret_bool' ?_, by first | exact hb | simp_all⟩
      first
        | (simp_all [exNone]; done)
        | (simp_all [exNone]; rw [Bool.eq_iff_iff, beq_iff_eq, beq_iff_eq]; omega)

theorem nat_beq (n : Nat) (m : Nat) : ((n : Int) == (m : Int)) = (n == m) := by rw [Bool.eq_iff_iff, beq_iff_eq, beq_iff_eq]; omega
theorem nat_le (n : Nat) (m : Nat) : decide ((n : Int) ≤ (m : Int)) = decide (n ≤ m) := by rw [Bool.eq_iff_iff, decide_eq_true_iff, decide_eq_true_iff]; omega

set_option maxHeartbeats 4000000 in
theorem exOk_c (k n : Int) (name : List UInt8) (args : List Ex) (v0 v1 v2 v3 : Value) (L B : Nat) (w : World) (hl : name.length ≤ 4294967296) (hB : B ≤ w.heap.size) (h : ExV w L B v0 v1 v2 v3 (.mk k n name args)) :
    Calls Try.prog 119 #[.agg #[v0, v1, v2, v3]] w fun r w' => r = .returned (.bool (exOk1 k n name args.length)) ∧ Below w.heap.size w w' := by
  obtain ⟨A, c, A', c', rfl, rfl, rfl, rfl, hR, hm, hx⟩ := h.open_
  unfold maxLen at hm
  have hm' := hx.1
  unfold maxLen at hm'
  have hb : Below w.heap.size w (w.alloc (.cells #[.int .i64 k, .int .i64 n, .slice A name.length c, .slice A' args.length c'] 73)) := (Below.refl _ _).alloc (Nat.le_refl _) _
  have hc := fun o => implNameOk_c name A c B (w.alloc o) hl (hR.1.alloc hB o)
  have hs := binSign_c n
  have Hc := Lib.hid hc
  have Hs := Lib.hid hs
  clear hx hR h hc hs
  by_cases hk : 0 ≤ k ∧ k ≤ 8
  · have hks : k = 0 ∨ k = 1 ∨ k = 2 ∨ k = 3 ∨ k = 4 ∨ k = 5 ∨ k = 6 ∨ k = 7 ∨ k = 8 := by omega
    clear hk
    rcases hks with rfl | rfl | rfl | rfl | rfl | rfl | rfl | rfl | rfl
    all_goals
      go_enter Try.func119, Try.ntmps119
      go_wp2_with (first
        | (go_at_call 117; refine (Hc.out _).mono ?_; rintro e w' ⟨rfl, rfl⟩)
        | (go_at_call 122; refine (Hs.out _).mono ?_; rintro e w' ⟨rfl, rfl⟩))
    all_goals
      go_ret
      refine ⟨ret_bool' ?_, by first | exact hb | simp_all⟩
      first
        | (simp_all [exOk1]; done)
        | (simp [exOk1, *]; done)
        | (simp [exOk1, *]; omega)
        | (simp [exOk1, *]; rw [Bool.eq_iff_iff]; simp; omega)
        | (simp_all [exOk1]; exact (nat_beq _ 0).symm)
  · have he : exOk1 k n name args.length = false := by
      unfold exOk1
      rw [if_neg (by omega), if_neg (by omega), if_neg (by omega), if_neg (by omega), if_neg (by omega), if_neg (by omega), if_neg (by omega)]
    rw [he]
    have k0 : ¬ k = 0 := by omega
    have k1 : ¬ k = 1 := by omega
    have k2 : ¬ k = 2 := by omega
    have k3 : ¬ k = 3 := by omega
    have k4 : ¬ k = 4 := by omega
    have k5 : ¬ k = 5 := by omega
    have k6 : ¬ k = 6 := by omega
    have k7 : ¬ k = 7 := by omega
    have k8 : ¬ k = 8 := by omega
    clear he hk Hc Hs
    go_enter Try.func119, Try.ntmps119
    go_wp2
    go_ret
    exact ⟨rfl, hb⟩
end Go.Proofs.Ytmejbmfopdfbjaa

namespace Go.Proofs.Ytmejbmfopdfbjaa
open Go.RowKit
set_option linter.unusedVariables false

set_option maxHeartbeats 4000000 in
theorem stOk_c (k : Int) (name : List UInt8) (e f : Ex) (body els : List St) (vs : List Value) (L B : Nat) (w : World) (hl : name.length ≤ 4294967296) (hB : B ≤ w.heap.size) (h : StV w L B vs (.mk k name e f body els)) :
    Calls Try.prog 111 #[.agg vs.toArray] w fun r w' => r = .returned (.bool (stOk1 k name f body.length els.length)) ∧ Below w.heap.size w w' := by
  obtain ⟨A, c, e0, e1, e2, e3, f0, f1, f2, f3, A1, c1, A2, c2, rfl, hR, hm, he, hf, hb1, hb2⟩ := h.open_
  unfold maxLen at hm
  have hm1 := hb1.1
  have hm2 := hb2.1
  unfold maxLen at hm1 hm2
  have hb : ∀ o, Below w.heap.size w (w.alloc o) := fun o => (Below.refl _ _).alloc (Nat.le_refl _) _
  have hc := fun o => implNameOk_c name A c B (w.alloc o) hl (hR.1.alloc hB o)
  have hs := fun (u0 u1 : Value) => (exEmpty_c f f0 f1 f2 f3 L B (w.alloc (.cells #[u0, u1, e0, e1, e2, e3, f0, f1, f2, f3, .slice A1 body.length c1, .slice A2 els.length c2] 98)) (hf.below ((hb _).mono hB))).mono
    (R' := fun r w' => r = .returned (.bool (exNone f)) ∧ Below w.heap.size w w' ∧ w'.cell? ⟨w.heap.size, 10, none⟩ = some (.slice A1 body.length c1) ∧ w'.cell? ⟨w.heap.size, 11, none⟩ = some (.slice A2 els.length c2))
    (fun r w' hh => ⟨hh.1, (hb _).trans (hh.2.mono (hb _).size), ((Blk.new w _ _).below hh.2 (by simp)).cell_of 10 rfl, ((Blk.new w _ _).below hh.2 (by simp)).cell_of 11 rfl⟩)
  obtain ⟨xk, xn, xA, xa, xc, xA', xa', xc', rfl, rfl, rfl, rfl⟩ := he.shape
  obtain ⟨yk, yn, yA, ya, yc, yA', ya', yc', rfl, rfl, rfl, rfl⟩ := hf.shape
  have Hc := Lib.hid hc
  have Hs := Lib.hid hs
  clear hR h hc hs he hf hb1 hb2
  by_cases hk : 0 ≤ k ∧ k ≤ 7
  · have hks : k = 0 ∨ k = 1 ∨ k = 2 ∨ k = 3 ∨ k = 4 ∨ k = 5 ∨ k = 6 ∨ k = 7 := by omega
    clear hk
    rcases hks with rfl | rfl | rfl | rfl | rfl | rfl | rfl | rfl
    all_goals
      go_enter Try.func111, Try.ntmps111
      go_wp2_with (first
        | (go_at_call 117; refine (Hc.out _).mono ?_; rintro e w' ⟨rfl, rfl⟩)
        | (go_at_call 118; refine (Hs.out _ _).mono ?_; rintro e w' ⟨rfl, hbw, q10, q11⟩))
    all_goals
      go_ret
      refine ⟨ret_bool' ?_, by first | exact hbw | exact hb _⟩
      first
        | (simp_all [stOk1]; done)
        | (simp [stOk1, *]; done)
        | (simp [stOk1, *]; omega)
        | (simp [stOk1, *]; rw [Bool.eq_iff_iff]; simp; omega)
        | (simp_all [stOk1]; exact (nat_beq _ 0).symm)
  · have he : stOk1 k name f body.length els.length = false := by
      unfold stOk1
      rw [if_neg (by omega), if_neg (by omega), if_neg (by omega), if_neg (by omega), if_neg (by omega)]
    rw [he]
    have k0 : ¬ k = 0 := by omega
    have k1 : ¬ k = 1 := by omega
    have k2 : ¬ k = 2 := by omega
    have k3 : ¬ k = 3 := by omega
    have k4 : ¬ k = 4 := by omega
    have k5 : ¬ k = 5 := by omega
    have k6 : ¬ k = 6 := by omega
    have k7 : ¬ k = 7 := by omega
    clear he hk Hc Hs
    go_enter Try.func111, Try.ntmps111
    go_wp2
    go_ret
    exact ⟨rfl, hb _⟩
end Go.Proofs.Ytmejbmfopdfbjaa

namespace Go.Proofs.Ytmejbmfopdfbjaa
open Go.RowKit
set_option linter.unusedVariables false

def enterOk (a d : Int) : Bool := decide (a + 1 ≤ 90) && decide (d ≤ 7)

set_option maxHeartbeats 1000000 in
theorem enter_c (g : Nat) (a c d : Int) (w : World) (hK : Blk w g 102 #[.int .i64 a, .int .i64 c]) (ha : 0 ≤ a) (ha' : a ≤ 90) (hc : 0 ≤ c) (hc' : c ≤ 100) (hd : 0 ≤ d) (hd' : d ≤ 8) :
    Calls Try.prog 110 #[.pointer (some ⟨g, 0, none⟩), .int .i64 d] w fun e w' => e = .returned (.bool (enterOk a d)) ∧ Past g w w' ∧ Blk w' g 102 #[.int .i64 (a + 1), .int .i64 (max c d)] := by
  have c0 := hK.cell_of 0 rfl
  have c1 := hK.cell_of 1 rfl
  have f0 := hK.frozen 0
  have f1 := hK.frozen 1
  go_enter Try.func110, Try.ntmps110
  go_wp2
  all_goals
    go_ret
    refine ⟨ret_bool' (by unfold enterOk; first | (simp_all; done) | (simp_all; omega)), ((Past.refl g w).set_ (.inl rfl) _).set_ (.inl rfl) _, ?_⟩
    have K := (hK.set_ 0 (.int .i64 (a + 1))).set_ 1 (.int .i64 (max c d))
    have hm : (max c d = d ∧ c ≤ d) ∨ (max c d = c ∧ d ≤ c) := by omega
    rcases hm with ⟨hm, _⟩ | ⟨hm, _⟩
    all_goals
      rw [hm] at K ⊢
      first
        | exact K
        | (exfalso; omega)
        | (have : c = d := by omega
           subst this
           exact K)
end Go.Proofs.Ytmejbmfopdfbjaa

namespace Go.Proofs.Ytmejbmfopdfbjaa
open Go.RowKit
set_option linter.unusedVariables false

/-- what a measure tells: yes, and what it has counted then; or no -/
def MeaP (yes : Bool) (n dp g : Nat) (a c : Int) (w : World) (r : Ending) (w' : World) : Prop :=
  ∃ b, r = .returned (.bool b) ∧ Past g w w' ∧ ∃ a' c' : Int, Blk w' g 102 #[.int .i64 a', .int .i64 c'] ∧ (b = true ↔ (yes = true ∧ a + n ≤ 90)) ∧ (b = true → a' = a + n ∧ c' = max c dp)

theorem exsSz_take : ∀ (l : List Ex) (k : Nat) (hk : k < l.length), exSz l[k] ≤ exsSz l := fun l k hk => by have := exsSz_get hk; omega

/-- a slice of expressions whose own row lies anywhere but in block g -/
def ExR (w : World) (g L B : Nat) (A : Option Addr) (l : List Ex) : Prop :=
  l.length ≤ maxLen ∧ (0 < l.length → ∃ ad, A = some ad ∧ ad.block ≠ g ∧ ad.block < w.heap.size ∧ ∀ k (h : k < l.length), ∃ v0 v1 v2 v3, At4 w (ad.add (k * 4)) v0 v1 v2 v3 ∧ ExV w L B v0 v1 v2 v3 l[k])
theorem ExL.exr {w : World} {L B g : Nat} {A : Option Addr} {l : List Ex} (h : ExL w L B A l) (hg : B ≤ g) (hB : B ≤ w.heap.size) : ExR w g L B A l :=
  ⟨h.1, fun hn => by
    obtain ⟨ad, eA, hL, hb, hs⟩ := h.2 hn
    exact ⟨ad, eA, by omega, by omega, hs⟩⟩
theorem ExR.past {w w' : World} {L B g : Nat} {A : Option Addr} {l : List Ex} (h : ExR w g L B A l) (hp : Past g w w') (hg : B ≤ g) (hB : B ≤ w.heap.size) : ExR w' g L B A l :=
  ⟨h.1, fun hn => by
    obtain ⟨ad, eA, hne, hb, hs⟩ := h.2 hn
    have := hp.size
    refine ⟨ad, eA, hne, by omega, fun k hk => ?_⟩
    obtain ⟨v0, v1, v2, v3, h4, hv⟩ := hs k hk
    refine ⟨v0, v1, v2, v3, h4.keep (fun q hq => ?_), hv.below (hp.below hg hB)⟩
    exact World.cell?_of_block (hp.block q.block (by rw [hq, block_of_add]; exact hb) (by rw [hq, block_of_add]; exact hne))⟩

def MeaExs (l : List Ex) : Prop := ∀ (A : Option Addr) (cp L B g d : Nat) (a c : Int) (w : World), ExR w g L B A l → B ≤ w.heap.size → B ≤ g → exsSz l ≤ 2097152 →
  Blk w g 102 #[.int .i64 a, .int .i64 c] → 0 ≤ a → a ≤ 90 → 0 ≤ c → c ≤ 100 → d ≤ 8 →
  Calls Try.prog 112 #[.pointer (some ⟨g, 0, none⟩), .slice A l.length cp, .int .i64 (d : Int)] w (MeaP (exsGood l d) (exsN l) (exsDeep l d) g a c w)

theorem exsDeep_le : ∀ (l : List Ex) (d : Nat), exsGood l d = true → exsDeep l d ≤ 7 := by
  intro l d h
  induction l with
  | nil => simp [exsDeep]
  | cons e r ih =>
    simp only [exsGood, Bool.and_eq_true] at h
    have h1 := ih h.2
    have h2 : ∀ (e : Ex) (d : Nat), exGood e d = true → exDeep e d ≤ 7 := fun e => Ex.ind (P := fun e => ∀ d, exGood e d = true → exDeep e d ≤ 7) (fun k n name args ihe d he => by
      rw [exGood_mk] at he
      simp only [Bool.and_eq_true, decide_eq_true_eq] at he
      rw [exDeep_mk]
      have : ∀ (l : List Ex), (∀ e ∈ l, ∀ d, exGood e d = true → exDeep e d ≤ 7) → ∀ d, exsGood l d = true → exsDeep l d ≤ 7 := by
        intro l
        induction l with
        | nil => intro _ d _; simp [exsDeep]
        | cons x t iht =>
          intro hx d hg
          simp only [exsGood, Bool.and_eq_true] at hg
          have := hx x (by simp) d hg.1
          have := iht (fun e he => hx e (by simp [he])) d hg.2
          simp only [exsDeep]; omega
      have := this args ihe (d + 1) he.2
      omega) e
    have := h2 e d h.1
    simp only [exsDeep]; omega

set_option maxHeartbeats 2000000 in
theorem measureExs_of (l : List Ex) (ih : ∀ e ∈ l, ∀ k n name args, e = .mk k n name args → MeaExs args) : MeaExs l := by
  intro A cp L B g d a c w h hB hg hsz hK ha ha' hc hc' hd
  have hn := h.1
  unfold maxLen at hn
  have Ih := Lib.hid ih
  have Hsz := Lib.hid hsz
  clear ih hsz
  go_enter Try.func112, Try.ntmps112
  go_wp2
  go_loopw [11] (fun i wr => ∃ (k : Nat) (a' c' : Int), k ≤ l.length ∧ i = .int .i64 k ∧ Past g w wr ∧ Blk wr g 102 #[.int .i64 a', .int .i64 c'] ∧ a' = a + exsN (l.take k) ∧ c' = max c (exsDeep (l.take k) d) ∧ a' ≤ 90 ∧ Hid (exsGood (l.take k) d = true)) (fun i _ => l.length - (intOf i).toNat)
  case atStart => exact ⟨0, a, c, Nat.zero_le _, rfl, Past.refl _ _, hK, by simp [exsN], by simp [exsDeep]; omega, ha', Lib.hid (by simp [exsGood])⟩
  case round =>
    obtain ⟨k, a', c', hk, rfl, hP, hKr, ea, ec, ha2, hgood⟩ := hrel
    by_cases hlt : k < l.length
    · obtain ⟨ad, rfl, _, hbk, hat⟩ := (h.past hP hg hB).2 (by omega)
      obtain ⟨v0, v1, v2, v3, ⟨c0, c1, c2, c3⟩, hv⟩ := hat k hlt
      obtain ⟨kk, n, name, args, hle⟩ : ∃ kk n name args, l[k] = .mk kk n name args := by cases l[k]; exact ⟨_, _, _, _, rfl⟩
      have hle' := Lib.hid hle
      rw [hle] at hv
      clear hle hat
      obtain ⟨xA, xc, xA', xc', rfl, rfl, rfl, rfl, xR, xm, xx⟩ := hv.open_
      have hgo := hKr.alloc (.cells #[.int .i64 kk, .int .i64 n, .slice xA name.length xc, .slice xA' args.length xc'] 73)
      have hPo : Past g wr (wr.alloc (.cells #[.int .i64 kk, .int .i64 n, .slice xA name.length xc, .slice xA' args.length xc'] 73)) := (Past.refl g wr).alloc _
      have hget := exsN_get hlt
      have hN : exN l[k] = 1 + exsN args := by rw [hle'.out, exN_mk]
      have hd0 := exsDeep_le _ _ hgood.out
      have hfac : exsGood l d = true → d ≤ 7 ∧ exOk1 kk n name args.length = true ∧ exsGood args (d + 1) = true := fun hh => by
        have := exsGood_get hlt hh
        rw [hle'.out, exGood_mk] at this
        simp only [Bool.and_eq_true, decide_eq_true_eq] at this
        exact ⟨this.1.1, this.1.2, this.2⟩
      have hxs : name.length + exsSz args ≤ 2097152 := by have := exsSz_take l k hlt; rw [hle'.out, exSz_mk] at this; have := Hsz.out; omega
      have hstep : d ≤ 7 → exOk1 kk n name args.length = true → exsGood args (d + 1) = true → exsGood (l.take (k + 1)) d = true := fun h1 h2 h3 => by
        rw [exsGood_step hlt, hgood.out, hle'.out, exGood_mk, h2, h3]; simp [h1]
      have hdeep : exsDeep (l.take (k + 1)) d = max (exsDeep (l.take k) d) (max d (exsDeep args (d + 1))) := by rw [exsDeep_step hlt, hle'.out, exDeep_mk]
      have hNs := exsN_step hlt
      rw [hN] at hget hNs
      have F : Hid (a' = a + exsN (l.take k) ∧ c' = max c (exsDeep (l.take k) d) ∧ exsN (l.take k) + (1 + exsN args) ≤ exsN l ∧ exsDeep (l.take k) d ≤ 7 ∧ (exsGood l d = true → d ≤ 7 ∧ exOk1 kk n name args.length = true ∧ exsGood args (d + 1) = true) ∧
          (d ≤ 7 → exOk1 kk n name args.length = true → exsGood args (d + 1) = true → exsGood (l.take (k + 1)) d = true) ∧ exsDeep (l.take (k + 1)) d = max (exsDeep (l.take k) d) (max d (exsDeep args (d + 1))) ∧ exsN (l.take (k + 1)) = exsN (l.take k) + (1 + exsN args)) :=
        Lib.hid ⟨ea, ec, hget, hd0, hfac, hstep, hdeep, hNs⟩
      have hc2 : c' ≤ 100 := by omega
      have hc3 : 0 ≤ c' := by omega
      have ha3 : 0 ≤ a' := by omega
      clear ea ec hget hd0 hfac hstep hdeep hNs hN hgood
      go_wp2_with fail
      refine (enter_c g a' c' d _ hgo (by omega) ha2 (by omega) (by omega) (by omega) (by omega)).mono ?_
      rintro e w1 ⟨rfl, hP1, hK1⟩
      have hP01 := hPo.trans hP1
      cases hen : enterOk a' d
      · have Hen := Lib.hid hen
        clear hen
        go_wp2
        go_ret
        refine ⟨false, rfl, hP.trans hP01, _, _, hK1, ⟨fun hh => Bool.noConfusion hh, fun hh => ?_⟩, fun hh => Bool.noConfusion hh⟩
        obtain ⟨f1, f2, f3, f4, f5, _⟩ := F.out
        have hE := Hen.out
        unfold enterOk at hE
        have h7 := (f5 hh.1).1
        simp at hE
        omega
      have Hen : Hid (a' + 1 ≤ 90 ∧ d ≤ 7) := Lib.hid (by unfold enterOk at hen; simp at hen; omega)
      clear hen
      have hne : wr.heap.size ≠ g := by have := hKr.lt; omega
      have K1 := (Blk.new wr 73 #[.int .i64 kk, .int .i64 n, .slice xA name.length xc, .slice xA' args.length xc']).past hP1 hne
      have q0 := K1.cell_of 0 rfl
      have q1 := K1.cell_of 1 rfl
      have q2 := K1.cell_of 2 rfl
      have q3 := K1.cell_of 3 rfl
      have hBr : B ≤ wr.heap.size := Nat.le_trans hB hP.size
      have hv1 := hv.below (hP01.below hg hBr)
      have hw1 := hP01.size
      go_wp2_with fail
      refine (exOk_c kk n name args _ _ _ _ L B w1 (by omega) (by omega) hv1).mono ?_
      rintro e w2 ⟨rfl, hb2⟩
      have hP02 := hP01.trans (Past.of hb2 g)
      have hK2 := hK1.below hb2 hK1.lt
      clear q0 q1 q2 q3
      cases hok : exOk1 kk n name args.length
      · have Hok := Lib.hid hok
        clear hok
        go_wp2
        go_ret
        refine ⟨false, rfl, hP.trans hP02, _, _, hK2, ⟨fun hh => Bool.noConfusion hh, fun hh => ?_⟩, fun hh => Bool.noConfusion hh⟩
        obtain ⟨f1, f2, f3, f4, f5, _⟩ := F.out
        have := (f5 hh.1).2.1
        rw [Hok.out] at this
        cases this
      have Hok := Lib.hid hok
      clear hok
      have K2 := K1.below hb2 K1.lt
      have q3 := K2.cell_of 3 rfl
      have xx2 := xx.below (hP02.below hg hBr)
      have hw2 := hP02.size
      have hc := Ih.out l[k] (List.getElem_mem hlt) kk n name args hle'.out xA' xc' L B g (d + 1) (a' + 1) (max c' d) w2 (xx2.exr hg (by omega)) (by omega) hg (by omega) hK2 (by omega) Hen.out.1 (by omega) (by have := Hen.out.2; omega) (by have := Hen.out.2; omega)
      rw [show (((d + 1 : Nat)) : Int) = (d : Int) + 1 by omega] at hc
      have Hc := Lib.hid hc
      clear hc xx2 hv1 hv xx
      have hd7 := Hen.out.2
      go_wp2_with fail
      refine Hc.out.mono ?_
      rintro e w3 ⟨b, rfl, hP3, a3, c3, hK3, hiff, himp⟩
      have Hiff := Lib.hid hiff
      have Himp := Lib.hid himp
      have hP03 := hP02.trans hP3
      clear hiff himp Hc q3
      cases b
      · go_wp2
        go_ret
        refine ⟨false, rfl, hP.trans hP03, _, _, hK3, ⟨fun hh => Bool.noConfusion hh, fun hh => ?_⟩, fun hh => Bool.noConfusion hh⟩
        obtain ⟨f1, f2, f3, f4, f5, _⟩ := F.out
        have h1 := f5 hh.1
        exact Hiff.out.2 ⟨h1.2.2, by omega⟩
      · go_wp2
        go_roundw
        case rel =>
          obtain ⟨f1, f2, f3, f4, f5, f6, f7, f8⟩ := F.out
          obtain ⟨g1, g2⟩ := Hiff.out.1 (by trivial)
          obtain ⟨m1, m2⟩ := Himp.out (by trivial)
          exact ⟨k + 1, a3, c3, by omega, by go_num, hP.trans hP03, hK3, by rw [f8]; omega, by rw [f7]; omega, by omega, Lib.hid (f6 hd7 Hok.out g1)⟩
        case measure => simp [intOf]; omega
    · go_wp2
      go_ret
      have hkl : k = l.length := by omega
      subst hkl
      rw [List.take_length] at ea ec
      have hg1 := hgood.out
      rw [List.take_length] at hg1
      exact ⟨true, rfl, hP, a', c', hKr, by simp [hg1]; omega, fun _ => ⟨ea, ec⟩⟩

theorem measureExs_c (l : List Ex) : MeaExs l := by
  have one : ∀ e : Ex, ∀ k n name args, e = .mk k n name args → MeaExs args := fun e => Ex.ind (P := fun e => ∀ k n name args, e = .mk k n name args → MeaExs args) (fun k n name args ih k' n' name' args' he => by
    injection he with _ _ _ he
    rw [← he]
    exact measureExs_of args ih) e
  exact measureExs_of l fun e _ => one e
end Go.Proofs.Ytmejbmfopdfbjaa
