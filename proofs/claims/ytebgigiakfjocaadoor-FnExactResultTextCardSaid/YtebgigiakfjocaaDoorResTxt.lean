/-
  A result's text: both sides.
-/
import Derived.Test.YtebgigiakfjocaaDoorAppW
import Derived.Test.YtebgigiakfjocaaDoorDigB
import Derived.Test.YtebgigiakfjocaaDoorCodeWd
import Derived.Test.YtebgigiakfjocaaDoorRes
namespace Go.Proofs.YtebgigiakfjocaaDoor
open Go.RowKit
set_option linter.unusedVariables false
set_option linter.unusedSimpArgs false
namespace ResTxt
open CodeWd

theorem tab_mono {P : Program} {B B' : Nat} {w w1 w2 : World} {name : String} {k : IntKind} {zs : List Int} (h : Lib.TabBelow P B w name k zs) (hB : B ≤ B') (hb : Below B' w1 w2) (h1 : Below B' w w1) : Lib.TabBelow P B' w2 name k zs :=
  fun w' h' => h w' ((h1.mono hB).trans ((hb.mono hB).trans (h'.mono hB)))
theorem blT (w : World) (o : Obj) : Below w.heap.size w (w.alloc o) := (Below.refl _ _).alloc (Nat.le_refl _) o
def resTxt (code ticks : Int) (log : List UInt8) : List UInt8 := if (0 ≤ code ∧ code ≤ 5) ∧ 0 ≤ ticks then wordOf code ++ [32] ++ Lib.itoa ticks ++ [10] ++ log else []
theorem resTxt_len (code ticks : Int) (log : List UInt8) (h1 : ticks ≤ 9223372036854775807) : (resTxt code ticks log).length ≤ log.length + 100 := by
  unfold resTxt
  split
  · rename_i h
    have := wordOf_len code
    have := itoa_len ticks (by omega) h1
    simp only [List.length_append, List.length_cons, List.length_nil]
    omega
  · simp
theorem wordOf_pos {c : Int} (h : 0 ≤ c ∧ c ≤ 5) : (wordOf c).length = 4 := by
  rcases six h with rfl | rfl | rfl | rfl | rfl | rfl <;> rfl
theorem numsT_one (n : Int) : numsT [n] = 32 :: Lib.itoa n := by simp [numsT]

section
variable (code ticks : Int) (log : List UInt8) (A : Option Addr) (c B : Nat) (w : World)

set_option maxRecDepth 100000 in
set_option maxHeartbeats 2000000 in
theorem implResultText_c (hB : B ≤ w.heap.size) (h0 : -9223372036854775808 ≤ ticks) (h1 : ticks ≤ 9223372036854775807) (hl : log.length ≤ 1048576) (h : RB w B A log) (hF : Words w B) (htab : Lib.TabBelow Tryd.prog B w "internal/strconv.uint64pow10" .u64 Lib.pow10Tab) :
    Calls Tryd.prog 23 #[.agg #[.int .i64 code, .slice A log.length c, .int .i64 ticks]] w (AnsT w (resTxt code ticks log)) := by
  have hbW : Below w.heap.size w (w.alloc (.cells #[.int .i64 code, .slice A log.length c, .int .i64 ticks] 44)) := (Below.refl _ _).alloc (Nat.le_refl _) _
  have HK := Lib.hid (Blk.new w 44 #[.int .i64 code, .slice A log.length c, .int .i64 ticks])
  have Hcw := Lib.hid (implCodeWord_c code B (w.alloc (.cells #[.int .i64 code, .slice A log.length c, .int .i64 ticks] 44)) (hF.below (hbW.mono hB)))
  have HR := Lib.hid (h.below (hbW.mono hB))
  have HbW := Lib.hid hbW
  have Htab := Lib.hid htab
  have hs0 : (w.alloc (.cells #[.int .i64 code, .slice A log.length c, .int .i64 ticks] 44)).heap.size = w.heap.size + 1 := by simp
  clear h hF hbW htab
  go_enter Tryd.func23, Tryd.ntmps23
  go_wp2_with fail
  refine Hcw.out.mono ?_
  rintro e w1 ⟨A1, c1, rfl, hO1, hb1⟩
  have HK1 := Lib.hid (HK.out.below hb1 (by simp))
  have HR1 := Lib.hid (HR.out.below (hb1.mono (by omega)))
  have Hb1 := Lib.hid (HbW.out.trans (hb1.mono (by omega)))
  have HO1 := Lib.hid hO1
  have hs1 := hb1.size
  rw [hs0] at hs1
  clear hb1 hO1 HK HR HbW Hcw hs0
  by_cases hc : 0 ≤ code ∧ code ≤ 5
  · have hwl := wordOf_pos hc
    obtain ⟨l, hle⟩ : ∃ l, l = wordOf code := ⟨_, rfl⟩
    rw [← hle] at hwl HO1 ⊢
    have l0 : ((l.length : Int) == 0) = false := by rw [beq_eq_false_iff_ne]; omega
    obtain ⟨q0, q1, q2⟩ := HK1.out.three
    by_cases ht : 0 ≤ ticks
    · have hres : resTxt code ticks log = l ++ [32] ++ Lib.itoa ticks ++ [10] ++ log := by unfold resTxt; rw [if_pos ⟨hc, ht⟩, hle]
      have Hres := Lib.hid hres
      have Hwl := Lib.hid hwl
      have ht' : ¬ ticks < 0 := by omega
      have hcv := convT_back HO1.out.ownU.rb c1
      clear hres hle hwl hc ht
      have hbl : Below w1.heap.size w1 (w1.alloc (.cells #[.int .i64 ticks] 3)) := (Below.refl _ _).alloc (Nat.le_refl _) _
      have hst := Hb1.out.trans (hbl.mono (by omega))
      have hR2 := HR1.out.below (hbl.mono (by omega))
      have HK2 := Lib.hid (HK1.out.below hbl (by omega))
      have Hap := Lib.hid (appendWords_c [] l [ticks] (.slice none 0 0) w1.heap.size 1 w.heap.size ⟨l.toArray⟩ (w1.alloc (.cells #[.int .i64 ticks] 3)) rfl (by simp; omega) (by simp) (by rw [Hwl.out]; omega) (by simp) (by intro n hn; simp at hn; subst hn; exact ⟨h0, h1⟩) (Blk.new _ _ _) (OwnB.nil _ _) (tab_mono Htab.out hB (hbl.mono (by omega)) Hb1.out))
      have HR2 := Lib.hid hR2
      have Hst := Lib.hid hst
      clear hbl hst hR2 HK1 HR1
      go_wp2_with fail
      refine Hap.out.mono ?_
      rintro e w2 ⟨A2, c2, rfl, hO2, hS2⟩
      obtain ⟨y, hy⟩ : ∃ y, y = [] ++ l ++ numsT [ticks] := ⟨_, rfl⟩
      obtain ⟨z, hz⟩ : ∃ z, y ++ [10] = z := ⟨_, rfl⟩
      have hyl : y.length ≤ 50 := by
        rw [hy, numsT_one]
        have := itoa_len ticks h0 h1
        simp only [List.length_append, List.length_cons, List.length_nil, List.nil_append]
        have := Hwl.out
        omega
      have hzl : z.length ≤ 51 := by rw [← hz]; simp; omega
      have Hz := Lib.hid hz
      have Hend : Hid (z ++ log = resTxt code ticks log) := Lib.hid (by rw [Hres.out, ← hz, hy, numsT_one]; simp)
      rw [← hy] at hO2 ⊢
      have HO2 := Lib.hid hO2
      have HK3 := Lib.hid (HK2.out.say hS2 (by decide))
      have HR3 := Lib.hid (HR2.out.say (hS2.mono hB))
      have hs2 : w.heap.size ≤ w2.heap.size := by have := hS2.size; simp at this; omega
      have Hb2 := Lib.hid (Hst.out.trans hS2.below)
      clear hO2 hS2 hy hz HK2 HR2 Hap Hst
      obtain ⟨p0, p1, p2⟩ := HK3.out.three
      go_wp2_with (first
        | (at_builtin; refine wpList_oneB (b := 10) rfl (.tmp 22) (.tmp 23) rfl rfl HO2.out 10 rfl rfl Hz.out (by omega) hs2 ?_; intro A4 c4 w4 hO4 hS4; have HO4 := Lib.hid hO4; have HK4 := HK3.out.say hS4 (by decide); obtain ⟨r0, r1, r2⟩ := HK4.three; have HR4 := Lib.hid (HR3.out.say (hS4.mono hB)); have hs4 := hS4.size; have Hb4 := Lib.hid (Hb2.out.trans hS4.below); clear hO4 hS4 HK4)
        | (at_builtin; refine wpList_rowB rfl (.tmp 25) (.tmp 27) rfl rfl HO4.out rfl HR4.out Hend.out (by omega) (by omega) ?_; intro A5 c5 w5 hO5 hS5; have HO5 := Lib.hid hO5; have Hb5 := Lib.hid (Hb4.out.trans hS5.below); clear hO5 hS5))
      go_ret
      exact ⟨A5, c5, rfl, HO5.out.toT, Hb5.out⟩
    · have hres : resTxt code ticks log = [] := by unfold resTxt; rw [if_neg (by omega)]
      have Hres := Lib.hid hres
      have ht' : ticks < 0 := by omega
      clear hres hle ht hc hwl
      go_wp2
      go_ret
      rw [Hres.out]
      exact ⟨none, 0, rfl, OwnT.nil _ _, Hb1.out⟩
  · rw [not_six hc]
    have hres : resTxt code ticks log = [] := by unfold resTxt; rw [if_neg (by omega)]
    have Hres := Lib.hid hres
    clear hres hc
    go_wp2
    go_ret
    rw [Hres.out]
    exact ⟨none, 0, rfl, OwnT.nil _ _, Hb1.out⟩

set_option maxRecDepth 100000 in
/-- the model's word of a code, a string -/
theorem l9word_c (k : Nat) (hk : k < 6) (w : World) :
    Calls Tryd.prog 52 #[.int .i64 k] w fun e w' => e = .returned (.string ⟨(wd k).toArray⟩) ∧ w' = w.alloc (.cells tabArr 9) := by
  rcases six_nat hk with rfl | rfl | rfl | rfl | rfl | rfl
  all_goals
    go_enter Tryd.func52, Tryd.ntmps52
    go_wp2
    go_ret
    exact ⟨rfl, rfl⟩

set_option maxRecDepth 100000 in
set_option maxHeartbeats 2000000 in
theorem specResultText_c (hB : B ≤ w.heap.size) (h0 : -9223372036854775808 ≤ ticks) (h1 : ticks ≤ 9223372036854775807) (hl : log.length ≤ 1048576) (h : RB w B A log) :
    Calls Tryd.prog 21 #[.agg #[.int .i64 code, .slice A log.length c, .int .i64 ticks]] w (AnsT w (resTxt code ticks log)) := by
  have hbW : Below w.heap.size w (w.alloc (.cells #[.int .i64 code, .slice A log.length c, .int .i64 ticks] 44)) := (Below.refl _ _).alloc (Nat.le_refl _) _
  have hK := Blk.new w 44 #[.int .i64 code, .slice A log.length c, .int .i64 ticks]
  have HK := Lib.hid hK
  have HR := Lib.hid (h.below (hbW.mono hB))
  have HbW := Lib.hid hbW
  have hs0 : (w.alloc (.cells #[.int .i64 code, .slice A log.length c, .int .i64 ticks] 44)).heap.size = w.heap.size + 1 := by simp
  by_cases hc : 0 ≤ code ∧ code ≤ 5
  · by_cases ht : 0 ≤ ticks
    · obtain ⟨k, hk, rfl⟩ := nat6 hc
      have hwl := wordOf_pos hc
      have hwk : wordOf (k : Int) = wd k := by rw [wordOf, if_pos hc]; rfl
      obtain ⟨t, rfl⟩ : ∃ t : Nat, ticks = t := ⟨ticks.toNat, by omega⟩
      obtain ⟨l, hle⟩ : ∃ l, l = wd k := ⟨_, rfl⟩
      rw [hwk, ← hle] at hwl
      have hres : resTxt k t log = l ++ [32] ++ Lib.decDigits t ++ [10] ++ log := by unfold resTxt; rw [if_pos ⟨hc, ht⟩, hwk, ← hle, Lib.itoa_nonneg]
      have Hres := Lib.hid hres
      have Hwl := Lib.hid hwl
      have hk0 : ¬ (k : Int) < 0 := by omega
      have hk5 : ¬ 5 < (k : Int) := by omega
      have ht0 : ¬ (t : Int) < 0 := by omega
      have Hw := Lib.hid (fun w => l9word_c k hk w)
      rw [← hle] at Hw
      have Hdig := Lib.hid (fun w => l1digitsB_c (t + 1) t w (by omega) (by omega))
      clear hres hwk hle hwl hc ht h hbW hK
      go_enter Tryd.func21, Tryd.ntmps21
      go_wp2_with fail
      refine (Hw.out _).mono ?_
      rintro e w1 ⟨rfl, rfl⟩
      have hb1 := HbW.out.trans ((blT _ (.cells tabArr 9)).mono (by rw [hs0]; omega))
      have hK1 := HK.out.alloc (.cells tabArr 9)
      have hR1 := (HR.out.below ((blT _ (.cells tabArr 9)).mono (by rw [hs0]; omega)))
      generalize (w.alloc (.cells #[.int .i64 k, .slice A log.length c, .int .i64 t] 44)).alloc (.cells tabArr 9) = w1 at hb1 hK1 hR1 ⊢
      obtain ⟨A2, c2, w2, hcv, hO2, hb2⟩ := convT w1 ⟨l.toArray⟩ (by have := Hwl.out; simp only [ByteArray.size, List.size_toArray]; unfold maxLen; omega)
      have hs1 := hb1.size
      have e2 : (ByteArray.mk l.toArray).data.toList = l := by simp
      rw [e2] at hcv hO2
      have hdl : (Lib.decDigits t).length ≤ 20 := by rw [Lib.decDigits_length]; exact nDigits_le20 _ (by omega)
      obtain ⟨d, hd⟩ : ∃ d, d = Lib.decDigits t := ⟨_, rfl⟩
      rw [← hd] at hdl Hres Hdig
      obtain ⟨y, hy⟩ : ∃ y, l ++ [32] = y := ⟨_, rfl⟩
      have hyl : y.length ≤ 5 := by rw [← hy, List.length_append, Hwl.out]; exact Nat.le_refl _
      obtain ⟨z, hz⟩ : ∃ z, y ++ d = z := ⟨_, rfl⟩
      have hzl : z.length ≤ 25 := by rw [← hz, List.length_append]; omega
      obtain ⟨x, hx⟩ : ∃ x, z ++ [10] = x := ⟨_, rfl⟩
      have hxl : x.length ≤ 26 := by rw [← hx, List.length_append]; simp only [List.length_cons, List.length_nil]; omega
      have Hend : Hid (x ++ log = resTxt k t log) := Lib.hid (by rw [Hres.out, ← hx, ← hz, ← hy])
      have Hy := Lib.hid hy
      have Hz := Lib.hid hz
      have Hx := Lib.hid hx
      have hll : l.length ≤ 4 := by rw [Hwl.out]; exact Nat.le_refl _
      have HO2 := Lib.hid (hO2.less hs1)
      have hK2 := hK1.below hb2 hK1.lt
      have HR2 := Lib.hid (hR1.below (hb2.mono (by omega)))
      have Hb2 := Lib.hid (hb1.trans (hb2.mono hs1))
      have hs2 := hb2.size
      have HK2 := Lib.hid hK2
      clear hy hz hx hd hK2
      clear hb1 hK1 hR1 hO2 hb2 e2 HK HR HbW hs0 Hw
      go_wp2_with (first
        | (at_builtin; refine wpList_oneT (b := 32) rfl (.tmp 20) (.tmp 21) rfl rfl HO2.out 32 rfl rfl Hy.out (by omega) (by omega) ?_; intro A4 c4 w4 hO4 hS4; have HO4 := Lib.hid hO4; have hK4 := HK2.out.say hS4 (by decide); obtain ⟨r0, r1, r2⟩ := hK4.three; have HK4 := Lib.hid hK4; have HR4 := Lib.hid (HR2.out.say (hS4.mono hB)); have hs4 := hS4.size; have Hb4 := Lib.hid (Hb2.out.trans hS4.below); clear hO4 hS4 hK4)
        | (go_at_call 41; refine (Hdig.out _).mono ?_; rintro e w5 ⟨v5, rfl, hO5, hb5⟩; obtain ⟨A5, c5, rfl, hR5⟩ := hO5.form; have HR5 := Lib.hid hR5; have HO5 := Lib.hid (HO4.out.below hb5); have hK5 := HK4.out.below hb5 HK4.out.lt; obtain ⟨s0, s1, s2⟩ := hK5.three; have HK5 := Lib.hid hK5; have HRl5 := Lib.hid (HR4.out.below (hb5.mono (by omega))); have hs5 := hb5.size; have Hb5 := Lib.hid (Hb4.out.trans (hb5.mono (by omega))); clear hR5 hb5 hO5 hK5 Hdig)
        | (at_builtin; refine wpList_rowT rfl (.tmp 23) (.tmp 26) rfl rfl HO5.out rfl HR5.out Hz.out (by omega) (by omega) ?_; intro A6 c6 w6 hO6 hS6; have HO6 := Lib.hid hO6; have HK6 := Lib.hid (HK5.out.say hS6 (by decide)); have HR6 := Lib.hid (HRl5.out.say (hS6.mono hB)); have hs6 := hS6.size; have Hb6 := Lib.hid (Hb5.out.trans hS6.below); clear hO6 hS6)
        | (at_builtin; refine wpList_oneT (b := 10) rfl (.tmp 27) (.tmp 28) rfl rfl HO6.out 10 rfl rfl Hx.out (by omega) (by omega) ?_; intro A7 c7 w7 hO7 hS7; have HO7 := Lib.hid hO7; have hK7 := HK6.out.say hS7 (by decide); obtain ⟨t0, t1, t2⟩ := hK7.three; have HR7 := Lib.hid (HR6.out.say (hS7.mono hB)); have hs7 := hS7.size; have Hb7 := Lib.hid (Hb6.out.trans hS7.below); clear hO7 hS7 hK7)
        | (at_builtin; refine wpList_rowT rfl (.tmp 30) (.tmp 32) rfl rfl HO7.out rfl HR7.out Hend.out (by omega) (by omega) ?_; intro A8 c8 w8 hO8 hS8; have HO8 := Lib.hid hO8; have Hb8 := Lib.hid (Hb7.out.trans hS8.below); clear hO8 hS8))
      go_ret
      exact ⟨A8, c8, rfl, HO8.out, Hb8.out⟩
    · have hres : resTxt code ticks log = [] := by unfold resTxt; rw [if_neg (by omega)]
      have Hres := Lib.hid hres
      have ht' : ticks < 0 := by omega
      obtain ⟨hc0, hc5⟩ := hc
      have hc0' : ¬ code < 0 := by omega
      have hc5' : ¬ 5 < code := by omega
      clear hres ht h hbW
      go_enter Tryd.func21, Tryd.ntmps21
      go_wp2
      go_ret
      rw [Hres.out]
      exact ⟨none, 0, rfl, OwnT.nil _ _, HbW.out⟩
  · have hres : resTxt code ticks log = [] := by unfold resTxt; rw [if_neg (by omega)]
    have Hres := Lib.hid hres
    have hn : code < 0 ∨ 5 < code := by omega
    clear hres hc h hbW
    rcases hn with h2 | h2
    all_goals
      go_enter Tryd.func21, Tryd.ntmps21
      go_wp2
      go_ret
      rw [Hres.out]
      exact ⟨none, 0, rfl, OwnT.nil _ _, HbW.out⟩
end
end ResTxt
end Go.Proofs.YtebgigiakfjocaaDoor
