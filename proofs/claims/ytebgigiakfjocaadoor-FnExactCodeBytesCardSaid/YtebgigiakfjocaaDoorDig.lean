/-
  The model's decimals; rows of bytes of the call's own.
-/
import Derived.Test.YtebgigiakfjocaaDoorWord
import Derived.IntWalk
import Derived.OwnWalk
import Derived.Lib.ItoaNum
import Derived.Maps.AppendAt
namespace Go.Proofs.YtebgigiakfjocaaDoor
open Go.RowKit

/-- a row of bytes of the call's own -/
def OwnB (w : World) (B : Nat) (v : Value) (l : List UInt8) : Prop := w.ownsRow B 5 1 v l.length (vb l)

theorem OwnB.form {w : World} {B : Nat} {v : Value} {l : List UInt8} (h : OwnB w B v l) : ∃ (A : Option Addr) (c : Nat), v = .slice A l.length c ∧ RB w w.heap.size A l := by
  have h' := h
  unfold OwnB at h'
  rcases h'.2 with ⟨rfl, hx⟩ | ⟨g, cap, cur, rfl, hB, hg, hr⟩
  · have : l = [] := List.eq_nil_of_length_eq_zero hx
    subst this
    exact ⟨none, 0, rfl, Reads.none_⟩
  · exact ⟨_, _, rfl, Reads.of_own h⟩

theorem OwnB.nil (w : World) (B : Nat) : OwnB w B (.slice none 0 0) [] := ⟨rfl, Or.inl ⟨rfl, rfl⟩⟩
theorem OwnB.one (w : World) (b : UInt8) : OwnB (w.alloc (.cells #[.int .u8 b.toNat] 5)) w.heap.size (.slice (some ⟨w.heap.size, 0, none⟩) 1 1) [b] :=
  ⟨rfl, Or.inr ⟨_, 1, #[.int .u8 b.toNat], rfl, Nat.le_refl _, heap_alloc_new w _, Nat.le_refl _, by decide, rfl, rfl⟩⟩
theorem OwnB.less {w : World} {B B' : Nat} {v : Value} {l : List UInt8} (h : OwnB w B v l) (hB : B' ≤ B) : OwnB w B' v l := by
  refine ⟨h.1, ?_⟩
  rcases h.2 with h | ⟨g, cap, cur, e, hg, r⟩
  · exact Or.inl h
  · exact Or.inr ⟨g, cap, cur, e, by omega, r⟩
theorem OwnB.keep {w w' : World} {B B' : Nat} {v : Value} {l : List UInt8} (h : OwnB w B v l) (hb : Below B' w w') (hB : w.heap.size ≤ B') : OwnB w' B v l := by
  refine ⟨h.1, ?_⟩
  rcases h.2 with h | ⟨g, cap, cur, e, hg, hh, r⟩
  · exact Or.inl h
  · have hlt : g < w.heap.size := by
      rcases Nat.lt_or_ge g w.heap.size with h1 | h1
      · exact h1
      · rw [Array.getElem?_eq_none h1] at hh; cases hh
    exact Or.inr ⟨g, cap, cur, e, hg, (hb.block g (by omega)).trans hh, r⟩
theorem OwnB.block {w : World} {B g : Nat} {v : Value} {l : List UInt8} (h : OwnB w B v l) (hg : v.ownBlock = some g) : B ≤ g ∧ g < w.heap.size := by
  rcases h.2 with ⟨rfl, _⟩ | ⟨g', cap, cur, rfl, hB, hh, _⟩
  · simp [Value.ownBlock] at hg
  · have : g' = g := by simpa [Value.ownBlock] using hg
    subst this
    refine ⟨hB, ?_⟩
    rcases Nat.lt_or_ge g' w.heap.size with h1 | h1
    · exact h1
    · rw [Array.getElem?_eq_none h1] at hh; cases hh
theorem OwnB.alloc {w : World} {B : Nat} {v : Value} {l : List UInt8} (h : OwnB w B v l) (o : Obj) : OwnB (w.alloc o) B v l := h.keep ((Below.refl _ _).alloc (Nat.le_refl _) o) (Nat.le_refl _)
theorem vb_append (l r : List UInt8) : vb (l ++ r) = vb l ++ vb r := by simp [vb]
theorem vb_one (l : List UInt8) : ∀ u ∈ vb l, u.oneCell' = true := by
  intro u hu
  obtain ⟨b, _, rfl⟩ := List.mem_map.1 hu
  rfl

theorem nDigits_le (u : Nat) (h : u < 10000000000) : Lib.nDigits u ≤ 10 := by
  have step : ∀ (k u : Nat), u < 10 ^ (k + 1) → Lib.nDigits u ≤ k + 1 := by
    intro k
    induction k with
    | zero => intro u hu; rw [Lib.nDigits_small (by simpa using hu)]; exact Nat.le_refl _
    | succ k ih =>
      intro u hu
      by_cases h : u < 10
      · rw [Lib.nDigits_small h]; omega
      · rw [Lib.nDigits, dif_neg h]
        have := ih (u / 10) (by rw [Nat.pow_succ] at hu; omega)
        omega
  exact step 9 u (by simpa using h)

set_option maxRecDepth 100000 in
set_option maxHeartbeats 1000000 in
theorem l1digits_c (k : Nat) : ∀ (n : Nat) (w : World), n < k → n ≤ 999999999 →
    Calls Tryd.prog 41 #[.int .i64 n] w fun e w' => ∃ v, e = .returned v ∧ OwnB w' w.heap.size v (Lib.decDigits n) ∧ Below w.heap.size w w' := by
  induction k with
  | zero => intro n w h; omega
  | succ k ih =>
    intro n w hk hn
    obtain ⟨i0, hi, hz0, hz1, hz2⟩ := info_parts infoU8
    by_cases h10 : (n : Int) < 10
    · have hd : Lib.decDigits n = [UInt8.ofNat (48 + n)] := Lib.decDigits_one (by omega)
      rw [hd]
      have hone := OwnB.one w (UInt8.ofNat (48 + n))
      have hv : (((UInt8.ofNat (48 + n)).toNat : Nat) : Int) = 48 + (n : Int) := by
        rw [show (UInt8.ofNat (48 + n)).toNat = (48 + n) % 256 from rfl]; omega
      rw [hv] at hone
      have Hone := Lib.hid hone
      clear hd hv hone
      go_enter Tryd.func41, Tryd.ntmps41
      go_wp2_with fail
      go_ret
      exact ⟨_, rfl, Hone.out, (Below.refl _ _).alloc (Nat.le_refl _) _⟩
    · have h10' : 10 ≤ (n : Int) := by omega
      have hd : Lib.decDigits n = Lib.decDigits (n / 10) ++ [UInt8.ofNat (48 + n % 10)] := by rw [Lib.decDigits, dif_neg (by omega)]
      have Hd := Lib.hid hd
      have hc := ih (n / 10) w (by omega) (by omega)
      have e10 : ((n / 10 : Nat) : Int) = (n : Int) / 10 := by omega
      rw [e10] at hc
      have hv : (((UInt8.ofNat (48 + n % 10)).toNat : Nat) : Int) = 48 + (n : Int) % 10 := by
        rw [show (UInt8.ofNat (48 + n % 10)).toNat = (48 + n % 10) % 256 from rfl]; omega
      have Hv := Lib.hid hv
      have Hc := Lib.hid hc
      clear hd hc h10 hv e10 ih
      go_enter Tryd.func41, Tryd.ntmps41
      go_wp2_with fail
      refine Hc.out.mono ?_
      rintro e w1 ⟨v, rfl, hO, hb1⟩
      obtain ⟨A, c, rfl, _⟩ := hO.form
      have hlen : (Lib.decDigits (n / 10)).length ≤ 10 := by
        rw [Lib.decDigits_length]
        exact nDigits_le _ (by omega)
      have hO' := hO.alloc (.cells #[.int .u8 (48 + (n : Int) % 10)] 5)
      have HO := Lib.hid hO'
      have hbw := hb1.size
      clear hO hO'
      go_wp2_with (at_builtin; refine wpList_append_own _ rfl (.tmp 11) (.tmp 16) 27 rfl w.heap.size 5 i0 _ 1 1 Tryd.underlying27 hi hz0 hz1 hz2 rfl (by omega) _ _ _ rfl HO.out ⟨w1.heap.size, 0, none⟩ 1 1 [.int .u8 (48 + (n : Int) % 10)] rfl rfl (cell_one_new _ _ _) (by simp [Value.oneCell']) (by unfold maxLen; omega) (by omega) (by simp; omega) ?_; intro v' w2 hown' hgrow _)
      go_ret
      refine ⟨v', rfl, ?_, ?_⟩
      · unfold OwnB
        rw [Hd.out, List.length_append, vb_append]
        have e : vb [UInt8.ofNat (48 + n % 10)] = [Value.int .u8 (48 + (n : Int) % 10)] := by
          rw [← Hv.out]; rfl
        rw [e]
        exact hown'
      · refine (hb1.alloc hb1.size _).grown hgrow (by simp; omega) (fun g hg => ?_)
        have := HO.out
        exact (OwnB.block (l := Lib.decDigits (n / 10)) this hg).1
end Go.Proofs.YtebgigiakfjocaaDoor
