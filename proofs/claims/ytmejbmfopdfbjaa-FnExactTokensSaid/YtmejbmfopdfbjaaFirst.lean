/-
  What stands first in a text: the program's numberOf and firstToken.
-/
import Derived.Test.YtmejbmfopdfbjaaToks
import Derived.Test.YtmejbmfopdfbjaaTokOwn
import Derived.Test.YtmejbmfopdfbjaaDigit
import Derived.Test.YtmejbmfopdfbjaaSign
import Derived.Maps.AppendAt
namespace Go.Proofs.Ytmejbmfopdfbjaa
open Go.RowKit
set_option linter.unusedVariables false

theorem add_add_ (a : Addr) (m j : Nat) : (a.add m).add j = a.add (m + j) := by
  unfold Addr.add
  by_cases h1 : m = 0
  · subst h1; simp
  · by_cases h2 : j = 0
    · subst h2; simp [h1]
    · simp [h1, h2, Nat.add_assoc]
theorem RB.take2 {w : World} {B : Nat} {A : Option Addr} {l : List UInt8} (h : RB w B A l) (m : Nat) : RB w B A (l.take m) := by
  refine ⟨by simp [vb], fun hn => ?_⟩
  obtain ⟨ad, e, hb, hc⟩ := h.2 (by simp at hn; omega)
  refine ⟨ad, e, hb, fun j u hu => hc j u ?_⟩
  rw [vb_get] at hu ⊢
  rw [List.getElem?_take] at hu
  split at hu
  · exact hu
  · simp at hu
theorem RB.drop2 {w : World} {B : Nat} {a : Addr} {l : List UInt8} (h : RB w B (some a) l) (m : Nat) : RB w B (some (a.add m)) (l.drop m) := by
  refine ⟨by simp [vb], fun hn => ?_⟩
  obtain ⟨ad, e, hb, hc⟩ := h.2 (by simp at hn; omega)
  injection e with e
  subst e
  refine ⟨_, rfl, by rw [block_of_add]; exact hb, fun j u hu => ?_⟩
  rw [add_add_]
  refine hc (m + j) u ?_
  rw [vb_get] at hu ⊢
  rw [List.getElem?_drop] at hu
  exact hu

theorem numOf_step {l : List UInt8} {k : Nat} (hk : k < l.length) : numOf (l.take (k + 1)) = numOf (l.take k) * 10 + (l[k].toNat - 48) := by
  rw [List.take_succ_eq_append_getElem hk, numOf_snoc]
theorem numOf_bound {l : List UInt8} (h6 : l.length ≤ 6) (ha : l.all digit = true) (k : Nat) : numOf (l.take k) < 1000000 := by
  have h1 : (l.take k).all digit = true := by
    rw [List.all_eq_true] at ha ⊢
    exact fun x hx => ha x (List.mem_of_mem_take hx)
  have h2 := numOf_lt (l.take k).length (l.take k) rfl h1
  have h3 : (l.take k).length ≤ 6 := by rw [List.length_take]; omega
  have h4 : 10 ^ (l.take k).length ≤ 10 ^ 6 := Nat.pow_le_pow_right (by omega) h3
  omega

set_option maxRecDepth 100000 in
set_option maxHeartbeats 2000000 in
theorem numberOf_c (l : List UInt8) (A : Option Addr) (c B : Nat) (w : World) (hl : l.length ≤ 1048576) (ha : l.all digit = true) (h : RB w B A l) :
    Calls Try.prog 99 #[.slice A l.length c] w fun r w' => r = .returned (.tuple #[.int .i64 (if fits l then (numOf l : Int) else 0), .bool (fits l)]) ∧ w = w' := by
  by_cases h6 : 6 < (l.length : Int)
  · have hf : fits l = false := by unfold fits; simp; intro; omega
    rw [hf]
    clear hf ha
    go_enter Try.func99, Try.ntmps99
    go_wp2
    refine bodyPost_ret (v := .tuple #[.int .i64 0, .bool false]) (by simp [results, Try.results99, go_sem]) rfl ?_
    exact ⟨by simp, rfl⟩
  have h6' : (l.length : Int) ≤ 6 := by omega
  have hnb := numOf_bound (by omega) ha
  have hdig : ∀ k (hk : k < l.length), 48 ≤ (l[k].toNat : Int) ∧ (l[k].toNat : Int) ≤ 57 := fun k hk => by
    rw [List.all_eq_true] at ha
    exact digit_yes (ha _ (List.getElem_mem hk))
  have Hnb := Lib.hid hnb
  have Hdig := Lib.hid hdig
  have main : ∀ (hld : lead l = false), (∀ Q : Prop, True) → True := fun _ _ => trivial
  clear main hnb hdig h6
  by_cases h1 : 1 < (l.length : Int)
  · obtain ⟨ad, rfl, hb, hcell⟩ := h.at_ (k := 0) (by omega)
    have hz : ad.add 0 = ad := by unfold Addr.add; simp
    rw [hz] at hcell
    by_cases h48 : ((l[0]'(by omega)).toNat : Int) = 48
    · have hld : lead l = true := by
        unfold lead
        have e : l.head? = some 48 := by
          rw [List.head?_eq_getElem?, List.getElem?_eq_getElem (by omega)]
          congr 1
          apply UInt8.toNat.inj
          rw [show (48 : UInt8).toNat = 48 from rfl]; omega
        rw [e]; simp; omega
      have hf : fits l = false := by unfold fits; rw [hld]; simp
      rw [hf]
      clear hf ha hld
      go_enter Try.func99, Try.ntmps99
      go_wp2
      refine bodyPost_ret (v := .tuple #[.int .i64 0, .bool false]) (by simp [results, Try.results99, go_sem]) rfl ?_
      exact ⟨by simp, rfl⟩
    · have hld : lead l = false := by
        unfold lead
        have e : l.head? = some (l[0]'(by omega)) := by rw [List.head?_eq_getElem?, List.getElem?_eq_getElem (by omega)]
        rw [e]
        simp
        intro _ e2
        rw [e2] at h48
        exact h48 rfl
      have hf : fits l = true := by unfold fits; rw [hld]; simp; omega
      rw [hf]
      have h48' : (((l[0]'(by omega)).toNat : Int) == 48) = false := by rw [beq_eq_false_iff_ne]; exact h48
      clear hf ha hld
      go_enter Try.func99, Try.ntmps99
      go_wp2
      go_loopw [4, 23] (fun s i wr => ∃ (k : Nat), k ≤ l.length ∧ i = .int .i64 k ∧ s = .int .i64 (numOf (l.take k) : Nat) ∧ wr = w) (fun _ i _ => l.length - (intOf i).toNat)
      case atStart => exact ⟨0, Nat.zero_le _, rfl, rfl, rfl⟩
      case round =>
        obtain ⟨k, hk, rfl, rfl, rfl⟩ := hrel
        by_cases hlt : k < l.length
        · obtain ⟨ad', e', _, hck⟩ := h.at_ hlt
          injection e' with e'
          subst e'
          have hd := Hdig.out k hlt
          have hst := numOf_step hlt
          have hbd := Hnb.out k
          obtain ⟨a, hae⟩ : ∃ a, numOf (l.take k) = a := ⟨_, rfl⟩
          obtain ⟨x, hx⟩ : ∃ x : Nat, l[k].toNat = x := ⟨_, rfl⟩
          rw [hae] at hst hbd
          rw [hx] at hst hd hck
          rw [hae]
          have Hst := Lib.hid hst
          clear hst hae hx
          go_wp2
          go_roundw
          case rel => exact ⟨k + 1, by omega, by go_num, by rw [Hst.out]; go_num, by trivial⟩
          case measure => simp [intOf]; omega
        · go_wp2
          have hkl : k = l.length := by omega
          subst hkl
          rw [List.take_length]
          refine bodyPost_ret (v := .tuple #[.int .i64 (numOf l : Nat), .bool true]) (by simp [results, Try.results99, go_sem]) rfl ?_
          exact ⟨by simp, rfl⟩
  · have h1' : (l.length : Int) ≤ 1 := by omega
    have hld : lead l = false := by unfold lead; simp; intro; omega
    have hf : fits l = true := by unfold fits; rw [hld]; simp; omega
    rw [hf]
    clear hf ha hld h1
    go_enter Try.func99, Try.ntmps99
    go_wp2
    go_loopw [4, 23] (fun s i wr => ∃ (k : Nat), k ≤ l.length ∧ i = .int .i64 k ∧ s = .int .i64 (numOf (l.take k) : Nat) ∧ wr = w) (fun _ i _ => l.length - (intOf i).toNat)
    case atStart => exact ⟨0, Nat.zero_le _, rfl, rfl, rfl⟩
    case round =>
      obtain ⟨k, hk, rfl, rfl, rfl⟩ := hrel
      by_cases hlt : k < l.length
      · obtain ⟨ad', rfl, _, hck⟩ := h.at_ hlt
        have hd := Hdig.out k hlt
        have hst := numOf_step hlt
        have hbd := Hnb.out k
        obtain ⟨a, hae⟩ : ∃ a, numOf (l.take k) = a := ⟨_, rfl⟩
        obtain ⟨x, hx⟩ : ∃ x : Nat, l[k].toNat = x := ⟨_, rfl⟩
        rw [hae] at hst hbd
        rw [hx] at hst hd hck
        rw [hae]
        have Hst := Lib.hid hst
        clear hst hae hx
        go_wp2
        go_roundw
        case rel => exact ⟨k + 1, by omega, by go_num, by rw [Hst.out]; go_num, by trivial⟩
        case measure => simp [intOf]; omega
      · go_wp2
        have hkl : k = l.length := by omega
        subst hkl
        rw [List.take_length]
        refine bodyPost_ret (v := .tuple #[.int .i64 (numOf l : Nat), .bool true]) (by simp [results, Try.results99, go_sem]) rfl ?_
        exact ⟨by simp, rfl⟩

/-- a text in a block of its own -/
def TxS (w : World) (lo g : Nat) (A : Option Addr) (e : List UInt8) : Prop := 0 < e.length → A = some ⟨g, 0, none⟩ ∧ lo ≤ g ∧ ∃ tc : Array Value, Blk w g 5 tc ∧ ∀ (j : Nat) (u : Value), (vb e)[j]? = some u → tc[j]? = some u
theorem TxS.keep {w w' : World} {lo g : Nat} {A : Option Addr} {e : List UInt8} (h : TxS w lo g A e) (hk : ∀ t, Blk w g 5 t → w'.heap[g]? = w.heap[g]?) : TxS w' lo g A e := fun h0 => by
  obtain ⟨e1, e2, tc, hb, ht⟩ := h h0
  exact ⟨e1, e2, tc, (hk _ hb).trans hb, ht⟩
theorem TxS.below {w w' : World} {lo g : Nat} {A : Option Addr} {e : List UInt8} (h : TxS w lo g A e) (hb : Below w.heap.size w w') : TxS w' lo g A e := h.keep fun _ ht => hb.block _ ht.lt
theorem TxS.less {w : World} {lo lo' g : Nat} {A : Option Addr} {e : List UInt8} (h : TxS w lo g A e) (hl : lo' ≤ lo) : TxS w lo' g A e := fun h0 => by
  obtain ⟨e1, e2, e3⟩ := h h0
  exact ⟨e1, by omega, e3⟩
theorem TxS.box {w : World} {lo g b : Nat} {A : Option Addr} {e : List UInt8} (h : TxS w lo g A e) (hb : b < lo) (x0 x1 x2 x3 : Value) :
    TxS ((((w.setCell ⟨b, 0, none⟩ x0).setCell ⟨b, 1, none⟩ x1).setCell ⟨b, 2, none⟩ x2).setCell ⟨b, 3, none⟩ x3) lo g A e := fun h0 => by
  obtain ⟨e1, e2, tc, hb', ht⟩ := h h0
  exact ⟨e1, e2, tc, (((hb'.far (by simp; omega) _).far (by simp; omega) _).far (by simp; omega) _).far (by simp; omega) _, ht⟩
theorem TxS.nil (w : World) (lo g : Nat) (A : Option Addr) : TxS w lo g A [] := fun h => by simp at h

set_option maxRecDepth 100000 in
set_option maxHeartbeats 2000000 in
theorem bytesCloneT_c (l : List UInt8) (A : Option Addr) (c B : Nat) (w : World) (hB : B ≤ w.heap.size) (hl : l.length ≤ 1048576) (h : RB w B A l) :
    Calls Try.prog 50 #[.slice A l.length c] w fun r w' => ∃ A' c' g, r = .returned (.slice A' l.length c') ∧ TxS w' w.heap.size g A' l ∧ Below w.heap.size w w' := by
  obtain ⟨i0, hi, hz0, hz1, hz2⟩ := info_parts infoU8
  have qn : ∀ (w : World) (a : Option Addr) (n c n' c' : Nat), (binOp .eql 22 (.slice a n c) (.slice none n' c')).run Try.prog w = .ok (.bool a.isNone) w := fun w a n c n' c' => Lib.run_eql_slice_nil w _ _ a n c n' c' Try.underlying22
  cases A with
  | none =>
    have h0 : l = [] := by
      cases l with
      | nil => rfl
      | cons x r => obtain ⟨ad, e, _⟩ := h.2 (by simp); cases e
    subst h0
    go_enter Try.func50, Try.ntmps50
    go_wp2
    go_ret
    exact ⟨none, 0, 0, rfl, fun hn => by simp at hn, Below.refl _ _⟩
  | some ad =>
    have hb0 : Below w.heap.size w (w.alloc (.cells #[] 5)) := (Below.refl _ _).alloc (Nat.le_refl _) _
    have hR := h.below (hb0.mono hB)
    have hO : (w.alloc (.cells #[] 5)).ownsRow w.heap.size 5 1 (.slice (some ⟨w.heap.size, 0, none⟩) 0 0) 0 [] :=
      ⟨rfl, .inr ⟨w.heap.size, 0, #[], rfl, Nat.le_refl _, Blk.new w _ _, Nat.le_refl _, Nat.zero_le _, rfl, rfl⟩⟩
    have hcs : ∀ j u, (vb l)[j]? = some u → (w.alloc (.cells #[] 5)).cell? (ad.add j) = some u := fun j u hj => by
      have hjl : j < l.length := by rw [← vb_len l]; exact (List.getElem?_eq_some_iff.1 hj).1
      obtain ⟨ad', e, _, hc⟩ := hR.2 (by omega)
      injection e with e
      subst e
      have := hc j u hj
      simpa using this
    have HO := Lib.hid hO
    have Hcs := Lib.hid hcs
    clear hO hR h hcs
    go_enter Try.func50, Try.ntmps50
    go_wp2_with (at_builtin; refine wpList_append_own _ rfl (.tmp 5) (.tmp 6) 22 rfl w.heap.size 5 i0 _ 1 1 Try.underlying22 hi hz0 hz1 hz2 rfl (by omega) _ _ _ rfl HO.out ad l.length c (vb l) rfl (by rw [vb_len, Nat.mul_one]) Hcs.out (fun u hu => by obtain ⟨b, _, rfl⟩ := List.mem_map.1 hu; rfl) (by unfold maxLen; omega) (by omega) (by simp) ?_; intro v2 w2 hown2 hg2 _)
    go_ret
    rw [Nat.zero_add, List.nil_append] at hown2
    have hbn : Below w.heap.size w w2 := hb0.grown hg2 (by simp) (fun g hg => by
      have h3 : (Value.slice (some ⟨w.heap.size, 0, none⟩) 0 0).ownBlock = some g := hg
      simp [Value.ownBlock] at h3
      omega)
    rcases hown2.2 with ⟨h1, h0⟩ | ⟨g2, cap2, cur2, hv2, hge, hbk, _, _, _, htk⟩
    · exact ⟨none, 0, 0, by rw [h1, h0]; rfl, fun hn => by omega, hbn⟩
    · refine ⟨_, _, g2, by rw [hv2]; rfl, fun _ => ⟨rfl, hge, cur2, hbk, fun j u hu => ?_⟩, hbn⟩
      rw [← htk, List.getElem?_take] at hu
      split at hu
      · simpa using hu
      · cases hu


theorem run_pos2 {p : UInt8 → Bool} {s : List UInt8} (h : 0 < s.length) (hp : p s[0] = true) : 1 ≤ run p s := by
  cases s with
  | nil => simp at h
  | cons c r => exact run_pos hp
theorem tokOne_small {s : List UInt8} (h0 : 0 < s.length) (h : small s[0] = true) : tokOne s = (⟨1, 0, 0, s.take (run small s)⟩, run small s, wordOk (s.take (run small s))) := by
  cases s with
  | nil => simp at h0
  | cons c r =>
    have h' : small c = true := h
    unfold tokOne; dsimp only; rw [if_pos h']
theorem tokOne_digit {s : List UInt8} (h0 : 0 < s.length) (h1 : small s[0] = false) (h : digit s[0] = true) :
    tokOne s = (⟨2, 0, (if fits (s.take (run digit s)) then (numOf (s.take (run digit s)) : Int) else 0), []⟩, run digit s, fits (s.take (run digit s))) := by
  cases s with
  | nil => simp at h0
  | cons c r =>
    have h1' : ¬ small c = true := by rw [show small c = false from h1]; decide
    have h' : digit c = true := h
    unfold tokOne; dsimp only; rw [if_neg h1', if_pos h']
theorem tokOne_sgn {s : List UInt8} (h0 : 0 < s.length) (h1 : small s[0] = false) (h2 : digit s[0] = false) (h : sgn s[0] = true) : tokOne s = (⟨3, 0, 0, [s[0]]⟩, 1, true) := by
  cases s with
  | nil => simp at h0
  | cons c r =>
    have h1' : ¬ small c = true := by rw [show small c = false from h1]; decide
    have h2' : ¬ digit c = true := by rw [show digit c = false from h2]; decide
    have h' : sgn c = true := h
    unfold tokOne; dsimp only; rw [if_neg h1', if_neg h2', if_pos h']; rfl
theorem tokOne_none {s : List UInt8} (h0 : 0 < s.length) (h1 : small s[0] = false) (h2 : digit s[0] = false) (h : sgn s[0] = false) : tokOne s = (⟨0, 0, 0, []⟩, 1, false) := by
  cases s with
  | nil => simp at h0
  | cons c r =>
    have h1' : ¬ small c = true := by rw [show small c = false from h1]; decide
    have h2' : ¬ digit c = true := by rw [show digit c = false from h2]; decide
    have h3' : ¬ sgn c = true := by rw [show sgn c = false from h]; decide
    unfold tokOne; dsimp only; rw [if_neg h1', if_neg h2', if_neg h3']
theorem run_alls (p : UInt8 → Bool) (s : List UInt8) : (s.take (run p s)).all p = true := by
  have : s.take (run p s) = s.takeWhile p := by
    unfold run
    induction s with
    | nil => rfl
    | cons c r ih =>
      rw [List.takeWhile_cons]
      by_cases h : p c = true
      · rw [if_pos h]; simp [ih]
      · rw [if_neg h]; rfl
  rw [this]
  exact List.all_takeWhile

def FtP (s : List UInt8) (lo : Nat) (r : Ending) (w' : World) : Prop :=
  ∃ A' c' g, r = .returned (.tuple #[.agg #[.int .i64 (tokOne s).1.kind, .int .i64 0, .int .i64 (tokOne s).1.n, .slice A' (tokOne s).1.text.length c'], .int .i64 ((tokOne s).2.1 : Nat), .bool (tokOne s).2.2]) ∧ TxS w' lo g A' (tokOne s).1.text

set_option maxRecDepth 100000 in
set_option maxHeartbeats 4000000 in
theorem firstToken_c (s : List UInt8) (a : Addr) (c B : Nat) (w : World) (hB : B ≤ w.heap.size) (h0 : 0 < s.length) (hl : s.length ≤ 1048576) (hc : s.length ≤ c) (h : RB w B (some a) s) :
    Calls Try.prog 72 #[.slice (some a) s.length c] w fun r w' => FtP s w.heap.size r w' ∧ Below w.heap.size w w' := by
  have hb0 : Below w.heap.size w (w.alloc (.cells #[.int .i64 0, .int .i64 0, .int .i64 0, .slice none 0 0] 78)) := (Below.refl _ _).alloc (Nat.le_refl _) _
  have KT := Blk.new w 78 #[.int .i64 0, .int .i64 0, .int .i64 0, .slice none 0 0]
  obtain ⟨ad, e, hbk, hcell⟩ := h.at_ (k := 0) h0
  injection e with e
  subst e
  have hz : a.add 0 = a := by unfold Addr.add; simp
  rw [hz] at hcell
  have c0 := (World.cell?_alloc_lt w (.cells #[.int .i64 0, .int .i64 0, .int .i64 0, .slice none 0 0] 78) a (by omega)).trans hcell
  have hR := h.below (hb0.mono hB)
  have h0' : 0 < (s.length : Int) := by omega
  cases hs : small s[0]
  case true =>
    have hto := tokOne_small h0 hs
    have hm1 := run_le small s
    have hm0 : 1 ≤ run small s := run_pos2 h0 hs
    obtain ⟨m, hm⟩ : ∃ m, run small s = m := ⟨_, rfl⟩
    have hrl := runLengthLetter_c s (some a) c B _ (by omega) hR
    rw [hm] at hrl hto hm1 hm0
    have hmc : m ≤ c := by omega
    have hlen : (s.take m).length = m := by rw [List.length_take]; omega
    have hcl := bytesCloneT_c (s.take m) (some a) c B _ (Nat.le_trans hB hb0.size) (by omega) (hR.take2 m)
    have hwo := fun W (hW : Below w.heap.size w W) => implWordOk_c (s.take m) (some a) c B W (by omega) ((h.below (hW.mono hB)).take2 m)
    rw [hlen] at hcl hwo
    have Hs := Lib.hid hs
    have Hto := Lib.hid hto
    have Hlen := Lib.hid hlen
    have Hrl := Lib.hid hrl
    have Hcl := Lib.hid hcl
    have Hwo := Lib.hid hwo
    clear hs hto hm hrl hcl hwo hlen hR hcell
    go_enter Try.func72, Try.ntmps72
    go_wp2_with (first
      | (go_at_call 95; refine (isLetter_c _ true Hs.out _).mono ?_; rintro e w' ⟨rfl, rfl⟩)
      | (go_at_call 96; refine Hrl.out.mono ?_; rintro e w' ⟨rfl, rfl⟩))
    refine Hcl.out.mono ?_
    rintro r w1 ⟨A2, c2, g2, rfl, htx, hb1⟩
    have hb01 := hb0.trans (hb1.mono hb0.size)
    have K1 := KT.below hb1 KT.lt
    have n0 := K1.cell_of 0 (v := .int .i64 0) rfl
    have n1 := K1.cell_of 1 (v := .int .i64 0) rfl
    have n2 := K1.cell_of 2 (v := .int .i64 0) rfl
    have n3 := K1.cell_of 3 (v := .slice none 0 0) rfl
    have z0 := K1.frozen 0
    have z1 := K1.frozen 1
    have z2 := K1.frozen 2
    have z3 := K1.frozen 3
    have Htx := Lib.hid htx
    clear htx Hcl
    have Hw1 := Lib.hid (Hwo.out w1 hb01)
    go_wp2_with (go_at_call 97; refine Hw1.out.mono ?_; rintro e w' ⟨rfl, rfl⟩)
    refine bodyPost_ret (v := .tuple #[.agg #[.int .i64 1, .int .i64 0, .int .i64 0, .slice A2 m c2], .int .i64 m, .bool (wordOk (s.take m))]) (by simp [results, Try.results72, go_sem, n0, n1, n2, n3]) rfl ?_
    refine ⟨⟨A2, c2, g2, by rw [Hto.out]; dsimp only; rw [Hlen.out], ?_⟩, (((hb01.setCell (by simp) _).setCell (by simp) _).setCell (by simp) _).setCell (by simp) _⟩
    rw [Hto.out]
    exact (Htx.out.box (by simp) _ _ _ _).less (by simp)
  case false =>
  have n0 := KT.cell_of 0 (v := .int .i64 0) rfl
  have n1 := KT.cell_of 1 (v := .int .i64 0) rfl
  have n2 := KT.cell_of 2 (v := .int .i64 0) rfl
  have n3 := KT.cell_of 3 (v := .slice none 0 0) rfl
  have z0 := KT.frozen 0
  have z1 := KT.frozen 1
  have z2 := KT.frozen 2
  have z3 := KT.frozen 3
  cases hd : digit s[0]
  case true =>
    have hto := tokOne_digit h0 hs hd
    have hm1 := run_le digit s
    have hm0 : 1 ≤ run digit s := run_pos2 h0 hd
    have hall := run_alls digit s
    obtain ⟨m, hm⟩ : ∃ m, run digit s = m := ⟨_, rfl⟩
    have hrl := runLengthDigit_c s (some a) c B _ (by omega) hR
    rw [hm] at hrl hto hm1 hm0 hall
    have hmc : m ≤ c := by omega
    have hlen : (s.take m).length = m := by rw [List.length_take]; omega
    have hno := numberOf_c (s.take m) (some a) c B _ (by omega) hall (hR.take2 m)
    rw [hlen] at hno
    obtain ⟨nn, hnn⟩ : ∃ nn : Int, (if fits (s.take m) then (numOf (s.take m) : Int) else 0) = nn := ⟨_, rfl⟩
    rw [hnn] at hno hto
    have Hs := Lib.hid hs
    have Hd := Lib.hid hd
    have Hto := Lib.hid hto
    have Hrl := Lib.hid hrl
    have Hno := Lib.hid hno
    clear hs hd hto hm hrl hno hlen hR hcell hall hnn
    go_enter Try.func72, Try.ntmps72
    go_wp2_with (first
      | (go_at_call 95; refine (isLetter_c _ false Hs.out _).mono ?_; rintro e w' ⟨rfl, rfl⟩)
      | (go_at_call 98; refine (isDigit_c _ true Hd.out _).mono ?_; rintro e w' ⟨rfl, rfl⟩)
      | (go_at_call 96; refine Hrl.out.mono ?_; rintro e w' ⟨rfl, rfl⟩)
      | (go_at_call 99; refine Hno.out.mono ?_; rintro e w' ⟨rfl, rfl⟩))
    refine bodyPost_ret (v := .tuple #[.agg #[.int .i64 2, .int .i64 0, .int .i64 nn, .slice none 0 0], .int .i64 m, .bool (fits (s.take m))]) (by simp [results, Try.results72, go_sem]) rfl ?_
    refine ⟨⟨none, 0, 0, by rw [Hto.out]; rfl, ?_⟩, (Below.refl _ _).alloc (Nat.le_refl _) _⟩
    rw [Hto.out]
    exact TxS.nil _ _ _ _
  case false =>
  have hR1 := hR.take2 1
  have hlen : (s.take 1).length = 1 := by rw [List.length_take]; omega
  have ht1 : s.take 1 = [s[0]] := by
    cases s with
    | nil => simp at h0
    | cons x r => rfl
  have hsg := signOk_c (s.take 1) (some a) c B _ (by omega) hR1
  have hsl : signL (s.take 1) = sgn s[0] := by rw [ht1]; rfl
  rw [hlen, hsl] at hsg
  have h1c : 1 ≤ c := by omega
  have h1n : 1 ≤ s.length := by omega
  cases hg : sgn s[0]
  case true =>
    have hto := tokOne_sgn h0 hs hd hg
    rw [hg] at hsg
    have hcl := bytesCloneT_c (s.take 1) (some a) c B _ (Nat.le_trans hB hb0.size) (by omega) hR1
    rw [hlen] at hcl
    rw [← ht1] at hto
    have Hs := Lib.hid hs
    have Hd := Lib.hid hd
    have Hto := Lib.hid hto
    have Hlen := Lib.hid hlen
    have Hsg := Lib.hid hsg
    have Hcl := Lib.hid hcl
    clear hs hd hg hto hsg hcl hlen hR hR1 hcell ht1 hsl n0 n1 n2 n3 z0 z1 z2 z3
    go_enter Try.func72, Try.ntmps72
    go_wp2_with (first
      | (go_at_call 95; refine (isLetter_c _ false Hs.out _).mono ?_; rintro e w' ⟨rfl, rfl⟩)
      | (go_at_call 98; refine (isDigit_c _ false Hd.out _).mono ?_; rintro e w' ⟨rfl, rfl⟩)
      | (go_at_call 100; refine Hsg.out.mono ?_; rintro e w' ⟨rfl, rfl⟩))
    refine Hcl.out.mono ?_
    rintro r w1 ⟨A2, c2, g2, rfl, htx, hb1⟩
    have hb01 := hb0.trans (hb1.mono hb0.size)
    have K1 := KT.below hb1 KT.lt
    have n0 := K1.cell_of 0 (v := .int .i64 0) rfl
    have n1 := K1.cell_of 1 (v := .int .i64 0) rfl
    have n2 := K1.cell_of 2 (v := .int .i64 0) rfl
    have n3 := K1.cell_of 3 (v := .slice none 0 0) rfl
    have z0 := K1.frozen 0
    have z1 := K1.frozen 1
    have z2 := K1.frozen 2
    have z3 := K1.frozen 3
    have Htx := Lib.hid htx
    clear htx Hcl
    go_wp2
    refine bodyPost_ret (v := .tuple #[.agg #[.int .i64 3, .int .i64 0, .int .i64 0, .slice A2 1 c2], .int .i64 1, .bool true]) (by simp [results, Try.results72, go_sem, n0, n1, n2, n3]) rfl ?_
    refine ⟨⟨A2, c2, g2, by rw [Hto.out]; dsimp only; rw [Hlen.out]; rfl, ?_⟩, (((hb01.setCell (by simp) _).setCell (by simp) _).setCell (by simp) _).setCell (by simp) _⟩
    rw [Hto.out]
    exact (Htx.out.box (by simp) _ _ _ _).less (by simp)
  case false =>
    have hto := tokOne_none h0 hs hd hg
    rw [hg] at hsg
    have Hs := Lib.hid hs
    have Hd := Lib.hid hd
    have Hto := Lib.hid hto
    have Hsg := Lib.hid hsg
    clear hs hd hg hto hsg hlen hR hR1 hcell ht1 hsl
    go_enter Try.func72, Try.ntmps72
    go_wp2_with (first
      | (go_at_call 95; refine (isLetter_c _ false Hs.out _).mono ?_; rintro e w' ⟨rfl, rfl⟩)
      | (go_at_call 98; refine (isDigit_c _ false Hd.out _).mono ?_; rintro e w' ⟨rfl, rfl⟩)
      | (go_at_call 100; refine Hsg.out.mono ?_; rintro e w' ⟨rfl, rfl⟩))
    refine bodyPost_ret (v := .tuple #[.agg #[.int .i64 0, .int .i64 0, .int .i64 0, .slice none 0 0], .int .i64 1, .bool false]) (by simp [results, Try.results72, go_sem]) rfl ?_
    refine ⟨⟨none, 0, 0, by rw [Hto.out]; rfl, ?_⟩, (Below.refl _ _).alloc (Nat.le_refl _) _⟩
    rw [Hto.out]
    exact TxS.nil _ _ _ _
end Go.Proofs.Ytmejbmfopdfbjaa
