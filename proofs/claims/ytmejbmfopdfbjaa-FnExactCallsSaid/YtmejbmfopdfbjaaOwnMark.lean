/-
  Rows of names that are ours alone: each name in a block of its own; marked in all places, and held.
-/
import Derived.Test.YtmejbmfopdfbjaaMarkFns
import Derived.Test.YtmejbmfopdfbjaaOwn
import Derived.Test.YtmejbmfopdfbjaaFnAll
import Derived.IntWalk
namespace Go.Proofs.Ytmejbmfopdfbjaa
open Go.RowKit Go.Shelf
set_option linter.unusedVariables false

/-- one block alone may have turned -/
structure Only (g : Nat) (w w' : World) : Prop where
  os : w'.os = w.os
  tape : w'.tape = w.tape
  output : w'.output = w.output
  size : w'.heap.size = w.heap.size
  block : ∀ k, k ≠ g → w'.heap[k]? = w.heap[k]?
theorem Only.refl (g : Nat) (w : World) : Only g w w := ⟨rfl, rfl, rfl, rfl, fun _ _ => rfl⟩
theorem Only.setCell {g : Nat} {a w : World} (h : Only g a w) {p : Addr} (hp : p.block = g) (u : Value) : Only g a (w.setCell p u) :=
  ⟨h.os, h.tape, h.output, by rw [World.size_setCell]; exact h.size, fun k hk => (Below.heap_setCell w p u k (by omega)).trans (h.block k hk)⟩
theorem Only.drewN {g : Nat} {a w : World} (h : Only g a w) (n : Nat) : Only g a (w.drewN n) := ⟨h.os, h.tape, h.output, h.size, h.block⟩
theorem Only.blk {g g' : Nat} {w w' : World} {t : TypeId} {cs : Array Value} (h : Only g w w') (hb : Blk w g' t cs) (hne : g' ≠ g) : Blk w' g' t cs := (h.block g' hne).trans hb
theorem Only.below {g B : Nat} {w w' : World} (h : Only g w w') (hB : B ≤ g) : Below B w w' := ⟨h.os, h.tape, h.output, by rw [h.size]; exact Nat.le_refl _, fun k hk => h.block k (by omega)⟩

/-- the marks of a text -/
def mk (k n : Nat) : List UInt8 := (List.range n).map fun j => UInt8.ofNat (k + j)
theorem mk_len (k n : Nat) : (mk k n).length = n := by simp [mk]
theorem mk_get {k n j : Nat} (h : j < (mk k n).length) : ((mk k n)[j].toNat : Int) = ((k + j : Nat) : Int) % 256 := by
  simp [mk]

set_option maxHeartbeats 400000 in
theorem markByteX_c (A : Option Addr) (g n c k : Nat) (tc : Array Value) (w : World) (hn : n ≤ 4294967296) (hk : k ≤ 1099511627776) (hA : 0 < n → A = some ⟨g, 0, none⟩ ∧ Blk w g 5 tc ∧ n ≤ tc.size) :
    Calls Try.prog 20 #[.slice A n c, .int .i64 k] w fun e w' => e = .returned (.int .i64 ((k + n : Nat) : Int)) ∧ Only g w w' ∧
      (0 < n → ∃ tc' : Array Value, Blk w' g 5 tc' ∧ ∀ (j : Nat) (u : Value), (vb (mk k n))[j]? = some u → tc'[j]? = some u) := by
  go_enter Try.func20, Try.ntmps20
  go_wp2
  go_loopw [1, 5] (fun s i wr => ∃ (m : Nat), m ≤ n ∧ i = .int .i64 m ∧ s = .int .i64 ((k + m : Nat) : Int) ∧ Only g w wr ∧ (0 < n → ∃ tc' : Array Value, Blk wr g 5 tc' ∧ n ≤ tc'.size ∧ ∀ j, j < m → tc'[j]? = some (.int .u8 (((k + j : Nat) : Int) % 256)))) (fun _ i _ => n - (intOf i).toNat)
  case atStart => exact ⟨0, Nat.zero_le _, rfl, rfl, Only.refl _ _, fun h => ⟨tc, (hA h).2.1, (hA h).2.2, fun j hj => by omega⟩⟩
  case round =>
    obtain ⟨m, hm, rfl, rfl, ho, hx⟩ := hrel
    have HA := Lib.hid hA
    have Hx := Lib.hid hx
    clear hA hx
    by_cases hlt : m < n
    · obtain ⟨tc', hb, hs, hcs⟩ := Hx.out (by omega)
      obtain ⟨eA, _⟩ := HA.out (by omega)
      subst eA
      have Hcs := Lib.hid hcs
      clear hcs
      obtain ⟨v, hv⟩ : ∃ v, tc'[m]? = some v := ⟨_, Array.getElem?_eq_getElem (by omega)⟩
      have hc0 : wr.cell? ⟨g, m, none⟩ = some v := by rw [hb.cell]; exact hv
      have hf0 : wr.frozen? ⟨g, m, none⟩ = false := hb.frozen m
      clear hv
      go_wp2
      go_roundw
      case rel =>
        refine ⟨m + 1, by omega, by go_num, by go_num, ho.setCell rfl _, fun _ => ⟨_, hb.set_ m _, by simpa using hs, fun j hj => ?_⟩⟩
        by_cases e : j = m
        · subst e
          rw [Array.getElem?_setIfInBounds_self_of_lt (by omega)]
          congr 2
        · rw [Array.getElem?_setIfInBounds_ne (by omega)]
          exact Hcs.out j (by omega)
      case measure => simp [intOf]; omega
    · go_wp2
      go_ret
      have : m = n := by omega
      subst this
      refine ⟨rfl, ho, fun h => ?_⟩
      obtain ⟨tc', hb, hs, hcs⟩ := Hx.out h
      refine ⟨tc', hb, fun j u hu => ?_⟩
      rw [vb_get] at hu
      have hj : j < m := by
        rcases Nat.lt_or_ge j m with h1 | h1
        · exact h1
        · rw [List.getElem?_eq_none (by rw [mk_len]; exact h1)] at hu; cases hu
      rw [List.getElem?_eq_getElem (by rw [mk_len]; exact hj)] at hu
      rw [hcs j hj]
      simp only [Option.map_some, Option.some.injEq] at hu
      rw [← hu, mk_get]

set_option maxHeartbeats 400000 in
theorem heldByteX_c (A : Option Addr) (B n c k : Nat) (w : World) (hn : n ≤ 4294967296) (hk : k ≤ 1099511627776) (h : RB w B A (mk k n)) :
    Calls Try.prog 41 #[.slice A n c, .int .i64 k] w fun e w' => e = .returned (.int .i64 ((k + n : Nat) : Int)) ∧ w = w' := by
  go_enter Try.func41, Try.ntmps41
  go_wp2
  go_loopw [1, 5] (fun s i wr => ∃ (m : Nat), m ≤ n ∧ i = .int .i64 m ∧ s = .int .i64 ((k + m : Nat) : Int) ∧ wr = w) (fun _ i _ => n - (intOf i).toNat)
  case atStart => exact ⟨0, Nat.zero_le _, rfl, rfl, rfl⟩
  case round =>
    obtain ⟨m, hm, rfl, rfl, rfl⟩ := hrel
    by_cases hlt : m < n
    · have hlt' : m < (mk k n).length := by rw [mk_len]; exact hlt
      obtain ⟨ad, rfl, hb, hcell⟩ := h.at_ hlt'
      rw [mk_get, Int.natCast_add] at hcell
      go_wp2
      go_roundw
      case rel => exact ⟨m + 1, by omega, by go_num, by go_num, by trivial⟩
      case measure => simp [intOf]; omega
    · go_wp2
      go_ret
      have : m = n := by omega
      subst this
      exact ⟨rfl, rfl⟩

theorem markByteX_i (A : Option Addr) (g n c k : Nat) (ki : Int) (tc : Array Value) (w : World) (hki : ki = (k : Nat)) (hn : n ≤ 4294967296) (hk : k ≤ 1099511627776) (hA : 0 < n → A = some ⟨g, 0, none⟩ ∧ Blk w g 5 tc ∧ n ≤ tc.size) :
    Calls Try.prog 20 #[.slice A n c, .int .i64 ki] w fun e w' => e = .returned (.int .i64 ((k + n : Nat) : Int)) ∧ Only g w w' ∧
      (0 < n → ∃ tc' : Array Value, Blk w' g 5 tc' ∧ ∀ (j : Nat) (u : Value), (vb (mk k n))[j]? = some u → tc'[j]? = some u) := by
  subst hki; exact markByteX_c A g n c k tc w hn hk hA
theorem heldByteX_i (A : Option Addr) (B n c k : Nat) (ki : Int) (w : World) (hki : ki = (k : Nat)) (hn : n ≤ 4294967296) (hk : k ≤ 1099511627776) (h : RB w B A (mk k n)) :
    Calls Try.prog 41 #[.slice A n c, .int .i64 ki] w fun e w' => e = .returned (.int .i64 ((k + n : Nat) : Int)) ∧ w = w' := by
  subst hki; exact heldByteX_c A B n c k w hn hk h


/-- name i of a row of ours: it lies in block g alone -/
def NmAt (w : World) (lo : Nat) (cs : Array Value) (i g : Nat) (e : List UInt8) : Prop :=
  ∃ A c, cs[i]? = some (.slice A e.length c) ∧ (0 < e.length → A = some ⟨g, 0, none⟩ ∧ lo ≤ g ∧ ∃ tc : Array Value, Blk w g 5 tc ∧ ∀ (j : Nat) (u : Value), (vb e)[j]? = some u → tc[j]? = some u)
/-- a row of names, each in a block of its own -/
def OwnN (w : World) (lo : Nat) (A : Option Addr) (l : List (List UInt8)) (gs : Nat → Nat) : Prop :=
  0 < l.length → ∃ g, ∃ cs : Array Value, A = some ⟨g, 0, none⟩ ∧ Blk w g 22 cs ∧ lo ≤ g ∧ (∀ i (hi : i < l.length), NmAt w lo cs i (gs i) l[i]) ∧
    ∀ i j (hi : i < l.length) (hj : j < l.length), i ≠ j → 0 < l[i].length → 0 < l[j].length → gs i ≠ gs j

def bAt (l : List (List UInt8)) (k i : Nat) : Nat := k + mkBs (l.take i)
theorem bAt_zero (l : List (List UInt8)) (k : Nat) : bAt l k 0 = k := by simp [bAt, mkBs]
theorem bAt_step {l : List (List UInt8)} {k i : Nat} (h : i < l.length) : bAt l k (i + 1) = bAt l k i + l[i].length := by
  unfold bAt; rw [mkBs_step h]; omega
theorem bAt_all (l : List (List UInt8)) (k : Nat) : bAt l k l.length = k + mkBs l := by unfold bAt; rw [List.take_length]
theorem bAt_le {l : List (List UInt8)} {k i : Nat} (h : i < l.length) : bAt l k i + l[i].length ≤ k + mkBs l := by
  have := mkBs_get h; unfold bAt; omega
def mixB (l : List (List UInt8)) (k m : Nat) : List (List UInt8) := l.mapIdx fun i e => if i < m then mk (bAt l k i) e.length else e
theorem mixB_len (l : List (List UInt8)) (k m : Nat) : (mixB l k m).length = l.length := by simp [mixB]
theorem mixB_get {l : List (List UInt8)} {k m i : Nat} (h : i < (mixB l k m).length) : (mixB l k m)[i] = if i < m then mk (bAt l k i) (l[i]'(by rw [mixB_len] at h; exact h)).length else l[i]'(by rw [mixB_len] at h; exact h) := by
  simp [mixB]
theorem mixB_zero (l : List (List UInt8)) (k : Nat) : mixB l k 0 = l := by
  apply List.ext_getElem (mixB_len _ _ _)
  intro i h1 h2
  rw [mixB_get h1, if_neg (by omega)]
theorem mixB_tlen {l : List (List UInt8)} {k m i : Nat} (h : i < (mixB l k m).length) : (mixB l k m)[i].length = (l[i]'(by rw [mixB_len] at h; exact h)).length := by
  rw [mixB_get h]
  split
  · exact mk_len _ _
  · rfl

/-- one name marked -/
theorem mixB_step {w w' : World} {lo k m gg : Nat} {A : Option Addr} {l : List (List UInt8)} {gs : Nat → Nat} (hm : m < l.length)
    (h : OwnN w lo A (mixB l k m) gs) (h' : Only gg w w')
    (hgg : (0 < l[m].length → gg = gs m ∧ ∃ tc' : Array Value, Blk w' gg 5 tc' ∧ ∀ (j : Nat) (u : Value), (vb (mk (bAt l k m) l[m].length))[j]? = some u → tc'[j]? = some u) ∧ (¬ 0 < l[m].length → w.heap.size ≤ gg)) :
    OwnN w' lo A (mixB l k (m + 1)) gs := by
  intro _
  obtain ⟨g, cs, eA, hb, hlo, hat, hds⟩ := h (by rw [mixB_len]; omega)
  have hgne : gg ≠ g := by
    by_cases h0 : 0 < l[m].length
    · obtain ⟨e, tc', hb', _⟩ := hgg.1 h0
      obtain ⟨A', c', _, hx⟩ := hat m (by rw [mixB_len]; exact hm)
      obtain ⟨_, _, tc, hb2, _⟩ := hx (by rw [mixB_tlen]; exact h0)
      rw [e]
      exact Blk.ne_ hb2 hb (by decide)
    · have := hgg.2 h0
      have := hb.lt
      omega
  refine ⟨g, cs, eA, h'.blk hb (Ne.symm hgne), hlo, fun i hi => ?_, fun i j hi hj hij ti tj => ?_⟩
  · have hi' : i < l.length := by rw [mixB_len] at hi; exact hi
    have hi2 : i < (mixB l k m).length := by rw [mixB_len]; exact hi'
    obtain ⟨A', c', hc, hx⟩ := hat i hi2
    rw [mixB_tlen] at hc
    refine ⟨A', c', by rw [mixB_tlen]; exact hc, fun hn => ?_⟩
    rw [mixB_tlen] at hn
    obtain ⟨e1, e2, tc, hbt, ht⟩ := hx (by rw [mixB_tlen]; exact hn)
    refine ⟨e1, e2, ?_⟩
    by_cases e : i = m
    · subst e
      obtain ⟨egg, tc', hb', ht'⟩ := hgg.1 hn
      subst egg
      refine ⟨tc', hb', ?_⟩
      rw [mixB_get hi, if_pos (by omega)]
      exact ht'
    · have hne : gs i ≠ gg := by
        by_cases h0 : 0 < l[m].length
        · rw [(hgg.1 h0).1]
          exact hds i m hi2 (by rw [mixB_len]; exact hm) e (by rw [mixB_tlen]; exact hn) (by rw [mixB_tlen]; exact h0)
        · have h1 := hgg.2 h0
          have h2 := hbt.lt
          omega
      refine ⟨tc, h'.blk hbt hne, ?_⟩
      rw [mixB_get hi]
      rw [mixB_get hi2] at ht
      by_cases h : i < m
      · rw [if_pos (by omega)]
        rw [if_pos h] at ht
        exact ht
      · rw [if_neg (by omega)]
        rw [if_neg h] at ht
        exact ht
  · have hi' : i < (mixB l k m).length := by rw [mixB_len] at hi ⊢; exact hi
    have hj' : j < (mixB l k m).length := by rw [mixB_len] at hj ⊢; exact hj
    refine hds i j hi' hj' hij ?_ ?_
    · rw [mixB_tlen] at ti ⊢; exact ti
    · rw [mixB_tlen] at tj ⊢; exact tj

/-- where name m lies, or a block that is none -/
theorem OwnN.blkAt {w : World} {lo : Nat} {A : Option Addr} {l : List (List UInt8)} {gs : Nat → Nat} {m : Nat} (h : OwnN w lo A l gs) (hm : m < l.length) :
    ∃ ad A' c, A = some ad ∧ w.cell? (ad.add m) = some (.slice A' l[m].length c) ∧ ∃ gg tc, (0 < l[m].length → gg = gs m ∧ A' = some ⟨gg, 0, none⟩ ∧ Blk w gg 5 tc ∧ l[m].length ≤ tc.size ∧ lo ≤ gg) ∧ (¬ 0 < l[m].length → w.heap.size ≤ gg) := by
  obtain ⟨g, cs, eA, hb, hlo, hat, hds⟩ := h (by omega)
  obtain ⟨A', c', hc, hx⟩ := hat m hm
  refine ⟨_, A', c', eA, ?_, ?_⟩
  · rw [show (Addr.add ⟨g, 0, none⟩ m) = ⟨g, m, none⟩ by unfold Addr.add; split <;> simp_all]
    rw [hb.cell]; exact hc
  · by_cases h0 : 0 < l[m].length
    · obtain ⟨e1, e2, tc, hbt, ht⟩ := hx h0
      refine ⟨gs m, tc, fun _ => ⟨rfl, e1, hbt, ?_, e2⟩, fun h => absurd h0 h⟩
      have hlast := ht (l[m].length - 1) _ (List.getElem?_eq_getElem (by rw [vb_len]; omega))
      have := (Array.getElem?_eq_some_iff.1 hlast).1
      omega
    · exact ⟨w.heap.size, #[], fun h => absurd h h0, fun _ => Nat.le_refl _⟩

/-- a row of ours stays where nothing from lo on and below its world's end is written -/
theorem OwnN.keep {w w' : World} {lo : Nat} {A : Option Addr} {l : List (List UInt8)} {gs : Nat → Nat} (h : OwnN w lo A l gs) (hk : ∀ k, lo ≤ k → k < w.heap.size → w'.heap[k]? = w.heap[k]?) : OwnN w' lo A l gs := by
  intro hn
  obtain ⟨g, cs, eA, hb, hlo, hat, hds⟩ := h hn
  refine ⟨g, cs, eA, (hk g hlo hb.lt).trans hb, hlo, fun i hi => ?_, hds⟩
  obtain ⟨A', c', hc, hx⟩ := hat i hi
  refine ⟨A', c', hc, fun h0 => ?_⟩
  obtain ⟨e1, e2, tc, hbt, ht⟩ := hx h0
  exact ⟨e1, e2, tc, (hk _ e2 hbt.lt).trans hbt, ht⟩
theorem OwnN.below {w w' : World} {lo B : Nat} {A : Option Addr} {l : List (List UInt8)} {gs : Nat → Nat} (h : OwnN w lo A l gs) (hb : Below B w w') (hB : w.heap.size ≤ B) : OwnN w' lo A l gs :=
  h.keep fun k _ hk => hb.block k (by omega)
theorem OwnN.mk_ {w w' : World} {lo L B : Nat} {A : Option Addr} {l : List (List UInt8)} {gs : Nat → Nat} (h : OwnN w lo A l gs) (hm : Mk L B w w') (hB : B ≤ lo) : OwnN w' lo A l gs :=
  h.keep fun k hk _ => hm.block k (.inr (by omega))
/-- read -/
theorem OwnN.bsl {w : World} {lo : Nat} {A : Option Addr} {l : List (List UInt8)} {gs : Nat → Nat} (h : OwnN w lo A l gs) (hn : l.length ≤ maxLen) (hm : ∀ i (hi : i < l.length), l[i].length ≤ maxLen) : BsL w lo w.heap.size A l := by
  refine ⟨hn, fun hp => ?_⟩
  obtain ⟨g, cs, eA, hb, hlo, hat, hds⟩ := h hp
  refine ⟨_, eA, hlo, hb.lt, fun i hi => ?_⟩
  obtain ⟨A', c', hc, hx⟩ := hat i hi
  refine ⟨A', c', ?_, ⟨⟨by simp [vb], fun h0 => ?_⟩, fun h0 => ?_⟩, hm i hi⟩
  · rw [show (Addr.add ⟨g, 0, none⟩ i) = ⟨g, i, none⟩ by unfold Addr.add; split <;> simp_all]
    rw [hb.cell]; exact hc
  · obtain ⟨e1, e2, tc, hbt, ht⟩ := hx h0
    refine ⟨_, e1, hbt.lt, fun j u hu => ?_⟩
    rw [show (Addr.add ⟨gs i, 0, none⟩ j) = ⟨gs i, j, none⟩ by unfold Addr.add; split <;> simp_all]
    rw [hbt.cell]
    exact ht j u hu
  · obtain ⟨e1, e2, _⟩ := hx h0
    exact ⟨_, e1, e2⟩

set_option maxHeartbeats 2000000 in
theorem markOwn_c (l : List (List UInt8)) (A : Option Addr) (c lo k : Nat) (ki : Int) (gs : Nat → Nat) (w : World) (hki : ki = (k : Nat)) (hn : l.length ≤ 4194304) (hsz : k + mkBs l ≤ 1073741824) (hlo : lo ≤ w.heap.size) (h : OwnN w lo A l gs) :
    Calls Try.prog 13 #[.slice A l.length c, .int .i64 ki] w fun r w' => r = .returned (.int .i64 ((k + mkBs l : Nat) : Int)) ∧ OwnN w' lo A (mixB l k l.length) gs ∧ Below lo w w' := by
  subst hki
  go_enter Try.func13, Try.ntmps13
  go_wp2
  go_loopw [1, 5] (fun s i wr => ∃ (m q : Nat), m ≤ l.length ∧ i = .int .i64 m ∧ s = .int .i64 (q : Int) ∧ Hid (q = bAt l k m) ∧ OwnN wr lo A (mixB l k m) gs ∧ Below lo w wr) (fun _ i _ => l.length - (intOf i).toNat)
  case atStart => exact ⟨0, k, Nat.zero_le _, rfl, rfl, Lib.hid (bAt_zero l k).symm, by rw [mixB_zero]; exact h, Below.refl _ _⟩
  case round =>
    obtain ⟨m, q, hm, rfl, rfl, Hq, hO, hbw⟩ := hrel
    by_cases hlt : m < l.length
    · obtain ⟨ad, A', c', rfl, h4, gg, tc, hyes, hno⟩ := hO.blkAt (m := m) (by rw [mixB_len]; exact hlt)
      rw [mixB_tlen] at h4 hyes hno
      have hle := bAt_le (k := k) hlt
      have hst := bAt_step (k := k) hlt
      have hqb : q + l[m].length ≤ 1073741824 := by have := Hq.out; omega
      have hc := markByteX_i A' gg l[m].length c' q (q : Int) tc wr rfl (by omega) (by omega) (fun h0 => ⟨(hyes h0).2.1, (hyes h0).2.2.1, (hyes h0).2.2.2.1⟩)
      have Hc := Lib.hid hc
      have Hs := Lib.hid hst
      have HO := Lib.hid hO
      have Hy := Lib.hid hyes
      have Hn := Lib.hid hno
      clear hc hst hO hyes hno hle
      go_wp2_with fail
      refine Hc.out.mono ?_
      rintro r w2 ⟨rfl, ho, hx⟩
      have hnew := mixB_step hlt HO.out ho ⟨fun h0 => ⟨(Hy.out h0).1, by rw [← Hq.out]; exact hx h0⟩, Hn.out⟩
      have Hnew := Lib.hid hnew
      have hge : lo ≤ gg := by
        by_cases h0 : 0 < l[m].length
        · exact (Hy.out h0).2.2.2.2
        · have h1 := Hn.out h0
          have h2 := hbw.size
          omega
      have hbw2 := hbw.trans (ho.below hge)
      obtain ⟨u, hu⟩ : ∃ u : Nat, q + l[m].length = u := ⟨_, rfl⟩
      rw [hu]
      have U := Lib.hid hu
      clear hu h4 hnew hx
      go_wp2
      go_roundw
      case rel => exact ⟨m + 1, u, by omega, by go_num, rfl, Lib.hid (by have h1 := Hq.out; have h2 := Hs.out; have h3 := U.out; omega), Hnew.out, hbw2⟩
      case measure => simp [intOf]; omega
    · go_wp2
      go_ret
      have hml : m = l.length := by omega
      subst hml
      have h0 := Hq.out
      rw [bAt_all] at h0
      exact ⟨by rw [h0]; rfl, hO, hbw⟩

set_option maxHeartbeats 2000000 in
theorem heldOwn_c (l : List (List UInt8)) (A : Option Addr) (c lo k : Nat) (ki : Int) (gs : Nat → Nat) (w : World) (hki : ki = (k : Nat)) (hn : l.length ≤ 4194304) (hsz : k + mkBs l ≤ 1073741824) (h : OwnN w lo A (mixB l k l.length) gs) :
    Calls Try.prog 14 #[.slice A l.length c, .int .i64 ki] w fun r w' => r = .returned (.int .i64 ((k + mkBs l : Nat) : Int)) ∧ w = w' := by
  subst hki
  go_enter Try.func14, Try.ntmps14
  go_wp2
  go_loopw [1, 5] (fun s i wr => ∃ (m q : Nat), m ≤ l.length ∧ i = .int .i64 m ∧ s = .int .i64 (q : Int) ∧ Hid (q = bAt l k m) ∧ wr = w) (fun _ i _ => l.length - (intOf i).toNat)
  case atStart => exact ⟨0, k, Nat.zero_le _, rfl, rfl, Lib.hid (bAt_zero l k).symm, rfl⟩
  case round =>
    obtain ⟨m, q, hm, rfl, rfl, Hq, rfl⟩ := hrel
    by_cases hlt : m < l.length
    · obtain ⟨g, cs, eA, hb, hlo, hat, hds⟩ := h (by rw [mixB_len]; omega)
      subst eA
      have hmx : m < (mixB l k l.length).length := by rw [mixB_len]; exact hlt
      obtain ⟨A', c', hc4, hx⟩ := hat m hmx
      rw [mixB_tlen] at hc4
      have hR : RB wr wr.heap.size A' (mk q l[m].length) := by
        refine ⟨by simp [vb], fun h0 => ?_⟩
        rw [mk_len] at h0
        obtain ⟨e1, e2, tc, hbt, ht⟩ := hx (by rw [mixB_tlen]; exact h0)
        refine ⟨_, e1, hbt.lt, fun j u hu => ?_⟩
        rw [show (Addr.add ⟨gs m, 0, none⟩ j) = ⟨gs m, j, none⟩ by unfold Addr.add; split <;> simp_all]
        rw [hbt.cell]
        refine ht j u ?_
        rw [mixB_get hmx, if_pos hlt, ← Hq.out]
        exact hu
      have h4 : wr.cell? ⟨g, m, none⟩ = some (.slice A' l[m].length c') := by rw [hb.cell]; exact hc4
      have hle := bAt_le (k := k) hlt
      have hst := bAt_step (k := k) hlt
      have hqb : q + l[m].length ≤ 1073741824 := by have := Hq.out; omega
      have hc := heldByteX_i A' wr.heap.size l[m].length c' q (q : Int) wr rfl (by omega) (by omega) hR
      obtain ⟨u, hu⟩ : ∃ u : Nat, q + l[m].length = u := ⟨_, rfl⟩
      rw [hu] at hc hqb
      have Hc := Lib.hid hc
      have Hs := Lib.hid hst
      have U := Lib.hid hu
      clear hc hst hat hds hx hR hle hb hc4 hu
      go_wp2_with fail
      refine Hc.out.mono ?_
      rintro r w2 ⟨rfl, rfl⟩
      go_wp2
      go_roundw
      case rel => exact ⟨m + 1, u, by omega, by go_num, rfl, Lib.hid (by have h1 := Hq.out; have h2 := Hs.out; have h3 := U.out; omega), by trivial⟩
      case measure => simp [intOf]; omega
    · go_wp2
      go_ret
      have hml : m = l.length := by omega
      subst hml
      have h0 := Hq.out
      rw [bAt_all] at h0
      exact ⟨by rw [h0]; rfl, by trivial⟩

theorem OwnN.lo_le {w : World} {lo lo' : Nat} {A : Option Addr} {l : List (List UInt8)} {gs : Nat → Nat} (h : OwnN w lo A l gs) (hl : lo' ≤ lo) : OwnN w lo' A l gs := by
  intro hn
  obtain ⟨g, cs, eA, hb, hlo, hat, hds⟩ := h hn
  refine ⟨g, cs, eA, hb, by omega, fun i hi => ?_, hds⟩
  obtain ⟨A', c', hc, hx⟩ := hat i hi
  refine ⟨A', c', hc, fun h0 => ?_⟩
  obtain ⟨e1, e2, e3⟩ := hx h0
  exact ⟨e1, by omega, e3⟩

/-- a name in a block of its own -/
def Solo (w : World) (lo g : Nat) (A : Option Addr) (e : List UInt8) : Prop := 0 < e.length → A = some ⟨g, 0, none⟩ ∧ lo ≤ g ∧ ∃ tc : Array Value, Blk w g 5 tc ∧ ∀ (j : Nat) (u : Value), (vb e)[j]? = some u → tc[j]? = some u
theorem Solo.keep {w w' : World} {lo g : Nat} {A : Option Addr} {e : List UInt8} (h : Solo w lo g A e) (hk : ∀ t, Blk w g 5 t → w'.heap[g]? = w.heap[g]?) : Solo w' lo g A e := fun h0 => by
  obtain ⟨e1, e2, tc, hb, ht⟩ := h h0
  exact ⟨e1, e2, tc, (hk _ hb).trans hb, ht⟩
theorem Solo.lt {w : World} {lo g : Nat} {A : Option Addr} {e : List UInt8} (h : Solo w lo g A e) (h0 : 0 < e.length) : g < w.heap.size := by
  obtain ⟨_, _, tc, hb, _⟩ := h h0
  exact hb.lt

/-- the first k names, each in a block of its own -/
def NmL (w : World) (lo : Nat) (l : List (List UInt8)) (k : Nat) (xs : List Value) (gs : Nat → Nat) : Prop :=
  (∀ j (hj : j < l.length), j < k → ∃ A c, xs[j]? = some (.slice A l[j].length c) ∧ Solo w lo (gs j) A l[j]) ∧
    ∀ i j (hi : i < l.length) (hj : j < l.length), i < k → j < k → i ≠ j → 0 < l[i].length → 0 < l[j].length → gs i ≠ gs j
theorem NmL.zero (w : World) (lo : Nat) (l : List (List UInt8)) (gs : Nat → Nat) : NmL w lo l 0 [] gs := ⟨fun j _ h => by omega, fun i j _ _ h => by omega⟩
theorem NmL.keep {w w' : World} {lo k : Nat} {l : List (List UInt8)} {xs : List Value} {gs : Nat → Nat} (h : NmL w lo l k xs gs) (hk : ∀ g t, Blk w g 5 t → w'.heap[g]? = w.heap[g]?) : NmL w' lo l k xs gs :=
  ⟨fun j hj hjk => by
    obtain ⟨A, c, h1, h2⟩ := h.1 j hj hjk
    exact ⟨A, c, h1, h2.keep (hk _)⟩, h.2⟩
theorem NmL.snoc {w : World} {lo k g : Nat} {l : List (List UInt8)} {xs : List Value} {gs : Nat → Nat} {A : Option Addr} {c : Nat} (hk : k < l.length) (hx : xs.length = k) (h : NmL w lo l k xs gs) (hs : Solo w lo g A l[k])
    (hne : ∀ i (hi : i < l.length), i < k → 0 < l[i].length → 0 < l[k].length → gs i ≠ g) : NmL w lo l (k + 1) (xs ++ [.slice A l[k].length c]) (fun i => if i = k then g else gs i) := by
  refine ⟨fun j hj hjk => ?_, fun i j hi hj hik hjk hij ti tj => ?_⟩
  · rcases Nat.lt_or_ge j k with h1 | h1
    · obtain ⟨A2, c2, hx2, hs2⟩ := h.1 j hj h1
      refine ⟨A2, c2, by rw [List.getElem?_append_left (by omega)]; exact hx2, ?_⟩
      show Solo w lo (if j = k then g else gs j) A2 l[j]
      rw [if_neg (by omega)]
      exact hs2
    · obtain rfl : j = k := by omega
      refine ⟨A, c, by rw [List.getElem?_append_right (by omega), hx, Nat.sub_self]; rfl, ?_⟩
      show Solo w lo (if j = j then g else gs j) A l[j]
      rw [if_pos rfl]
      exact hs
  · show (if i = k then g else gs i) ≠ (if j = k then g else gs j)
    by_cases ei : i = k
    · rw [if_pos ei, if_neg (by omega)]
      subst ei
      exact fun e => hne j hj (by omega) tj ti e.symm
    · by_cases ej : j = k
      · rw [if_neg ei, if_pos ej]
        subst ej
        exact hne i hi (by omega) ti tj
      · rw [if_neg ei, if_neg ej]
        exact h.2 i j hi hj (by omega) (by omega) hij ti tj
/-- a row that is whole -/
theorem NmL.own {w : World} {lo : Nat} {l : List (List UInt8)} {xs : List Value} {gs : Nat → Nat} {A : Option Addr} {c : Nat} (h : NmL w lo l l.length xs gs) (ho : w.ownsRow lo 22 1 (.slice A l.length c) l.length xs) : OwnN w lo A l gs := by
  intro hn
  rcases ho.2 with ⟨_, h0⟩ | ⟨g, cap, cur, hv, hlo, hb, _, _, _, htk⟩
  · omega
  · injection hv with a1 a2 a3
    refine ⟨g, cur, a1, hb, hlo, fun i hi => ?_, fun i j hi hj => h.2 i j hi hj hi hj⟩
    obtain ⟨A', c', hx, hs⟩ := h.1 i hi hi
    refine ⟨A', c', ?_, hs⟩
    rw [← htk] at hx
    rw [List.getElem?_take] at hx
    split at hx
    · simpa using hx
    · cases hx

set_option maxRecDepth 100000 in
set_option maxHeartbeats 2000000 in
theorem bytesCloneO_c (l : List UInt8) (A : Option Addr) (c B : Nat) (w : World) (hB : B ≤ w.heap.size) (hl : l.length ≤ 1048576) (h : RB w B A l) :
    Calls Try.prog 50 #[.slice A l.length c] w fun r w' => ∃ A' c' g, r = .returned (.slice A' l.length c') ∧ Solo w' w.heap.size g A' l ∧ Below w.heap.size w w' := by
  obtain ⟨i0, hi, hz0, hz1, hz2⟩ := info_parts infoU8
  have qn : ∀ (w : World) (a : Option Addr) (n c n' c' : Nat), (binOp .eql 22 (.slice a n c) (.slice none n' c')).run Try.prog w = .ok (.bool a.isNone) w := fun w a n c n' c' => Lib.run_eql_slice_nil w _ _ a n c n' c' Try.underlying22
  cases A with
  | none =>
    have h0 : l = [] := by
      cases l with
      | nil => rfl
      | cons x r => obtain ⟨ad, e, _⟩ := h.2 (by simp); cases e
    subst h0
    go_enter Try.func50, Try.ntmps50
    go_wp2
    go_ret
    exact ⟨none, 0, 0, rfl, fun hn => by simp at hn, Below.refl _ _⟩
  | some ad =>
    have hb0 : Below w.heap.size w (w.alloc (.cells #[] 5)) := (Below.refl _ _).alloc (Nat.le_refl _) _
    have hR := h.below (hb0.mono hB)
    have hO : (w.alloc (.cells #[] 5)).ownsRow w.heap.size 5 1 (.slice (some ⟨w.heap.size, 0, none⟩) 0 0) 0 [] :=
      ⟨rfl, .inr ⟨w.heap.size, 0, #[], rfl, Nat.le_refl _, Blk.new w _ _, Nat.le_refl _, Nat.zero_le _, rfl, rfl⟩⟩
    have hcs : ∀ j u, (vb l)[j]? = some u → (w.alloc (.cells #[] 5)).cell? (ad.add j) = some u := fun j u hj => by
      have hjl : j < l.length := by rw [← vb_len l]; exact (List.getElem?_eq_some_iff.1 hj).1
      obtain ⟨ad', e, _, hc⟩ := hR.2 (by omega)
      injection e with e
      subst e
      have := hc j u hj
      simpa using this
    have HO := Lib.hid hO
    have Hcs := Lib.hid hcs
    clear hO hR h hcs
    go_enter Try.func50, Try.ntmps50
    go_wp2_with (at_builtin; refine wpList_append_own _ rfl (.tmp 5) (.tmp 6) 22 rfl w.heap.size 5 i0 _ 1 1 Try.underlying22 hi hz0 hz1 hz2 rfl (by omega) _ _ _ rfl HO.out ad l.length c (vb l) rfl (by rw [vb_len, Nat.mul_one]) Hcs.out (fun u hu => by obtain ⟨b, _, rfl⟩ := List.mem_map.1 hu; rfl) (by unfold maxLen; omega) (by omega) (by simp) ?_; intro v2 w2 hown2 hg2 _)
    go_ret
    rw [Nat.zero_add, List.nil_append] at hown2
    have hbn : Below w.heap.size w w2 := hb0.grown hg2 (by simp) (fun g hg => by
      have h3 : (Value.slice (some ⟨w.heap.size, 0, none⟩) 0 0).ownBlock = some g := hg
      simp [Value.ownBlock] at h3
      omega)
    rcases hown2.2 with ⟨h1, h0⟩ | ⟨g2, cap2, cur2, hv2, hge, hbk, _, _, _, htk⟩
    · exact ⟨none, 0, 0, by rw [h1, h0]; rfl, fun hn => by omega, hbn⟩
    · refine ⟨_, _, g2, by rw [hv2]; rfl, fun _ => ⟨rfl, hge, cur2, hbk, fun j u hu => ?_⟩, hbn⟩
      rw [← htk, List.getElem?_take] at hu
      split at hu
      · simpa using hu
      · cases hu

theorem row_apart {w w' : World} {lo g k : Nat} {e t : TypeId} {v : Value} {xs : List Value} {cs : Array Value} (h : w.ownsRow lo e 1 v k xs) (hb : Blk w g t cs) (hne : t ≠ e) (hg : w.grownBy w' v.ownBlock) : w'.heap[g]? = w.heap[g]? :=
  hg.block g hb.lt (fun e1 => by
    obtain ⟨cs', t', e1', e2'⟩ := (own_tag h e1.symm).2
    unfold Blk at hb
    rw [hb] at e1'
    injection e1' with e1'
    injection e1' with _ e1'
    exact hne (e1'.trans e2'))

/-- what a copied name leaves -/
theorem copied {wr w3 : World} {lo k c1 : Nat} {A1 : Option Addr} {xs : List Value} {nm : List UInt8} {v2 : Value} (h0 : 0 < nm.length) (Hown : wr.ownsRow lo 22 1 (.slice A1 k c1) k xs)
    (hown2 : w3.ownsRow wr.heap.size 5 1 v2 (0 + nm.length) ([] ++ vb nm)) (hg2 : (wr.alloc (.cells #[] 5)).grownBy w3 (Value.slice (some ⟨wr.heap.size, 0, none⟩) 0 0).ownBlock) :
    ∃ g2 cap2, v2 = .slice (some ⟨g2, 0, none⟩) nm.length cap2 ∧ Solo w3 wr.heap.size g2 (some ⟨g2, 0, none⟩) nm ∧ Below wr.heap.size wr w3 ∧ w3.ownsRow lo 22 1 (.slice A1 k c1) k xs := by
  have hb0 : Below wr.heap.size wr (wr.alloc (.cells #[] 5)) := (Below.refl _ _).alloc (Nat.le_refl _) _
  rw [Nat.zero_add, List.nil_append] at hown2
  have hbn : Below wr.heap.size wr w3 := hb0.grown hg2 (by simp) (fun g hg => by
    have h3 : (Value.slice (some ⟨wr.heap.size, 0, none⟩) 0 0).ownBlock = some g := hg
    simp [Value.ownBlock] at h3
    omega)
  rcases hown2.2 with ⟨h1, h2⟩ | ⟨g2, cap2, cur2, hv2, hge, hbk, _, _, _, htk⟩
  · omega
  · refine ⟨g2, cap2, hv2, fun _ => ⟨rfl, hge, cur2, hbk, fun j u hu => ?_⟩, hbn, own_keep Hown (fun g hg => hbn.block g (own_tag Hown hg).2.lt)⟩
    rw [← htk, List.getElem?_take] at hu
    split at hu
    · simpa using hu
    · cases hu

end Go.Proofs.Ytmejbmfopdfbjaa
