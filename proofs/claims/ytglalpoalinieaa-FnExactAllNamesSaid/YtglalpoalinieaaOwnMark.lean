/-
  Rows of names that are ours alone: each name in a block of its own; marked in all places, and held.
-/
import Derived.Test.YtglalpoalinieaaMarkFns
import Derived.IntWalk
namespace Go.Proofs.Ytglalpoalinieaa
open Go.RowKit Go.Shelf
set_option linter.unusedVariables false

/-- one block alone may have turned -/
structure Only (g : Nat) (w w' : World) : Prop where
  os : w'.os = w.os
  tape : w'.tape = w.tape
  output : w'.output = w.output
  size : w'.heap.size = w.heap.size
  block : ∀ k, k ≠ g → w'.heap[k]? = w.heap[k]?
theorem Only.refl (g : Nat) (w : World) : Only g w w := ⟨rfl, rfl, rfl, rfl, fun _ _ => rfl⟩
theorem Only.setCell {g : Nat} {a w : World} (h : Only g a w) {p : Addr} (hp : p.block = g) (u : Value) : Only g a (w.setCell p u) :=
  ⟨h.os, h.tape, h.output, by rw [World.size_setCell]; exact h.size, fun k hk => (Below.heap_setCell w p u k (by omega)).trans (h.block k hk)⟩
theorem Only.drewN {g : Nat} {a w : World} (h : Only g a w) (n : Nat) : Only g a (w.drewN n) := ⟨h.os, h.tape, h.output, h.size, h.block⟩
theorem Only.blk {g g' : Nat} {w w' : World} {t : TypeId} {cs : Array Value} (h : Only g w w') (hb : Blk w g' t cs) (hne : g' ≠ g) : Blk w' g' t cs := (h.block g' hne).trans hb
theorem Only.below {g B : Nat} {w w' : World} (h : Only g w w') (hB : B ≤ g) : Below B w w' := ⟨h.os, h.tape, h.output, by rw [h.size]; exact Nat.le_refl _, fun k hk => h.block k (by omega)⟩

/-- the marks of a text -/
def mk (k n : Nat) : List UInt8 := (List.range n).map fun j => UInt8.ofNat (k + j)
theorem mk_len (k n : Nat) : (mk k n).length = n := by simp [mk]
theorem mk_get {k n j : Nat} (h : j < (mk k n).length) : ((mk k n)[j].toNat : Int) = ((k + j : Nat) : Int) % 256 := by
  simp [mk]

set_option maxHeartbeats 400000 in
theorem markByteX_c (A : Option Addr) (g n c k : Nat) (tc : Array Value) (w : World) (hn : n ≤ 4294967296) (hk : k ≤ 1099511627776) (hA : 0 < n → A = some ⟨g, 0, none⟩ ∧ Blk w g 5 tc ∧ n ≤ tc.size) :
    Calls Try.prog 69 #[.slice A n c, .int .i64 k] w fun e w' => e = .returned (.int .i64 ((k + n : Nat) : Int)) ∧ Only g w w' ∧
      (0 < n → ∃ tc' : Array Value, Blk w' g 5 tc' ∧ ∀ (j : Nat) (u : Value), (vb (mk k n))[j]? = some u → tc'[j]? = some u) := by
  go_enter Try.func69, Try.ntmps69
  go_wp2
  go_loopw [1, 5] (fun s i wr => ∃ (m : Nat), m ≤ n ∧ i = .int .i64 m ∧ s = .int .i64 ((k + m : Nat) : Int) ∧ Only g w wr ∧ (0 < n → ∃ tc' : Array Value, Blk wr g 5 tc' ∧ n ≤ tc'.size ∧ ∀ j, j < m → tc'[j]? = some (.int .u8 (((k + j : Nat) : Int) % 256)))) (fun _ i _ => n - (intOf i).toNat)
  case atStart => exact ⟨0, Nat.zero_le _, rfl, rfl, Only.refl _ _, fun h => ⟨tc, (hA h).2.1, (hA h).2.2, fun j hj => by omega⟩⟩
  case round =>
    obtain ⟨m, hm, rfl, rfl, ho, hx⟩ := hrel
    have HA := Lib.hid hA
    have Hx := Lib.hid hx
    clear hA hx
    by_cases hlt : m < n
    · obtain ⟨tc', hb, hs, hcs⟩ := Hx.out (by omega)
      obtain ⟨eA, _⟩ := HA.out (by omega)
      subst eA
      have Hcs := Lib.hid hcs
      clear hcs
      obtain ⟨v, hv⟩ : ∃ v, tc'[m]? = some v := ⟨_, Array.getElem?_eq_getElem (by omega)⟩
      have hc0 : wr.cell? ⟨g, m, none⟩ = some v := by rw [hb.cell]; exact hv
      have hf0 : wr.frozen? ⟨g, m, none⟩ = false := hb.frozen m
      clear hv
      go_wp2
      go_roundw
      case rel =>
        refine ⟨m + 1, by omega, by go_num, by go_num, ho.setCell rfl _, fun _ => ⟨_, hb.set_ m _, by simpa using hs, fun j hj => ?_⟩⟩
        by_cases e : j = m
        · subst e
          rw [Array.getElem?_setIfInBounds_self_of_lt (by omega)]
          congr 2
        · rw [Array.getElem?_setIfInBounds_ne (by omega)]
          exact Hcs.out j (by omega)
      case measure => simp [intOf]; omega
    · go_wp2
      go_ret
      have : m = n := by omega
      subst this
      refine ⟨rfl, ho, fun h => ?_⟩
      obtain ⟨tc', hb, hs, hcs⟩ := Hx.out h
      refine ⟨tc', hb, fun j u hu => ?_⟩
      rw [vb_get] at hu
      have hj : j < m := by
        rcases Nat.lt_or_ge j m with h1 | h1
        · exact h1
        · rw [List.getElem?_eq_none (by rw [mk_len]; exact h1)] at hu; cases hu
      rw [List.getElem?_eq_getElem (by rw [mk_len]; exact hj)] at hu
      rw [hcs j hj]
      simp only [Option.map_some, Option.some.injEq] at hu
      rw [← hu, mk_get]

set_option maxHeartbeats 400000 in
theorem heldByteX_c (A : Option Addr) (B n c k : Nat) (w : World) (hn : n ≤ 4294967296) (hk : k ≤ 1099511627776) (h : RB w B A (mk k n)) :
    Calls Try.prog 71 #[.slice A n c, .int .i64 k] w fun e w' => e = .returned (.int .i64 ((k + n : Nat) : Int)) ∧ w = w' := by
  go_enter Try.func71, Try.ntmps71
  go_wp2
  go_loopw [1, 5] (fun s i wr => ∃ (m : Nat), m ≤ n ∧ i = .int .i64 m ∧ s = .int .i64 ((k + m : Nat) : Int) ∧ wr = w) (fun _ i _ => n - (intOf i).toNat)
  case atStart => exact ⟨0, Nat.zero_le _, rfl, rfl, rfl⟩
  case round =>
    obtain ⟨m, hm, rfl, rfl, rfl⟩ := hrel
    by_cases hlt : m < n
    · have hlt' : m < (mk k n).length := by rw [mk_len]; exact hlt
      obtain ⟨ad, rfl, hb, hcell⟩ := h.at_ hlt'
      rw [mk_get, Int.natCast_add] at hcell
      go_wp2
      go_roundw
      case rel => exact ⟨m + 1, by omega, by go_num, by go_num, by trivial⟩
      case measure => simp [intOf]; omega
    · go_wp2
      go_ret
      have : m = n := by omega
      subst this
      exact ⟨rfl, rfl⟩

theorem markByteX_i (A : Option Addr) (g n c k : Nat) (ki : Int) (tc : Array Value) (w : World) (hki : ki = (k : Nat)) (hn : n ≤ 4294967296) (hk : k ≤ 1099511627776) (hA : 0 < n → A = some ⟨g, 0, none⟩ ∧ Blk w g 5 tc ∧ n ≤ tc.size) :
    Calls Try.prog 69 #[.slice A n c, .int .i64 ki] w fun e w' => e = .returned (.int .i64 ((k + n : Nat) : Int)) ∧ Only g w w' ∧
      (0 < n → ∃ tc' : Array Value, Blk w' g 5 tc' ∧ ∀ (j : Nat) (u : Value), (vb (mk k n))[j]? = some u → tc'[j]? = some u) := by
  subst hki; exact markByteX_c A g n c k tc w hn hk hA
theorem heldByteX_i (A : Option Addr) (B n c k : Nat) (ki : Int) (w : World) (hki : ki = (k : Nat)) (hn : n ≤ 4294967296) (hk : k ≤ 1099511627776) (h : RB w B A (mk k n)) :
    Calls Try.prog 71 #[.slice A n c, .int .i64 ki] w fun e w' => e = .returned (.int .i64 ((k + n : Nat) : Int)) ∧ w = w' := by
  subst hki; exact heldByteX_c A B n c k w hn hk h


/-- name i of a row of ours: it lies in block g alone -/
def NmAt (w : World) (lo : Nat) (cs : Array Value) (i g : Nat) (e : List UInt8) : Prop :=
  ∃ A c, cs[i]? = some (.slice A e.length c) ∧ (0 < e.length → A = some ⟨g, 0, none⟩ ∧ lo ≤ g ∧ ∃ tc : Array Value, Blk w g 5 tc ∧ ∀ (j : Nat) (u : Value), (vb e)[j]? = some u → tc[j]? = some u)
/-- a row of names, each in a block of its own -/
def OwnN (w : World) (lo : Nat) (A : Option Addr) (l : List (List UInt8)) (gs : Nat → Nat) : Prop :=
  0 < l.length → ∃ g, ∃ cs : Array Value, A = some ⟨g, 0, none⟩ ∧ Blk w g 33 cs ∧ lo ≤ g ∧ (∀ i (hi : i < l.length), NmAt w lo cs i (gs i) l[i]) ∧
    ∀ i j (hi : i < l.length) (hj : j < l.length), i ≠ j → 0 < l[i].length → 0 < l[j].length → gs i ≠ gs j

def bAt (l : List (List UInt8)) (k i : Nat) : Nat := k + mkBs (l.take i)
theorem bAt_zero (l : List (List UInt8)) (k : Nat) : bAt l k 0 = k := by simp [bAt, mkBs]
theorem bAt_step {l : List (List UInt8)} {k i : Nat} (h : i < l.length) : bAt l k (i + 1) = bAt l k i + l[i].length := by
  unfold bAt; rw [mkBs_step h]; omega
theorem bAt_all (l : List (List UInt8)) (k : Nat) : bAt l k l.length = k + mkBs l := by unfold bAt; rw [List.take_length]
theorem bAt_le {l : List (List UInt8)} {k i : Nat} (h : i < l.length) : bAt l k i + l[i].length ≤ k + mkBs l := by
  have := mkBs_get h; unfold bAt; omega
def mixB (l : List (List UInt8)) (k m : Nat) : List (List UInt8) := l.mapIdx fun i e => if i < m then mk (bAt l k i) e.length else e
theorem mixB_len (l : List (List UInt8)) (k m : Nat) : (mixB l k m).length = l.length := by simp [mixB]
theorem mixB_get {l : List (List UInt8)} {k m i : Nat} (h : i < (mixB l k m).length) : (mixB l k m)[i] = if i < m then mk (bAt l k i) (l[i]'(by rw [mixB_len] at h; exact h)).length else l[i]'(by rw [mixB_len] at h; exact h) := by
  simp [mixB]
theorem mixB_zero (l : List (List UInt8)) (k : Nat) : mixB l k 0 = l := by
  apply List.ext_getElem (mixB_len _ _ _)
  intro i h1 h2
  rw [mixB_get h1, if_neg (by omega)]
theorem mixB_tlen {l : List (List UInt8)} {k m i : Nat} (h : i < (mixB l k m).length) : (mixB l k m)[i].length = (l[i]'(by rw [mixB_len] at h; exact h)).length := by
  rw [mixB_get h]
  split
  · exact mk_len _ _
  · rfl

/-- one name marked -/
theorem mixB_step {w w' : World} {lo k m gg : Nat} {A : Option Addr} {l : List (List UInt8)} {gs : Nat → Nat} (hm : m < l.length)
    (h : OwnN w lo A (mixB l k m) gs) (h' : Only gg w w')
    (hgg : (0 < l[m].length → gg = gs m ∧ ∃ tc' : Array Value, Blk w' gg 5 tc' ∧ ∀ (j : Nat) (u : Value), (vb (mk (bAt l k m) l[m].length))[j]? = some u → tc'[j]? = some u) ∧ (¬ 0 < l[m].length → w.heap.size ≤ gg)) :
    OwnN w' lo A (mixB l k (m + 1)) gs := by
  intro _
  obtain ⟨g, cs, eA, hb, hlo, hat, hds⟩ := h (by rw [mixB_len]; omega)
  have hgne : gg ≠ g := by
    by_cases h0 : 0 < l[m].length
    · obtain ⟨e, tc', hb', _⟩ := hgg.1 h0
      obtain ⟨A', c', _, hx⟩ := hat m (by rw [mixB_len]; exact hm)
      obtain ⟨_, _, tc, hb2, _⟩ := hx (by rw [mixB_tlen]; exact h0)
      rw [e]
      exact Blk.ne_ hb2 hb (by decide)
    · have := hgg.2 h0
      have := hb.lt
      omega
  refine ⟨g, cs, eA, h'.blk hb (Ne.symm hgne), hlo, fun i hi => ?_, fun i j hi hj hij ti tj => ?_⟩
  · have hi' : i < l.length := by rw [mixB_len] at hi; exact hi
    have hi2 : i < (mixB l k m).length := by rw [mixB_len]; exact hi'
    obtain ⟨A', c', hc, hx⟩ := hat i hi2
    rw [mixB_tlen] at hc
    refine ⟨A', c', by rw [mixB_tlen]; exact hc, fun hn => ?_⟩
    rw [mixB_tlen] at hn
    obtain ⟨e1, e2, tc, hbt, ht⟩ := hx (by rw [mixB_tlen]; exact hn)
    refine ⟨e1, e2, ?_⟩
    by_cases e : i = m
    · subst e
      obtain ⟨egg, tc', hb', ht'⟩ := hgg.1 hn
      subst egg
      refine ⟨tc', hb', ?_⟩
      rw [mixB_get hi, if_pos (by omega)]
      exact ht'
    · have hne : gs i ≠ gg := by
        by_cases h0 : 0 < l[m].length
        · rw [(hgg.1 h0).1]
          exact hds i m hi2 (by rw [mixB_len]; exact hm) e (by rw [mixB_tlen]; exact hn) (by rw [mixB_tlen]; exact h0)
        · have h1 := hgg.2 h0
          have h2 := hbt.lt
          omega
      refine ⟨tc, h'.blk hbt hne, ?_⟩
      rw [mixB_get hi]
      rw [mixB_get hi2] at ht
      by_cases h : i < m
      · rw [if_pos (by omega)]
        rw [if_pos h] at ht
        exact ht
      · rw [if_neg (by omega)]
        rw [if_neg h] at ht
        exact ht
  · have hi' : i < (mixB l k m).length := by rw [mixB_len] at hi ⊢; exact hi
    have hj' : j < (mixB l k m).length := by rw [mixB_len] at hj ⊢; exact hj
    refine hds i j hi' hj' hij ?_ ?_
    · rw [mixB_tlen] at ti ⊢; exact ti
    · rw [mixB_tlen] at tj ⊢; exact tj

/-- where name m lies, or a block that is none -/
theorem OwnN.blkAt {w : World} {lo : Nat} {A : Option Addr} {l : List (List UInt8)} {gs : Nat → Nat} {m : Nat} (h : OwnN w lo A l gs) (hm : m < l.length) :
    ∃ ad A' c, A = some ad ∧ w.cell? (ad.add m) = some (.slice A' l[m].length c) ∧ ∃ gg tc, (0 < l[m].length → gg = gs m ∧ A' = some ⟨gg, 0, none⟩ ∧ Blk w gg 5 tc ∧ l[m].length ≤ tc.size ∧ lo ≤ gg) ∧ (¬ 0 < l[m].length → w.heap.size ≤ gg) := by
  obtain ⟨g, cs, eA, hb, hlo, hat, hds⟩ := h (by omega)
  obtain ⟨A', c', hc, hx⟩ := hat m hm
  refine ⟨_, A', c', eA, ?_, ?_⟩
  · rw [show (Addr.add ⟨g, 0, none⟩ m) = ⟨g, m, none⟩ by unfold Addr.add; split <;> simp_all]
    rw [hb.cell]; exact hc
  · by_cases h0 : 0 < l[m].length
    · obtain ⟨e1, e2, tc, hbt, ht⟩ := hx h0
      refine ⟨gs m, tc, fun _ => ⟨rfl, e1, hbt, ?_, e2⟩, fun h => absurd h0 h⟩
      have hlast := ht (l[m].length - 1) _ (List.getElem?_eq_getElem (by rw [vb_len]; omega))
      have := (Array.getElem?_eq_some_iff.1 hlast).1
      omega
    · exact ⟨w.heap.size, #[], fun h => absurd h h0, fun _ => Nat.le_refl _⟩

/-- a row of ours stays where nothing from lo on and below its world's end is written -/
theorem OwnN.keep {w w' : World} {lo : Nat} {A : Option Addr} {l : List (List UInt8)} {gs : Nat → Nat} (h : OwnN w lo A l gs) (hk : ∀ k, lo ≤ k → k < w.heap.size → w'.heap[k]? = w.heap[k]?) : OwnN w' lo A l gs := by
  intro hn
  obtain ⟨g, cs, eA, hb, hlo, hat, hds⟩ := h hn
  refine ⟨g, cs, eA, (hk g hlo hb.lt).trans hb, hlo, fun i hi => ?_, hds⟩
  obtain ⟨A', c', hc, hx⟩ := hat i hi
  refine ⟨A', c', hc, fun h0 => ?_⟩
  obtain ⟨e1, e2, tc, hbt, ht⟩ := hx h0
  exact ⟨e1, e2, tc, (hk _ e2 hbt.lt).trans hbt, ht⟩
theorem OwnN.below {w w' : World} {lo B : Nat} {A : Option Addr} {l : List (List UInt8)} {gs : Nat → Nat} (h : OwnN w lo A l gs) (hb : Below B w w') (hB : w.heap.size ≤ B) : OwnN w' lo A l gs :=
  h.keep fun k _ hk => hb.block k (by omega)
theorem OwnN.mk_ {w w' : World} {lo L B : Nat} {A : Option Addr} {l : List (List UInt8)} {gs : Nat → Nat} (h : OwnN w lo A l gs) (hm : Mk L B w w') (hB : B ≤ lo) : OwnN w' lo A l gs :=
  h.keep fun k hk _ => hm.block k (.inr (by omega))
/-- read -/
theorem OwnN.bsl {w : World} {lo : Nat} {A : Option Addr} {l : List (List UInt8)} {gs : Nat → Nat} (h : OwnN w lo A l gs) (hn : l.length ≤ maxLen) (hm : ∀ i (hi : i < l.length), l[i].length ≤ maxLen) : BsL w lo w.heap.size A l := by
  refine ⟨hn, fun hp => ?_⟩
  obtain ⟨g, cs, eA, hb, hlo, hat, hds⟩ := h hp
  refine ⟨_, eA, hlo, hb.lt, fun i hi => ?_⟩
  obtain ⟨A', c', hc, hx⟩ := hat i hi
  refine ⟨A', c', ?_, ⟨⟨by simp [vb], fun h0 => ?_⟩, fun h0 => ?_⟩, hm i hi⟩
  · rw [show (Addr.add ⟨g, 0, none⟩ i) = ⟨g, i, none⟩ by unfold Addr.add; split <;> simp_all]
    rw [hb.cell]; exact hc
  · obtain ⟨e1, e2, tc, hbt, ht⟩ := hx h0
    refine ⟨_, e1, hbt.lt, fun j u hu => ?_⟩
    rw [show (Addr.add ⟨gs i, 0, none⟩ j) = ⟨gs i, j, none⟩ by unfold Addr.add; split <;> simp_all]
    rw [hbt.cell]
    exact ht j u hu
  · obtain ⟨e1, e2, _⟩ := hx h0
    exact ⟨_, e1, e2⟩

set_option maxHeartbeats 2000000 in
theorem markOwn_c (l : List (List UInt8)) (A : Option Addr) (c lo k : Nat) (ki : Int) (gs : Nat → Nat) (w : World) (hki : ki = (k : Nat)) (hn : l.length ≤ 4194304) (hsz : k + mkBs l ≤ 1073741824) (hlo : lo ≤ w.heap.size) (h : OwnN w lo A l gs) :
    Calls Try.prog 35 #[.slice A l.length c, .int .i64 ki] w fun r w' => r = .returned (.int .i64 ((k + mkBs l : Nat) : Int)) ∧ OwnN w' lo A (mixB l k l.length) gs ∧ Below lo w w' := by
  subst hki
  go_enter Try.func35, Try.ntmps35
  go_wp2
  go_loopw [1, 5] (fun s i wr => ∃ (m q : Nat), m ≤ l.length ∧ i = .int .i64 m ∧ s = .int .i64 (q : Int) ∧ Hid (q = bAt l k m) ∧ OwnN wr lo A (mixB l k m) gs ∧ Below lo w wr) (fun _ i _ => l.length - (intOf i).toNat)
  case atStart => exact ⟨0, k, Nat.zero_le _, rfl, rfl, Lib.hid (bAt_zero l k).symm, by rw [mixB_zero]; exact h, Below.refl _ _⟩
  case round =>
    obtain ⟨m, q, hm, rfl, rfl, Hq, hO, hbw⟩ := hrel
    by_cases hlt : m < l.length
    · obtain ⟨ad, A', c', rfl, h4, gg, tc, hyes, hno⟩ := hO.blkAt (m := m) (by rw [mixB_len]; exact hlt)
      rw [mixB_tlen] at h4 hyes hno
      have hle := bAt_le (k := k) hlt
      have hst := bAt_step (k := k) hlt
      have hqb : q + l[m].length ≤ 1073741824 := by have := Hq.out; omega
      have hc := markByteX_i A' gg l[m].length c' q (q : Int) tc wr rfl (by omega) (by omega) (fun h0 => ⟨(hyes h0).2.1, (hyes h0).2.2.1, (hyes h0).2.2.2.1⟩)
      have Hc := Lib.hid hc
      have Hs := Lib.hid hst
      have HO := Lib.hid hO
      have Hy := Lib.hid hyes
      have Hn := Lib.hid hno
      clear hc hst hO hyes hno hle
      go_wp2_with fail
      refine Hc.out.mono ?_
      rintro r w2 ⟨rfl, ho, hx⟩
      have hnew := mixB_step hlt HO.out ho ⟨fun h0 => ⟨(Hy.out h0).1, by rw [← Hq.out]; exact hx h0⟩, Hn.out⟩
      have Hnew := Lib.hid hnew
      have hge : lo ≤ gg := by
        by_cases h0 : 0 < l[m].length
        · exact (Hy.out h0).2.2.2.2
        · have h1 := Hn.out h0
          have h2 := hbw.size
          omega
      have hbw2 := hbw.trans (ho.below hge)
      obtain ⟨u, hu⟩ : ∃ u : Nat, q + l[m].length = u := ⟨_, rfl⟩
      rw [hu]
      have U := Lib.hid hu
      clear hu h4 hnew hx
      go_wp2
      go_roundw
      case rel => exact ⟨m + 1, u, by omega, by go_num, rfl, Lib.hid (by have h1 := Hq.out; have h2 := Hs.out; have h3 := U.out; omega), Hnew.out, hbw2⟩
      case measure => simp [intOf]; omega
    · go_wp2
      go_ret
      have hml : m = l.length := by omega
      subst hml
      have h0 := Hq.out
      rw [bAt_all] at h0
      exact ⟨by rw [h0]; rfl, hO, hbw⟩

set_option maxHeartbeats 2000000 in
theorem heldOwn_c (l : List (List UInt8)) (A : Option Addr) (c lo k : Nat) (ki : Int) (gs : Nat → Nat) (w : World) (hki : ki = (k : Nat)) (hn : l.length ≤ 4194304) (hsz : k + mkBs l ≤ 1073741824) (h : OwnN w lo A (mixB l k l.length) gs) :
    Calls Try.prog 36 #[.slice A l.length c, .int .i64 ki] w fun r w' => r = .returned (.int .i64 ((k + mkBs l : Nat) : Int)) ∧ w = w' := by
  subst hki
  go_enter Try.func36, Try.ntmps36
  go_wp2
  go_loopw [1, 5] (fun s i wr => ∃ (m q : Nat), m ≤ l.length ∧ i = .int .i64 m ∧ s = .int .i64 (q : Int) ∧ Hid (q = bAt l k m) ∧ wr = w) (fun _ i _ => l.length - (intOf i).toNat)
  case atStart => exact ⟨0, k, Nat.zero_le _, rfl, rfl, Lib.hid (bAt_zero l k).symm, rfl⟩
  case round =>
    obtain ⟨m, q, hm, rfl, rfl, Hq, rfl⟩ := hrel
    by_cases hlt : m < l.length
    · obtain ⟨g, cs, eA, hb, hlo, hat, hds⟩ := h (by rw [mixB_len]; omega)
      subst eA
      have hmx : m < (mixB l k l.length).length := by rw [mixB_len]; exact hlt
      obtain ⟨A', c', hc4, hx⟩ := hat m hmx
      rw [mixB_tlen] at hc4
      have hR : RB wr wr.heap.size A' (mk q l[m].length) := by
        refine ⟨by simp [vb], fun h0 => ?_⟩
        rw [mk_len] at h0
        obtain ⟨e1, e2, tc, hbt, ht⟩ := hx (by rw [mixB_tlen]; exact h0)
        refine ⟨_, e1, hbt.lt, fun j u hu => ?_⟩
        rw [show (Addr.add ⟨gs m, 0, none⟩ j) = ⟨gs m, j, none⟩ by unfold Addr.add; split <;> simp_all]
        rw [hbt.cell]
        refine ht j u ?_
        rw [mixB_get hmx, if_pos hlt, ← Hq.out]
        exact hu
      have h4 : wr.cell? ⟨g, m, none⟩ = some (.slice A' l[m].length c') := by rw [hb.cell]; exact hc4
      have hle := bAt_le (k := k) hlt
      have hst := bAt_step (k := k) hlt
      have hqb : q + l[m].length ≤ 1073741824 := by have := Hq.out; omega
      have hc := heldByteX_i A' wr.heap.size l[m].length c' q (q : Int) wr rfl (by omega) (by omega) hR
      obtain ⟨u, hu⟩ : ∃ u : Nat, q + l[m].length = u := ⟨_, rfl⟩
      rw [hu] at hc hqb
      have Hc := Lib.hid hc
      have Hs := Lib.hid hst
      have U := Lib.hid hu
      clear hc hst hat hds hx hR hle hb hc4 hu
      go_wp2_with fail
      refine Hc.out.mono ?_
      rintro r w2 ⟨rfl, rfl⟩
      go_wp2
      go_roundw
      case rel => exact ⟨m + 1, u, by omega, by go_num, rfl, Lib.hid (by have h1 := Hq.out; have h2 := Hs.out; have h3 := U.out; omega), by trivial⟩
      case measure => simp [intOf]; omega
    · go_wp2
      go_ret
      have hml : m = l.length := by omega
      subst hml
      have h0 := Hq.out
      rw [bAt_all] at h0
      exact ⟨by rw [h0]; rfl, by trivial⟩

end Go.Proofs.Ytglalpoalinieaa
