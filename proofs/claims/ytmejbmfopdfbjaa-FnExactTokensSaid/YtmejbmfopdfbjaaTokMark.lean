/-
  The laws' own marks: numbers written into all places of an answer, and read again.
-/
import Derived.Test.YtmejbmfopdfbjaaTokOwn
import Derived.IntWalk
namespace Go.Proofs.Ytmejbmfopdfbjaa
open Go.RowKit

/-- one block alone may have turned -/
structure Only (g : Nat) (w w' : World) : Prop where
  os : w'.os = w.os
  tape : w'.tape = w.tape
  output : w'.output = w.output
  size : w'.heap.size = w.heap.size
  block : ∀ k, k ≠ g → w'.heap[k]? = w.heap[k]?
theorem Only.refl (g : Nat) (w : World) : Only g w w := ⟨rfl, rfl, rfl, rfl, fun _ _ => rfl⟩
theorem Only.setCell {g : Nat} {a w : World} (h : Only g a w) {p : Addr} (hp : p.block = g) (u : Value) : Only g a (w.setCell p u) :=
  ⟨h.os, h.tape, h.output, by rw [World.size_setCell]; exact h.size, fun k hk => (Below.heap_setCell w p u k (by omega)).trans (h.block k hk)⟩
theorem Only.drewN {g : Nat} {a w : World} (h : Only g a w) (n : Nat) : Only g a (w.drewN n) := ⟨h.os, h.tape, h.output, h.size, h.block⟩
theorem Only.blk {g g' : Nat} {w w' : World} {t : TypeId} {cs : Array Value} (h : Only g w w') (hb : Blk w g' t cs) (hne : g' ≠ g) : Blk w' g' t cs := (h.block g' hne).trans hb
theorem Only.below {g B : Nat} {w w' : World} (h : Only g w w') (hB : B ≤ g) : Below B w w' := ⟨h.os, h.tape, h.output, by rw [h.size]; exact Nat.le_refl _, fun k hk => h.block k (by omega)⟩

/-- blocks from lo on and below hi alone may have turned -/
structure Outside (lo hi : Nat) (w w' : World) : Prop where
  os : w'.os = w.os
  tape : w'.tape = w.tape
  output : w'.output = w.output
  size : w'.heap.size = w.heap.size
  block : ∀ k, k < lo ∨ hi ≤ k → w'.heap[k]? = w.heap[k]?
theorem Outside.refl (lo hi : Nat) (w : World) : Outside lo hi w w := ⟨rfl, rfl, rfl, rfl, fun _ _ => rfl⟩
theorem Outside.trans {lo hi : Nat} {a b c : World} (h : Outside lo hi a b) (k : Outside lo hi b c) : Outside lo hi a c :=
  ⟨k.os.trans h.os, k.tape.trans h.tape, k.output.trans h.output, k.size.trans h.size, fun i hi => (k.block i hi).trans (h.block i hi)⟩
theorem Outside.below {lo hi : Nat} {w w' : World} (h : Outside lo hi w w') : Below lo w w' := ⟨h.os, h.tape, h.output, by rw [h.size]; exact Nat.le_refl _, fun k hk => h.block k (Or.inl hk)⟩
theorem Only.outside {g lo hi : Nat} {w w' : World} (h : Only g w w') (hg : (lo ≤ g ∧ g < hi) ∨ w.heap.size ≤ g) : Outside lo hi w w' := by
  refine ⟨h.os, h.tape, h.output, h.size, fun k hk => ?_⟩
  by_cases e : k = g
  · subst e
    rcases hg with hg | hg
    · omega
    · rw [Array.getElem?_eq_none hg, Array.getElem?_eq_none (by rw [h.size]; exact hg)]
  · exact h.block k e

/-- the marks of a text -/
def mk (k n : Nat) : List UInt8 := (List.range n).map fun j => UInt8.ofNat (k + j)
theorem mk_len (k n : Nat) : (mk k n).length = n := by simp [mk]
theorem mk_get {k n j : Nat} (h : j < (mk k n).length) : ((mk k n)[j].toNat : Int) = ((k + j : Nat) : Int) % 256 := by
  simp [mk]

set_option maxHeartbeats 400000 in
theorem markByteS_c (A : Option Addr) (g n c k : Nat) (tc : Array Value) (w : World) (hn : n ≤ 4294967296) (hk : k ≤ 1099511627776) (hA : 0 < n → A = some ⟨g, 0, none⟩ ∧ Blk w g 5 tc ∧ n ≤ tc.size) :
    Calls Try.prog 20 #[.slice A n c, .int .i64 k] w fun e w' => e = .returned (.int .i64 ((k + n : Nat) : Int)) ∧ Only g w w' ∧
      (0 < n → ∃ tc' : Array Value, Blk w' g 5 tc' ∧ ∀ (j : Nat) (u : Value), (vb (mk k n))[j]? = some u → tc'[j]? = some u) := by
  go_enter Try.func20, Try.ntmps20
  go_wp2
  go_loopw [1, 5] (fun s i wr => ∃ (m : Nat), m ≤ n ∧ i = .int .i64 m ∧ s = .int .i64 ((k + m : Nat) : Int) ∧ Only g w wr ∧ (0 < n → ∃ tc' : Array Value, Blk wr g 5 tc' ∧ n ≤ tc'.size ∧ ∀ j, j < m → tc'[j]? = some (.int .u8 (((k + j : Nat) : Int) % 256)))) (fun _ i _ => n - (intOf i).toNat)
  case atStart => exact ⟨0, Nat.zero_le _, rfl, rfl, Only.refl _ _, fun h => ⟨tc, (hA h).2.1, (hA h).2.2, fun j hj => by omega⟩⟩
  case round =>
    obtain ⟨m, hm, rfl, rfl, ho, hx⟩ := hrel
    have HA := Lib.hid hA
    have Hx := Lib.hid hx
    clear hA hx
    by_cases hlt : m < n
    · obtain ⟨tc', hb, hs, hcs⟩ := Hx.out (by omega)
      obtain ⟨eA, _⟩ := HA.out (by omega)
      subst eA
      have Hcs := Lib.hid hcs
      clear hcs
      obtain ⟨v, hv⟩ : ∃ v, tc'[m]? = some v := ⟨_, Array.getElem?_eq_getElem (by omega)⟩
      have hc0 : wr.cell? ⟨g, m, none⟩ = some v := by rw [hb.cell]; exact hv
      have hf0 : wr.frozen? ⟨g, m, none⟩ = false := hb.frozen m
      clear hv
      go_wp2
      go_roundw
      case rel =>
        refine ⟨m + 1, by omega, by go_num, by go_num, ho.setCell rfl _, fun _ => ⟨_, hb.set_ m _, by simpa using hs, fun j hj => ?_⟩⟩
        by_cases e : j = m
        · subst e
          rw [Array.getElem?_setIfInBounds_self_of_lt (by omega)]
          congr 2
        · rw [Array.getElem?_setIfInBounds_ne (by omega)]
          exact Hcs.out j (by omega)
      case measure => simp [intOf]; omega
    · go_wp2
      go_ret
      have : m = n := by omega
      subst this
      refine ⟨rfl, ho, fun h => ?_⟩
      obtain ⟨tc', hb, hs, hcs⟩ := Hx.out h
      refine ⟨tc', hb, fun j u hu => ?_⟩
      rw [vb_get] at hu
      have hj : j < m := by
        rcases Nat.lt_or_ge j m with h1 | h1
        · exact h1
        · rw [List.getElem?_eq_none (by rw [mk_len]; exact h1)] at hu; cases hu
      rw [List.getElem?_eq_getElem (by rw [mk_len]; exact hj)] at hu
      rw [hcs j hj]
      simp only [Option.map_some, Option.some.injEq] at hu
      rw [← hu, mk_get]

set_option maxHeartbeats 400000 in
theorem heldByteS_c (A : Option Addr) (B n c k : Nat) (w : World) (hn : n ≤ 4294967296) (hk : k ≤ 1099511627776) (h : RB w B A (mk k n)) :
    Calls Try.prog 41 #[.slice A n c, .int .i64 k] w fun e w' => e = .returned (.int .i64 ((k + n : Nat) : Int)) ∧ w = w' := by
  go_enter Try.func41, Try.ntmps41
  go_wp2
  go_loopw [1, 5] (fun s i wr => ∃ (m : Nat), m ≤ n ∧ i = .int .i64 m ∧ s = .int .i64 ((k + m : Nat) : Int) ∧ wr = w) (fun _ i _ => n - (intOf i).toNat)
  case atStart => exact ⟨0, Nat.zero_le _, rfl, rfl, rfl⟩
  case round =>
    obtain ⟨m, hm, rfl, rfl, rfl⟩ := hrel
    by_cases hlt : m < n
    · have hlt' : m < (mk k n).length := by rw [mk_len]; exact hlt
      obtain ⟨ad, rfl, hb, hcell⟩ := h.at_ hlt'
      rw [mk_get, Int.natCast_add] at hcell
      go_wp2
      go_roundw
      case rel => exact ⟨m + 1, by omega, by go_num, by go_num, by trivial⟩
      case measure => simp [intOf]; omega
    · go_wp2
      go_ret
      have : m = n := by omega
      subst this
      exact ⟨rfl, rfl⟩

theorem markByteS_i (A : Option Addr) (g n c k : Nat) (ki : Int) (tc : Array Value) (w : World) (hki : ki = (k : Nat)) (hn : n ≤ 4294967296) (hk : k ≤ 1099511627776) (hA : 0 < n → A = some ⟨g, 0, none⟩ ∧ Blk w g 5 tc ∧ n ≤ tc.size) :
    Calls Try.prog 20 #[.slice A n c, .int .i64 ki] w fun e w' => e = .returned (.int .i64 ((k + n : Nat) : Int)) ∧ Only g w w' ∧
      (0 < n → ∃ tc' : Array Value, Blk w' g 5 tc' ∧ ∀ (j : Nat) (u : Value), (vb (mk k n))[j]? = some u → tc'[j]? = some u) := by
  subst hki; exact markByteS_c A g n c k tc w hn hk hA
theorem heldByteS_i (A : Option Addr) (B n c k : Nat) (ki : Int) (w : World) (hki : ki = (k : Nat)) (hn : n ≤ 4294967296) (hk : k ≤ 1099511627776) (h : RB w B A (mk k n)) :
    Calls Try.prog 41 #[.slice A n c, .int .i64 ki] w fun e w' => e = .returned (.int .i64 ((k + n : Nat) : Int)) ∧ w = w' := by
  subst hki; exact heldByteS_c A B n c k w hn hk h

theorem OwnT.lt {w : World} {lo g : Nat} {ts : List Tok} {gs : Nat → Nat} (h : OwnT w lo g ts gs) : g < w.heap.size ∧ ∀ i (hi : i < ts.length), 0 < ts[i].text.length → gs i < w.heap.size := by
  obtain ⟨cs, hb, _, hp⟩ := h
  refine ⟨hb.lt, fun i hi ht => ?_⟩
  obtain ⟨_, _, _, v, _, A, c, _, hx⟩ := hp.1 i hi hi
  obtain ⟨_, _, tc, hb', _⟩ := hx ht
  exact hb'.lt

/-- the counter at token i, and the tokens once marked -/
def kAt (ts : List Tok) (k i : Nat) : Nat := k + 3 * i + txts (ts.take i)
theorem kAt_zero (ts : List Tok) (k : Nat) : kAt ts k 0 = k := by simp [kAt, txts]
theorem kAt_step {ts : List Tok} {k i : Nat} (h : i < ts.length) : kAt ts k (i + 1) = kAt ts k i + 3 + ts[i].text.length := by
  unfold kAt; rw [txts_step h]; omega
theorem txts_take_le (ts : List Tok) (i : Nat) : txts (ts.take i) ≤ txts ts := by
  have h : txts ts = txts (ts.take i) + txts (ts.drop i) := by
    unfold txts
    rw [← List.sum_append, ← List.map_append, List.take_append_drop]
  omega
def marked (ts : List Tok) (k i : Nat) (t : Tok) : Tok := ⟨kAt ts k i, (kAt ts k i + 1 : Nat), (kAt ts k i + 2 : Nat), mk (kAt ts k i + 3) t.text.length⟩
def mixT (ts : List Tok) (k m : Nat) : List Tok := ts.mapIdx fun i t => if i < m then marked ts k i t else t
theorem mixT_len (ts : List Tok) (k m : Nat) : (mixT ts k m).length = ts.length := by simp [mixT]
theorem mixT_get {ts : List Tok} {k m i : Nat} (h : i < (mixT ts k m).length) : (mixT ts k m)[i] = if i < m then marked ts k i (ts[i]'(by rw [mixT_len] at h; exact h)) else ts[i]'(by rw [mixT_len] at h; exact h) := by
  simp [mixT]
theorem mixT_zero (ts : List Tok) (k : Nat) : mixT ts k 0 = ts := by
  apply List.ext_getElem (mixT_len _ _ _)
  intro i h1 h2
  rw [mixT_get h1, if_neg (by omega)]
theorem mixT_tlen {ts : List Tok} {k m i : Nat} (h : i < (mixT ts k m).length) : (mixT ts k m)[i].text.length = (ts[i]'(by rw [mixT_len] at h; exact h)).text.length := by
  rw [mixT_get h]
  split
  · simp [marked, mk_len]
  · rfl

def put3 (cs : Array Value) (k : Nat) (a b c : Value) : Array Value := ((cs.setIfInBounds k a).setIfInBounds (k + 1) b).setIfInBounds (k + 2) c
theorem put3_at {cs : Array Value} {k : Nat} {a b c : Value} (h : k + 3 < cs.size) : (put3 cs k a b c)[k]? = some a ∧ (put3 cs k a b c)[k + 1]? = some b ∧ (put3 cs k a b c)[k + 2]? = some c := by
  unfold put3
  refine ⟨?_, ?_, ?_⟩
  · rw [Array.getElem?_setIfInBounds_ne (by omega), Array.getElem?_setIfInBounds_ne (by omega), Array.getElem?_setIfInBounds_self_of_lt (by omega)]
  · rw [Array.getElem?_setIfInBounds_ne (by omega), Array.getElem?_setIfInBounds_self_of_lt (by simp; omega)]
  · rw [Array.getElem?_setIfInBounds_self_of_lt (by simp; omega)]
theorem put3_ne {cs : Array Value} {k j : Nat} {a b c : Value} (h : j < k ∨ k + 2 < j) : (put3 cs k a b c)[j]? = cs[j]? := by
  unfold put3
  rw [Array.getElem?_setIfInBounds_ne (by omega), Array.getElem?_setIfInBounds_ne (by omega), Array.getElem?_setIfInBounds_ne (by omega)]

/-- one token marked: the row's cells and its text's block -/
theorem mark_step {w w3 w' : World} {lo g k m gg : Nat} {cs : Array Value} {ts : List Tok} {gs : Nat → Nat} (hm : m < ts.length)
    (hp : OwnP w lo cs (mixT ts k m) (mixT ts k m).length gs) (hb : Blk w g 78 cs) (hlo : lo ≤ g)
    (h3 : Only g w w3) (hb3 : Blk w3 g 78 (put3 cs (m * 4) (.int .i64 (kAt ts k m : Nat)) (.int .i64 (kAt ts k m + 1 : Nat)) (.int .i64 (kAt ts k m + 2 : Nat))))
    (h' : Only gg w3 w') (hgg : gg ≠ g) (hne : ∀ i (hi : i < ts.length), i ≠ m → 0 < ts[i].text.length → gs i ≠ gg)
    (htx : 0 < ts[m].text.length → gg = gs m ∧ ∃ tc' : Array Value, Blk w' gg 5 tc' ∧ ∀ (j : Nat) (u : Value), (vb (mk (kAt ts k m + 3) ts[m].text.length))[j]? = some u → tc'[j]? = some u) :
    OwnT w' lo g (mixT ts k (m + 1)) gs := by
  have hl := mixT_len ts k m
  refine ⟨_, h'.blk hb3 (Ne.symm hgg), hlo, ?_, ?_⟩
  · intro i hi _
    have hi' : i < ts.length := by rw [mixT_len] at hi; exact hi
    obtain ⟨c0, c1, c2, v, c3, A, c, rfl, hx⟩ := hp.1 i (by rw [hl]; exact hi') (by rw [hl]; exact hi')
    rw [mixT_tlen] at hx c3
    have hsz : i * 4 + 3 < cs.size := by
      rcases Nat.lt_or_ge (i * 4 + 3) cs.size with h | h
      · exact h
      · rw [Array.getElem?_eq_none h] at c3; cases c3
    rw [mixT_get hi]
    by_cases e : i = m
    · subst e
      rw [if_pos (by omega)]
      obtain ⟨a0, a1, a2⟩ := put3_at (cs := cs) (k := i * 4) (a := .int .i64 (kAt ts k i : Nat)) (b := .int .i64 (kAt ts k i + 1 : Nat)) (c := .int .i64 (kAt ts k i + 2 : Nat)) hsz
      refine ⟨a0, a1, a2, _, by rw [put3_ne (by omega)]; exact c3, A, c, by simp [marked, mk_len], fun hn => ?_⟩
      have hn' : 0 < ts[i].text.length := by simpa [marked, mk_len] using hn
      obtain ⟨eA, hl', _⟩ := hx hn'
      obtain ⟨egg, tc', hb', ht'⟩ := htx hn'
      subst egg
      exact ⟨eA, hl', tc', hb', ht'⟩
    · rw [mixT_get (by rw [hl]; exact hi')] at c0 c1 c2 hx
      have hif : (if i < m + 1 then marked ts k i ts[i] else ts[i]) = (if i < m then marked ts k i ts[i] else ts[i]) := by
        by_cases h : i < m
        · rw [if_pos h, if_pos (by omega)]
        · rw [if_neg h, if_neg (by omega)]
      rw [hif]
      have htl : (if i < m then marked ts k i ts[i] else ts[i]).text.length = ts[i].text.length := by
        split
        · simp [marked, mk_len]
        · rfl
      refine ⟨by rw [put3_ne (by omega)]; exact c0, by rw [put3_ne (by omega)]; exact c1, by rw [put3_ne (by omega)]; exact c2, _, by rw [put3_ne (by omega)]; exact c3, A, c, by rw [htl], fun hn => ?_⟩
      rw [htl] at hn
      obtain ⟨eA, hl', tc, hb', ht'⟩ := hx hn
      have hg1 : gs i ≠ g := Blk.ne_ hb' hb (by decide)
      exact ⟨eA, hl', tc, h'.blk (h3.blk hb' hg1) (hne i hi' e hn), ht'⟩
  · intro i j hi hj _ _ hij ti tj
    have hi' : i < (mixT ts k m).length := by rw [mixT_len] at hi ⊢; exact hi
    have hj' : j < (mixT ts k m).length := by rw [mixT_len] at hj ⊢; exact hj
    refine hp.2 i j hi' hj' hi' hj' hij ?_ ?_
    · rw [mixT_tlen] at ti ⊢; exact ti
    · rw [mixT_tlen] at tj ⊢; exact tj

theorem mixT_all (ts : List Tok) (k : Nat) : mixT ts k ts.length = ts.mapIdx (marked ts k) := by
  apply List.ext_getElem (by simp [mixT])
  intro i h1 h2
  rw [mixT_get h1, if_pos (by simpa [mixT] using h1)]
  simp

set_option maxHeartbeats 2000000 in
theorem markTokenS_c (ts : List Tok) (lo g c k : Nat) (gs : Nat → Nat) (w : World) (hl : ts.length + txts ts ≤ 4294967296) (hk : k ≤ 4294967296) (h : OwnT w lo g ts gs) (hi : Nat) (hg : g < hi) (hgi : ∀ i (hi' : i < ts.length), 0 < ts[i].text.length → gs i < hi) :
    Calls Try.prog 21 #[.slice (some ⟨g, 0, none⟩) ts.length c, .int .i64 k] w fun e w' => e = .returned (.int .i64 (kAt ts k ts.length : Nat)) ∧ OwnT w' lo g (mixT ts k ts.length) gs ∧ Outside lo hi w w' := by
  have Hgi := Lib.hid hgi
  clear hgi
  go_enter Try.func21, Try.ntmps21
  go_wp2
  go_loopw [1, 5] (fun s i wr => ∃ (m : Nat), m ≤ ts.length ∧ i = .int .i64 m ∧ s = .int .i64 (kAt ts k m : Nat) ∧ OwnT wr lo g (mixT ts k m) gs ∧ Outside lo hi w wr) (fun _ i _ => ts.length - (intOf i).toNat)
  case atStart => exact ⟨0, Nat.zero_le _, rfl, by rw [kAt_zero], by rw [mixT_zero]; exact h, Outside.refl _ _ _⟩
  case round =>
    obtain ⟨m, hm, rfl, rfl, hO, hbl⟩ := hrel
    have hkb : kAt ts k m ≤ 4294967296 + 3 * 4294967296 + 4294967296 := by have := txts_take_le ts m; unfold kAt; omega
    by_cases hlt : m < ts.length
    · have hst := kAt_step (k := k) hlt
      have htl : ts[m].text.length ≤ 4294967296 := by have := txts_get hlt; omega
      obtain ⟨cs, hb, hlo, hp⟩ := hO
      have hlm : m < (mixT ts k m).length := by rw [mixT_len]; exact hlt
      obtain ⟨c0, c1, c2, v, c3, A, c', rfl, hx⟩ := hp.1 m hlm hlm
      rw [mixT_tlen] at hx c3
      generalize hK : kAt ts k m = K at *
      have n0 : wr.cell? ⟨g, m * 4, none⟩ = some (.int .i64 (mixT ts k m)[m].kind) := by rw [hb.cell]; exact c0
      have n1 : wr.cell? ⟨g, m * 4 + 1, none⟩ = some (.int .i64 (mixT ts k m)[m].pos) := by rw [hb.cell]; exact c1
      have n2 : wr.cell? ⟨g, m * 4 + 2, none⟩ = some (.int .i64 (mixT ts k m)[m].n) := by rw [hb.cell]; exact c2
      have n3 : wr.cell? ⟨g, m * 4 + 3, none⟩ = some (.slice A ts[m].text.length c') := by rw [hb.cell]; exact c3
      have f0 : wr.frozen? ⟨g, m * 4, none⟩ = false := hb.frozen _
      have f1 : wr.frozen? ⟨g, m * 4 + 1, none⟩ = false := hb.frozen _
      have f2 : wr.frozen? ⟨g, m * 4 + 2, none⟩ = false := hb.frozen _
      have Hx := Lib.hid hx
      have Hp := Lib.hid hp
      have HK := Lib.hid hK
      have Hst := Lib.hid hst
      clear hx hp c0 c1 c2 c3 hK hst
      have hgl := hb.lt
      -- the text's block, or one that is none
      obtain ⟨gg, tc, hgg, hgne, hcall, hsame⟩ : ∃ (gg : Nat) (tc : Array Value), gg ≠ g ∧ (∀ i (hi : i < ts.length), i ≠ m → 0 < ts[i].text.length → gs i ≠ gg) ∧
          (0 < ts[m].text.length → A = some ⟨gg, 0, none⟩ ∧ Blk wr gg 5 tc ∧ ts[m].text.length ≤ tc.size) ∧ (((lo ≤ gg ∧ gg < hi) ∨ wr.heap.size ≤ gg) ∧ (0 < ts[m].text.length → gg = gs m)) := by
        by_cases h0 : 0 < ts[m].text.length
        · obtain ⟨eA, hlo', tc, hb', ht'⟩ := Hx.out h0
          refine ⟨gs m, tc, Blk.ne_ hb' hb (by decide), fun i hi hne ti => ?_, fun _ => ⟨eA, hb', ?_⟩, Or.inl ⟨hlo', Hgi.out m hlt h0⟩, fun _ => rfl⟩
          · exact Hp.out.2 i m (by rw [mixT_len]; exact hi) hlm (by rw [mixT_len]; exact hi) hlm hne (by rw [mixT_tlen]; exact ti) (by rw [mixT_tlen]; exact h0)
          · have hlast := ht' (ts[m].text.length - 1) _ (List.getElem?_eq_getElem (by rw [vb_len, mixT_tlen]; omega))
            have := (Array.getElem?_eq_some_iff.1 hlast).1
            omega
        · refine ⟨wr.heap.size, #[], by omega, fun i hi hne ti => ?_, fun h => absurd h h0, Or.inr (Nat.le_refl _), fun h => absurd h h0⟩
          obtain ⟨_, _, _, v', _, A', c'', _, hx'⟩ := Hp.out.1 i (by rw [mixT_len]; exact hi) (by rw [mixT_len]; exact hi)
          obtain ⟨_, _, tc', hb', _⟩ := hx' (by rw [mixT_tlen]; exact ti)
          have := hb'.lt
          omega
      have Hcall := Lib.hid hcall
      have Hsame := Lib.hid hsame
      have Hgne := Lib.hid hgne
      clear hcall hsame hgne
      go_wp2_with fail
      refine (markByteS_i A gg ts[m].text.length c' (K + 3) _ tc _ (by omega) htl (by omega) (fun h0 => ?_)).mono ?_
      · obtain ⟨eA, hb', hs'⟩ := Hcall.out h0
        exact ⟨eA, ((hb'.far hgg _).far hgg _).far hgg _, hs'⟩
      rintro e w1 ⟨rfl, ho, hx'⟩
      have h3 : Only g wr (((wr.setCell ⟨g, m * 4, none⟩ (.int .i64 (K : Nat))).setCell ⟨g, m * 4 + 1, none⟩ (.int .i64 ((K : Nat) + 1))).setCell ⟨g, m * 4 + 2, none⟩ (.int .i64 ((K : Nat) + 1 + 1))) :=
        (((Only.refl g wr).setCell rfl _).setCell rfl _).setCell rfl _
      have hb3 := ((hb.set_ (m * 4) (.int .i64 (K : Nat))).set_ (m * 4 + 1) (.int .i64 ((K : Nat) + 1))).set_ (m * 4 + 2) (.int .i64 ((K : Nat) + 1 + 1))
      have hnew := mark_step (k := k) hlt Hp.out hb hlo h3 (by rw [HK.out]; exact hb3) ho hgg Hgne.out (fun h0 => ⟨Hsame.out.2 h0, by rw [HK.out]; exact hx' h0⟩)
      have hbn : Outside lo hi w w1 := (hbl.trans (h3.outside (Or.inl ⟨hlo, hg⟩))).trans (ho.outside (by rcases Hsame.out.1 with hx | hx; exact Or.inl hx; exact Or.inr (by rw [h3.size]; exact hx)))
      have Hnew := Lib.hid hnew
      clear hnew hx' h3 hb3
      go_wp2
      go_roundw
      case rel => exact ⟨m + 1, by omega, by go_num, by rw [Hst.out]; go_num, Hnew.out, hbn⟩
      case measure => simp [intOf]; omega
    · go_wp2
      go_ret
      have : m = ts.length := by omega
      subst this
      exact ⟨rfl, hO, hbl⟩

end Go.Proofs.Ytmejbmfopdfbjaa
