/-
  Tokens that a call made itself: one row, a block for each text, all apart; the laws' likeness of tokens.
-/
import Derived.Test.YtmejbmfopdfbjaaTok
import Derived.Test.YtmejbmfopdfbjaaExAll
import Derived.Test.YtmejbmfopdfbjaaData
import Derived.Deep.QuietTactic
import Derived.BigQuiet
import Derived.Deep.RegionWith
import Derived.Outline
import Derived.StillTailTactics
namespace Go.Proofs.Ytmejbmfopdfbjaa
open Go.RowKit

def txts (ts : List Tok) : Nat := (ts.map fun t => t.text.length).sum
theorem txts_step {ts : List Tok} {k : Nat} (hk : k < ts.length) : txts (ts.take (k + 1)) = txts (ts.take k) + ts[k].text.length := by
  unfold txts
  rw [List.take_succ_eq_append_getElem hk, List.map_append, List.sum_append]
  simp
theorem txts_get {ts : List Tok} {k : Nat} (hk : k < ts.length) : ts[k].text.length ≤ txts ts := by
  unfold txts
  induction ts generalizing k with
  | nil => simp at hk
  | cons x r ih =>
    cases k with
    | zero => simp
    | succ k =>
      have := ih (k := k) (by simpa using hk)
      simp only [List.map_cons, List.sum_cons, List.getElem_cons_succ]
      omega

set_option maxRecDepth 100000 in
set_option maxHeartbeats 1000000 in
theorem eqToken_c (k p m : Int) (l : List UInt8) (A A' : Option Addr) (c c' B B' : Nat) (w : World) (hB : B ≤ w.heap.size) (hB' : B' ≤ w.heap.size) (hl : l.length ≤ 4294967296) (h : RB w B A l) (h' : RB w B' A' l) :
    Calls Try.prog 44 #[.agg #[.int .i64 k, .int .i64 p, .int .i64 m, .slice A l.length c], .agg #[.int .i64 k, .int .i64 p, .int .i64 m, .slice A' l.length c']] w fun e w' => e = .returned (.bool true) ∧ Below w.heap.size w w' := by
  go_enter Try.func44, Try.ntmps44
  go_wp2_with ((with_reducible refine (eqByteS_c l _ _ _ _ B B' _ hl ((h.alloc hB _).alloc (by simp; omega) _) ((h'.alloc hB' _).alloc (by simp; omega) _)).mono ?_); rintro e w1 ⟨rfl, n, rfl⟩)
  go_ret
  exact ⟨rfl, (((Below.refl _ _).alloc (Nat.le_refl _) _).alloc (by simp) _).trans ⟨rfl, rfl, rfl, Nat.le_refl _, fun _ _ => rfl⟩⟩

set_option maxRecDepth 100000 in
set_option maxHeartbeats 1000000 in
theorem eqTokenS_c (ts : List Tok) (A A' : Option Addr) (c c' B B' : Nat) (w : World) (hB : B ≤ w.heap.size) (hB' : B' ≤ w.heap.size) (hl : ts.length + txts ts ≤ 4294967296) (h : RT w B A ts) (h' : RT w B' A' ts) :
    Calls Try.prog 18 #[.slice A ts.length c, .slice A' ts.length c'] w fun e w' => e = .returned (.bool true) ∧ Below w.heap.size w w' := by
  go_enter Try.func18, Try.ntmps18
  go_wp2
  go_loopw [5] (fun i wr => ∃ (k : Nat), k ≤ ts.length ∧ i = .int .i64 k ∧ Below w.heap.size w wr) (fun i _ => ts.length - (intOf i).toNat)
  case atStart => exact ⟨0, Nat.zero_le _, rfl, Below.refl _ _⟩
  case round =>
    obtain ⟨k, hk, rfl, hbl⟩ := hrel
    by_cases hlt : k < ts.length
    · obtain ⟨ad, rfl, hb, A1, c1, h0, h1, h2, h3, hR, hm⟩ := (h.keep (w' := wr) (fun p hp => hbl.cell (by omega))).at_ hlt
      obtain ⟨ad', rfl, hb', A2, c2, k0, k1, k2, k3, kR, km⟩ := (h'.keep (w' := wr) (fun p hp => hbl.cell (by omega))).at_ hlt
      have htl : ts[k].text.length ≤ 4294967296 := by have := txts_get hlt; omega
      go_wp2
      go_still_tail 8, (by kernel_rfl)
      change wpList _ _ _ _ _ wr.drew
      go_wp2_with fail
      refine (eqToken_c ts[k].kind ts[k].pos ts[k].n ts[k].text A1 A2 c1 c2 B B' wr.drew (Nat.le_trans hB hbl.size) (Nat.le_trans hB' hbl.size) htl (hR.drewN 1) (kR.drewN 1)).mono ?_
      rintro e w1 ⟨rfl, hb1⟩
      go_wp2
      go_roundw
      case rel => exact ⟨k + 1, by omega, by go_num, hbl.drew.trans (hb1.mono hbl.size)⟩
      case measure => simp [intOf]; omega
    · go_wp2
      go_ret
      exact ⟨rfl, hbl⟩
/-- a text that lies in a block of its own, gi, or is empty -/
def Txt (w : World) (lo : Nat) (v : Value) (l : List UInt8) (gi : Nat) : Prop :=
  ∃ (A : Option Addr) (c : Nat), v = .slice A l.length c ∧ (0 < l.length → A = some ⟨gi, 0, none⟩ ∧ lo ≤ gi ∧ ∃ tc : Array Value, Blk w gi 5 tc ∧ ∀ (j : Nat) (u : Value), (vb l)[j]? = some u → tc[j]? = some u)

theorem Txt.keep {w w' : World} {lo gi B : Nat} {v : Value} {l : List UInt8} (h : Txt w lo v l gi) (hb : Below B w w') (hB : w.heap.size ≤ B) : Txt w' lo v l gi := by
  obtain ⟨A, c, e, h1⟩ := h
  refine ⟨A, c, e, fun hn => ?_⟩
  obtain ⟨eA, hlo, tc, hB', ht⟩ := h1 hn
  exact ⟨eA, hlo, tc, hB'.below hb (Nat.lt_of_lt_of_le hB'.lt hB), ht⟩
theorem Txt.rb {w : World} {lo gi : Nat} {A : Option Addr} {n c : Nat} {l : List UInt8} (h : Txt w lo (.slice A n c) l gi) : n = l.length ∧ RB w w.heap.size A l := by
  obtain ⟨A', c', e, h1⟩ := h
  cases e
  refine ⟨rfl, by simp [vb], fun hn => ?_⟩
  obtain ⟨eA, hlo, tc, hB', ht⟩ := h1 hn
  refine ⟨_, eA, hB'.lt, fun j u hu => ?_⟩
  rw [show (Addr.add ⟨gi, 0, none⟩ j) = ⟨gi, j, none⟩ by unfold Addr.add; split <;> simp_all]
  rw [hB'.cell]; exact ht j u hu

/-- the first k tokens of a row's cells -/
def OwnP (w : World) (lo : Nat) (cs : Array Value) (ts : List Tok) (k : Nat) (gs : Nat → Nat) : Prop :=
  (∀ i (h : i < ts.length), i < k → cs[i * 4]? = some (.int .i64 ts[i].kind) ∧ cs[i * 4 + 1]? = some (.int .i64 ts[i].pos) ∧ cs[i * 4 + 2]? = some (.int .i64 ts[i].n) ∧
    ∃ v, cs[i * 4 + 3]? = some v ∧ Txt w lo v ts[i].text (gs i)) ∧
  (∀ i j (hi : i < ts.length) (hj : j < ts.length), i < k → j < k → i ≠ j → 0 < ts[i].text.length → 0 < ts[j].text.length → gs i ≠ gs j)

/-- tokens of the call's own in block g -/
def OwnT (w : World) (lo g : Nat) (ts : List Tok) (gs : Nat → Nat) : Prop :=
  ∃ cs : Array Value, Blk w g 78 cs ∧ lo ≤ g ∧ OwnP w lo cs ts ts.length gs

theorem OwnP.keep {w w' : World} {lo k B : Nat} {cs : Array Value} {ts : List Tok} {gs : Nat → Nat} (h : OwnP w lo cs ts k gs) (hb : Below B w w') (hB : w.heap.size ≤ B) : OwnP w' lo cs ts k gs :=
  ⟨fun i hi hk => by
    obtain ⟨h0, h1, h2, v, h3, h4⟩ := h.1 i hi hk
    exact ⟨h0, h1, h2, v, h3, h4.keep hb hB⟩, h.2⟩
theorem OwnT.keep {w w' : World} {lo g B : Nat} {ts : List Tok} {gs : Nat → Nat} (h : OwnT w lo g ts gs) (hb : Below B w w') (hB : w.heap.size ≤ B) : OwnT w' lo g ts gs := by
  obtain ⟨cs, h1, h2, h3⟩ := h
  exact ⟨cs, h1.below hb (Nat.lt_of_lt_of_le h1.lt hB), h2, h3.keep hb hB⟩
theorem OwnT.rt {w : World} {lo g : Nat} {ts : List Tok} {gs : Nat → Nat} (h : OwnT w lo g ts gs) (hm : ∀ t ∈ ts, t.text.length ≤ maxLen) : RT w w.heap.size (some ⟨g, 0, none⟩) ts := by
  obtain ⟨cs, hb, _, hp⟩ := h
  intro hn
  refine ⟨_, rfl, hb.lt, fun i hi => ?_⟩
  obtain ⟨h0, h1, h2, v, h3, h4⟩ := hp.1 i hi hi
  have e : (Addr.add ⟨g, 0, none⟩ (i * 4)) = ⟨g, i * 4, none⟩ := by unfold Addr.add; split <;> simp_all
  rw [e]
  obtain ⟨A, c, rfl, hx⟩ := h4
  have h4' : Txt w lo (.slice A ts[i].text.length c) ts[i].text (gs i) := ⟨A, c, rfl, hx⟩
  refine ⟨A, c, by rw [hb.cell]; exact h0, ?_, ?_, ?_, h4'.rb.2, hm _ (List.getElem_mem hi)⟩
  · show w.cell? ⟨g, i * 4 + 1, none⟩ = _
    rw [hb.cell]; exact h1
  · show w.cell? ⟨g, i * 4 + 2, none⟩ = _
    rw [hb.cell]; exact h2
  · show w.cell? ⟨g, i * 4 + 3, none⟩ = _
    rw [hb.cell]; exact h3

theorem Txt.low {w : World} {lo gi : Nat} {v : Value} {l : List UInt8} (h : Txt w lo v l gi) {p : Addr} (hp : p.block < lo) (u : Value) : Txt (w.setCell p u) lo v l gi := by
  obtain ⟨A, c, e, h1⟩ := h
  refine ⟨A, c, e, fun hn => ?_⟩
  obtain ⟨eA, hlo, tc, hB', ht⟩ := h1 hn
  exact ⟨eA, hlo, tc, hB'.far (by omega) u, ht⟩
theorem OwnP.low {w : World} {lo k : Nat} {cs : Array Value} {ts : List Tok} {gs : Nat → Nat} (h : OwnP w lo cs ts k gs) {p : Addr} (hp : p.block < lo) (u : Value) : OwnP (w.setCell p u) lo cs ts k gs :=
  ⟨fun i hi hk => by
    obtain ⟨h0, h1, h2, v, h3, h4⟩ := h.1 i hi hk
    exact ⟨h0, h1, h2, v, h3, h4.low hp u⟩, h.2⟩
theorem Txt.less {w : World} {lo lo' gi : Nat} {v : Value} {l : List UInt8} (h : Txt w lo v l gi) (hl : lo' ≤ lo) : Txt w lo' v l gi := by
  obtain ⟨A, c, e, h1⟩ := h
  refine ⟨A, c, e, fun hn => ?_⟩
  obtain ⟨eA, hlo, h2⟩ := h1 hn
  exact ⟨eA, by omega, h2⟩
theorem OwnP.less {w : World} {lo lo' k : Nat} {cs : Array Value} {ts : List Tok} {gs : Nat → Nat} (h : OwnP w lo cs ts k gs) (hl : lo' ≤ lo) : OwnP w lo' cs ts k gs :=
  ⟨fun i hi hk => by
    obtain ⟨h0, h1, h2, v, h3, h4⟩ := h.1 i hi hk
    exact ⟨h0, h1, h2, v, h3, h4.less hl⟩, h.2⟩

theorem OwnP.step {w : World} {lo k g1 : Nat} {cs : Array Value} {ts : List Tok} {gs : Nat → Nat} (h : OwnP w lo cs ts k gs) (hk : k < ts.length) (hcs : ts.length * 4 ≤ cs.size) (hg : ∀ i (h : i < ts.length), i < k → 0 < ts[i].text.length → gs i ≠ g1) {v : Value} (hv : Txt w lo v ts[k].text g1) :
    OwnP w lo (Ytmejbmfopdfbjaa.put4 cs (k * 4) (.int .i64 ts[k].kind) (.int .i64 ts[k].pos) (.int .i64 ts[k].n) v) ts (k + 1) (fun i => if i = k then g1 else gs i) := by
  constructor
  · intro i hi hik
    by_cases e : i = k
    · subst e
      obtain ⟨a0, a1, a2, a3⟩ := put4_at (cs := cs) (k := i * 4) (a := .int .i64 ts[i].kind) (b := .int .i64 ts[i].pos) (c := .int .i64 ts[i].n) (d := v) (by omega)
      exact ⟨a0, a1, a2, v, a3, by simpa using hv⟩
    · obtain ⟨h0, h1, h2, v', h3, h4⟩ := h.1 i hi (by omega)
      rw [put4_ne (by omega), put4_ne (by omega), put4_ne (by omega), put4_ne (by omega)]
      exact ⟨h0, h1, h2, v', h3, by simpa [e] using h4⟩
  · intro i j hi hj hik hjk hij ti tj
    by_cases ei : i = k <;> by_cases ej : j = k
    · omega
    · simp only [ei, ej, if_true, if_false]; exact fun e => hg j hj (by omega) tj e.symm
    · simp only [ei, ej, if_true, if_false]; exact hg i hi (by omega) ti
    · simp only [ei, ej, if_false]; exact h.2 i j hi hj (by omega) (by omega) hij ti tj

theorem infoTok : (Try.prog.info? 78).map (fun i => (i.zero, i.size, i.bytes)) = some (some (.agg #[.int .i64 0, .int .i64 0, .int .i64 0, .slice none 0 0]), 4, 48) := by kernel_rfl

end Go.Proofs.Ytmejbmfopdfbjaa
