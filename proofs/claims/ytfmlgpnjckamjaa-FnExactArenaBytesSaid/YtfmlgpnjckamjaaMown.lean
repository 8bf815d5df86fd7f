/-
  Marks all over an arena of a call's own.
-/
import Derived.Test.YtfmlgpnjckamjaaMmark
import Derived.Test.YtfmlgpnjckamjaaMrow
import Derived.Test.YtfmlgpnjckamjaaMset
namespace Go.Proofs.Ytfmlgpnjckamjaa
open Go.RowKit
set_option linter.unusedVariables false
set_option linter.unusedSimpArgs false
namespace ArnM

/-- n bytes marked from k on -/
def mkdB (k n : Nat) : List UInt8 := (List.range n).map fun i => UInt8.ofNat (k + i)
theorem mkdB_len (k n : Nat) : (mkdB k n).length = n := by simp [mkdB]
theorem mkdB_get {k n i : Nat} (h : i < (mkdB k n).length) : (((mkdB k n)[i].toNat : Nat) : Int) = ((k : Int) + (i : Int)) % 256 := by
  have : (mkdB k n)[i] = UInt8.ofNat (k + i) := by simp [mkdB]
  rw [this]
  have h2 : (UInt8.ofNat (k + i)).toNat = (k + i) % 256 := by simp
  rw [h2]
  omega
/-- fields marked from k on -/
def mkdF : List Fd → Nat → List Fd
  | [], _ => []
  | f :: r, k => ⟨mkdB k f.name.length, ((k + f.name.length : Nat) : Int), ((k + f.name.length + 1 : Nat) : Int), ((k + f.name.length + 2 : Nat) : Int)⟩ :: mkdF r (k + mkFd f)
theorem mkdF_len : ∀ (l : List Fd) (k : Nat), (mkdF l k).length = l.length
  | [], _ => rfl
  | f :: r, k => by simp [mkdF, mkdF_len r]
theorem mkdF_get : ∀ {l : List Fd} {k i : Nat} (h : i < (mkdF l k).length) (h' : i < l.length), (mkdF l k)[i] = ⟨mkdB (k + sumIn mkFd l i) l[i].name.length, ((k + sumIn mkFd l i + l[i].name.length : Nat) : Int), ((k + sumIn mkFd l i + l[i].name.length + 1 : Nat) : Int), ((k + sumIn mkFd l i + l[i].name.length + 2 : Nat) : Int)⟩
  | [], k, i, h, h' => absurd h' (by simp)
  | f :: r, k, 0, h, h' => by simp [mkdF, sumIn]
  | f :: r, k, i + 1, h, h' => by
    have ih := mkdF_get (l := r) (k := k + mkFd f) (i := i) (by simpa [mkdF] using h) (by simpa using h')
    have hs : sumIn mkFd (f :: r) (i + 1) = mkFd f + sumIn mkFd r i := by simp [sumIn]
    simp only [mkdF, List.getElem_cons_succ]
    rw [ih, hs, ← Nat.add_assoc]
/-- slots marked from k on -/
def mkdS : List Sl → Nat → List Sl
  | [], _ => []
  | s :: r, k => ⟨((k : Nat) : Int) % 3 == 0, ((k + 1 : Nat) : Int), ((k + 2 : Nat) : Int), mkdF s.fs (k + 3)⟩ :: mkdS r (k + mkSl s)
theorem mkdS_len : ∀ (l : List Sl) (k : Nat), (mkdS l k).length = l.length
  | [], _ => rfl
  | f :: r, k => by simp [mkdS, mkdS_len r]
theorem mkdS_get : ∀ {l : List Sl} {k i : Nat} (h : i < (mkdS l k).length) (h' : i < l.length), (mkdS l k)[i] = ⟨((k + sumIn mkSl l i : Nat) : Int) % 3 == 0, ((k + sumIn mkSl l i + 1 : Nat) : Int), ((k + sumIn mkSl l i + 2 : Nat) : Int), mkdF l[i].fs (k + sumIn mkSl l i + 3)⟩
  | [], k, i, h, h' => absurd h' (by simp)
  | f :: r, k, 0, h, h' => by simp [mkdS, sumIn]
  | f :: r, k, i + 1, h, h' => by
    have ih := mkdS_get (l := r) (k := k + mkSl f) (i := i) (by simpa [mkdS] using h) (by simpa using h')
    have hs : sumIn mkSl (f :: r) (i + 1) = mkSl f + sumIn mkSl r i := by simp [sumIn]
    simp only [mkdS, List.getElem_cons_succ]
    rw [ih, hs, ← Nat.add_assoc]

set_option maxHeartbeats 1000000 in
theorem heldByteS_d (A : Option Addr) (L B n c k : Nat) (w : World) (hn : n ≤ 4294967296) (hk : k ≤ 1099511627776) (h : NmB w L B A (mkdB k n)) :
    Calls Try.prog 17 #[.slice A n c, .int .i64 k] w fun e w' => e = .returned (.int .i64 ((k + n : Nat) : Int)) ∧ w = w' := by
  go_enter Try.func17, Try.ntmps17
  go_wp2
  go_loopw [1, 5] (fun s i wr => ∃ (m : Nat), m ≤ n ∧ i = .int .i64 m ∧ s = .int .i64 ((k + m : Nat) : Int) ∧ wr = w) (fun _ i _ => n - (intOf i).toNat)
  case atStart => exact ⟨0, Nat.zero_le _, rfl, rfl, rfl⟩
  case round =>
    obtain ⟨m, hm, rfl, rfl, rfl⟩ := hrel
    by_cases hlt : m < n
    · have hlt' : m < (mkdB k n).length := by rw [mkdB_len]; exact hlt
      obtain ⟨ad, rfl, hb, hcell⟩ := h.1.at_ hlt'
      rw [mkdB_get] at hcell
      go_wp2
      go_roundw
      case rel => exact ⟨m + 1, by omega, by go_num, by go_num, by trivial⟩
      case measure => simp [intOf]; omega
    · go_wp2
      go_ret
      have : m = n := by omega
      subst this
      exact ⟨rfl, rfl⟩

set_option maxRecDepth 100000 in
set_option maxHeartbeats 2000000 in
theorem heldFieldS_d (l : List Fd) (A : Option Addr) (c L B k : Nat) (w : World) (hl : fsSz l ≤ 1050000) (hk : k ≤ 1073741824) (h : FdL w L B A (mkdF l k)) :
    Calls Try.prog 80 #[.slice A l.length c, .int .i64 (k : Int)] w fun r w' => r = .returned (.int .i64 ((k + sumIn mkFd l l.length : Nat) : Int)) ∧ w = w' := by
  have hlen : l.length ≤ 1050000 := by unfold fsSz at hl; omega
  have Hl := Lib.hid hl
  clear hl
  go_enter Try.func80, Try.ntmps80
  go_wp2
  go_loopw [1, 5] (fun s i wr => ∃ (m : Nat), m ≤ l.length ∧ i = .int .i64 m ∧ s = .int .i64 ((k + sumIn mkFd l m : Nat) : Int) ∧ wr = w) (fun _ i _ => l.length - (intOf i).toNat)
  case atStart => exact ⟨0, Nat.zero_le _, rfl, rfl, rfl⟩
  case round =>
    obtain ⟨m, hm, rfl, rfl, rfl⟩ := hrel
    by_cases hlt : m < l.length
    · have hlt' : m < (mkdF l k).length := by rw [mkdF_len]; exact hlt
      obtain ⟨ad, rfl, hL, hB, hat⟩ := h.2 (by omega)
      obtain ⟨v0, v1, v2, v3, ⟨c0, c1, c2, c3⟩, hv⟩ := hat m hlt'
      rw [mkdF_get hlt' hlt] at hv
      obtain ⟨NA, nc, rfl, hN, hnm, rfl, rfl, rfl⟩ := hv
      dsimp only at c0 c1 c2 c3 hN
      rw [mkdB_len] at c0
      have hstep := sumIn_step mkFd hlt
      have hsum := mkFd_sum l m
      have hnsz : l[m].name.length ≤ 1050000 := by
        have h2 := sum_get fdSz hlt
        have h3 := Hl.out
        have h4 : fdSz l[m] = l[m].name.length := rfl
        unfold fsSz at h3
        omega
      have hfs := Hl.out
      unfold fsSz at hfs
      obtain ⟨t, ht⟩ : ∃ t, t = k + sumIn mkFd l m := ⟨_, rfl⟩
      obtain ⟨n, hn⟩ : ∃ n, n = l[m].name.length := ⟨_, rfl⟩
      rw [← ht, ← hn] at hN c1 c2 c3
      rw [← hn] at c0 hnsz
      rw [← ht]
      have htb : t ≤ 1099511627776 := by omega
      obtain ⟨q, hq⟩ : ∃ q, q = t + n := ⟨_, rfl⟩
      have hc := heldByteS_d NA L B n nc t wr (by omega) htb hN
      rw [← hq] at c1 c2 c3 hc
      have e1 : ((q + 1 : Nat) : Int) = (q : Int) + 1 := by omega
      have e2 : ((q + 2 : Nat) : Int) = (q : Int) + 1 + 1 := by omega
      rw [e1] at c2
      rw [e2] at c3
      have hnext : k + sumIn mkFd l (m + 1) = q + 3 := by rw [hstep, ← Nat.add_assoc, ← ht, hq, hn]; unfold mkFd; omega
      have Hc := Lib.hid hc
      have Hn := Lib.hid hnext
      have hqb : q ≤ 2199023255552 := by omega
      clear hat hL hB hN hnm hstep hsum hfs ht hn hq hc e1 e2 hnext h hlt'
      go_wp2_with fail
      refine Hc.out.mono ?_
      rintro e w' ⟨rfl, rfl⟩
      go_wp2
      go_roundw
      case rel => exact ⟨m + 1, by omega, by go_num, by rw [Hn.out]; go_num, by trivial⟩
      case measure => simp [intOf]; omega
    · go_wp2
      go_ret
      have : m = l.length := by omega
      subst this
      exact ⟨rfl, rfl⟩

set_option maxRecDepth 100000 in
set_option maxHeartbeats 2000000 in
theorem heldSlotS_d (l : List Sl) (A : Option Addr) (c L B k : Nat) (w : World) (hl : slsSz l ≤ 1050000) (hk : k ≤ 1000000) (h : SlL w L B A (mkdS l k)) :
    Calls Try.prog 49 #[.slice A l.length c, .int .i64 (k : Int)] w fun r w' => r = .returned (.int .i64 ((k + sumIn mkSl l l.length : Nat) : Int)) ∧ w = w' := by
  have hlen : l.length ≤ 1050000 := by unfold slsSz at hl; omega
  have Hl := Lib.hid hl
  clear hl
  go_enter Try.func49, Try.ntmps49
  go_wp2
  go_loopw [1, 5] (fun s i wr => ∃ (m : Nat), m ≤ l.length ∧ i = .int .i64 m ∧ s = .int .i64 ((k + sumIn mkSl l m : Nat) : Int) ∧ wr = w) (fun _ i _ => l.length - (intOf i).toNat)
  case atStart => exact ⟨0, Nat.zero_le _, rfl, rfl, rfl⟩
  case round =>
    obtain ⟨m, hm, rfl, rfl, rfl⟩ := hrel
    by_cases hlt : m < l.length
    · have hlt' : m < (mkdS l k).length := by rw [mkdS_len]; exact hlt
      obtain ⟨ad, rfl, hL, hB, hat⟩ := h.2 (by omega)
      obtain ⟨v0, v1, v2, v3, ⟨c0, c1, c2, c3⟩, hv⟩ := hat m hlt'
      rw [mkdS_get hlt' hlt] at hv
      obtain ⟨rfl, rfl, rfl, FA, fc, rfl, hF⟩ := hv
      dsimp only at c0 c1 c2 c3 hF
      rw [mkdF_len] at c3
      have hstep := sumIn_step mkSl hlt
      have hsum := mkSl_sum l m
      have hfz : fsSz l[m].fs ≤ 1050000 := by
        have h2 := sum_get slSz hlt
        have h3 := Hl.out
        have h4 : slSz l[m] = fsSz l[m].fs := rfl
        unfold slsSz at h3
        omega
      have hfs := Hl.out
      unfold slsSz at hfs
      obtain ⟨q, hq⟩ : ∃ q, q = k + sumIn mkSl l m := ⟨_, rfl⟩
      rw [← hq] at hF c0 c1 c2
      rw [← hq]
      have hqb : q ≤ 20000000 := by omega
      have hc := heldFieldS_d l[m].fs FA fc L B (q + 3) wr hfz (by omega) hF
      have hmb := mkFd_sum l[m].fs l[m].fs.length
      obtain ⟨n, hn⟩ : ∃ n, n = l[m].fs.length := ⟨_, rfl⟩
      have hnext : k + sumIn mkSl l (m + 1) = q + 3 + sumIn mkFd l[m].fs l[m].fs.length := by rw [hstep, ← Nat.add_assoc, ← hq]; unfold mkSl; omega
      rw [← hnext, ← hn] at hc
      rw [← hn] at c3
      obtain ⟨r, hr⟩ : ∃ r, r = k + sumIn mkSl l (m + 1) := ⟨_, rfl⟩
      have hrb : r ≤ 100000000 := by rw [hr, hnext]; unfold fsSz at hfz; omega
      rw [← hr] at hc
      have e1 : ((q + 1 : Nat) : Int) = (q : Int) + 1 := by omega
      have e2 : ((q + 2 : Nat) : Int) = (q : Int) + 1 + 1 := by omega
      have e3 : ((q + 3 : Nat) : Int) = (q : Int) + 1 + 1 + 1 := by omega
      rw [e1] at c1
      rw [e2] at c2
      rw [e3] at hc
      have Hc := Lib.hid hc
      have Hr := Lib.hid hr
      have hr0 : decide ((r : Int) < 0) = false := decide_eq_false (by omega)
      clear hat hL hB hF hstep hsum hfz hfs hq hc hn hmb hnext hr e1 e2 e3 h hlt'
      go_wp2_with fail
      refine Hc.out.mono ?_
      rintro e w' ⟨rfl, rfl⟩
      go_wp2
      go_roundw
      case rel => exact ⟨m + 1, by omega, by go_num, by rw [← Hr.out], by trivial⟩
      case measure => simp [intOf]; omega
    · go_wp2
      go_ret
      have : m = l.length := by omega
      subst this
      exact ⟨rfl, rfl⟩

/-- n numbers marked from k on -/
def mkdI (k n : Nat) : List Int := (List.range n).map fun i => ((k + i : Nat) : Int)
theorem mkdI_len (k n : Nat) : (mkdI k n).length = n := by simp [mkdI]
theorem mkdI_get {k n i : Nat} (h : i < (mkdI k n).length) : (mkdI k n)[i] = (k : Int) + (i : Int) := by simp [mkdI]
set_option maxHeartbeats 1000000 in
theorem heldIntS_d (A : Option Addr) (L B n c k : Nat) (w : World) (hk : k + n ≤ 1073741824) (h : IL w L B A (mkdI k n)) :
    Calls Try.prog 50 #[.slice A n c, .int .i64 (k : Int)] w fun r w' => r = .returned (.int .i64 ((k + n : Nat) : Int)) ∧ w = w' := by
  go_enter Try.func50, Try.ntmps50
  go_wp2
  go_loopw [1, 5] (fun s i wr => ∃ (m : Nat), m ≤ n ∧ i = .int .i64 m ∧ s = .int .i64 ((k + m : Nat) : Int) ∧ wr = w) (fun _ i _ => n - (intOf i).toNat)
  case atStart => exact ⟨0, Nat.zero_le _, rfl, rfl, by trivial⟩
  case round =>
    obtain ⟨m, hm, rfl, rfl, rfl⟩ := hrel
    by_cases hlt : m < n
    · have hlt' : m < (mkdI k n).length := by rw [mkdI_len]; exact hlt
      obtain ⟨ad, rfl, _, _, hat⟩ := h.2 (by omega)
      have hcell := hat m hlt'
      rw [mkdI_get] at hcell
      clear hat
      go_wp2
      go_roundw
      case rel => exact ⟨m + 1, by omega, by go_num, by go_num, by trivial⟩
      case measure => simp [intOf]; omega
    · go_wp2
      go_ret
      have : m = n := by omega
      subst this
      exact ⟨rfl, rfl⟩

/-- an arena marked from k on -/
def mkdA (a : Ar) (k : Nat) : Ar :=
  ⟨mkdS a.slots k, mkdI (k + sumIn mkSl a.slots a.slots.length) a.queue.length, mkdI (k + sumIn mkSl a.slots a.slots.length + a.queue.length) a.purple.length⟩
theorem mkdA_len (a : Ar) (k : Nat) : (mkdA a k).slots.length = a.slots.length ∧ (mkdA a k).queue.length = a.queue.length ∧ (mkdA a k).purple.length = a.purple.length :=
  ⟨mkdS_len _ _, mkdI_len _ _, mkdI_len _ _⟩
def mkN (a : Ar) : Nat := sumIn mkSl a.slots a.slots.length + a.queue.length + a.purple.length

set_option maxHeartbeats 1000000 in
theorem heldArena_d (a : Ar) (A0 A1 A2 : Option Addr) (c0 c1 c2 L B k : Nat) (w : World) (hB : B ≤ w.heap.size) (hl : arSz a ≤ 1050000) (hk : k ≤ 1000000) (h : ArL w L B A0 A1 A2 (mkdA a k)) :
    Calls Try.prog 21 #[.agg #[.slice A0 a.slots.length c0, .slice A1 a.queue.length c1, .slice A2 a.purple.length c2], .int .i64 (k : Int)] w fun r w' => r = .returned (.int .i64 ((k + mkN a : Nat) : Int)) ∧ Below w.heap.size w w' := by
  have hsl : slsSz a.slots ≤ 1050000 := by unfold arSz at hl; omega
  have hql : a.queue.length ≤ 1050000 := by unfold arSz at hl; omega
  have hpl : a.purple.length ≤ 1050000 := by unfold arSz at hl; omega
  have hms := mkSl_sum a.slots a.slots.length
  have hbl : Below w.heap.size w (w.alloc (.cells #[.slice A0 a.slots.length c0, .slice A1 a.queue.length c1, .slice A2 a.purple.length c2] 32)) := (Below.refl _ _).alloc (Nat.le_refl _) _
  have h0 := h.below (hbl.mono hB)
  have hsum : sumIn mkSl a.slots a.slots.length ≤ 100000000 := by unfold slsSz at hsl; omega
  have Hc := Lib.hid (heldSlotS_d a.slots A0 c0 L B k _ hsl hk h0.1)
  have Hq := Lib.hid (heldIntS_d A1 L B a.queue.length c1 (k + sumIn mkSl a.slots a.slots.length) _ (by omega) h0.2.1)
  have Hp := Lib.hid (heldIntS_d A2 L B a.purple.length c2 (k + sumIn mkSl a.slots a.slots.length + a.queue.length) _ (by omega) h0.2.2)
  have hN : k + mkN a = k + sumIn mkSl a.slots a.slots.length + a.queue.length + a.purple.length := by unfold mkN; omega
  have HK := Lib.hid (Blk.new w 32 #[.slice A0 a.slots.length c0, .slice A1 a.queue.length c1, .slice A2 a.purple.length c2])
  have Hb := Lib.hid hbl
  obtain ⟨q1, hq1⟩ : ∃ q : Nat, k + sumIn mkSl a.slots a.slots.length = q := ⟨_, rfl⟩
  rw [hq1] at Hc Hq Hp hN
  obtain ⟨q2, hq2⟩ : ∃ q : Nat, q1 + a.queue.length = q := ⟨_, rfl⟩
  rw [hq2] at Hq Hp hN
  obtain ⟨q3, hq3⟩ : ∃ q : Nat, q2 + a.purple.length = q := ⟨_, rfl⟩
  rw [hq3] at Hp hN
  rw [hN]
  have r1 : decide ((q1 : Int) < 0) = false := decide_eq_false (by omega)
  have r2 : decide ((q2 : Int) < 0) = false := decide_eq_false (by omega)
  have r3 : decide ((q3 : Int) < 0) = false := decide_eq_false (by omega)
  have p0 := HK.out.cel 0 (v := .slice A0 a.slots.length c0) rfl
  have p1 := HK.out.cel 1 (v := .slice A1 a.queue.length c1) rfl
  have p2 := HK.out.cel 2 (v := .slice A2 a.purple.length c2) rfl
  clear hbl h0 h hsl hms hsum hl hN hq1 hq2 hq3 hql hpl HK
  go_enter Try.func21, Try.ntmps21
  go_wp2_with fail
  refine Hc.out.mono ?_
  rintro r w1 ⟨rfl, rfl⟩
  go_wp2_with fail
  refine Hq.out.mono ?_
  rintro r w2 ⟨rfl, rfl⟩
  go_wp2_with fail
  refine Hp.out.mono ?_
  rintro r w3 ⟨rfl, rfl⟩
  go_wp2
  go_ret
  exact ⟨rfl, Hb.out⟩
end ArnM
end Go.Proofs.Ytfmlgpnjckamjaa

namespace Go.Proofs.Ytfmlgpnjckamjaa
open Go.RowKit
set_option linter.unusedVariables false
set_option linter.unusedSimpArgs false
namespace ArnM

/-- bytes that lie in block g alone, from its beginning on -/
def BkB (w : World) (lo : Nat) (A : Option Addr) (g : Nat) (e : List UInt8) : Prop :=
  0 < e.length → A = some ⟨g, 0, none⟩ ∧ lo ≤ g ∧ ∃ tc : Array Value, Blk w g 5 tc ∧ ∀ j (h : j < e.length), tc[j]? = some (.int .u8 e[j].toNat)
theorem BkB.apart {S : Nat → Prop} {w w' : World} {lo g : Nat} {A : Option Addr} {e : List UInt8} (h : BkB w lo A g e) (ha : Apart S w w') (hn : 0 < e.length → ¬ S g) : BkB w' lo A g e := fun h0 => by
  obtain ⟨h1, h2, tc, h3, h4⟩ := h h0
  exact ⟨h1, h2, tc, h3.apart ha (hn h0), h4⟩
theorem BkB.nmb {w : World} {lo g : Nat} {A : Option Addr} {e : List UInt8} (h : BkB w lo A g e) (hm : e.length ≤ maxLen) : NmB w lo w.heap.size A e := by
  refine ⟨⟨by simp [vb], fun h0 => ?_⟩, fun h0 => ?_⟩
  · obtain ⟨h1, h2, tc, h3, h4⟩ := h h0
    refine ⟨_, h1, h3.lt, fun j u hu => ?_⟩
    rw [add_zero_, h3.cell]
    rw [vb_get] at hu
    rcases Nat.lt_or_ge j e.length with hj | hj
    · rw [h4 j hj, ← hu, List.getElem?_eq_getElem hj]; rfl
    · rw [List.getElem?_eq_none hj] at hu; cases hu
  · obtain ⟨h1, h2, _⟩ := h h0
    exact ⟨_, h1, h2⟩

set_option maxHeartbeats 1000000 in
theorem markByteS_o (e : List UInt8) (A : Option Addr) (g c lo k : Nat) (w : World) (hn : e.length ≤ 4294967296) (hk : k ≤ 1099511627776) (h : BkB w lo A g e) :
    Calls Try.prog 16 #[.slice A e.length c, .int .i64 (k : Int)] w fun r w' => r = .returned (.int .i64 ((k + e.length : Nat) : Int)) ∧ BkB w' lo A g (mkdB k e.length) ∧ Apart (fun b => 0 < e.length ∧ b = g) w w' := by
  obtain ⟨n, hne⟩ : ∃ n, n = e.length := ⟨_, rfl⟩
  have h' : 0 < n → A = some ⟨g, 0, none⟩ ∧ lo ≤ g ∧ ∃ tc : Array Value, Blk w g 5 tc ∧ n ≤ tc.size := fun h0 => by
    obtain ⟨h1, h2, tc, h3, h4⟩ := h (by omega)
    refine ⟨h1, h2, tc, h3, ?_⟩
    have := h4 (e.length - 1) (by omega)
    rcases Nat.lt_or_ge (e.length - 1) tc.size with hj | hj
    · omega
    · rw [Array.getElem?_eq_none hj] at this; cases this
  rw [← hne] at hn ⊢
  have H := Lib.hid h'
  clear h h' hne
  go_enter Try.func16, Try.ntmps16
  go_wp2
  go_loopw [1, 5] (fun s i wr => ∃ (m : Nat), m ≤ n ∧ i = .int .i64 m ∧ s = .int .i64 ((k + m : Nat) : Int) ∧ Hid (Apart (fun b => 0 < n ∧ b = g) w wr) ∧ Hid (0 < n → ∃ tc : Array Value, Blk wr g 5 tc ∧ n ≤ tc.size ∧ ∀ j, j < m → tc[j]? = some (.int .u8 (((k : Int) + (j : Int)) % 256)))) (fun _ i _ => n - (intOf i).toNat)
  case atStart => exact ⟨0, Nat.zero_le _, rfl, rfl, Lib.hid (Apart.refl _ _), Lib.hid (fun h0 => by
    obtain ⟨_, _, tc, h3, h4⟩ := H.out h0
    exact ⟨tc, h3, h4, fun j hj => absurd hj (Nat.not_lt_zero _)⟩)⟩
  case round =>
    obtain ⟨m, hm, rfl, rfl, ha, hc⟩ := hrel
    by_cases hlt : m < n
    · obtain ⟨rfl, hlo, -⟩ := H.out (by omega)
      obtain ⟨tc, hB, hsz, hat⟩ := hc.out (by omega)
      have q0 : wr.cell? ⟨g, m, none⟩ = some (tc[m]'(by omega)) := by rw [hB.cell]; exact Array.getElem?_eq_getElem (by omega)
      have z0 : wr.frozen? ⟨g, m, none⟩ = false := hB.frozen _
      have hn1 : Hid (0 < n → ∃ tc' : Array Value, Blk (wr.setCell ⟨g, m, none⟩ (.int .u8 (((k : Int) + (m : Int)) % 256))) g 5 tc' ∧ n ≤ tc'.size ∧ ∀ j, j < m + 1 → tc'[j]? = some (.int .u8 (((k : Int) + (j : Int)) % 256))) := Lib.hid (fun _ =>
        ⟨_, hB.set_ m _, by simpa using hsz, fun j hj => by
          by_cases e : j = m
          · subst e
            rw [Array.getElem?_setIfInBounds_self_of_lt (by omega)]
          · rw [Array.getElem?_setIfInBounds_ne (by omega), hat j (by omega)]⟩)
      have ha1 : Hid (Apart (fun b => 0 < n ∧ b = g) w (wr.setCell ⟨g, m, none⟩ (.int .u8 (((k : Int) + (m : Int)) % 256)))) := Lib.hid (ha.out.setCell (p := ⟨g, m, none⟩) ⟨by omega, rfl⟩ _)
      obtain ⟨x, hx⟩ : ∃ x, x = tc[m]'(by omega) := ⟨_, rfl⟩
      rw [← hx] at q0
      clear hat hB hx hsz hc ha
      go_wp2
      go_roundw
      case rel => exact ⟨m + 1, by omega, by go_num, by go_num, ha1, hn1⟩
      case measure => simp [intOf]; omega
    · go_wp2
      go_ret
      obtain rfl : m = n := by omega
      refine ⟨rfl, fun h0 => ?_, ha.out⟩
      rw [mkdB_len] at h0
      obtain ⟨h1, h2, -⟩ := H.out h0
      obtain ⟨tc, h3, h4, h5⟩ := hc.out h0
      refine ⟨h1, h2, tc, h3, fun j hj => ?_⟩
      rw [h5 j (by rwa [mkdB_len] at hj), mkdB_get]

/-- field i of a row of ours; its name lies in block b -/
def FdAt (w : World) (lo : Nat) (cs : Array Value) (i b : Nat) (f : Fd) : Prop :=
  ∃ A c, cs[i * 4]? = some (.slice A f.name.length c) ∧ BkB w lo A b f.name ∧ cs[i * 4 + 1]? = some (.int .i64 f.k) ∧ cs[i * 4 + 2]? = some (.int .i64 f.n) ∧ cs[i * 4 + 3]? = some (.int .i64 f.g)
theorem FdAt.apart {S : Nat → Prop} {w w' : World} {lo i b : Nat} {cs : Array Value} {f : Fd} (h : FdAt w lo cs i b f) (ha : Apart S w w') (hn : 0 < f.name.length → ¬ S b) : FdAt w' lo cs i b f := by
  obtain ⟨A, c, h0, h1, h2⟩ := h
  exact ⟨A, c, h0, h1.apart ha hn, h2⟩
theorem FdAt.cells {w : World} {lo i b : Nat} {cs cs' : Array Value} {f : Fd} (h : FdAt w lo cs i b f) (he : ∀ j, j < 4 → cs'[i * 4 + j]? = cs[i * 4 + j]?) : FdAt w lo cs' i b f := by
  obtain ⟨A, c, h0, h1, h2, h3, h4⟩ := h
  exact ⟨A, c, (he 0 (by omega)).trans h0, h1, (he 1 (by omega)).trans h2, (he 2 (by omega)).trans h3, (he 3 (by omega)).trans h4⟩
/-- the blocks of names that are not empty -/
def nmOf (l : List Fd) (nb : Nat → Nat) (b : Nat) : Prop := ∃ i, ∃ h : i < l.length, 0 < l[i].name.length ∧ b = nb i
/-- a row of fields in block g, each name in a block of its own -/
structure OwnFs (w : World) (lo : Nat) (A : Option Addr) (l : List Fd) (g : Nat) (nb : Nat → Nat) : Prop where
  row : 0 < l.length → A = some ⟨g, 0, none⟩ ∧ lo ≤ g ∧ ∃ cs, Blk w g 92 cs ∧ ∀ i (h : i < l.length), FdAt w lo cs i (nb i) l[i]
  one : ∀ i j (hi : i < l.length) (hj : j < l.length), i ≠ j → 0 < l[i].name.length → 0 < l[j].name.length → nb i ≠ nb j
  ne : ∀ i (hi : i < l.length), 0 < l[i].name.length → nb i ≠ g
theorem OwnFs.apart {S : Nat → Prop} {w w' : World} {lo g : Nat} {nb : Nat → Nat} {A : Option Addr} {l : List Fd} (h : OwnFs w lo A l g nb) (ha : Apart S w w') (hg : 0 < l.length → ¬ S g) (hn : ∀ i (hi : i < l.length), 0 < l[i].name.length → ¬ S (nb i)) : OwnFs w' lo A l g nb :=
  ⟨fun h0 => by
    obtain ⟨h1, h2, cs, h3, h4⟩ := h.row h0
    exact ⟨h1, h2, cs, h3.apart ha (hg h0), fun i hi => (h4 i hi).apart ha (hn i hi)⟩, h.one, h.ne⟩
theorem OwnFs.fdl {w : World} {lo g : Nat} {nb : Nat → Nat} {A : Option Addr} {l : List Fd} (h : OwnFs w lo A l g nb) (hm : l.length ≤ maxLen) (hn : ∀ i (hi : i < l.length), l[i].name.length ≤ maxLen) : FdL w lo w.heap.size A l := by
  refine ⟨hm, fun h0 => ?_⟩
  obtain ⟨h1, h2, cs, h3, h4⟩ := h.row h0
  refine ⟨_, h1, h2, h3.lt, fun i hi => ?_⟩
  obtain ⟨NA, c, c0, hN, c1, c2, c3⟩ := h4 i hi
  refine ⟨_, _, _, _, ⟨?_, ?_, ?_, ?_⟩, NA, c, rfl, hN.nmb (hn i hi), hn i hi, rfl, rfl, rfl⟩
  · rw [add_zero_, h3.cell]; exact c0
  all_goals
    rw [add_zero_]
    rw [h3.cell]
    assumption

/-- the first m fields marked -/
def FsAt (w : World) (lo : Nat) (l : List Fd) (k g : Nat) (nb : Nat → Nat) (m : Nat) : Prop :=
  0 < l.length → ∃ cs, Blk w g 92 cs ∧ ∀ i (h : i < l.length), (i < m → FdAt w lo cs i (nb i) ((mkdF l k)[i]'(by rw [mkdF_len]; exact h))) ∧ (m ≤ i → FdAt w lo cs i (nb i) l[i])
theorem mkdF_name {l : List Fd} {k i : Nat} (h : i < l.length) : ((mkdF l k)[i]'(by rw [mkdF_len]; exact h)).name.length = l[i].name.length := by
  rw [mkdF_get (by rw [mkdF_len]; exact h) h]
  exact mkdB_len _ _
def pt4 (cs : Array Value) (m : Nat) (a b c : Value) : Array Value := ((cs.setIfInBounds (m * 4 + 1) a).setIfInBounds (m * 4 + 2) b).setIfInBounds (m * 4 + 3) c
theorem pt4_ne {cs : Array Value} {m j : Nat} {a b c : Value} (h : j < m * 4 + 1 ∨ m * 4 + 3 < j) : (pt4 cs m a b c)[j]? = cs[j]? := by
  unfold pt4
  rw [Array.getElem?_setIfInBounds_ne (by omega), Array.getElem?_setIfInBounds_ne (by omega), Array.getElem?_setIfInBounds_ne (by omega)]
theorem pt4_at {cs : Array Value} {m : Nat} {a b c : Value} (h : m * 4 + 3 < cs.size) : (pt4 cs m a b c)[m * 4 + 1]? = some a ∧ (pt4 cs m a b c)[m * 4 + 2]? = some b ∧ (pt4 cs m a b c)[m * 4 + 3]? = some c := by
  unfold pt4
  refine ⟨?_, ?_, ?_⟩
  · rw [Array.getElem?_setIfInBounds_ne (by omega), Array.getElem?_setIfInBounds_ne (by omega), Array.getElem?_setIfInBounds_self_of_lt (by omega)]
  · rw [Array.getElem?_setIfInBounds_ne (by omega), Array.getElem?_setIfInBounds_self_of_lt (by simp; omega)]
  · rw [Array.getElem?_setIfInBounds_self_of_lt (by simp; omega)]
theorem some_lt {cs : Array Value} {j : Nat} {v : Value} (h : cs[j]? = some v) : j < cs.size := by
  rcases Nat.lt_or_ge j cs.size with hj | hj
  · exact hj
  · rw [Array.getElem?_eq_none hj] at h; cases h

set_option maxRecDepth 100000 in
set_option maxHeartbeats 4000000 in
theorem markFieldS_o (l : List Fd) (A : Option Addr) (g : Nat) (nb : Nat → Nat) (c lo k : Nat) (w : World) (hl : fsSz l ≤ 1050000) (hk : k ≤ 1073741824) (h : OwnFs w lo A l g nb) :
    Calls Try.prog 79 #[.slice A l.length c, .int .i64 (k : Int)] w fun r w' => r = .returned (.int .i64 ((k + sumIn mkFd l l.length : Nat) : Int)) ∧ OwnFs w' lo A (mkdF l k) g nb ∧ Apart (fun b => (0 < l.length ∧ b = g) ∨ nmOf l nb b) w w' := by
  have hlen : l.length ≤ 1050000 := by unfold fsSz at hl; omega
  have Hl := Lib.hid hl
  have hst : FsAt w lo l k g nb 0 := fun h0 => by
    obtain ⟨_, _, cs, h3, h4⟩ := h.row h0
    exact ⟨cs, h3, fun i hi => ⟨fun e => absurd e (Nat.not_lt_zero _), fun _ => h4 i hi⟩⟩
  have Hst := Lib.hid hst
  have H := Lib.hid h
  clear hl hst h
  go_enter Try.func79, Try.ntmps79
  go_wp2
  go_loopw [1, 5] (fun s i wr => ∃ (m : Nat), m ≤ l.length ∧ i = .int .i64 m ∧ s = .int .i64 ((k + sumIn mkFd l m : Nat) : Int) ∧ Hid (FsAt wr lo l k g nb m) ∧ Hid (Apart (fun b => (0 < l.length ∧ b = g) ∨ nmOf l nb b) w wr)) (fun _ i _ => l.length - (intOf i).toNat)
  case atStart => exact ⟨0, Nat.zero_le _, rfl, rfl, Hst, Lib.hid (Apart.refl _ _)⟩
  case round =>
    obtain ⟨m, hm, rfl, rfl, hf, ha⟩ := hrel
    by_cases hlt : m < l.length
    · obtain ⟨rfl, hlo, -⟩ := H.out.row (by omega)
      obtain ⟨cs, hB, hat⟩ := hf.out (by omega)
      obtain ⟨NA, nc, c0, hN, c1, c2, c3⟩ := (hat m hlt).2 (Nat.le_refl _)
      have hne := H.out.ne m hlt
      have hone := fun i hi => H.out.one i m hi hlt
      have hg := mkdF_get (l := l) (k := k) (i := m) (by rw [mkdF_len]; exact hlt) hlt
      have hstep := sumIn_step mkFd hlt
      have hsum := mkFd_sum l m
      have hnsz : l[m].name.length ≤ 1050000 := by
        have h2 := sum_get fdSz hlt
        have h3 := Hl.out
        have h4 : fdSz l[m] = l[m].name.length := rfl
        unfold fsSz at h3
        omega
      have hfs := Hl.out
      unfold fsSz at hfs
      have hnm : 0 < l[m].name.length → nmOf l nb (nb m) := fun h0 => ⟨m, hlt, h0, rfl⟩
      have hsz := some_lt c3
      obtain ⟨t, ht⟩ : ∃ t, t = k + sumIn mkFd l m := ⟨_, rfl⟩
      have htb : t ≤ 1099511627776 := by omega
      have hc := markByteS_o l[m].name NA (nb m) nc lo t wr (by omega) htb hN
      have hnext : k + sumIn mkFd l (m + 1) = t + l[m].name.length + 3 := by rw [hstep, ← Nat.add_assoc, ← ht]; unfold mkFd; omega
      rw [← ht] at hg
      rw [← ht]
      obtain ⟨e, he⟩ : ∃ e, e = l[m].name := ⟨_, rfl⟩
      rw [← he] at hc hnext hg hne hone c0 hnm hnsz
      obtain ⟨y1, hy1⟩ : ∃ n, n = l[m].k := ⟨_, rfl⟩
      obtain ⟨y2, hy2⟩ : ∃ n, n = l[m].n := ⟨_, rfl⟩
      obtain ⟨y3, hy3⟩ : ∃ n, n = l[m].g := ⟨_, rfl⟩
      rw [← hy1] at c1
      rw [← hy2] at c2
      rw [← hy3] at c3
      obtain ⟨q, hq⟩ : ∃ q, q = t + e.length := ⟨_, rfl⟩
      rw [← hq] at hc hnext hg
      have hqb : q ≤ 2199023255552 := by omega
      have q0 : wr.cell? ⟨g, m * 4, none⟩ = some (.slice NA e.length nc) := by rw [hB.cell]; exact c0
      have Hfin := Lib.hid (fun (w1 : World) (hb : BkB w1 lo NA (nb m) (mkdB t e.length)) (hap : Apart (fun b => 0 < e.length ∧ b = nb m) wr w1) => show
          Blk w1 g 92 cs ∧ FsAt (((w1.setCell ⟨g, m * 4 + 1, none⟩ (.int .i64 (q : Int))).setCell ⟨g, m * 4 + 2, none⟩ (.int .i64 ((q : Int) + 1))).setCell ⟨g, m * 4 + 3, none⟩ (.int .i64 ((q : Int) + 1 + 1))) lo l k g nb (m + 1) ∧ Apart (fun b => (0 < l.length ∧ b = g) ∨ nmOf l nb b) w (((w1.setCell ⟨g, m * 4 + 1, none⟩ (.int .i64 (q : Int))).setCell ⟨g, m * 4 + 2, none⟩ (.int .i64 ((q : Int) + 1))).setCell ⟨g, m * 4 + 3, none⟩ (.int .i64 ((q : Int) + 1 + 1))) from by
        have hB1 : Blk w1 g 92 cs := hB.apart hap (fun h => hne h.1 h.2.symm)
        have hg1 : Apart (fun b => b = g) w1 (((w1.setCell ⟨g, m * 4 + 1, none⟩ (.int .i64 (q : Int))).setCell ⟨g, m * 4 + 2, none⟩ (.int .i64 ((q : Int) + 1))).setCell ⟨g, m * 4 + 3, none⟩ (.int .i64 ((q : Int) + 1 + 1))) := (((Apart.refl (fun b => b = g) w1).setCell (p := ⟨g, m * 4 + 1, none⟩) rfl _).setCell (p := ⟨g, m * 4 + 2, none⟩) rfl _).setCell (p := ⟨g, m * 4 + 3, none⟩) rfl _
        refine ⟨hB1, fun _ => ⟨pt4 cs m (.int .i64 (q : Int)) (.int .i64 ((q : Int) + 1)) (.int .i64 ((q : Int) + 1 + 1)), ((hB1.set_ _ _).set_ _ _).set_ _ _, fun i hi => ?_⟩, ?_⟩
        · by_cases ei : i = m
          · subst ei
            refine ⟨fun _ => ?_, fun h => absurd h (by omega)⟩
            rw [hg]
            obtain ⟨p1, p2, p3⟩ := pt4_at (a := .int .i64 (q : Int)) (b := .int .i64 ((q : Int) + 1)) (c := .int .i64 ((q : Int) + 1 + 1)) hsz
            refine ⟨NA, nc, ?_, ?_, ?_, ?_, ?_⟩
            · rw [pt4_ne (by omega), mkdB_len]; exact c0
            · exact hb.apart hg1 (fun h0 e => hne (by rwa [mkdB_len] at h0) e)
            · exact p1
            · rw [p2]; simp
            · rw [p3]; simp [Int.add_assoc]
          · have hcell : ∀ j, j < 4 → (pt4 cs m (.int .i64 (q : Int)) (.int .i64 ((q : Int) + 1)) (.int .i64 ((q : Int) + 1 + 1)))[i * 4 + j]? = cs[i * 4 + j]? := fun j hj => pt4_ne (by omega)
            refine ⟨fun h => ?_, fun h => ?_⟩
            · refine ((((hat i hi).1 (by omega)).apart hap (fun h0 hh => hone i hi ei (by rwa [mkdF_name hi] at h0) hh.1 hh.2)).apart hg1 (fun h0 hh => H.out.ne i hi (by rwa [mkdF_name hi] at h0) hh)).cells hcell
            · refine ((((hat i hi).2 (by omega)).apart hap (fun h0 hh => hone i hi ei h0 hh.1 hh.2)).apart hg1 (fun h0 hh => H.out.ne i hi h0 hh)).cells hcell
        · exact (ha.out.trans (hap.mono (fun b _ hh => .inr (by rw [hh.2]; exact hnm hh.1)))).trans (hg1.mono (fun b _ hh => .inl ⟨by omega, hh⟩)))
      have HB := Lib.hid (And.intro c1 (And.intro c2 c3))
      have Hc := Lib.hid hc
      have Hn := Lib.hid hnext
      clear hat hf ha hN hB hne hone hg hstep hsum hfs hnm hsz ht hc hnext he hy1 hy2 hy3 hq c0 c1 c2 c3
      go_wp2_with fail
      refine Hc.out.mono ?_
      rintro r w1 ⟨rfl, hb1, hap1⟩
      obtain ⟨hB1, hF1, hA1⟩ := Hfin.out w1 hb1 hap1
      have d1 : w1.cell? ⟨g, m * 4 + 1, none⟩ = some (.int .i64 y1) := by rw [hB1.cell]; exact HB.out.1
      have d2 : w1.cell? ⟨g, m * 4 + 2, none⟩ = some (.int .i64 y2) := by rw [hB1.cell]; exact HB.out.2.1
      have d3 : w1.cell? ⟨g, m * 4 + 3, none⟩ = some (.int .i64 y3) := by rw [hB1.cell]; exact HB.out.2.2
      have z1 : w1.frozen? ⟨g, m * 4 + 1, none⟩ = false := hB1.frozen _
      have z2 : w1.frozen? ⟨g, m * 4 + 2, none⟩ = false := hB1.frozen _
      have z3 : w1.frozen? ⟨g, m * 4 + 3, none⟩ = false := hB1.frozen _
      have HF1 := Lib.hid hF1
      have HA1 := Lib.hid hA1
      clear hB1 hF1 hA1 hb1 hap1 Hfin HB Hc q0
      go_wp2
      go_roundw
      case rel => exact ⟨m + 1, by omega, by go_num, by rw [Hn.out]; go_num, HF1, HA1⟩
      case measure => simp [intOf]; omega
    · go_wp2
      go_ret
      obtain rfl : m = l.length := by omega
      refine ⟨rfl, ⟨fun h0 => ?_, fun i j hi hj hij h1 h2 => ?_, fun i hi h1 => ?_⟩, ha.out⟩
      · rw [mkdF_len] at h0
        obtain ⟨h1, h2, -⟩ := H.out.row h0
        obtain ⟨cs, h3, h4⟩ := hf.out h0
        exact ⟨h1, h2, cs, h3, fun i hi => (h4 i (by rwa [mkdF_len] at hi)).1 (by rwa [mkdF_len] at hi)⟩
      · rw [mkdF_len] at hi hj
        rw [mkdF_name hi] at h1
        rw [mkdF_name hj] at h2
        exact H.out.one i j hi hj hij h1 h2
      · rw [mkdF_len] at hi
        rw [mkdF_name hi] at h1
        exact H.out.ne i hi h1
end ArnM
end Go.Proofs.Ytfmlgpnjckamjaa

namespace Go.Proofs.Ytfmlgpnjckamjaa
open Go.RowKit
set_option linter.unusedVariables false
set_option linter.unusedSimpArgs false
namespace ArnM

/-- the blocks of a slot: its fields' row and their names -/
def blOf (s : Sl) (f : Nat) (nb : Nat → Nat) (b : Nat) : Prop := (0 < s.fs.length ∧ b = f) ∨ nmOf s.fs nb b
theorem OwnFs.apart_ {S : Nat → Prop} {w w' : World} {lo g : Nat} {nb : Nat → Nat} {A : Option Addr} {s : Sl} (h : OwnFs w lo A s.fs g nb) (ha : Apart S w w') (hn : ∀ b, blOf s g nb b → ¬ S b) : OwnFs w' lo A s.fs g nb :=
  h.apart ha (fun h0 => hn _ (.inl ⟨h0, rfl⟩)) (fun i hi h0 => hn _ (.inr ⟨i, hi, h0, rfl⟩))
/-- slot i of a row of ours -/
def SlAt (w : World) (lo : Nat) (cs : Array Value) (i f : Nat) (nb : Nat → Nat) (s : Sl) : Prop :=
  cs[i * 4]? = some (.bool s.live) ∧ cs[i * 4 + 1]? = some (.int .i64 s.gen) ∧ cs[i * 4 + 2]? = some (.int .i64 s.count) ∧ ∃ A c, cs[i * 4 + 3]? = some (.slice A s.fs.length c) ∧ OwnFs w lo A s.fs f nb
theorem SlAt.apart {S : Nat → Prop} {w w' : World} {lo i f : Nat} {nb : Nat → Nat} {cs : Array Value} {s : Sl} (h : SlAt w lo cs i f nb s) (ha : Apart S w w') (hn : ∀ b, blOf s f nb b → ¬ S b) : SlAt w' lo cs i f nb s := by
  obtain ⟨h0, h1, h2, A, c, h3, h4⟩ := h
  exact ⟨h0, h1, h2, A, c, h3, h4.apart_ ha hn⟩
theorem SlAt.cells {w : World} {lo i f : Nat} {nb : Nat → Nat} {cs cs' : Array Value} {s : Sl} (h : SlAt w lo cs i f nb s) (he : ∀ j, j < 4 → cs'[i * 4 + j]? = cs[i * 4 + j]?) : SlAt w lo cs' i f nb s := by
  obtain ⟨h0, h1, h2, A, c, h3, h4⟩ := h
  exact ⟨(he 0 (by omega)).trans h0, (he 1 (by omega)).trans h1, (he 2 (by omega)).trans h2, A, c, (he 3 (by omega)).trans h3, h4⟩
/-- a row of slots in block g, each with blocks of its own -/
structure OwnSls (w : World) (lo : Nat) (A : Option Addr) (l : List Sl) (g : Nat) (fb : Nat → Nat) (nb : Nat → Nat → Nat) : Prop where
  row : 0 < l.length → A = some ⟨g, 0, none⟩ ∧ lo ≤ g ∧ ∃ cs, Blk w g 90 cs ∧ ∀ i (h : i < l.length), SlAt w lo cs i (fb i) (nb i) l[i]
  one : ∀ i j (hi : i < l.length) (hj : j < l.length), i ≠ j → ∀ b, blOf l[i] (fb i) (nb i) b → ¬ blOf l[j] (fb j) (nb j) b
  ne : ∀ i (hi : i < l.length) b, blOf l[i] (fb i) (nb i) b → ¬ b = g
/-- all blocks of a row of slots -/
def bsOf (l : List Sl) (g : Nat) (fb : Nat → Nat) (nb : Nat → Nat → Nat) (b : Nat) : Prop := (0 < l.length ∧ b = g) ∨ ∃ i, ∃ h : i < l.length, blOf l[i] (fb i) (nb i) b
theorem OwnSls.apart {S : Nat → Prop} {w w' : World} {lo g : Nat} {fb : Nat → Nat} {nb : Nat → Nat → Nat} {A : Option Addr} {l : List Sl} (h : OwnSls w lo A l g fb nb) (ha : Apart S w w') (hn : ∀ b, bsOf l g fb nb b → ¬ S b) : OwnSls w' lo A l g fb nb :=
  ⟨fun h0 => by
    obtain ⟨h1, h2, cs, h3, h4⟩ := h.row h0
    exact ⟨h1, h2, cs, h3.apart ha (hn _ (.inl ⟨h0, rfl⟩)), fun i hi => (h4 i hi).apart ha (fun b hb => hn b (.inr ⟨i, hi, hb⟩))⟩, h.one, h.ne⟩
theorem OwnSls.sll {w : World} {lo g : Nat} {fb : Nat → Nat} {nb : Nat → Nat → Nat} {A : Option Addr} {l : List Sl} (h : OwnSls w lo A l g fb nb) (hm : l.length ≤ maxLen) (hf : ∀ i (hi : i < l.length), l[i].fs.length ≤ maxLen)
    (hn : ∀ i (hi : i < l.length) j (hj : j < l[i].fs.length), l[i].fs[j].name.length ≤ maxLen) : SlL w lo w.heap.size A l := by
  refine ⟨hm, fun h0 => ?_⟩
  obtain ⟨h1, h2, cs, h3, h4⟩ := h.row h0
  refine ⟨_, h1, h2, h3.lt, fun i hi => ?_⟩
  obtain ⟨c0, c1, c2, FA, c, c3, hF⟩ := h4 i hi
  refine ⟨_, _, _, _, ⟨?_, ?_, ?_, ?_⟩, rfl, rfl, rfl, FA, c, rfl, hF.fdl (hf i hi) (hn i hi)⟩
  · rw [add_zero_, h3.cell]; exact c0
  all_goals
    rw [add_zero_]
    rw [h3.cell]
    assumption
theorem blOf_mkd {l : List Sl} {k i f : Nat} {nb : Nat → Nat} {b : Nat} (h : i < l.length) (hb : blOf ((mkdS l k)[i]'(by rw [mkdS_len]; exact h)) f nb b) : blOf l[i] f nb b := by
  rw [mkdS_get (by rw [mkdS_len]; exact h) h] at hb
  rcases hb with ⟨h0, e⟩ | ⟨j, hj, h0, e⟩
  · rw [mkdF_len] at h0
    exact .inl ⟨h0, e⟩
  · have hj' : j < l[i].fs.length := by simpa [mkdF_len] using hj
    have h0' : 0 < ((mkdF l[i].fs (k + sumIn mkSl l i + 3))[j]'(by rw [mkdF_len]; exact hj')).name.length := h0
    rw [mkdF_name hj'] at h0'
    exact .inr ⟨j, hj', h0', e⟩
/-- the first m slots marked -/
def SsAt (w : World) (lo : Nat) (l : List Sl) (k g : Nat) (fb : Nat → Nat) (nb : Nat → Nat → Nat) (m : Nat) : Prop :=
  0 < l.length → ∃ cs, Blk w g 90 cs ∧ ∀ i (h : i < l.length), (i < m → SlAt w lo cs i (fb i) (nb i) ((mkdS l k)[i]'(by rw [mkdS_len]; exact h))) ∧ (m ≤ i → SlAt w lo cs i (fb i) (nb i) l[i])
def pt0 (cs : Array Value) (m : Nat) (a b c : Value) : Array Value := ((cs.setIfInBounds (m * 4) a).setIfInBounds (m * 4 + 1) b).setIfInBounds (m * 4 + 2) c
theorem pt0_ne {cs : Array Value} {m j : Nat} {a b c : Value} (h : j < m * 4 ∨ m * 4 + 2 < j) : (pt0 cs m a b c)[j]? = cs[j]? := by
  unfold pt0
  rw [Array.getElem?_setIfInBounds_ne (by omega), Array.getElem?_setIfInBounds_ne (by omega), Array.getElem?_setIfInBounds_ne (by omega)]
theorem pt0_at {cs : Array Value} {m : Nat} {a b c : Value} (h : m * 4 + 3 < cs.size) : (pt0 cs m a b c)[m * 4]? = some a ∧ (pt0 cs m a b c)[m * 4 + 1]? = some b ∧ (pt0 cs m a b c)[m * 4 + 2]? = some c := by
  unfold pt0
  refine ⟨?_, ?_, ?_⟩
  · rw [Array.getElem?_setIfInBounds_ne (by omega), Array.getElem?_setIfInBounds_ne (by omega), Array.getElem?_setIfInBounds_self_of_lt (by omega)]
  · rw [Array.getElem?_setIfInBounds_ne (by omega), Array.getElem?_setIfInBounds_self_of_lt (by simp; omega)]
  · rw [Array.getElem?_setIfInBounds_self_of_lt (by simp; omega)]

set_option maxRecDepth 100000 in
set_option maxHeartbeats 4000000 in
theorem markSlotS_o (l : List Sl) (A : Option Addr) (g : Nat) (fb : Nat → Nat) (nb : Nat → Nat → Nat) (c lo k : Nat) (w : World) (hl : slsSz l ≤ 1050000) (hk : k ≤ 1000000) (h : OwnSls w lo A l g fb nb) :
    Calls Try.prog 42 #[.slice A l.length c, .int .i64 (k : Int)] w fun r w' => r = .returned (.int .i64 ((k + sumIn mkSl l l.length : Nat) : Int)) ∧ OwnSls w' lo A (mkdS l k) g fb nb ∧ Apart (bsOf l g fb nb) w w' := by
  have hlen : l.length ≤ 1050000 := by unfold slsSz at hl; omega
  have Hl := Lib.hid hl
  have hst : SsAt w lo l k g fb nb 0 := fun h0 => by
    obtain ⟨_, _, cs, h3, h4⟩ := h.row h0
    exact ⟨cs, h3, fun i hi => ⟨fun e => absurd e (Nat.not_lt_zero _), fun _ => h4 i hi⟩⟩
  have Hst := Lib.hid hst
  have H := Lib.hid h
  clear hl hst h
  go_enter Try.func42, Try.ntmps42
  go_wp2
  go_loopw [1, 5] (fun s i wr => ∃ (m : Nat), m ≤ l.length ∧ i = .int .i64 m ∧ s = .int .i64 ((k + sumIn mkSl l m : Nat) : Int) ∧ Hid (SsAt wr lo l k g fb nb m) ∧ Hid (Apart (bsOf l g fb nb) w wr)) (fun _ i _ => l.length - (intOf i).toNat)
  case atStart => exact ⟨0, Nat.zero_le _, rfl, rfl, Hst, Lib.hid (Apart.refl _ _)⟩
  case round =>
    obtain ⟨m, hm, rfl, rfl, hf, ha⟩ := hrel
    by_cases hlt : m < l.length
    · obtain ⟨rfl, hlo, -⟩ := H.out.row (by omega)
      obtain ⟨cs, hB, hat⟩ := hf.out (by omega)
      obtain ⟨c0, c1, c2, FA, fc, c3, hF⟩ := (hat m hlt).2 (Nat.le_refl _)
      have hne := H.out.ne m hlt
      have hone := fun i hi (h : i ≠ m) => H.out.one i m hi hlt h
      have hg := mkdS_get (l := l) (k := k) (i := m) (by rw [mkdS_len]; exact hlt) hlt
      have hstep := sumIn_step mkSl hlt
      have hsum := mkSl_sum l m
      have hfz : fsSz l[m].fs ≤ 1050000 := by
        have h2 := sum_get slSz hlt
        have h3 := Hl.out
        have h4 : slSz l[m] = fsSz l[m].fs := rfl
        unfold slsSz at h3
        omega
      have hfs := Hl.out
      unfold slsSz at hfs
      have hsz := some_lt c3
      obtain ⟨q, hq⟩ : ∃ q, q = k + sumIn mkSl l m := ⟨_, rfl⟩
      have hqb : q ≤ 20000000 := by omega
      have hnext : k + sumIn mkSl l (m + 1) = q + 3 + sumIn mkFd l[m].fs l[m].fs.length := by rw [hstep, ← Nat.add_assoc, ← hq]; unfold mkSl; omega
      rw [← hq] at hg
      rw [← hq]
      have hbl : ∀ b, blOf l[m] (fb m) (nb m) b → bsOf l g fb nb b := fun b hb => .inr ⟨m, hlt, hb⟩
      obtain ⟨y0, hy0⟩ : ∃ n, n = l[m].live := ⟨_, rfl⟩
      obtain ⟨y1, hy1⟩ : ∃ n, n = l[m].gen := ⟨_, rfl⟩
      obtain ⟨y2, hy2⟩ : ∃ n, n = l[m].count := ⟨_, rfl⟩
      obtain ⟨n, hn⟩ : ∃ n, n = l[m].fs.length := ⟨_, rfl⟩
      rw [← hy0] at c0
      rw [← hy1] at c1
      rw [← hy2] at c2
      have c3' := c3
      rw [← hn] at c3
      obtain ⟨W, hW⟩ : ∃ W, W = (((wr.setCell ⟨g, m * 4, none⟩ (.bool ((q : Int) % 3 == 0))).setCell ⟨g, m * 4 + 1, none⟩ (.int .i64 ((q : Int) + 1))).setCell ⟨g, m * 4 + 2, none⟩ (.int .i64 ((q : Int) + 1 + 1))) := ⟨_, rfl⟩
      have hg1 : Apart (fun b => b = g) wr W := by rw [hW]; exact (((Apart.refl (fun b => b = g) wr).setCell (p := ⟨g, m * 4, none⟩) rfl _).setCell (p := ⟨g, m * 4 + 1, none⟩) rfl _).setCell (p := ⟨g, m * 4 + 2, none⟩) rfl _
      have hB1 : Blk W g 90 (pt0 cs m (.bool ((q : Int) % 3 == 0)) (.int .i64 ((q : Int) + 1)) (.int .i64 ((q : Int) + 1 + 1))) := by rw [hW]; exact ((hB.set_ _ _).set_ _ _).set_ _ _
      have hF1 : OwnFs W lo FA l[m].fs (fb m) (nb m) := hF.apart_ hg1 (fun b hb => hne b hb)
      have hc := markFieldS_o l[m].fs FA (fb m) (nb m) fc lo (q + 3) W hfz (by omega) hF1
      rw [← hnext, ← hn] at hc
      obtain ⟨r, hr⟩ : ∃ r, r = k + sumIn mkSl l (m + 1) := ⟨_, rfl⟩
      rw [← hr] at hc
      have e3 : ((q + 3 : Nat) : Int) = (q : Int) + 1 + 1 + 1 := by omega
      rw [e3] at hc
      have Hfin := Lib.hid (fun (w1 : World) (hb : OwnFs w1 lo FA (mkdF l[m].fs (q + 3)) (fb m) (nb m)) (hap : Apart (blOf l[m] (fb m) (nb m)) W w1) => show SsAt w1 lo l k g fb nb (m + 1) ∧ Apart (bsOf l g fb nb) w w1 from by
        refine ⟨fun _ => ⟨_, hB1.apart hap (fun h => hne _ h rfl), fun i hi => ?_⟩, ?_⟩
        · by_cases ei : i = m
          · subst ei
            refine ⟨fun _ => ?_, fun h => absurd h (by omega)⟩
            rw [hg]
            obtain ⟨p0, p1, p2⟩ := pt0_at (a := .bool ((q : Int) % 3 == 0)) (b := .int .i64 ((q : Int) + 1)) (c := .int .i64 ((q : Int) + 1 + 1)) hsz
            refine ⟨p0, ?_, ?_, FA, fc, ?_, hb⟩
            · rw [p1]; simp
            · rw [p2]; simp [Int.add_assoc]
            · rw [pt0_ne (by omega), mkdF_len]; exact c3'
          · have hcell : ∀ j, j < 4 → (pt0 cs m (.bool ((q : Int) % 3 == 0)) (.int .i64 ((q : Int) + 1)) (.int .i64 ((q : Int) + 1 + 1)))[i * 4 + j]? = cs[i * 4 + j]? := fun j hj => pt0_ne (by omega)
            refine ⟨fun h => ?_, fun h => ?_⟩
            · refine ((((hat i hi).1 (by omega)).apart hg1 (fun b hb => H.out.ne i hi b (blOf_mkd hi hb))).apart hap (fun b hb => hone i hi ei b (blOf_mkd hi hb))).cells hcell
            · refine ((((hat i hi).2 (by omega)).apart hg1 (fun b hb => H.out.ne i hi b hb)).apart hap (fun b hb => hone i hi ei b hb)).cells hcell
        · exact (ha.out.trans (hg1.mono (fun b _ hh => .inl ⟨by omega, hh⟩))).trans (hap.mono (fun b _ hh => hbl b hh)))
      have q0 : wr.cell? ⟨g, m * 4, none⟩ = some (.bool y0) := by rw [hB.cell]; exact c0
      have q1 : wr.cell? ⟨g, m * 4 + 1, none⟩ = some (.int .i64 y1) := by rw [hB.cell]; exact c1
      have q2 : wr.cell? ⟨g, m * 4 + 2, none⟩ = some (.int .i64 y2) := by rw [hB.cell]; exact c2
      have q3 : wr.cell? ⟨g, m * 4 + 3, none⟩ = some (.slice FA n fc) := by rw [hB.cell]; exact c3
      have z0 : wr.frozen? ⟨g, m * 4, none⟩ = false := hB.frozen _
      have z1 : wr.frozen? ⟨g, m * 4 + 1, none⟩ = false := hB.frozen _
      have z2 : wr.frozen? ⟨g, m * 4 + 2, none⟩ = false := hB.frozen _
      rw [hW] at hc
      have Hc := Lib.hid hc
      have Hr := Lib.hid hr
      have Hn := Lib.hid hn
      rw [hW] at Hfin
      clear hat hf ha hF hB hne hone hg hstep hsum hfz hfs hsz hq hnext hbl hy0 hy1 hy2 hn c0 c1 c2 c3 c3' hW hg1 hB1 hF1 hc hr e3
      go_wp2_with fail
      refine Hc.out.mono ?_
      rintro e w1 ⟨rfl, hb1, hap1⟩
      rw [Hn.out] at hap1
      obtain ⟨hF1, hA1⟩ := Hfin.out w1 hb1 hap1
      have HF1 := Lib.hid hF1
      have HA1 := Lib.hid hA1
      clear hF1 hA1 hb1 hap1 Hfin Hc q0 q1 q2 q3
      go_wp2
      go_roundw
      case rel => exact ⟨m + 1, by omega, by go_num, by rw [← Hr.out], HF1, HA1⟩
      case measure => simp [intOf]; omega
    · go_wp2
      go_ret
      obtain rfl : m = l.length := by omega
      refine ⟨rfl, ⟨fun h0 => ?_, fun i j hi hj hij b h1 h2 => ?_, fun i hi b h1 => ?_⟩, ha.out⟩
      · rw [mkdS_len] at h0
        obtain ⟨h1, h2, -⟩ := H.out.row h0
        obtain ⟨cs, h3, h4⟩ := hf.out h0
        exact ⟨h1, h2, cs, h3, fun i hi => (h4 i (by rwa [mkdS_len] at hi)).1 (by rwa [mkdS_len] at hi)⟩
      · rw [mkdS_len] at hi hj
        exact H.out.one i j hi hj hij b (blOf_mkd hi h1) (blOf_mkd hj h2)
      · rw [mkdS_len] at hi
        exact H.out.ne i hi b (blOf_mkd hi h1)
end ArnM
end Go.Proofs.Ytfmlgpnjckamjaa

namespace Go.Proofs.Ytfmlgpnjckamjaa
open Go.RowKit
set_option linter.unusedVariables false
set_option linter.unusedSimpArgs false
namespace ArnM

/-- numbers that lie in block g alone, from its beginning on -/
def BkI (w : World) (lo : Nat) (A : Option Addr) (g : Nat) (l : List Int) : Prop :=
  0 < l.length → A = some ⟨g, 0, none⟩ ∧ lo ≤ g ∧ ∃ cs : Array Value, Blk w g 3 cs ∧ ∀ j (h : j < l.length), cs[j]? = some (.int .i64 l[j])
theorem BkI.apart {S : Nat → Prop} {w w' : World} {lo g : Nat} {A : Option Addr} {l : List Int} (h : BkI w lo A g l) (ha : Apart S w w') (hn : 0 < l.length → ¬ S g) : BkI w' lo A g l := fun h0 => by
  obtain ⟨h1, h2, cs, h3, h4⟩ := h h0
  exact ⟨h1, h2, cs, h3.apart ha (hn h0), h4⟩
theorem BkI.il {w : World} {lo g : Nat} {A : Option Addr} {l : List Int} (h : BkI w lo A g l) (hm : l.length ≤ maxLen) : IL w lo w.heap.size A l := by
  refine ⟨hm, fun h0 => ?_⟩
  obtain ⟨h1, h2, cs, h3, h4⟩ := h h0
  exact ⟨_, h1, h2, h3.lt, fun j hj => by rw [add_zero_, h3.cell]; exact h4 j hj⟩

set_option maxHeartbeats 1000000 in
theorem markIntS_o (l : List Int) (A : Option Addr) (g c lo k : Nat) (w : World) (hn : k + l.length ≤ 1073741824) (h : BkI w lo A g l) :
    Calls Try.prog 43 #[.slice A l.length c, .int .i64 (k : Int)] w fun r w' => r = .returned (.int .i64 ((k + l.length : Nat) : Int)) ∧ BkI w' lo A g (mkdI k l.length) ∧ Apart (fun b => 0 < l.length ∧ b = g) w w' := by
  obtain ⟨n, hne⟩ : ∃ n, n = l.length := ⟨_, rfl⟩
  have h' : 0 < n → A = some ⟨g, 0, none⟩ ∧ lo ≤ g ∧ ∃ tc : Array Value, Blk w g 3 tc ∧ n ≤ tc.size := fun h0 => by
    obtain ⟨h1, h2, tc, h3, h4⟩ := h (by omega)
    refine ⟨h1, h2, tc, h3, ?_⟩
    have := some_lt (h4 (l.length - 1) (by omega))
    omega
  rw [← hne] at hn ⊢
  have H := Lib.hid h'
  clear h h' hne
  go_enter Try.func43, Try.ntmps43
  go_wp2
  go_loopw [1, 5] (fun s i wr => ∃ (m : Nat), m ≤ n ∧ i = .int .i64 m ∧ s = .int .i64 ((k + m : Nat) : Int) ∧ Hid (Apart (fun b => 0 < n ∧ b = g) w wr) ∧ Hid (0 < n → ∃ tc : Array Value, Blk wr g 3 tc ∧ n ≤ tc.size ∧ ∀ j, j < m → tc[j]? = some (.int .i64 ((k : Int) + (j : Int))))) (fun _ i _ => n - (intOf i).toNat)
  case atStart => exact ⟨0, Nat.zero_le _, rfl, rfl, Lib.hid (Apart.refl _ _), Lib.hid (fun h0 => by
    obtain ⟨_, _, tc, h3, h4⟩ := H.out h0
    exact ⟨tc, h3, h4, fun j hj => absurd hj (Nat.not_lt_zero _)⟩)⟩
  case round =>
    obtain ⟨m, hm, rfl, rfl, ha, hc⟩ := hrel
    by_cases hlt : m < n
    · obtain ⟨rfl, hlo, -⟩ := H.out (by omega)
      obtain ⟨tc, hB, hsz, hat⟩ := hc.out (by omega)
      have q0 : wr.cell? ⟨g, m, none⟩ = some (tc[m]'(by omega)) := by rw [hB.cell]; exact Array.getElem?_eq_getElem (by omega)
      have z0 : wr.frozen? ⟨g, m, none⟩ = false := hB.frozen _
      have hn1 : Hid (0 < n → ∃ tc' : Array Value, Blk (wr.setCell ⟨g, m, none⟩ (.int .i64 ((k : Int) + (m : Int)))) g 3 tc' ∧ n ≤ tc'.size ∧ ∀ j, j < m + 1 → tc'[j]? = some (.int .i64 ((k : Int) + (j : Int)))) := Lib.hid (fun _ =>
        ⟨_, hB.set_ m _, by simpa using hsz, fun j hj => by
          by_cases e : j = m
          · subst e
            rw [Array.getElem?_setIfInBounds_self_of_lt (by omega)]
          · rw [Array.getElem?_setIfInBounds_ne (by omega), hat j (by omega)]⟩)
      have ha1 : Hid (Apart (fun b => 0 < n ∧ b = g) w (wr.setCell ⟨g, m, none⟩ (.int .i64 ((k : Int) + (m : Int))))) := Lib.hid (ha.out.setCell (p := ⟨g, m, none⟩) ⟨by omega, rfl⟩ _)
      obtain ⟨x, hx⟩ : ∃ x, x = tc[m]'(by omega) := ⟨_, rfl⟩
      rw [← hx] at q0
      clear hat hB hx hsz hc ha
      go_wp2
      go_roundw
      case rel => exact ⟨m + 1, by omega, by go_num, by go_num, ha1, hn1⟩
      case measure => simp [intOf]; omega
    · go_wp2
      go_ret
      obtain rfl : m = n := by omega
      refine ⟨rfl, fun h0 => ?_, ha.out⟩
      rw [mkdI_len] at h0
      obtain ⟨h1, h2, -⟩ := H.out h0
      obtain ⟨tc, h3, h4, h5⟩ := hc.out h0
      refine ⟨h1, h2, tc, h3, fun j hj => ?_⟩
      rw [h5 j (by rwa [mkdI_len] at hj), mkdI_get]

/-- an arena in blocks of its own -/
structure OwnAr (w : World) (lo : Nat) (A0 A1 A2 : Option Addr) (a : Ar) (g : Nat) (fb : Nat → Nat) (nb : Nat → Nat → Nat) (g1 g2 : Nat) : Prop where
  slots : OwnSls w lo A0 a.slots g fb nb
  queue : BkI w lo A1 g1 a.queue
  purple : BkI w lo A2 g2 a.purple
  sq : 0 < a.queue.length → ∀ b, bsOf a.slots g fb nb b → ¬ b = g1
  sp : 0 < a.purple.length → ∀ b, bsOf a.slots g fb nb b → ¬ b = g2
  qp : 0 < a.queue.length → 0 < a.purple.length → ¬ g1 = g2
/-- the blocks of an arena -/
def asOf (a : Ar) (g : Nat) (fb : Nat → Nat) (nb : Nat → Nat → Nat) (g1 g2 b : Nat) : Prop := bsOf a.slots g fb nb b ∨ (0 < a.queue.length ∧ b = g1) ∨ (0 < a.purple.length ∧ b = g2)
theorem OwnAr.apart {S : Nat → Prop} {w w' : World} {lo g g1 g2 : Nat} {fb : Nat → Nat} {nb : Nat → Nat → Nat} {A0 A1 A2 : Option Addr} {a : Ar} (h : OwnAr w lo A0 A1 A2 a g fb nb g1 g2) (ha : Apart S w w') (hn : ∀ b, asOf a g fb nb g1 g2 b → ¬ S b) : OwnAr w' lo A0 A1 A2 a g fb nb g1 g2 :=
  ⟨h.slots.apart ha (fun b hb => hn b (.inl hb)), h.queue.apart ha (fun h0 => hn _ (.inr (.inl ⟨h0, rfl⟩))), h.purple.apart ha (fun h0 => hn _ (.inr (.inr ⟨h0, rfl⟩))), h.sq, h.sp, h.qp⟩
theorem bsOf_mkd {l : List Sl} {k g : Nat} {fb : Nat → Nat} {nb : Nat → Nat → Nat} {b : Nat} (hb : bsOf (mkdS l k) g fb nb b) : bsOf l g fb nb b := by
  rcases hb with ⟨h0, e⟩ | ⟨i, hi, hb⟩
  · rw [mkdS_len] at h0
    exact .inl ⟨h0, e⟩
  · have hi' : i < l.length := by simpa [mkdS_len] using hi
    exact .inr ⟨i, hi', blOf_mkd hi' hb⟩

theorem OwnAr.arl {w : World} {lo g g1 g2 : Nat} {fb : Nat → Nat} {nb : Nat → Nat → Nat} {A0 A1 A2 : Option Addr} {a : Ar} (h : OwnAr w lo A0 A1 A2 a g fb nb g1 g2) (hs : a.slots.length ≤ maxLen) (hq : a.queue.length ≤ maxLen) (hp : a.purple.length ≤ maxLen) (hf : ∀ i (hi : i < a.slots.length), a.slots[i].fs.length ≤ maxLen)
    (hn : ∀ i (hi : i < a.slots.length) j (hj : j < a.slots[i].fs.length), a.slots[i].fs[j].name.length ≤ maxLen) : ArL w lo w.heap.size A0 A1 A2 a :=
  ⟨h.slots.sll hs hf hn, h.queue.il hq, h.purple.il hp⟩
/-- the marked arena, as a row of cells -/
theorem OwnAr.marked {w : World} {lo g g1 g2 k : Nat} {fb : Nat → Nat} {nb : Nat → Nat → Nat} {A0 A1 A2 : Option Addr} {a : Ar} (h : OwnAr w lo A0 A1 A2 (mkdA a k) g fb nb g1 g2) (hl : arSz a ≤ 1050000) : ArL w lo w.heap.size A0 A1 A2 (mkdA a k) := by
  obtain ⟨e0, e1, e2⟩ := mkdA_len a k
  have hsl : slsSz a.slots ≤ 1050000 := by unfold arSz at hl; omega
  have h4 : a.slots.length ≤ 1050000 := by unfold slsSz at hsl; omega
  have hfz : ∀ i (hi : i < a.slots.length), fsSz a.slots[i].fs ≤ 1050000 := fun i hi => by
    have h2 := sum_get slSz hi
    have h5 : slSz a.slots[i] = fsSz a.slots[i].fs := rfl
    unfold slsSz at hsl
    omega
  refine h.arl (by rw [e0]; unfold maxLen; omega) (by rw [e1]; unfold maxLen arSz at *; omega) (by rw [e2]; unfold maxLen arSz at *; omega) (fun i hi => ?_) (fun i hi j hj => ?_)
  · have hi' : i < a.slots.length := by rwa [e0] at hi
    have hg := mkdS_get (l := a.slots) (k := k) (i := i) (by rw [mkdS_len]; exact hi') hi'
    have hx : (mkdA a k).slots[i] = _ := hg
    rw [hx]
    dsimp only
    rw [mkdF_len]
    have := hfz i hi'
    unfold fsSz at this
    unfold maxLen
    omega
  · have hi' : i < a.slots.length := by rwa [e0] at hi
    have hg := mkdS_get (l := a.slots) (k := k) (i := i) (by rw [mkdS_len]; exact hi') hi'
    have hx : (mkdA a k).slots[i].fs = mkdF a.slots[i].fs (k + sumIn mkSl a.slots i + 3) := congrArg Sl.fs hg
    have hj' : j < a.slots[i].fs.length := by rw [hx, mkdF_len] at hj; exact hj
    have hy : (mkdA a k).slots[i].fs[j].name.length = a.slots[i].fs[j].name.length := by
      have : (mkdA a k).slots[i].fs[j] = (mkdF a.slots[i].fs (k + sumIn mkSl a.slots i + 3))[j]'(by rw [mkdF_len]; exact hj') := by simp only [hx]
      rw [this]
      exact mkdF_name hj'
    rw [hy]
    have h1 := hfz i hi'
    have h2 := sum_get fdSz hj'
    have h5 : fdSz a.slots[i].fs[j] = a.slots[i].fs[j].name.length := rfl
    unfold fsSz at h1
    unfold maxLen
    omega

set_option maxHeartbeats 2000000 in
theorem markArena_o (a : Ar) (A0 A1 A2 : Option Addr) (g : Nat) (fb : Nat → Nat) (nb : Nat → Nat → Nat) (g1 g2 c0 c1 c2 lo k : Nat) (w : World) (hl : arSz a ≤ 1050000) (hk : k ≤ 1000000) (hw : ∀ b, asOf a g fb nb g1 g2 b → b < w.heap.size) (h : OwnAr w lo A0 A1 A2 a g fb nb g1 g2) :
    Calls Try.prog 15 #[.agg #[.slice A0 a.slots.length c0, .slice A1 a.queue.length c1, .slice A2 a.purple.length c2], .int .i64 (k : Int)] w fun r w' => r = .returned (.int .i64 ((k + mkN a : Nat) : Int)) ∧ OwnAr w' lo A0 A1 A2 (mkdA a k) g fb nb g1 g2 ∧ Apart (asOf a g fb nb g1 g2) w w' := by
  have hsl : slsSz a.slots ≤ 1050000 := by unfold arSz at hl; omega
  have hql : a.queue.length ≤ 1050000 := by unfold arSz at hl; omega
  have hpl : a.purple.length ≤ 1050000 := by unfold arSz at hl; omega
  have hms := mkSl_sum a.slots a.slots.length
  have hsum : sumIn mkSl a.slots a.slots.length ≤ 100000000 := by unfold slsSz at hsl; omega
  have ha0 : Apart (fun _ => False) w (w.alloc (.cells #[.slice A0 a.slots.length c0, .slice A1 a.queue.length c1, .slice A2 a.purple.length c2] 32)) := (Apart.refl _ w).alloc _
  have h0 := h.apart ha0 (fun _ _ h => h)
  have HK := Lib.hid (Blk.new w 32 #[.slice A0 a.slots.length c0, .slice A1 a.queue.length c1, .slice A2 a.purple.length c2])
  have hN : k + mkN a = k + sumIn mkSl a.slots a.slots.length + a.queue.length + a.purple.length := by unfold mkN; omega
  have Hc := Lib.hid (markSlotS_o a.slots A0 g fb nb c0 lo k _ hsl hk h0.slots)
  obtain ⟨q1, hq1⟩ : ∃ q : Nat, k + sumIn mkSl a.slots a.slots.length = q := ⟨_, rfl⟩
  have hA : mkdA a k = ⟨mkdS a.slots k, mkdI q1 a.queue.length, mkdI (q1 + a.queue.length) a.purple.length⟩ := by unfold mkdA; rw [hq1]
  rw [hq1] at Hc hN
  obtain ⟨q2, hq2⟩ : ∃ q : Nat, q1 + a.queue.length = q := ⟨_, rfl⟩
  rw [hq2] at hN hA
  obtain ⟨q3, hq3⟩ : ∃ q : Nat, q2 + a.purple.length = q := ⟨_, rfl⟩
  rw [hq3] at hN
  rw [hN, hA]
  have hqi := fun w' h => markIntS_o a.queue A1 g1 c1 lo q1 w' (by omega) h
  have hpi := fun w' h => markIntS_o a.purple A2 g2 c2 lo q2 w' (by omega) h
  rw [hq2] at hqi
  rw [hq3] at hpi
  have Hqi := Lib.hid hqi
  have Hpi := Lib.hid hpi
  have H0 := Lib.hid h0
  have Ha0 := Lib.hid ha0
  have Hw := Lib.hid hw
  have hr3 : q3 ≤ 200000000 := by omega
  have p0 := HK.out.cel 0 (v := .slice A0 a.slots.length c0) rfl
  obtain ⟨ns, hns⟩ : ∃ n, n = a.slots.length := ⟨_, rfl⟩
  have Hb : ∀ b, b = w.heap.size → ¬ asOf a g fb nb g1 g2 b := fun b e h => by have := hw b h; omega
  have HB := Lib.hid Hb
  clear h0 ha0 hms hsum hsl hql hpl hl hN hA hq1 hq2 hq3 hqi hpi hw h hns Hb
  go_enter Try.func15, Try.ntmps15
  go_wp2_with fail
  refine Hc.out.mono ?_
  rintro r w1 ⟨rfl, hs1, ha1⟩
  have K1 := HK.out.apart ha1 (fun h => HB.out _ rfl (.inl h))
  have p1 := K1.cel 1 (v := .slice A1 a.queue.length c1) rfl
  have HK1 := Lib.hid K1
  have Hs1 := Lib.hid hs1
  have Hq := Lib.hid (Hqi.out w1 (H0.out.queue.apart ha1 (fun h0 h => H0.out.sq h0 _ h rfl)))
  have Hp1 := Lib.hid (H0.out.purple.apart ha1 (fun h0 h => H0.out.sp h0 _ h rfl))
  have Ha1 := Lib.hid (Ha0.out.mono (fun _ _ h => h.elim) |>.trans (ha1.mono (fun b _ h => (.inl h : asOf a g fb nb g1 g2 b))))
  clear hs1 ha1 K1 Hc p0 HK
  go_wp2_with fail
  refine Hq.out.mono ?_
  rintro r w2 ⟨rfl, hq2, ha2⟩
  have K2 := HK1.out.apart ha2 (fun h => HB.out _ rfl (.inr (.inl ⟨h.1, h.2⟩)))
  have p2 := K2.cel 2 (v := .slice A2 a.purple.length c2) rfl
  have Hs2 := Lib.hid (Hs1.out.apart ha2 (fun b hb h => H0.out.sq h.1 b (bsOf_mkd hb) h.2))
  have Hq2 := Lib.hid hq2
  have Hp := Lib.hid (Hpi.out w2 (Hp1.out.apart ha2 (fun h0 h => H0.out.qp h.1 h0 h.2.symm)))
  have Ha2 := Lib.hid (Ha1.out.trans (ha2.mono (fun b _ h => (.inr (.inl h) : asOf a g fb nb g1 g2 b))))
  clear hq2 ha2 K2 Hq Hs1 Hp1 Ha1 p1 HK1
  go_wp2_with fail
  refine Hp.out.mono ?_
  rintro r w3 ⟨rfl, hp3, ha3⟩
  have Hend : Hid (OwnAr w3 lo A0 A1 A2 ⟨mkdS a.slots k, mkdI q1 a.queue.length, mkdI q2 a.purple.length⟩ g fb nb g1 g2 ∧ Apart (asOf a g fb nb g1 g2) w w3) := Lib.hid
    ⟨⟨Hs2.out.apart ha3 (fun b hb h => H0.out.sp h.1 b (bsOf_mkd hb) h.2), Hq2.out.apart ha3 (fun h0 h => by rw [mkdI_len] at h0; exact H0.out.qp h0 h.1 h.2), hp3,
      fun h0 b hb => by dsimp only at h0; rw [mkdI_len] at h0; exact H0.out.sq h0 b (bsOf_mkd hb), fun h0 b hb => by dsimp only at h0; rw [mkdI_len] at h0; exact H0.out.sp h0 b (bsOf_mkd hb), fun h0 h1 => by dsimp only at h0 h1; rw [mkdI_len] at h0 h1; exact H0.out.qp h0 h1⟩,
     Ha2.out.trans (ha3.mono (fun b _ h => .inr (.inr h)))⟩
  clear hp3 ha3 Hp Hs2 Hq2 Ha2 p2
  go_wp2
  go_ret
  exact ⟨rfl, Hend.out⟩
end ArnM
end Go.Proofs.Ytfmlgpnjckamjaa
