/-
  Frames in memory; their registers in a row.
-/
import Derived.Test.YtddjcjjnpidhiaaGreatDoorMrow
import Derived.Test.YtddjcjjnpidhiaaGreatDoorCode
import Derived.Test.YtddjcjjnpidhiaaGreatDoorArnToN
import Derived.Laws.AppendOwnNone
namespace Go.Proofs.YtddjcjjnpidhiaaGreatDoor
open Go.RowKit
set_option linter.unusedVariables false

theorem infoVl2 : (Tryz.prog.info? 77).map (fun i => (i.zero, i.size, i.bytes)) = some (some (.agg #[.int .i64 0, .int .i64 0, .int .i64 0]), 3, 24) := by kernel_rfl
def VlV (v0 v1 v2 : Value) (x : Vl) : Prop := v0 = .int .i64 x.k ∧ v1 = .int .i64 x.n ∧ v2 = .int .i64 x.g
def VlR (w : World) (L B : Nat) (A : Option Addr) (l : List Vl) : Prop := Row3 VlV w L B A l
theorem VlR.keep {w w' : World} {L B : Nat} {A : Option Addr} {l : List Vl} (h : VlR w L B A l) (hk : ∀ p : Addr, L ≤ p.block → p.block < B → w'.cell? p = w.cell? p) : VlR w' L B A l := Row3.keep h hk fun _ _ _ _ hv => hv
theorem VlR.more {w : World} {L B L' B' : Nat} {A : Option Addr} {l : List Vl} (h : VlR w L B A l) (hL : L' ≤ L) (hB : B ≤ B') : VlR w L' B' A l := Row3.more h hL hB fun _ _ _ _ hv => hv
theorem VlR.below {w w' : World} {L B : Nat} {A : Option Addr} {l : List Vl} (h : VlR w L B A l) (hb : Below B w w') : VlR w' L B A l := h.keep fun _ _ hp => hb.cell hp
theorem VlR.vl {w : World} {L B : Nat} {A : Option Addr} {l : List Vl} (h : VlR w L B A l) : VlL w L B A l :=
  ⟨h.1, fun hn => by
    obtain ⟨ad, e, h1, h2, h3⟩ := h.2 hn
    refine ⟨ad, e, h1, h2, fun k hk => ?_⟩
    obtain ⟨v0, v1, v2, ⟨c0, c1, c2⟩, rfl, rfl, rfl⟩ := h3 k hk
    exact ⟨c0, c1, c2⟩⟩

set_option maxHeartbeats 400000 in
theorem szValS_c (A : Option Addr) (n c : Nat) (left : Int) (w : World) (hn : n ≤ 9223372036854775807) (h0 : 0 ≤ left) (h1 : left ≤ 1048576) :
    Calls Tryz.prog 83 #[.slice A n c, .int .i64 left] w fun e w' => e = .returned (.int .i64 (lft left n)) ∧ w = w' := by
  rcases lft_cases left n with ⟨hlt, he⟩ | ⟨hge, he⟩
  all_goals
    rw [he]
    clear he
    go_enter Tryz.func83, Tryz.ntmps83
    go_wp2
    go_ret
    exact ⟨rfl, rfl⟩

set_option maxHeartbeats 2000000 in
theorem toValS_n (l : List Vl) (A : Option Addr) (c L B : Nat) (w : World) (hB : B ≤ w.heap.size) (hlen : l.length ≤ 1048576) (h : VlR w L B A l) :
    Calls Tryz.prog 89 #[.slice A l.length c] w fun r w' => ∃ g, r = .returned (.slice (some ⟨g, 0, none⟩) l.length l.length) ∧ g < w'.heap.size ∧ w.heap.size ≤ g ∧ VlR w' w.heap.size w'.heap.size (some ⟨g, 0, none⟩) l ∧ Below w.heap.size w w' ∧ ArnN.New w.heap.size w' := by
  obtain ⟨i0, hi, hz0, hz1, hz2⟩ := info_parts infoVl2
  have hmk : ∀ u : World, (Instr.makeSlice 47 (.int .i64 (l.length : Int)) (.int .i64 (l.length : Int))).run Tryz.prog u =
      .ok (.slice (some ⟨u.heap.size, 0, none⟩) l.length l.length) (u.alloc (.cells (madeCells #[.int .i64 0, .int .i64 0, .int .i64 0] (l.length * 3)) 77)) := fun u => by
    have h := run_make (P := Tryz.prog) u 47 77 i0 (.agg #[.int .i64 0, .int .i64 0, .int .i64 0]) Tryz.underlying47 hi hz0 .i64 .i64 (l.length : Int) (l.length : Int) (by omega) (Int.le_refl _) (by rw [hz2]; omega) (by omega)
    rw [Int.toNat_natCast] at h
    simpa [hz1, Value.cells] using h
  clear hi hz0 hz1 hz2
  go_enter Tryz.func89, Tryz.ntmps89
  go_wp2
  go_loopw [4] (fun i wr => ∃ (k : Nat) (cs : Array Value), k ≤ l.length ∧ i = .int .i64 k ∧ cs.size = l.length * 3 ∧ Blk wr w.heap.size 77 cs ∧ RowP3 (VlV) cs l k ∧ Below w.heap.size w wr ∧ ArnN.New w.heap.size wr) (fun i _ => l.length - (intOf i).toNat)
  case atStart => exact ⟨0, _, Nat.zero_le _, rfl, by simp [madeCells], Blk.new _ _ _, fun i _ hk => by omega, (Below.refl _ _).alloc (Nat.le_refl _) _, (ArnN.New.refl w).alloc _ _⟩
  case round =>
    obtain ⟨k, cs, hk, rfl, hcs, hblk, hown, hbl, hnw⟩ := hrel
    have Hcs := Lib.hid hcs
    have Hown := Lib.hid hown
    clear hcs hown
    by_cases hlt : k < l.length
    · obtain ⟨ad, rfl, _, hb, hat⟩ := (h.below (hbl.mono hB)).2 (by omega)
      obtain ⟨v0, v1, v2, ⟨c0, c1, c2⟩, hv⟩ := hat k hlt
      obtain ⟨rfl, rfl, rfl⟩ := hv
      have hc := ArnN.toVal_n l[k].k l[k].n l[k].g wr
      have Hc := Lib.hid hc
      clear hc hat
      go_wp2_with fail
      refine Hc.out.mono ?_
      rintro e w1 ⟨rfl, hb1, hn1⟩
      have hnw1 := hnw.join hb1 hn1
      have hu : VlV (.int .i64 l[k].k) (.int .i64 l[k].n) (.int .i64 l[k].g) l[k] := ⟨rfl, rfl, rfl⟩
      have hblk1 := hblk.below hb1 hblk.lt
      have hsz := Hcs.out
      obtain ⟨x0, e0⟩ : ∃ v, cs[k * 3]? = some v := ⟨_, Array.getElem?_eq_getElem (by omega)⟩
      obtain ⟨x1, e1⟩ : ∃ v, cs[k * 3 + 1]? = some v := ⟨_, Array.getElem?_eq_getElem (by omega)⟩
      obtain ⟨x2, e2⟩ : ∃ v, cs[k * 3 + 2]? = some v := ⟨_, Array.getElem?_eq_getElem (by omega)⟩
      have q0 : w1.cell? ⟨w.heap.size, k * 3, none⟩ = some x0 := by rw [hblk1.cell]; exact e0
      have q1 : w1.cell? ⟨w.heap.size, k * 3 + 1, none⟩ = some x1 := by rw [hblk1.cell]; exact e1
      have q2 : w1.cell? ⟨w.heap.size, k * 3 + 2, none⟩ = some x2 := by rw [hblk1.cell]; exact e2
      have z0 : w1.frozen? ⟨w.heap.size, k * 3, none⟩ = false := hblk1.frozen _
      have z1 : w1.frozen? ⟨w.heap.size, k * 3 + 1, none⟩ = false := hblk1.frozen _
      have z2 : w1.frozen? ⟨w.heap.size, k * 3 + 2, none⟩ = false := hblk1.frozen _
      have hlt1 := hblk.lt
      have hbl1 := hbl.trans (hb1.mono hbl.size)
      have hfin2 := Hown.out.step hlt (by omega) hu
      have Hfin := Lib.hid hfin2
      clear hsz e0 e1 e2 hfin2 hu
      go_wp2
      go_roundw
      case rel =>
        exact ⟨k + 1, _, by omega, by go_num, by rw [pt3_size]; exact Hcs.out, hblk1.pt3 (k * 3) _ _ _ , Hfin.out, ((hbl1.setCell (by simp) _).setCell (by simp) _).setCell (by simp) _, (((hnw1.set_ _ _).set_ _ _).set_ _ _)⟩
      case measure => simp [intOf]; omega
    · go_wp2
      go_ret
      have : k = l.length := by omega
      subst this
      exact ⟨_, rfl, hblk.lt, Nat.le_refl _, Hown.out.row (by unfold maxLen; omega) hblk (Nat.le_refl _) , hbl, hnw⟩

set_option maxRecDepth 100000 in
set_option maxHeartbeats 1000000 in
theorem eqValS_c (l : List Vl) (A A' : Option Addr) (c c' L B L' B' : Nat) (w : World) (hB : B ≤ w.heap.size) (hB' : B' ≤ w.heap.size) (hlen : l.length ≤ 1048576) (h : VlR w L B A l) (h' : VlR w L' B' A' l) :
    Calls Tryz.prog 15 #[.slice A l.length c, .slice A' l.length c'] w fun r w' => r = .returned (.bool true) ∧ Below w.heap.size w w' := by
  go_enter Tryz.func15, Tryz.ntmps15
  go_wp2
  go_loopw [5] (fun i wr => ∃ (k : Nat), k ≤ l.length ∧ i = .int .i64 k ∧ Below w.heap.size w wr) (fun i _ => l.length - (intOf i).toNat)
  case atStart => exact ⟨0, Nat.zero_le _, rfl, Below.refl _ _⟩
  case round =>
    obtain ⟨k, hk, rfl, hbl⟩ := hrel
    by_cases hlt : k < l.length
    · obtain ⟨ad, rfl, _, hb, hat⟩ := (h.below (hbl.mono hB)).2 (by omega)
      obtain ⟨v0, v1, v2, ⟨c0, c1, c2⟩, rfl, rfl, rfl⟩ := hat k hlt
      obtain ⟨ad', rfl, _, hb', hat'⟩ := (h'.below (hbl.mono hB')).2 (by omega)
      obtain ⟨u0, u1, u2, ⟨d0, d1, d2⟩, rfl, rfl, rfl⟩ := hat' k hlt
      have hc := eqVal_c l[k].k l[k].n l[k].g wr.drew
      have Hc := Lib.hid hc
      clear hc hat hat'
      go_wp2
      go_still_tail 8, (by kernel_rfl)
      change wpList _ _ _ _ _ wr.drew
      go_wp2_with fail
      refine Hc.out.mono ?_
      rintro e w1 ⟨rfl, hb1⟩
      go_wp2
      go_roundw
      case rel => exact ⟨k + 1, by omega, by go_num, hbl.drew.trans (hb1.mono hbl.size)⟩
      case measure => simp [intOf]; omega
    · go_wp2
      go_ret
      exact ⟨rfl, hbl⟩

end Go.Proofs.YtddjcjjnpidhiaaGreatDoor

namespace Go.Proofs.YtddjcjjnpidhiaaGreatDoor
open Go.RowKit
set_option linter.unusedVariables false

structure Fr where
  unit : Int
  pc : Int
  dst : Int
  regs : List Vl
structure Ma where
  code : List Un
  arena : Ar
  frames : List Fr
  log : List UInt8
  ticks : Int
  state : Int
/-- a frame -/
def FrV (w : World) (L B : Nat) (v0 v1 v2 v3 : Value) (s : Fr) : Prop :=
  v0 = .int .i64 s.unit ∧ v1 = .int .i64 s.pc ∧ v2 = .int .i64 s.dst ∧ ∃ (A : Option Addr) (c : Nat), v3 = .slice A s.regs.length c ∧ VlR w L B A s.regs ∧ (A = none → c = 0)
def FrL (w : World) (L B : Nat) (A : Option Addr) (l : List Fr) : Prop := Row4 (FrV w L B) w L B A l
/-- a machine's six rows -/
def MaL (w : World) (L B : Nat) (A0 A1 A2 A3 A4 A5 : Option Addr) (m : Ma) : Prop :=
  UnL w L B A0 m.code ∧ ArL w L B A1 A2 A3 m.arena ∧ FrL w L B A4 m.frames ∧ NmB w L B A5 m.log ∧ m.log.length ≤ maxLen
/-- its value -/
def maV (A0 A1 A2 A3 A4 A5 : Option Addr) (c0 c1 c2 c3 c4 c5 : Nat) (m : Ma) : Array Value :=
  #[.slice A0 m.code.length c0, .slice A1 m.arena.slots.length c1, .slice A2 m.arena.queue.length c2, .slice A3 m.arena.purple.length c3, .slice A4 m.frames.length c4, .slice A5 m.log.length c5, .int .i64 m.ticks, .int .i64 m.state]

section
variable {w w' : World} {L B L' B' : Nat} {A : Option Addr} {v0 v1 v2 v3 : Value}
theorem FrV.keep {f : Fr} (h : FrV w L B v0 v1 v2 v3 f) (hk : ∀ p : Addr, L ≤ p.block → p.block < B → w'.cell? p = w.cell? p) : FrV w' L B v0 v1 v2 v3 f := by
  obtain ⟨e0, e1, e2, A, c, e3, hN, hz⟩ := h; exact ⟨e0, e1, e2, A, c, e3, hN.keep hk, hz⟩
theorem FrV.more {f : Fr} (h : FrV w L B v0 v1 v2 v3 f) (hL : L' ≤ L) (hB : B ≤ B') : FrV w L' B' v0 v1 v2 v3 f := by
  obtain ⟨e0, e1, e2, A, c, e3, hN, hz⟩ := h; exact ⟨e0, e1, e2, A, c, e3, hN.more hL hB, hz⟩
theorem FrL.keep {l : List Fr} (h : FrL w L B A l) (hk : ∀ p : Addr, L ≤ p.block → p.block < B → w'.cell? p = w.cell? p) : FrL w' L B A l := Row4.keep h hk fun _ _ _ _ _ hv => FrV.keep hv hk
theorem FrL.more {l : List Fr} (h : FrL w L B A l) (hL : L' ≤ L) (hB : B ≤ B') : FrL w L' B' A l := Row4.more h hL hB fun _ _ _ _ _ hv => FrV.more hv hL hB
theorem FrL.below {l : List Fr} (h : FrL w L B A l) (hb : Below B w w') : FrL w' L B A l := h.keep fun _ _ hp => hb.cell hp
variable {A0 A1 A2 A3 A4 A5 : Option Addr} {m : Ma}
theorem MaL.keep (h : MaL w L B A0 A1 A2 A3 A4 A5 m) (hk : ∀ p : Addr, L ≤ p.block → p.block < B → w'.cell? p = w.cell? p) : MaL w' L B A0 A1 A2 A3 A4 A5 m := ⟨h.1.keep hk, h.2.1.keep hk, h.2.2.1.keep hk, h.2.2.2.1.keep hk, h.2.2.2.2⟩
theorem MaL.more (h : MaL w L B A0 A1 A2 A3 A4 A5 m) (hL : L' ≤ L) (hB : B ≤ B') : MaL w L' B' A0 A1 A2 A3 A4 A5 m := ⟨h.1.more hL hB, h.2.1.more hL hB, h.2.2.1.more hL hB, h.2.2.2.1.more hL hB, h.2.2.2.2⟩
theorem MaL.below (h : MaL w L B A0 A1 A2 A3 A4 A5 m) (hb : Below B w w') : MaL w' L B A0 A1 A2 A3 A4 A5 m := h.keep fun _ _ hp => hb.cell hp
end

def frSz (f : Fr) : Nat := f.regs.length
def frsSz (l : List Fr) : Nat := l.length + (l.map frSz).sum
def maSz (m : Ma) : Nat := unsSz m.code + arSz m.arena + frsSz m.frames + m.log.length

theorem infoFr : (Tryz.prog.info? 60).map (fun i => (i.zero, i.size, i.bytes)) = some (some (.agg #[.int .i64 0, .int .i64 0, .int .i64 0, .slice none 0 0]), 4, 48) := by kernel_rfl
end Go.Proofs.YtddjcjjnpidhiaaGreatDoor

namespace Go.Proofs.YtddjcjjnpidhiaaGreatDoor
open Go.RowKit
set_option linter.unusedVariables false
set_option linter.unusedSimpArgs false

theorem vv_one : ∀ (l : List Vl), ∀ u ∈ vv l, u.oneCell' = true
  | [], u, h => by simp [vv] at h
  | x :: r, u, h => by
    simp only [vv, List.mem_cons] at h
    rcases h with rfl | rfl | rfl | h
    · rfl
    · rfl
    · rfl
    · exact vv_one r u h
theorem add_3 (a : Addr) (m r : Nat) (hr : 0 < r) : a.add (m + r) = ⟨(a.add m).block, (a.add m).off + r, none⟩ := by
  unfold Addr.add
  split <;> split <;> simp_all <;> omega
theorem VlR.cells {w : World} {L B : Nat} {ad : Addr} {l : List Vl} (h : VlR w L B (some ad) l) : ∀ j u, (vv l)[j]? = some u → w.cell? (ad.add j) = some u := by
  intro j u hj
  have hjl : j < l.length * 3 := by rw [← vv_len]; exact (List.getElem?_eq_some_iff.1 hj).1
  obtain ⟨ad', e, _, _, hs⟩ := h.2 (by omega)
  injection e with e
  subst e
  obtain ⟨v0, v1, v2, ⟨c0, c1, c2⟩, rfl, rfl, rfl⟩ := hs (j / 3) (by omega)
  obtain ⟨b0, b1, b2⟩ := vv_get l (j / 3) (by omega)
  have hc : j = j / 3 * 3 ∨ j = j / 3 * 3 + 1 ∨ j = j / 3 * 3 + 2 := by omega
  rcases hc with e | e | e
  · rw [e, b0] at hj; rw [e, ← hj]; exact c0
  · rw [e, b1] at hj; rw [e, add_3 _ _ _ (by omega), ← hj]; exact c1
  · rw [e, b2] at hj; rw [e, add_3 _ _ _ (by omega), ← hj]; exact c2
theorem VlR.head {w : World} {L B : Nat} {ad : Addr} {l : List Vl} (h : VlR w L B (some ad) l) (hn : 0 < l.length) : L ≤ ad.block ∧ ad.block < B := by
  obtain ⟨ad', e, h1, h2, _⟩ := h.2 hn
  injection e with e
  subst e
  exact ⟨h1, h2⟩
theorem VlR.empty {w : World} {L B : Nat} {l : List Vl} (h : VlR w L B none l) : l = [] := by
  cases l with
  | nil => rfl
  | cons x r => obtain ⟨ad, e, _⟩ := h.2 (by simp); cases e
theorem VRow.app {w' : World} {lo : Nat} {v' : Value} {l r : List Vl} (h : w'.ownsRow lo 77 3 v' (l.length + r.length) (vv l ++ vv r)) : VRow w' lo v' (l ++ r) := by
  unfold VRow
  rw [List.length_append, vv_app]
  exact h

theorem VRow.low {w : World} {lo lo' : Nat} {v : Value} {l : List Vl} (h : VRow w lo v l) (hl : lo' ≤ lo) : VRow w lo' v l := by
  refine ⟨h.1, ?_⟩
  rcases h.2 with h1 | ⟨g', cap, cur, hv, hb, hr⟩
  · exact .inl h1
  · exact .inr ⟨g', cap, cur, hv, Nat.le_trans hl hb, hr⟩

/-- all registers of the first k frames -/
def rootsTo (F : List Fr) (k : Nat) : List Vl := ((F.take k).map Fr.regs).flatten
theorem rootsTo_zero (F : List Fr) : rootsTo F 0 = [] := rfl
theorem rootsTo_succ {F : List Fr} {k : Nat} (h : k < F.length) : rootsTo F (k + 1) = rootsTo F k ++ F[k].regs := by
  unfold rootsTo
  rw [List.take_succ_eq_append_getElem h, List.map_append, List.flatten_append]
  simp
theorem rootsTo_len (F : List Fr) : ∀ k, k ≤ F.length → (rootsTo F k).length = sumIn frSz F k
  | 0, _ => rfl
  | k + 1, h => by
    rw [rootsTo_succ (by omega), List.length_append, rootsTo_len F k (by omega), sumIn_step frSz (by omega)]
    rfl
theorem sumIn_mono {α : Type} (f : α → Nat) (l : List α) (k : Nat) : sumIn f l k ≤ (l.map f).sum := by
  unfold sumIn
  rw [← List.take_append_drop k l, List.map_append, List.sum_append, List.take_append_drop]
  omega
theorem rootsTo_le {F : List Fr} {k : Nat} (h : k ≤ F.length) : (rootsTo F k).length + F.length ≤ frsSz F := by
  rw [rootsTo_len F k h]
  have := sumIn_mono frSz F k
  unfold frsSz
  omega


set_option maxRecDepth 100000 in
set_option maxHeartbeats 4000000 in
theorem rootsOf_c (F : List Fr) (A : Option Addr) (c L B : Nat) (w : World) (hB : B ≤ w.heap.size) (hl : frsSz F ≤ 1048576) (h : FrL w L B A F) :
    Calls Tryz.prog 42 #[.slice A F.length c] w fun e w' => ∃ v', e = .returned v' ∧ VRow w' w.heap.size v' (rootsTo F F.length) ∧ Below w.heap.size w w' := by
  obtain ⟨i0, hi, hz0, hz1, hz2⟩ := info_parts infoVl2
  have hFl : F.length ≤ 1048576 := by unfold frsSz at hl; omega
  have H := Lib.hid h
  have Hl := Lib.hid hl
  clear h hl
  go_enter Tryz.func42, Tryz.ntmps42
  go_wp2_with fail
  go_loopw [3, 8] (fun n i wr => ∃ k : Nat, k ≤ F.length ∧ i = .int .i64 k ∧ Hid (VRow wr w.heap.size n (rootsTo F k)) ∧ Below w.heap.size w wr) (fun _ i _ => F.length - (intOf i).toNat)
  case atStart => exact ⟨0, Nat.zero_le _, rfl, Lib.hid (VRow.nil _ _), Below.refl _ _⟩
  case round =>
    obtain ⟨k, hk, rfl, hrow, hbl⟩ := hrel
    have hws := hbl.size
    by_cases hlt : k < F.length
    · obtain ⟨ad, rfl, _, hbk, hat⟩ := (H.out.below (hbl.mono hB)).2 (by omega)
      obtain ⟨v0, v1, v2, v3, ⟨d0, d1, d2, d3⟩, rfl, rfl, rfl, D, dc, rfl, hV, hz⟩ := hat k hlt
      have hrl := rootsTo_le (F := F) (k := k + 1) (by omega)
      rw [rootsTo_succ hlt, List.length_append] at hrl
      have hsum : (rootsTo F k).length + F[k].regs.length ≤ 1048576 := by have := Hl.out; omega
      have Hn := Lib.hid (rootsTo_succ hlt)
      obtain ⟨fu, hfu⟩ : ∃ f, f = F[k].unit := ⟨_, rfl⟩
      obtain ⟨fp, hfp⟩ : ∃ f, f = F[k].pc := ⟨_, rfl⟩
      obtain ⟨fd, hfd⟩ : ∃ f, f = F[k].dst := ⟨_, rfl⟩
      obtain ⟨fr, hfr⟩ : ∃ f, f = F[k].regs := ⟨_, rfl⟩
      rw [← hfu] at d0
      rw [← hfp] at d1
      rw [← hfd] at d2
      rw [← hfr] at d3 hV hsum Hn
      obtain ⟨ro, hro⟩ : ∃ r, r = rootsTo F k := ⟨_, rfl⟩
      rw [← hro] at hrow hsum Hn
      clear hat hfu hfp hfd hfr hro hrl
      have hbx := (Below.refl wr.heap.size wr).alloc (Nat.le_refl _) (.cells #[.int .i64 fu, .int .i64 fp, .int .i64 fd, .slice D fr.length dc] 60)
      have HO := Lib.hid (hrow.out.alloc (.cells #[.int .i64 fu, .int .i64 fp, .int .i64 fd, .slice D fr.length dc] 60))
      have Hbl1 := Lib.hid (hbl.trans (hbx.mono hws))
      cases D with
      | none =>
        obtain rfl := hV.empty
        obtain rfl := hz rfl
        have Hn' := Lib.hid (show rootsTo F (k + 1) = ro by rw [Hn.out, List.append_nil])
        clear hV hz hbx hbl hrow hsum Hn
        go_wp2_with (at_builtin; refine wpList_append_own_none rfl (.tmp 12) (.tmp 14) 47 rfl w.heap.size 77 i0 3 Tryz.underlying47 hi _ _ _ rfl HO.out rfl ?_)
        go_roundw
        case rel => exact ⟨k + 1, by omega, by go_num, by rw [Hn'.out]; exact HO, Hbl1.out⟩
        case measure => simp [intOf]; omega
      | some a2 =>
        have Hcs := Lib.hid ((hV.below (hbx.mono (Nat.le_trans hB hws))).cells)
        have Hlen := Lib.hid (vv_len fr)
        have Hone := Lib.hid (vv_one fr)
        clear hV hz hbx hbl hrow
        go_wp2_with (at_builtin; refine wpList_append_own _ rfl (.tmp 12) (.tmp 14) 47 rfl w.heap.size 77 i0 _ 3 24 Tryz.underlying47 hi hz0 hz1 hz2 rfl (by omega) _ _ _ rfl HO.out a2 fr.length dc (vv fr) rfl Hlen.out Hcs.out Hone.out (by unfold maxLen; omega) (by omega) (by simp; omega) ?_; intro v' w4 hown' hgrow _)
        have hbn : Below w.heap.size w w4 := HO.out.grown Hbl1.out (by simp; omega) hgrow
        have Hnew := Lib.hid (VRow.app hown')
        have Hbn := Lib.hid hbn
        clear hown' hgrow hbn HO Hcs Hbl1
        go_roundw
        case rel => exact ⟨k + 1, by omega, by go_num, by rw [Hn.out]; exact Hnew, Hbn.out⟩
        case measure => simp [intOf]; omega
    · obtain rfl : k = F.length := by omega
      have Hbw := Lib.hid hbl
      clear hbl
      go_wp2
      go_ret
      exact ⟨_, rfl, hrow.out, Hbw.out⟩

set_option maxRecDepth 100000 in
set_option maxHeartbeats 4000000 in
theorem l7roots_c (m : Ma) (A0 A1 A2 A3 A4 A5 : Option Addr) (c0 c1 c2 c3 c4 c5 L B : Nat) (w : World) (hB : B ≤ w.heap.size) (hl : frsSz m.frames ≤ 1048576) (h : FrL w L B A4 m.frames) :
    Calls Tryz.prog 32 #[.agg (maV A0 A1 A2 A3 A4 A5 c0 c1 c2 c3 c4 c5 m)] w fun e w' => ∃ v', e = .returned v' ∧ VRow w' w.heap.size v' (rootsTo m.frames m.frames.length) ∧ Below w.heap.size w w' := by
  obtain ⟨co, a, F, lg, tk, st⟩ := m
  unfold maV
  dsimp only at *
  obtain ⟨i0, hi, hz0, hz1, hz2⟩ := info_parts infoVl2
  have hFl : F.length ≤ 1048576 := by unfold frsSz at hl; omega
  have hb0 : Below w.heap.size w (w.alloc (.cells #[.slice A0 co.length c0, .slice A1 a.slots.length c1, .slice A2 a.queue.length c2, .slice A3 a.purple.length c3, .slice A4 F.length c4, .slice A5 lg.length c5, .int .i64 tk, .int .i64 st] 43)) := (Below.refl _ _).alloc (Nat.le_refl _) _
  have HK := Lib.hid (Blk.new w 43 #[.slice A0 co.length c0, .slice A1 a.slots.length c1, .slice A2 a.queue.length c2, .slice A3 a.purple.length c3, .slice A4 F.length c4, .slice A5 lg.length c5, .int .i64 tk, .int .i64 st])
  have HR0 := Lib.hid (VRow.nil (w.alloc (.cells #[.slice A0 co.length c0, .slice A1 a.slots.length c1, .slice A2 a.queue.length c2, .slice A3 a.purple.length c3, .slice A4 F.length c4, .slice A5 lg.length c5, .int .i64 tk, .int .i64 st] 43)) (w.heap.size + 1))
  have Hb0 := Lib.hid hb0
  have H := Lib.hid (h.below (hb0.mono hB))
  have Hl := Lib.hid hl
  have hsz : (w.alloc (.cells #[.slice A0 co.length c0, .slice A1 a.slots.length c1, .slice A2 a.queue.length c2, .slice A3 a.purple.length c3, .slice A4 F.length c4, .slice A5 lg.length c5, .int .i64 tk, .int .i64 st] 43)).heap.size = w.heap.size + 1 := by simp
  obtain ⟨W, hW⟩ : ∃ W, W = w.alloc (.cells #[.slice A0 co.length c0, .slice A1 a.slots.length c1, .slice A2 a.queue.length c2, .slice A3 a.purple.length c3, .slice A4 F.length c4, .slice A5 lg.length c5, .int .i64 tk, .int .i64 st] 43) := ⟨_, rfl⟩
  rw [← hW] at HK HR0 Hb0 H hsz
  have HW := Lib.hid hW
  clear h hl hb0 hW
  have Hsz := Lib.hid hsz
  have hBs : B ≤ W.heap.size := by omega
  go_enter Tryz.func32, Tryz.ntmps32
  go_wp2_with fail
  rw [← HW.out]
  go_loopw [3, 4] (fun n i wr => ∃ k : Nat, k ≤ F.length ∧ i = .int .i64 k ∧ Hid (VRow wr (w.heap.size + 1) n (rootsTo F k)) ∧ Below W.heap.size W wr) (fun _ i _ => F.length - (intOf i).toNat)
  case atStart => exact ⟨0, Nat.zero_le _, rfl, HR0, Below.refl _ _⟩
  case round =>
    obtain ⟨k, hk, rfl, hrow, hbl⟩ := hrel
    have hws := hbl.size
    have KR := HK.out.below hbl HK.out.lt
    have q4 := KR.cel 4 rfl
    have HKR := Lib.hid KR
    clear KR
    by_cases hlt : k < F.length
    · obtain ⟨ad, rfl, _, hbk, hat⟩ := (H.out.below (hbl.mono hBs)).2 (by omega)
      obtain ⟨v0, v1, v2, v3, ⟨d0, d1, d2, d3⟩, rfl, rfl, rfl, D, dc, rfl, hV, hz⟩ := hat k hlt
      have hrl := rootsTo_le (F := F) (k := k + 1) (by omega)
      rw [rootsTo_succ hlt, List.length_append] at hrl
      have hsum : (rootsTo F k).length + F[k].regs.length ≤ 1048576 := by have := Hl.out; omega
      have Hn := Lib.hid (rootsTo_succ hlt)
      obtain ⟨fr, hfr⟩ : ∃ f, f = F[k].regs := ⟨_, rfl⟩
      rw [← hfr] at d3 hV hsum Hn
      obtain ⟨ro, hro⟩ : ∃ r, r = rootsTo F k := ⟨_, rfl⟩
      rw [← hro] at hrow hsum Hn
      clear hat hfr hro hrl d0 d1 d2
      have HO := hrow
      have Hbl1 := Lib.hid hbl
      cases D with
      | none =>
        obtain rfl := hV.empty
        obtain rfl := hz rfl
        have Hn' := Lib.hid (show rootsTo F (k + 1) = ro by rw [Hn.out, List.append_nil])
        clear hV hz hbl hrow hsum Hn
        go_wp2_with (at_builtin; refine wpList_append_own_none rfl (.tmp 12) (.tmp 18) 47 rfl (w.heap.size + 1) 77 i0 3 Tryz.underlying47 hi _ _ _ rfl HO.out rfl ?_)
        go_roundw
        case rel => exact ⟨k + 1, by omega, by go_num, by rw [Hn'.out]; exact HO, Hbl1.out⟩
        case measure => simp [intOf]; omega
      | some a2 =>
        have Hcs := Lib.hid hV.cells
        have Hlen := Lib.hid (vv_len fr)
        have Hone := Lib.hid (vv_one fr)
        clear hV hz hbl hrow
        go_wp2_with (at_builtin; refine wpList_append_own _ rfl (.tmp 12) (.tmp 18) 47 rfl (w.heap.size + 1) 77 i0 _ 3 24 Tryz.underlying47 hi hz0 hz1 hz2 rfl (by omega) _ _ _ rfl HO.out a2 fr.length dc (vv fr) rfl Hlen.out Hcs.out Hone.out (by unfold maxLen; omega) (by omega) (by omega) ?_; intro v' w4 hown' hgrow _)
        have hbn : Below W.heap.size W w4 := VRow.grown (by rw [Hsz.out]; exact HO.out) Hbl1.out hws hgrow
        have Hnew := Lib.hid (VRow.app hown')
        have Hbn := Lib.hid hbn
        clear hown' hgrow hbn HO Hcs Hbl1
        go_roundw
        case rel => exact ⟨k + 1, by omega, by go_num, by rw [Hn.out]; exact Hnew, Hbn.out⟩
        case measure => simp [intOf]; omega
    · obtain rfl : k = F.length := by omega
      have Hbw := Lib.hid (Hb0.out.trans (hbl.mono (by omega)))
      clear hbl
      go_wp2
      go_ret
      exact ⟨_, rfl, VRow.low hrow.out (by omega), Hbw.out⟩
end Go.Proofs.YtddjcjjnpidhiaaGreatDoor

namespace Go.Proofs.YtddjcjjnpidhiaaGreatDoor
open Go.RowKit
set_option linter.unusedVariables false

/-- a frame, with so many registers ahead of it -/
def frOk (C : List Un) (ah : Int) (f : Fr) : Bool :=
  decide (0 ≤ f.unit) && decide (f.unit < (C.length : Int)) && decide (0 ≤ f.pc) && decide (f.pc < ((C.getD f.unit.toNat ⟨0, 0, []⟩).l.length : Int)) &&
  decide ((f.regs.length : Int) = (C.getD f.unit.toNat ⟨0, 0, []⟩).regs) && decide (0 ≤ f.dst) && decide (f.dst < ah)
def ahead (F : List Fr) (k : Nat) : Int := if k = 0 then 1 else ((F.getD (k - 1) ⟨0, 0, 0, []⟩).regs.length : Int)
theorem ahead_zero (F : List Fr) : ahead F 0 = 1 := rfl
theorem ahead_succ {F : List Fr} {k : Nat} (h : k < F.length) : ahead F (k + 1) = (F[k].regs.length : Int) := by
  unfold ahead
  rw [if_neg (by omega), Nat.add_sub_cancel, List.getD_eq_getElem?_getD, List.getElem?_eq_getElem h]
  rfl
def frsOk (C : List Un) (F : List Fr) : Bool := (List.range F.length).all fun k => frOk C (ahead F k) (F.getD k ⟨0, 0, 0, []⟩)
theorem getD_at {α : Type} {l : List α} {k : Nat} (h : k < l.length) (d : α) : l.getD k d = l[k] := by rw [List.getD_eq_getElem?_getD, List.getElem?_eq_getElem h]; rfl
theorem frsOk_no {C : List Un} {F : List Fr} {k : Nat} (h : k < F.length) (hn : frOk C (ahead F k) F[k] = false) : frsOk C F = false := by
  apply Bool.eq_false_iff.2
  intro e
  rw [frsOk, List.all_eq_true] at e
  have := e k (List.mem_range.2 h)
  rw [getD_at h, hn] at this
  cases this
theorem frsOk_yes {C : List Un} {F : List Fr} (h : ∀ k (hk : k < F.length), frOk C (ahead F k) F[k] = true) : frsOk C F = true := by
  rw [frsOk, List.all_eq_true]
  intro k hk
  have hk' := List.mem_range.1 hk
  rw [getD_at hk']
  exact h k hk'
theorem frsOk_at {C : List Un} {F : List Fr} (h : frsOk C F = true) {k : Nat} (hk : k < F.length) : frOk C (ahead F k) F[k] = true := by
  rw [frsOk, List.all_eq_true] at h
  have := h k (List.mem_range.2 hk)
  rwa [getD_at hk] at this
/-- frames, their number, and the state -/
def framesOk (C : List Un) (F : List Fr) (st : Int) : Bool := decide ((F.length : Int) ≤ 13) && (decide (F.length = 0) || decide (st = 0)) && frsOk C F
end Go.Proofs.YtddjcjjnpidhiaaGreatDoor
