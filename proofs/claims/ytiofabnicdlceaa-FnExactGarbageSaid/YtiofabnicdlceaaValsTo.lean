/-
  Rows of values: the laws' own size, copy, likeness.
-/
import Derived.Test.YtiofabnicdlceaaVals
import Derived.Test.YtiofabnicdlceaaCode
import Derived.Test.YtiofabnicdlceaaArnMarkD
namespace Go.Proofs.Ytiofabnicdlceaa
open Go.RowKit
set_option linter.unusedVariables false

theorem infoVl2 : (Try.prog.info? 60).map (fun i => (i.zero, i.size, i.bytes)) = some (some (.agg #[.int .i64 0, .int .i64 0, .int .i64 0]), 3, 24) := by kernel_rfl
def VlV (v0 v1 v2 : Value) (x : Vl) : Prop := v0 = .int .i64 x.k ∧ v1 = .int .i64 x.n ∧ v2 = .int .i64 x.g
def VlR (w : World) (L B : Nat) (A : Option Addr) (l : List Vl) : Prop := Row3 VlV w L B A l
theorem VlR.keep {w w' : World} {L B : Nat} {A : Option Addr} {l : List Vl} (h : VlR w L B A l) (hk : ∀ p : Addr, L ≤ p.block → p.block < B → w'.cell? p = w.cell? p) : VlR w' L B A l := Row3.keep h hk fun _ _ _ _ hv => hv
theorem VlR.more {w : World} {L B L' B' : Nat} {A : Option Addr} {l : List Vl} (h : VlR w L B A l) (hL : L' ≤ L) (hB : B ≤ B') : VlR w L' B' A l := Row3.more h hL hB fun _ _ _ _ hv => hv
theorem VlR.below {w w' : World} {L B : Nat} {A : Option Addr} {l : List Vl} (h : VlR w L B A l) (hb : Below B w w') : VlR w' L B A l := h.keep fun _ _ hp => hb.cell hp
theorem VlR.vl {w : World} {L B : Nat} {A : Option Addr} {l : List Vl} (h : VlR w L B A l) : VlL w L B A l :=
  ⟨h.1, fun hn => by
    obtain ⟨ad, e, h1, h2, h3⟩ := h.2 hn
    refine ⟨ad, e, h1, h2, fun k hk => ?_⟩
    obtain ⟨v0, v1, v2, ⟨c0, c1, c2⟩, rfl, rfl, rfl⟩ := h3 k hk
    exact ⟨c0, c1, c2⟩⟩

set_option maxHeartbeats 400000 in
theorem szValS_c (A : Option Addr) (n c : Nat) (left : Int) (w : World) (hn : n ≤ 9223372036854775807) (h0 : 0 ≤ left) (h1 : left ≤ 1048576) :
    Calls Try.prog 9 #[.slice A n c, .int .i64 left] w fun e w' => e = .returned (.int .i64 (lft left n)) ∧ w = w' := by
  rcases lft_cases left n with ⟨hlt, he⟩ | ⟨hge, he⟩
  all_goals
    rw [he]
    clear he
    go_enter Try.func9, Try.ntmps9
    go_wp2
    go_ret
    exact ⟨rfl, rfl⟩

set_option maxHeartbeats 2000000 in
theorem toValS_n (l : List Vl) (A : Option Addr) (c L B : Nat) (w : World) (hB : B ≤ w.heap.size) (hlen : l.length ≤ 1048576) (h : VlR w L B A l) :
    Calls Try.prog 12 #[.slice A l.length c] w fun r w' => ∃ g, r = .returned (.slice (some ⟨g, 0, none⟩) l.length l.length) ∧ g < w'.heap.size ∧ w.heap.size ≤ g ∧ VlR w' w.heap.size w'.heap.size (some ⟨g, 0, none⟩) l ∧ Below w.heap.size w w' ∧ ArnN.New w.heap.size w' := by
  obtain ⟨i0, hi, hz0, hz1, hz2⟩ := info_parts infoVl2
  have hmk : ∀ u : World, (Instr.makeSlice 34 (.int .i64 (l.length : Int)) (.int .i64 (l.length : Int))).run Try.prog u =
      .ok (.slice (some ⟨u.heap.size, 0, none⟩) l.length l.length) (u.alloc (.cells (madeCells #[.int .i64 0, .int .i64 0, .int .i64 0] (l.length * 3)) 60)) := fun u => by
    have h := run_make (P := Try.prog) u 34 60 i0 (.agg #[.int .i64 0, .int .i64 0, .int .i64 0]) Try.underlying34 hi hz0 .i64 .i64 (l.length : Int) (l.length : Int) (by omega) (Int.le_refl _) (by rw [hz2]; omega) (by omega)
    rw [Int.toNat_natCast] at h
    simpa [hz1, Value.cells] using h
  clear hi hz0 hz1 hz2
  go_enter Try.func12, Try.ntmps12
  go_wp2
  go_loopw [4] (fun i wr => ∃ (k : Nat) (cs : Array Value), k ≤ l.length ∧ i = .int .i64 k ∧ cs.size = l.length * 3 ∧ Blk wr w.heap.size 60 cs ∧ RowP3 (VlV) cs l k ∧ Below w.heap.size w wr ∧ ArnN.New w.heap.size wr) (fun i _ => l.length - (intOf i).toNat)
  case atStart => exact ⟨0, _, Nat.zero_le _, rfl, by simp [madeCells], Blk.new _ _ _, fun i _ hk => by omega, (Below.refl _ _).alloc (Nat.le_refl _) _, (ArnN.New.refl w).alloc _ _⟩
  case round =>
    obtain ⟨k, cs, hk, rfl, hcs, hblk, hown, hbl, hnw⟩ := hrel
    have Hcs := Lib.hid hcs
    have Hown := Lib.hid hown
    clear hcs hown
    by_cases hlt : k < l.length
    · obtain ⟨ad, rfl, _, hb, hat⟩ := (h.below (hbl.mono hB)).2 (by omega)
      obtain ⟨v0, v1, v2, ⟨c0, c1, c2⟩, hv⟩ := hat k hlt
      obtain ⟨rfl, rfl, rfl⟩ := hv
      have hc := ArnN.toVal_n l[k].k l[k].n l[k].g wr
      have Hc := Lib.hid hc
      clear hc hat
      go_wp2_with fail
      refine Hc.out.mono ?_
      rintro e w1 ⟨rfl, hb1, hn1⟩
      have hnw1 := hnw.join hb1 hn1
      have hu : VlV (.int .i64 l[k].k) (.int .i64 l[k].n) (.int .i64 l[k].g) l[k] := ⟨rfl, rfl, rfl⟩
      have hblk1 := hblk.below hb1 hblk.lt
      have hsz := Hcs.out
      obtain ⟨x0, e0⟩ : ∃ v, cs[k * 3]? = some v := ⟨_, Array.getElem?_eq_getElem (by omega)⟩
      obtain ⟨x1, e1⟩ : ∃ v, cs[k * 3 + 1]? = some v := ⟨_, Array.getElem?_eq_getElem (by omega)⟩
      obtain ⟨x2, e2⟩ : ∃ v, cs[k * 3 + 2]? = some v := ⟨_, Array.getElem?_eq_getElem (by omega)⟩
      have q0 : w1.cell? ⟨w.heap.size, k * 3, none⟩ = some x0 := by rw [hblk1.cell]; exact e0
      have q1 : w1.cell? ⟨w.heap.size, k * 3 + 1, none⟩ = some x1 := by rw [hblk1.cell]; exact e1
      have q2 : w1.cell? ⟨w.heap.size, k * 3 + 2, none⟩ = some x2 := by rw [hblk1.cell]; exact e2
      have z0 : w1.frozen? ⟨w.heap.size, k * 3, none⟩ = false := hblk1.frozen _
      have z1 : w1.frozen? ⟨w.heap.size, k * 3 + 1, none⟩ = false := hblk1.frozen _
      have z2 : w1.frozen? ⟨w.heap.size, k * 3 + 2, none⟩ = false := hblk1.frozen _
      have hlt1 := hblk.lt
      have hbl1 := hbl.trans (hb1.mono hbl.size)
      have hfin2 := Hown.out.step hlt (by omega) hu
      have Hfin := Lib.hid hfin2
      clear hsz e0 e1 e2 hfin2 hu
      go_wp2
      go_roundw
      case rel =>
        exact ⟨k + 1, _, by omega, by go_num, by rw [pt3_size]; exact Hcs.out, hblk1.pt3 (k * 3) _ _ _ , Hfin.out, ((hbl1.setCell (by simp) _).setCell (by simp) _).setCell (by simp) _, (((hnw1.set_ _ _).set_ _ _).set_ _ _)⟩
      case measure => simp [intOf]; omega
    · go_wp2
      go_ret
      have : k = l.length := by omega
      subst this
      exact ⟨_, rfl, hblk.lt, Nat.le_refl _, Hown.out.row (by unfold maxLen; omega) hblk (Nat.le_refl _) , hbl, hnw⟩

set_option maxRecDepth 100000 in
set_option maxHeartbeats 1000000 in
theorem eqValS_c (l : List Vl) (A A' : Option Addr) (c c' L B L' B' : Nat) (w : World) (hB : B ≤ w.heap.size) (hB' : B' ≤ w.heap.size) (hlen : l.length ≤ 1048576) (h : VlR w L B A l) (h' : VlR w L' B' A' l) :
    Calls Try.prog 16 #[.slice A l.length c, .slice A' l.length c'] w fun r w' => r = .returned (.bool true) ∧ Below w.heap.size w w' := by
  go_enter Try.func16, Try.ntmps16
  go_wp2
  go_loopw [5] (fun i wr => ∃ (k : Nat), k ≤ l.length ∧ i = .int .i64 k ∧ Below w.heap.size w wr) (fun i _ => l.length - (intOf i).toNat)
  case atStart => exact ⟨0, Nat.zero_le _, rfl, Below.refl _ _⟩
  case round =>
    obtain ⟨k, hk, rfl, hbl⟩ := hrel
    by_cases hlt : k < l.length
    · obtain ⟨ad, rfl, _, hb, hat⟩ := (h.below (hbl.mono hB)).2 (by omega)
      obtain ⟨v0, v1, v2, ⟨c0, c1, c2⟩, rfl, rfl, rfl⟩ := hat k hlt
      obtain ⟨ad', rfl, _, hb', hat'⟩ := (h'.below (hbl.mono hB')).2 (by omega)
      obtain ⟨u0, u1, u2, ⟨d0, d1, d2⟩, rfl, rfl, rfl⟩ := hat' k hlt
      have hc := eqVal_c l[k].k l[k].n l[k].g wr.drew
      have Hc := Lib.hid hc
      clear hc hat hat'
      go_wp2
      go_still_tail 8, (by kernel_rfl)
      change wpList _ _ _ _ _ wr.drew
      go_wp2_with fail
      refine Hc.out.mono ?_
      rintro e w1 ⟨rfl, hb1⟩
      go_wp2
      go_roundw
      case rel => exact ⟨k + 1, by omega, by go_num, hbl.drew.trans (hb1.mono hbl.size)⟩
      case measure => simp [intOf]; omega
    · go_wp2
      go_ret
      exact ⟨rfl, hbl⟩

end Go.Proofs.Ytiofabnicdlceaa
