/-
  The laws' own copies of functions and programs: all their blocks are new ones.
-/
import Derived.Test.YtmejbmfopdfbjaaFnAll
import Derived.Test.YtmejbmfopdfbjaaNewSt
namespace Go.Proofs.Ytmejbmfopdfbjaa
open Go.RowKit
set_option linter.unusedVariables false

set_option maxHeartbeats 2000000 in
theorem toByteSS_n (l : List (List UInt8)) (A : Option Addr) (c L B : Nat) (w : World) (hB : B ≤ w.heap.size) (hl : bsSz l ≤ 1048576) (h : BsL w L B A l) :
    Calls Try.prog 34 #[.slice A l.length c] w fun r w' => ∃ g, r = .returned (.slice (some ⟨g, 0, none⟩) l.length l.length) ∧ g < w'.heap.size ∧ w.heap.size ≤ g ∧ BsL w' w.heap.size w'.heap.size (some ⟨g, 0, none⟩) l ∧ Below w.heap.size w w' ∧ New w.heap.size w' := by
  have hlen : l.length ≤ bsSz l := by unfold bsSz; omega
  have hmk := run_make_row' (P := Try.prog) 23 22 (.slice none 0 0) 24 Try.underlying23 infoBs rfl .i64 .i64 l.length (by omega) (by omega)
  go_enter Try.func34, Try.ntmps34
  go_wp2
  go_loopw [4] (fun i wr => ∃ (k : Nat) (cs : Array Value), k ≤ l.length ∧ i = .int .i64 k ∧ cs.size = l.length ∧ Blk wr w.heap.size 22 cs ∧ BsP wr (w.heap.size + 1) cs l k ∧ Below w.heap.size w wr ∧ New w.heap.size wr) (fun i _ => l.length - (intOf i).toNat)
  case atStart => exact ⟨0, _, Nat.zero_le _, rfl, by simp [madeCells], Blk.new _ _ _, fun i _ hk => by omega, (Below.refl _ _).alloc (Nat.le_refl _) _, (New.refl w).alloc _ _⟩
  case round =>
    obtain ⟨k, cs, hk, rfl, hcs, hblk, hown, hbl, hnw⟩ := hrel
    have Hcs := Lib.hid hcs
    clear hcs
    by_cases hlt : k < l.length
    · obtain ⟨ad, rfl, _, hb, hat⟩ := (h.below (hbl.mono hB)).2 (by omega)
      obtain ⟨A', c', c0, hR, hm⟩ := hat k hlt
      have hsz1 := bsSz_get hlt
      clear hat
      go_wp2_with fail
      refine (toByteS_n l[k] A' c' B wr (by omega) (Nat.le_trans hB hbl.size) hR.1).mono ?_
      rintro e w1 ⟨g1, rfl, hB1, hg1, hs1, hb1, hn1⟩
      have hblk1 := hblk.below hb1 hblk.lt
      have hsz := Hcs.out
      obtain ⟨o0, e0⟩ : ∃ v, cs[k]? = some v := ⟨_, Array.getElem?_eq_getElem (by omega)⟩
      have q0 : w1.cell? ⟨w.heap.size, k, none⟩ = some o0 := by rw [hblk1.cell]; exact e0
      have z0 : w1.frozen? ⟨w.heap.size, k, none⟩ = false := hblk1.frozen _
      have hlt1 := hblk.lt
      have hbl1 := hbl.trans (hb1.mono hbl.size)
      have hnw1 := hnw.join hb1 hn1
      have hfin := (hown.keep hb1).step (c := l[k].length) hlt (by omega) (A := some ⟨g1, 0, none⟩) ⟨RB.of_blk hB1 hs1, fun _ => ⟨_, rfl, by show w.heap.size + 1 ≤ g1; omega⟩⟩ hm
      have Hfin := Lib.hid hfin
      clear hsz e0 hfin
      go_wp2
      go_roundw
      case rel => exact ⟨k + 1, _, by omega, by go_num, by simpa using Hcs.out, hblk1.set_ k _, Hfin.out.low (by simp) _, hbl1.setCell (by simp) _, hnw1.set_ _ _⟩
      case measure => simp [intOf]; omega
    · go_wp2
      go_ret
      have : k = l.length := by omega
      subst this
      exact ⟨_, rfl, hblk.lt, Nat.le_refl _, hown.bsl (by unfold maxLen; omega) hblk (by omega), hbl, hnw⟩


def ToFnN (f : Fn) : Prop := ∀ (v0 v1 v2 : Value) (w : World) (L B : Nat), FnV w L B v0 v1 v2 f → B ≤ w.heap.size → fnSz f ≤ 1048576 →
  Calls Try.prog 8 #[.agg #[v0, v1, v2]] w fun r w' => ∃ u0 u1 u2, r = .returned (.agg #[u0, u1, u2]) ∧ FnV w' w.heap.size w'.heap.size u0 u1 u2 f ∧ Below w.heap.size w w' ∧ New w.heap.size w'

set_option maxRecDepth 100000 in
set_option maxHeartbeats 4000000 in
theorem toFunc_n (f : Fn) : ToFnN f := by
  intro v0 v1 v2 w L B hv hB hsz
  obtain ⟨A, c, A1, c1, A2, c2, rfl, rfl, rfl, hR, hm, hp, hbd, hcp⟩ := hv
  have hpl := hp.1
  unfold fnSz at hsz
  have hbw0 : Below w.heap.size w (((w.alloc (.cells #[.slice A f.name.length c, .slice A1 f.params.length c1, .slice A2 f.body.length c2] 26)).alloc (.cells #[.slice none 0 0, .slice none 0 0, .slice none 0 0] 31)).alloc (.cells #[.slice none 0 0, .slice none 0 0, .slice none 0 0] 31)) := (((Below.refl _ _).alloc (Nat.le_refl _) _).alloc (by simp) _).alloc (by simp; omega) _
  have hR0 := (hR.below (hbw0.mono hB)).1
  have hp0 := hp.below (hbw0.mono hB)
  have hb0 := hbd.below (hbw0.mono hB)
  clear hR hp hbd
  go_enter Try.func8, Try.ntmps8
  go_wp2_with fail
  refine (toByteS_n f.name A c B _ (by omega) (by simp; omega) hR0).mono ?_
  rintro e' w1 ⟨g1, rfl, hG1, hg1, hlt1, hb1, hn1⟩
  have K2 : Blk w1 (w.heap.size + 1 + 1) 31 #[.slice none 0 0, .slice none 0 0, .slice none 0 0] := Blk.below (by have := Blk.new ((w.alloc (.cells #[.slice A f.name.length c, .slice A1 f.params.length c1, .slice A2 f.body.length c2] 26)).alloc (.cells #[.slice none 0 0, .slice none 0 0, .slice none 0 0] 31)) 31 #[.slice none 0 0, .slice none 0 0, .slice none 0 0]; simpa using this) hb1 (by simp)
  have K1 : Blk w1 (w.heap.size + 1) 31 #[.slice none 0 0, .slice none 0 0, .slice none 0 0] := Blk.below ((by have := Blk.new (w.alloc (.cells #[.slice A f.name.length c, .slice A1 f.params.length c1, .slice A2 f.body.length c2] 26)) 31 #[.slice none 0 0, .slice none 0 0, .slice none 0 0]; simpa using this : Blk ((w.alloc (.cells #[.slice A f.name.length c, .slice A1 f.params.length c1, .slice A2 f.body.length c2] 26)).alloc (.cells #[.slice none 0 0, .slice none 0 0, .slice none 0 0] 31)) (w.heap.size + 1) 31 _).alloc _) hb1 (by simp)
  have K0 : Blk w1 w.heap.size 26 #[.slice A f.name.length c, .slice A1 f.params.length c1, .slice A2 f.body.length c2] := Blk.below (((Blk.new w 26 _).alloc _).alloc _) hb1 (by simp; omega)
  have hg1' : w.heap.size + 1 + 1 + 1 ≤ g1 := by simpa using hg1
  have hbw1 : Below w.heap.size w w1 := hbw0.trans (hb1.mono (by simp; omega))
  have hnw1 := ((((New.refl w).alloc #[.slice A f.name.length c, .slice A1 f.params.length c1, .slice A2 f.body.length c2] 26).alloc #[.slice none 0 0, .slice none 0 0, .slice none 0 0] 31).alloc #[.slice none 0 0, .slice none 0 0, .slice none 0 0] 31).join hb1 hn1
  have hp1 := hp0.below (hb1.mono (by simp; omega))
  have hb11 := hb0.below (hb1.mono (by simp; omega))
  have hz1 : w.heap.size + 1 + 1 + 1 ≤ w1.heap.size := by omega
  have n0 := K2.cell_of 0 rfl
  have z0 : w1.frozen? ⟨w.heap.size + 1 + 1, 0, none⟩ = false := K2.frozen 0
  have a1 := K0.cell_of 1 rfl
  have hRn1 : RBL w1 (w.heap.size + 1 + 1 + 1) w1.heap.size (some ⟨g1, 0, none⟩) f.name := ⟨RB.of_blk hG1 hlt1, fun _ => ⟨_, rfl, by show _ ≤ g1; omega⟩⟩
  clear hb1 hg1 hR0 hp0 hb0 hbw0 hG1
  go_wp2_with fail
  refine (toByteSS_n f.params A1 c1 L B (w1.setCell ⟨w.heap.size + 1 + 1, 0, none⟩ (.slice (some ⟨g1, 0, none⟩) f.name.length f.name.length)) (by simp; omega) (by omega) (hp1.keep fun p _ hp => World.cell?_setCell_other w1 _ p _ (fun e => by subst e; simp at hp; omega))).mono ?_
  rintro e' w2 ⟨g2, rfl, hg2, hg2', hx2, hb2, hn2⟩
  have hnw2 := (hnw1.set_ ⟨w.heap.size + 1 + 1, 0, none⟩ (.slice (some ⟨g1, 0, none⟩) f.name.length f.name.length)).join hb2 hn2
  rw [World.size_setCell] at hx2 hg2' hb2
  have hz2 : w1.heap.size ≤ w2.heap.size := by have := hb2.size; simpa using this
  have K02 := (K0.far (p := ⟨w.heap.size + 1 + 1, 0, none⟩) (by simp; omega) (.slice (some ⟨g1, 0, none⟩) f.name.length f.name.length)).below hb2 (by have := K0.lt; omega)
  have K12 := (K1.far (p := ⟨w.heap.size + 1 + 1, 0, none⟩) (by simp) (.slice (some ⟨g1, 0, none⟩) f.name.length f.name.length)).below hb2 (by have := K1.lt; omega)
  have K22 : Blk w2 (w.heap.size + 1 + 1) 31 #[.slice (some ⟨g1, 0, none⟩) f.name.length f.name.length, .slice none 0 0, .slice none 0 0] := (K2.set_ 0 (.slice (some ⟨g1, 0, none⟩) f.name.length f.name.length)).below hb2 (by have := K2.lt; omega)
  have hbw2 : Below w.heap.size w w2 := (hbw1.setCell (p := ⟨w.heap.size + 1 + 1, 0, none⟩) (by simp; omega) (.slice (some ⟨g1, 0, none⟩) f.name.length f.name.length)).trans (hb2.mono hbw1.size)
  have hRn2 := ((hRn1.low (p := ⟨w.heap.size + 1 + 1, 0, none⟩) (by simp) (.slice (some ⟨g1, 0, none⟩) f.name.length f.name.length)).below hb2).more (Nat.le_refl _) hz2
  have hb12 := (hb11.keep (w' := w1.setCell ⟨w.heap.size + 1 + 1, 0, none⟩ (.slice (some ⟨g1, 0, none⟩) f.name.length f.name.length)) fun p _ hp => World.cell?_setCell_other w1 _ p _ (fun e => by subst e; simp at hp; omega)).below (hb2.mono (by omega))
  have hP2 := hx2.more hz1 (Nat.le_refl _)
  have n1 := K22.cell_of 1 rfl
  have z1 : w2.frozen? ⟨w.heap.size + 1 + 1, 1, none⟩ = false := K22.frozen 1
  have a2 := K02.cell_of 2 rfl
  clear hb2 n0 z0 a1 K0 K1 K2 hRn1 hp1 hb11 hx2 K02
  go_wp2_with fail
  refine (toStS_n f.body (fun s _ => toSt_n s) A2 c2 L B (w2.setCell ⟨w.heap.size + 1 + 1, 1, none⟩ (.slice (some ⟨g2, 0, none⟩) f.params.length f.params.length)) (by simp; omega) (by omega) (hb12.keep fun p _ hp => World.cell?_setCell_other w2 _ p _ (fun e => by subst e; simp at hp; omega))).mono ?_
  rintro e' w3 ⟨g3, rfl, hg3, hg3', hx3, hb3, hn3⟩
  have hnw3 := (hnw2.set_ ⟨w.heap.size + 1 + 1, 1, none⟩ (.slice (some ⟨g2, 0, none⟩) f.params.length f.params.length)).join hb3 hn3
  rw [World.size_setCell] at hx3 hg3' hb3
  have hz3 : w2.heap.size ≤ w3.heap.size := by have := hb3.size; simpa using this
  have K13 := (K12.far (p := ⟨w.heap.size + 1 + 1, 1, none⟩) (by simp) (.slice (some ⟨g2, 0, none⟩) f.params.length f.params.length)).below hb3 (by have := K12.lt; omega)
  have K23 : Blk w3 (w.heap.size + 1 + 1) 31 #[.slice (some ⟨g1, 0, none⟩) f.name.length f.name.length, .slice (some ⟨g2, 0, none⟩) f.params.length f.params.length, .slice none 0 0] := (K22.set_ 1 (.slice (some ⟨g2, 0, none⟩) f.params.length f.params.length)).below hb3 (by have := K22.lt; omega)
  have hbw3 : Below w.heap.size w w3 := (hbw2.setCell (p := ⟨w.heap.size + 1 + 1, 1, none⟩) (by simp; omega) (.slice (some ⟨g2, 0, none⟩) f.params.length f.params.length)).trans (hb3.mono hbw2.size)
  have hRn3 := ((hRn2.low (p := ⟨w.heap.size + 1 + 1, 1, none⟩) (by simp) (.slice (some ⟨g2, 0, none⟩) f.params.length f.params.length)).below hb3).more (Nat.le_refl _) hz3
  have hP3 := ((hP2.keep (w' := w2.setCell ⟨w.heap.size + 1 + 1, 1, none⟩ (.slice (some ⟨g2, 0, none⟩) f.params.length f.params.length)) fun p hp _ => World.cell?_setCell_other w2 _ p _ (fun e => by subst e; simp at hp; omega)).below hb3).more (Nat.le_refl _) hz3
  have hS3 := hx3.more (Nat.le_trans hz1 hz2) (Nat.le_refl _)
  have n0 := K23.cell_of 0 rfl
  have n1' := K23.cell_of 1 rfl
  have n2 := K23.cell_of 2 rfl
  have z2 : w3.frozen? ⟨w.heap.size + 1 + 1, 2, none⟩ = false := K23.frozen 2
  have m0 := K13.cell_of 0 rfl
  have m1 := K13.cell_of 1 rfl
  have m2 := K13.cell_of 2 rfl
  have y0 : w3.frozen? ⟨w.heap.size + 1, 0, none⟩ = false := K13.frozen 0
  have y1 : w3.frozen? ⟨w.heap.size + 1, 1, none⟩ = false := K13.frozen 1
  have y2 : w3.frozen? ⟨w.heap.size + 1, 2, none⟩ = false := K13.frozen 2
  clear hb3 n1 z1 a2 K12 K22 hRn2 hP2 hb12 hx3
  go_wp2_with fail
  refine bodyPost_ret (v := .agg #[.slice (some ⟨g1, 0, none⟩) f.name.length f.name.length, .slice (some ⟨g2, 0, none⟩) f.params.length f.params.length, .slice (some ⟨g3, 0, none⟩) f.body.length f.body.length]) (by simp [results, Try.results8, go_sem, m0, m1, m2]) rfl ?_
  have hL0 := hbw3.size
  have k1 : ∀ p : Addr, w.heap.size + 1 + 1 + 1 ≤ p.block → p.block < w3.heap.size → (setL (setL w3 (w.heap.size + 1 + 1) 2 [.slice (some ⟨g3, 0, none⟩) f.body.length f.body.length]) (w.heap.size + 1) 0 [.slice (some ⟨g1, 0, none⟩) f.name.length f.name.length, .slice (some ⟨g2, 0, none⟩) f.params.length f.params.length, .slice (some ⟨g3, 0, none⟩) f.body.length f.body.length]).cell? p = w3.cell? p := by
    intro p h1 h2
    have n1 : p.block ≠ w.heap.size + 1 := by omega
    have n2 : p.block ≠ w.heap.size + 1 + 1 := by omega
    rw [setL_cell n1, setL_cell n2]
  have hbf0 : Below w.heap.size w (setL w3 (w.heap.size + 1 + 1) 2 [.slice (some ⟨g3, 0, none⟩) f.body.length f.body.length]) := setL_below _ 2 hbw3 (by omega)
  have hbf : Below w.heap.size w (setL (setL w3 (w.heap.size + 1 + 1) 2 [.slice (some ⟨g3, 0, none⟩) f.body.length f.body.length]) (w.heap.size + 1) 0 [.slice (some ⟨g1, 0, none⟩) f.name.length f.name.length, .slice (some ⟨g2, 0, none⟩) f.params.length f.params.length, .slice (some ⟨g3, 0, none⟩) f.body.length f.body.length]) := setL_below _ 0 hbf0 (by omega)
  have hfs : (setL (setL w3 (w.heap.size + 1 + 1) 2 [.slice (some ⟨g3, 0, none⟩) f.body.length f.body.length]) (w.heap.size + 1) 0 [.slice (some ⟨g1, 0, none⟩) f.name.length f.name.length, .slice (some ⟨g2, 0, none⟩) f.params.length f.params.length, .slice (some ⟨g3, 0, none⟩) f.body.length f.body.length]).heap.size = w3.heap.size := by rw [setL_size, setL_size]
  have hnf := New.setL_ (w.heap.size + 1) 0 [.slice (some ⟨g1, 0, none⟩) f.name.length f.name.length, .slice (some ⟨g2, 0, none⟩) f.params.length f.params.length, .slice (some ⟨g3, 0, none⟩) f.body.length f.body.length] (New.setL_ (w.heap.size + 1 + 1) 2 [.slice (some ⟨g3, 0, none⟩) f.body.length f.body.length] hnw3)
  have hgo : ∃ u0 u1 u2 : Value, Ending.returned (.agg #[.slice (some ⟨g1, 0, none⟩) f.name.length f.name.length, .slice (some ⟨g2, 0, none⟩) f.params.length f.params.length, .slice (some ⟨g3, 0, none⟩) f.body.length f.body.length]) = Ending.returned (.agg #[u0, u1, u2]) ∧ FnV (setL (setL w3 (w.heap.size + 1 + 1) 2 [.slice (some ⟨g3, 0, none⟩) f.body.length f.body.length]) (w.heap.size + 1) 0 [.slice (some ⟨g1, 0, none⟩) f.name.length f.name.length, .slice (some ⟨g2, 0, none⟩) f.params.length f.params.length, .slice (some ⟨g3, 0, none⟩) f.body.length f.body.length]) w.heap.size (setL (setL w3 (w.heap.size + 1 + 1) 2 [.slice (some ⟨g3, 0, none⟩) f.body.length f.body.length]) (w.heap.size + 1) 0 [.slice (some ⟨g1, 0, none⟩) f.name.length f.name.length, .slice (some ⟨g2, 0, none⟩) f.params.length f.params.length, .slice (some ⟨g3, 0, none⟩) f.body.length f.body.length]).heap.size u0 u1 u2 f ∧ Below w.heap.size w (setL (setL w3 (w.heap.size + 1 + 1) 2 [.slice (some ⟨g3, 0, none⟩) f.body.length f.body.length]) (w.heap.size + 1) 0 [.slice (some ⟨g1, 0, none⟩) f.name.length f.name.length, .slice (some ⟨g2, 0, none⟩) f.params.length f.params.length, .slice (some ⟨g3, 0, none⟩) f.body.length f.body.length]) ∧ New w.heap.size (setL (setL w3 (w.heap.size + 1 + 1) 2 [.slice (some ⟨g3, 0, none⟩) f.body.length f.body.length]) (w.heap.size + 1) 0 [.slice (some ⟨g1, 0, none⟩) f.name.length f.name.length, .slice (some ⟨g2, 0, none⟩) f.params.length f.params.length, .slice (some ⟨g3, 0, none⟩) f.body.length f.body.length]) := by
    rw [hfs]
    clear hfs
    exact ⟨_, _, _, rfl, ⟨_, _, _, _, _, _, rfl, rfl, rfl, (hRn3.keep k1).more (by omega) (Nat.le_refl _), hm, (hP3.keep k1).more (by omega) (Nat.le_refl _), (hS3.keep k1).more (by omega) (Nat.le_refl _), Nat.le_refl _, hpl⟩, hbf, hnf⟩
  exact hgo
set_option maxHeartbeats 4000000 in
theorem toFuncS_n (l : List Fn) (A : Option Addr) (c L B : Nat) (w : World) (hB : B ≤ w.heap.size) (hl : fnsSz l ≤ 1048576) (h : FnL w L B A l) :
    Calls Try.prog 47 #[.slice A l.length c] w fun r w' => ∃ g, r = .returned (.slice (some ⟨g, 0, none⟩) l.length l.length) ∧ g < w'.heap.size ∧ w.heap.size ≤ g ∧ FnL w' w.heap.size w'.heap.size (some ⟨g, 0, none⟩) l ∧ Below w.heap.size w w' ∧ New w.heap.size w' := by
  obtain ⟨i0, hi, hz0, hz1, hz2⟩ := info_parts infoFn
  have hlen : l.length ≤ fnsSz l := by unfold fnsSz; omega
  have hmk : ∀ u : World, (Instr.makeSlice 52 (.int .i64 (l.length : Int)) (.int .i64 (l.length : Int))).run Try.prog u =
      .ok (.slice (some ⟨u.heap.size, 0, none⟩) l.length l.length) (u.alloc (.cells (madeCells #[.slice none 0 0, .slice none 0 0, .slice none 0 0] (l.length * 3)) 31)) := fun u => by
    have h := run_make (P := Try.prog) u 52 31 i0 (.agg #[.slice none 0 0, .slice none 0 0, .slice none 0 0]) Try.underlying52 hi hz0 .i64 .i64 (l.length : Int) (l.length : Int) (by omega) (Int.le_refl _) (by rw [hz2]; omega) (by omega)
    rw [Int.toNat_natCast] at h
    simpa [hz1, Value.cells] using h
  clear hi hz0 hz1 hz2
  go_enter Try.func47, Try.ntmps47
  go_wp2
  go_loopw [4] (fun i wr => ∃ (k : Nat) (cs : Array Value), k ≤ l.length ∧ i = .int .i64 k ∧ cs.size = l.length * 3 ∧ Blk wr w.heap.size 31 cs ∧ FnsP wr (w.heap.size + 1) cs l k ∧ Below w.heap.size w wr ∧ New w.heap.size wr) (fun i _ => l.length - (intOf i).toNat)
  case atStart => exact ⟨0, _, Nat.zero_le _, rfl, by simp [madeCells], Blk.new _ _ _, fun i _ hk => by omega, (Below.refl _ _).alloc (Nat.le_refl _) _, (New.refl w).alloc _ _⟩
  case round =>
    obtain ⟨k, cs, hk, rfl, hcs, hblk, hown, hbl, hnw⟩ := hrel
    have Hcs := Lib.hid hcs
    clear hcs
    by_cases hlt : k < l.length
    · obtain ⟨ad, rfl, _, hb, hat⟩ := (h.below (hbl.mono hB)).2 (by omega)
      obtain ⟨v0, v1, v2, ⟨c0, c1, c2⟩, hv⟩ := hat k hlt
      have hsz1 := fnsSz_get hlt
      have hc := toFunc_n l[k] v0 v1 v2 wr L B hv (Nat.le_trans hB hbl.size) (by omega)
      obtain ⟨xA, xc, xA1, xc1, xA2, xc2, rfl, rfl, rfl, _⟩ := hv
      have Hc := Lib.hid hc
      clear hc hat
      go_wp2_with fail
      refine Hc.out.mono ?_
      rintro e w1 ⟨u0, u1, u2, rfl, hu, hb1, hn1⟩
      have hu' := hu
      obtain ⟨zA, zc, zA1, zc1, zA2, zc2, rfl, rfl, rfl, _⟩ := hu'
      generalize ey1 : zA = y1 at *
      generalize ey2 : l[k].name.length = y2 at *
      generalize ey3 : zc = y3 at *
      generalize ey4 : zA1 = y4 at *
      generalize ey5 : l[k].params.length = y5 at *
      generalize ey6 : zc1 = y6 at *
      generalize ey7 : zA2 = y7 at *
      generalize ey8 : l[k].body.length = y8 at *
      generalize ey9 : zc2 = y9 at *
      have hblk1 := hblk.below hb1 hblk.lt
      have hsz := Hcs.out
      obtain ⟨o0, e0⟩ : ∃ v, cs[k * 3]? = some v := ⟨_, Array.getElem?_eq_getElem (by omega)⟩
      have q0 : w1.cell? ⟨w.heap.size, k * 3, none⟩ = some o0 := by rw [hblk1.cell]; exact e0
      have z0 : w1.frozen? ⟨w.heap.size, k * 3, none⟩ = false := hblk1.frozen _
      obtain ⟨o1, e1⟩ : ∃ v, cs[k * 3 + 1]? = some v := ⟨_, Array.getElem?_eq_getElem (by omega)⟩
      have q1 : w1.cell? ⟨w.heap.size, k * 3 + 1, none⟩ = some o1 := by rw [hblk1.cell]; exact e1
      have z1 : w1.frozen? ⟨w.heap.size, k * 3 + 1, none⟩ = false := hblk1.frozen _
      obtain ⟨o2, e2⟩ : ∃ v, cs[k * 3 + 2]? = some v := ⟨_, Array.getElem?_eq_getElem (by omega)⟩
      have q2 : w1.cell? ⟨w.heap.size, k * 3 + 2, none⟩ = some o2 := by rw [hblk1.cell]; exact e2
      have z2 : w1.frozen? ⟨w.heap.size, k * 3 + 2, none⟩ = false := hblk1.frozen _
      have hlt1 := hblk.lt
      have hbl1 := hbl.trans (hb1.mono hbl.size)
      have hnw1 := hnw.join hb1 hn1
      have hfin := (hown.keep hb1).step hlt (by omega) (hu.more (by omega) (Nat.le_refl _))
      have Hfin := Lib.hid hfin
      clear hsz e0 e1 e2 hfin ey1 ey2 ey3 ey4 ey5 ey6 ey7 ey8 ey9 hu Hc
      go_wp2
      go_roundw
      case rel =>
        have e12 : (((w1.setCell ⟨w.heap.size, k * 3, none⟩ (.slice y1 y2 y3)).setCell ⟨w.heap.size, k * 3 + 1, none⟩ (.slice y4 y5 y6)).setCell ⟨w.heap.size, k * 3 + 2, none⟩ (.slice y7 y8 y9)) = setL w1 w.heap.size (k * 3) [.slice y1 y2 y3, .slice y4 y5 y6, .slice y7 y8 y9] := rfl
        rw [e12]
        exact ⟨k + 1, putL cs (k * 3) [.slice y1 y2 y3, .slice y4 y5 y6, .slice y7 y8 y9], by omega, by go_num, by rw [putL_size]; exact Hcs.out, hblk1.putL _ (k * 3), setL_ind (P := fun u => FnsP u (w.heap.size + 1) (putL cs (k * 3) [.slice y1 y2 y3, .slice y4 y5 y6, .slice y7 y8 y9]) l (k + 1)) (fun u j v hu => FnsP.low hu (by simp) v) _ (k * 3) Hfin.out, setL_below _ (k * 3) hbl1 (Nat.le_refl _), setL_ind (P := fun u => New w.heap.size u) (fun u j v hu => hu.set_ _ _) _ (k * 3) hnw1⟩
      case measure => simp [intOf]; omega
    · go_wp2
      go_ret
      have : k = l.length := by omega
      subst this
      exact ⟨_, rfl, hblk.lt, Nat.le_refl _, hown.fnl (by unfold maxLen; omega) hblk (by omega), hbl, hnw⟩

set_option maxHeartbeats 2000000 in
theorem toProg_n (l : List Fn) (A : Option Addr) (c L B : Nat) (w : World) (hB : B ≤ w.heap.size) (hl : fnsSz l ≤ 1048576) (h : FnL w L B A l) :
    Calls Try.prog 25 #[.agg #[.slice A l.length c]] w fun r w' => ∃ g, r = .returned (.agg #[.slice (some ⟨g, 0, none⟩) l.length l.length]) ∧ g < w'.heap.size ∧ w.heap.size ≤ g ∧ FnL w' w.heap.size w'.heap.size (some ⟨g, 0, none⟩) l ∧ Below w.heap.size w w' ∧ New w.heap.size w' := by
  have hbw0 : Below w.heap.size w (((w.alloc (.cells #[.slice A l.length c] 49)).alloc (.cells #[.slice none 0 0] 54)).alloc (.cells #[.slice none 0 0] 54)) := (((Below.refl _ _).alloc (Nat.le_refl _) _).alloc (by simp) _).alloc (by simp; omega) _
  have h0 := h.below (hbw0.mono hB)
  go_enter Try.func25, Try.ntmps25
  go_wp2_with fail
  refine (toFuncS_n l A c L B _ (by simp; omega) hl h0).mono ?_
  rintro e' w1 ⟨g1, rfl, hg1, hg1', hx, hb1, hn1⟩
  have K2 : Blk w1 (w.heap.size + 1 + 1) 54 #[.slice none 0 0] := Blk.below (by have := Blk.new ((w.alloc (.cells #[.slice A l.length c] 49)).alloc (.cells #[.slice none 0 0] 54)) 54 #[.slice none 0 0]; simpa using this) hb1 (by simp)
  have K1 : Blk w1 (w.heap.size + 1) 54 #[.slice none 0 0] := Blk.below ((by have := Blk.new (w.alloc (.cells #[.slice A l.length c] 49)) 54 #[.slice none 0 0]; simpa using this : Blk ((w.alloc (.cells #[.slice A l.length c] 49)).alloc (.cells #[.slice none 0 0] 54)) (w.heap.size + 1) 54 _).alloc _) hb1 (by simp)
  have hbw1 : Below w.heap.size w w1 := hbw0.trans (hb1.mono (by simp; omega))
  have hnw1 := ((((New.refl w).alloc #[.slice A l.length c] 49).alloc #[.slice none 0 0] 54).alloc #[.slice none 0 0] 54).join hb1 hn1
  have hz : w.heap.size + 1 + 1 + 1 ≤ w1.heap.size := by have := hb1.size; simpa using this
  have hx' : FnL w1 (w.heap.size + 1 + 1 + 1) w1.heap.size (some ⟨g1, 0, none⟩) l := hx.more (by simp) (Nat.le_refl _)
  have hgg : w.heap.size + 1 + 1 + 1 ≤ g1 := by simpa using hg1'
  have n0 := K2.cell_of 0 rfl
  have m0 := K1.cell_of 0 rfl
  have z0 : w1.frozen? ⟨w.heap.size + 1 + 1, 0, none⟩ = false := K2.frozen 0
  have y0 : w1.frozen? ⟨w.heap.size + 1, 0, none⟩ = false := K1.frozen 0
  clear hb1 hg1' hx h0
  go_wp2_with fail
  refine bodyPost_ret (v := .agg #[.slice (some ⟨g1, 0, none⟩) l.length l.length]) (by simp [results, Try.results25, go_sem, m0]) rfl ?_
  have k1 : ∀ p : Addr, w.heap.size + 1 + 1 + 1 ≤ p.block → p.block < w1.heap.size → ((w1.setCell ⟨w.heap.size + 1 + 1, 0, none⟩ (.slice (some ⟨g1, 0, none⟩) l.length l.length)).setCell ⟨w.heap.size + 1, 0, none⟩ (.slice (some ⟨g1, 0, none⟩) l.length l.length)).cell? p = w1.cell? p := by
    intro p h1 h2
    rw [World.cell?_setCell_other _ _ _ _ (fun e => by rw [← e] at h1; simp at h1; omega), World.cell?_setCell_other _ _ _ _ (fun e => by rw [← e] at h1; simp at h1; omega)]
  refine ⟨g1, rfl, by simpa using hg1, by omega, ?_, (hbw1.setCell (by simp; omega) _).setCell (by simp) _, (hnw1.set_ _ _).set_ _ _⟩
  rw [World.size_setCell, World.size_setCell]
  exact (hx'.keep k1).more (by omega) (Nat.le_refl _)
end Go.Proofs.Ytmejbmfopdfbjaa
