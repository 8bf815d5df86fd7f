/-
  Machines: the laws' own copy, its four parts in four stretches.
-/
import Derived.Test.YtddjcjjnpidhiaaGreatDoorMvm
import Derived.Test.YtddjcjjnpidhiaaGreatDoorMcodeN
namespace Go.Proofs.YtddjcjjnpidhiaaGreatDoor
open Go.RowKit
set_option linter.unusedVariables false
/-- a machine's four parts in four stretches -/
def MaI (w : World) (L B1 B2 B3 B : Nat) (A0 A1 A2 A3 A4 A5 : Option Addr) (m : Ma) : Prop :=
  L ≤ B1 ∧ B1 ≤ B2 ∧ B2 ≤ B3 ∧ B3 ≤ B ∧ UnL w L B1 A0 m.code ∧ ArL w B1 B2 A1 A2 A3 m.arena ∧ FrL w B2 B3 A4 m.frames ∧ NmB w B3 B A5 m.log ∧ m.log.length ≤ maxLen
theorem MaI.mal {w : World} {L B1 B2 B3 B : Nat} {A0 A1 A2 A3 A4 A5 : Option Addr} {m : Ma} (h : MaI w L B1 B2 B3 B A0 A1 A2 A3 A4 A5 m) : MaL w L B A0 A1 A2 A3 A4 A5 m := by
  obtain ⟨h1, h2, h3, h4, hU, hA, hF, hN, hl⟩ := h
  exact ⟨hU.more (Nat.le_refl _) (by omega), hA.more (by omega) (by omega), hF.more (by omega) (by omega), hN.more (by omega) (Nat.le_refl _), hl⟩
theorem MaI.keep {w w' : World} {L B1 B2 B3 B : Nat} {A0 A1 A2 A3 A4 A5 : Option Addr} {m : Ma} (h : MaI w L B1 B2 B3 B A0 A1 A2 A3 A4 A5 m) (hk : ∀ p : Addr, L ≤ p.block → p.block < B → w'.cell? p = w.cell? p) : MaI w' L B1 B2 B3 B A0 A1 A2 A3 A4 A5 m := by
  obtain ⟨h1, h2, h3, h4, hU, hA, hF, hN, hl⟩ := h
  exact ⟨h1, h2, h3, h4, hU.keep fun p h5 h6 => hk p h5 (by omega), hA.keep fun p h5 h6 => hk p (by omega) (by omega), hF.keep fun p h5 h6 => hk p (by omega) (by omega), hN.keep fun p h5 h6 => hk p (by omega) h6, hl⟩
theorem MaI.below {w w' : World} {L B1 B2 B3 B : Nat} {A0 A1 A2 A3 A4 A5 : Option Addr} {m : Ma} (h : MaI w L B1 B2 B3 B A0 A1 A2 A3 A4 A5 m) (hb : Below B w w') : MaI w' L B1 B2 B3 B A0 A1 A2 A3 A4 A5 m := h.keep fun _ _ hp => hb.cell hp

namespace FrmN
open ArnN
set_option maxRecDepth 100000 in
set_option maxHeartbeats 8000000 in
theorem toVm_i (m : Ma) (A0 A1 A2 A3 A4 A5 : Option Addr) (c0 c1 c2 c3 c4 c5 L B : Nat) (w : World) (hB : B ≤ w.heap.size) (hl : maSz m ≤ 1048576) (h : MaL w L B A0 A1 A2 A3 A4 A5 m) :
    Calls Tryz.prog 10 #[.agg (maV A0 A1 A2 A3 A4 A5 c0 c1 c2 c3 c4 c5 m)] w fun e w' => ∃ g1 g2 g3 g4 g5 g6 B1 B2 B3,
      e = .returned (.agg (maV (some ⟨g1, 0, none⟩) (some ⟨g2, 0, none⟩) (some ⟨g3, 0, none⟩) (some ⟨g4, 0, none⟩) (some ⟨g5, 0, none⟩) (some ⟨g6, 0, none⟩) m.code.length m.arena.slots.length m.arena.queue.length m.arena.purple.length m.frames.length m.log.length m)) ∧
      MaI w' w.heap.size B1 B2 B3 w'.heap.size (some ⟨g1, 0, none⟩) (some ⟨g2, 0, none⟩) (some ⟨g3, 0, none⟩) (some ⟨g4, 0, none⟩) (some ⟨g5, 0, none⟩) (some ⟨g6, 0, none⟩) m ∧ Below w.heap.size w w' ∧ New w.heap.size w' := by
  obtain ⟨co, a, F, lg, tk, st⟩ := m
  obtain ⟨hC, hA, hF, hN, hlg⟩ := h
  unfold maV
  unfold maSz at hl
  dsimp only at *
  have hb0 : Below w.heap.size w (((w.alloc (.cells #[.slice A0 co.length c0, .slice A1 a.slots.length c1, .slice A2 a.queue.length c2, .slice A3 a.purple.length c3, .slice A4 F.length c4, .slice A5 lg.length c5, .int .i64 tk, .int .i64 st] 32)).alloc (.cells #[.slice none 0 0, .slice none 0 0, .slice none 0 0, .slice none 0 0, .slice none 0 0, .slice none 0 0, .int .i64 0, .int .i64 0] 43)).alloc (.cells #[.slice none 0 0, .slice none 0 0, .slice none 0 0, .slice none 0 0, .slice none 0 0, .slice none 0 0, .int .i64 0, .int .i64 0] 43)) := (((Below.refl _ _).alloc (Nat.le_refl _) _).alloc (by simp) _).alloc (by simp; omega) _
  have hC0 := hC.below (hb0.mono hB)
  go_enter Tryz.func10, Tryz.ntmps10
  go_wp2_with fail
  refine (CodM.toCode_n co A0 c0 L B _ (by simp; omega) (by omega) hC0).mono ?_
  rintro e w1 ⟨g1, rfl, hx1, hb1, hn1⟩
  have hnw : New w.heap.size w1 := New.join ((((New.refl w).alloc _ _).alloc _ _).alloc _ _) hb1 hn1
  have KO : Blk w1 (w.heap.size + 1 + 1) 43 #[.slice none 0 0, .slice none 0 0, .slice none 0 0, .slice none 0 0, .slice none 0 0, .slice none 0 0, .int .i64 0, .int .i64 0] :=
    Blk.below (by have := Blk.new ((w.alloc (.cells #[.slice A0 co.length c0, .slice A1 a.slots.length c1, .slice A2 a.queue.length c2, .slice A3 a.purple.length c3, .slice A4 F.length c4, .slice A5 lg.length c5, .int .i64 tk, .int .i64 st] 32)).alloc (.cells #[.slice none 0 0, .slice none 0 0, .slice none 0 0, .slice none 0 0, .slice none 0 0, .slice none 0 0, .int .i64 0, .int .i64 0] 43)) 43 #[.slice none 0 0, .slice none 0 0, .slice none 0 0, .slice none 0 0, .slice none 0 0, .slice none 0 0, .int .i64 0, .int .i64 0]; simpa using this) hb1 (by simp)
  have KR : Blk w1 (w.heap.size + 1) 43 #[.slice none 0 0, .slice none 0 0, .slice none 0 0, .slice none 0 0, .slice none 0 0, .slice none 0 0, .int .i64 0, .int .i64 0] :=
    Blk.below ((by have := Blk.new (w.alloc (.cells #[.slice A0 co.length c0, .slice A1 a.slots.length c1, .slice A2 a.queue.length c2, .slice A3 a.purple.length c3, .slice A4 F.length c4, .slice A5 lg.length c5, .int .i64 tk, .int .i64 st] 32)) 43 #[.slice none 0 0, .slice none 0 0, .slice none 0 0, .slice none 0 0, .slice none 0 0, .slice none 0 0, .int .i64 0, .int .i64 0]; simpa using this : Blk ((w.alloc (.cells #[.slice A0 co.length c0, .slice A1 a.slots.length c1, .slice A2 a.queue.length c2, .slice A3 a.purple.length c3, .slice A4 F.length c4, .slice A5 lg.length c5, .int .i64 tk, .int .i64 st] 32)).alloc (.cells #[.slice none 0 0, .slice none 0 0, .slice none 0 0, .slice none 0 0, .slice none 0 0, .slice none 0 0, .int .i64 0, .int .i64 0] 43)) (w.heap.size + 1) 43 _).alloc _) hb1 (by simp)
  have KP : Blk w1 w.heap.size 32 #[.slice A0 co.length c0, .slice A1 a.slots.length c1, .slice A2 a.queue.length c2, .slice A3 a.purple.length c3, .slice A4 F.length c4, .slice A5 lg.length c5, .int .i64 tk, .int .i64 st] :=
    Blk.below (((Blk.new w 32 _).alloc _).alloc _) hb1 (by simp; omega)
  have hbw : Below w.heap.size w w1 := hb0.trans (hb1.mono (by simp; omega))
  have hU : UnL w1 (w.heap.size + 1 + 1 + 1) w1.heap.size (some ⟨g1, 0, none⟩) co := by simpa using hx1
  have hs1 : w.heap.size + 1 + 1 < w1.heap.size := KO.lt
  have a1 := KP.cel 1 rfl
  have a2 := KP.cel 2 rfl
  have a3 := KP.cel 3 rfl
  have n0 := KO.cel 0 rfl
  have x0 : w1.frozen? ⟨w.heap.size + 1 + 1, 0, none⟩ = false := KO.frozen 0
  clear hb1 hx1 hb0 hn1 hC hC0
  go_wp2_with fail
  obtain ⟨W1, hW1⟩ : ∃ W1, W1 = (w1.setCell ⟨w.heap.size + 1 + 1, 0, none⟩ (.slice (some ⟨g1, 0, none⟩) co.length co.length)) := ⟨_, rfl⟩
  have KA : Blk (w1.setCell ⟨w.heap.size + 1 + 1, 0, none⟩ (.slice (some ⟨g1, 0, none⟩) co.length co.length)) (w.heap.size + 1 + 1) 43 #[.slice (some ⟨g1, 0, none⟩) co.length co.length, .slice none 0 0, .slice none 0 0, .slice none 0 0, .slice none 0 0, .slice none 0 0, .int .i64 0, .int .i64 0] := by
    have := (KO.set_ 0 (.slice (some ⟨g1, 0, none⟩) co.length co.length))
    simpa using this
  have KB : Blk (w1.setCell ⟨w.heap.size + 1 + 1, 0, none⟩ (.slice (some ⟨g1, 0, none⟩) co.length co.length)) (w.heap.size + 1) 43 #[.slice none 0 0, .slice none 0 0, .slice none 0 0, .slice none 0 0, .slice none 0 0, .slice none 0 0, .int .i64 0, .int .i64 0] := (KR.far (p := ⟨w.heap.size + 1 + 1, 0, none⟩) (by simp) _)
  have KC : Blk (w1.setCell ⟨w.heap.size + 1 + 1, 0, none⟩ (.slice (some ⟨g1, 0, none⟩) co.length co.length)) w.heap.size 32 #[.slice A0 co.length c0, .slice A1 a.slots.length c1, .slice A2 a.queue.length c2, .slice A3 a.purple.length c3, .slice A4 F.length c4, .slice A5 lg.length c5, .int .i64 tk, .int .i64 st] := (KP.far (p := ⟨w.heap.size + 1 + 1, 0, none⟩) (by simp; omega) _)
  have hsame : ∀ p : Addr, p.block ≠ w.heap.size + 1 + 1 → (w1.setCell ⟨w.heap.size + 1 + 1, 0, none⟩ (.slice (some ⟨g1, 0, none⟩) co.length co.length)).cell? p = w1.cell? p := fun p hp => by
    rw [World.cell?_setCell_other _ _ _ _ (fun e => by subst e; exact hp rfl)]
  have hbW : Below w.heap.size w (w1.setCell ⟨w.heap.size + 1 + 1, 0, none⟩ (.slice (some ⟨g1, 0, none⟩) co.length co.length)) := (hbw.setCell (p := ⟨w.heap.size + 1 + 1, 0, none⟩) (by simp; omega) _)
  have hszW : (w1.setCell ⟨w.heap.size + 1 + 1, 0, none⟩ (.slice (some ⟨g1, 0, none⟩) co.length co.length)).heap.size = w1.heap.size := by simp
  have hnW : New w.heap.size (w1.setCell ⟨w.heap.size + 1 + 1, 0, none⟩ (.slice (some ⟨g1, 0, none⟩) co.length co.length)) := (hnw.set_ _ _)
  rw [← hW1] at KA KB KC hsame hbW hszW hnW
  rw [← hW1]
  clear hW1 KO KR KP hbw hnw
  have hU1 : UnL W1 (w.heap.size + 1 + 1 + 1) w1.heap.size (some ⟨g1, 0, none⟩) co := hU.keep fun p hp _ => hsame p (by omega)
  clear hsame hU a1 a2 a3 n0 x0
  refine (toArena_n a A1 A2 A3 c1 c2 c3 L B W1 (Nat.le_trans hB hbW.size) (by omega) (hA.below (hbW.mono hB))).mono ?_
  rintro e w2 ⟨g2, g3, g4, rfl, hx2, hb2, hn2⟩
  have hnw := hnW.join hb2 hn2
  have KO := KA.below hb2 KA.lt
  have KR := KB.below hb2 KB.lt
  have KP := KC.below hb2 KC.lt
  have hbw := hbW.trans (hb2.mono hbW.size)
  have hU2 := (hU1.below (hb2.mono (by omega)))
  have hs2 : w1.heap.size ≤ w2.heap.size := by have := hb2.size; omega
  have hx2' : ArL w2 w1.heap.size w2.heap.size (some ⟨g2, 0, none⟩) (some ⟨g3, 0, none⟩) (some ⟨g4, 0, none⟩) a := hx2.more (by omega) (Nat.le_refl _)
  have a4 := KP.cel 4 rfl
  have n1 := KO.cel 1 rfl
  have n2 := KO.cel 2 rfl
  have n3 := KO.cel 3 rfl
  have x1 : w2.frozen? ⟨w.heap.size + 1 + 1, 1, none⟩ = false := KO.frozen 1
  have x2 : w2.frozen? ⟨w.heap.size + 1 + 1, 2, none⟩ = false := KO.frozen 2
  have x3 : w2.frozen? ⟨w.heap.size + 1 + 1, 3, none⟩ = false := KO.frozen 3
  clear hb2 hx2 hn2 hA KA KB KC hbW hnW hU1 hszW
  go_wp2_with fail
  obtain ⟨W2, hW2⟩ : ∃ W2, W2 = (((w2.setCell ⟨w.heap.size + 1 + 1, 1, none⟩ (.slice (some ⟨g2, 0, none⟩) a.slots.length a.slots.length)).setCell ⟨w.heap.size + 1 + 1, 2, none⟩ (.slice (some ⟨g3, 0, none⟩) a.queue.length a.queue.length)).setCell ⟨w.heap.size + 1 + 1, 3, none⟩ (.slice (some ⟨g4, 0, none⟩) a.purple.length a.purple.length)) := ⟨_, rfl⟩
  have KA : Blk (((w2.setCell ⟨w.heap.size + 1 + 1, 1, none⟩ (.slice (some ⟨g2, 0, none⟩) a.slots.length a.slots.length)).setCell ⟨w.heap.size + 1 + 1, 2, none⟩ (.slice (some ⟨g3, 0, none⟩) a.queue.length a.queue.length)).setCell ⟨w.heap.size + 1 + 1, 3, none⟩ (.slice (some ⟨g4, 0, none⟩) a.purple.length a.purple.length)) (w.heap.size + 1 + 1) 43 #[.slice (some ⟨g1, 0, none⟩) co.length co.length, .slice (some ⟨g2, 0, none⟩) a.slots.length a.slots.length, .slice (some ⟨g3, 0, none⟩) a.queue.length a.queue.length, .slice (some ⟨g4, 0, none⟩) a.purple.length a.purple.length, .slice none 0 0, .slice none 0 0, .int .i64 0, .int .i64 0] := by
    have := (((KO.set_ 1 (.slice (some ⟨g2, 0, none⟩) a.slots.length a.slots.length)).set_ 2 (.slice (some ⟨g3, 0, none⟩) a.queue.length a.queue.length)).set_ 3 (.slice (some ⟨g4, 0, none⟩) a.purple.length a.purple.length))
    simpa using this
  have KB : Blk (((w2.setCell ⟨w.heap.size + 1 + 1, 1, none⟩ (.slice (some ⟨g2, 0, none⟩) a.slots.length a.slots.length)).setCell ⟨w.heap.size + 1 + 1, 2, none⟩ (.slice (some ⟨g3, 0, none⟩) a.queue.length a.queue.length)).setCell ⟨w.heap.size + 1 + 1, 3, none⟩ (.slice (some ⟨g4, 0, none⟩) a.purple.length a.purple.length)) (w.heap.size + 1) 43 #[.slice none 0 0, .slice none 0 0, .slice none 0 0, .slice none 0 0, .slice none 0 0, .slice none 0 0, .int .i64 0, .int .i64 0] := (((KR.far (p := ⟨w.heap.size + 1 + 1, 1, none⟩) (by simp) _).far (p := ⟨w.heap.size + 1 + 1, 2, none⟩) (by simp) _).far (p := ⟨w.heap.size + 1 + 1, 3, none⟩) (by simp) _)
  have KC : Blk (((w2.setCell ⟨w.heap.size + 1 + 1, 1, none⟩ (.slice (some ⟨g2, 0, none⟩) a.slots.length a.slots.length)).setCell ⟨w.heap.size + 1 + 1, 2, none⟩ (.slice (some ⟨g3, 0, none⟩) a.queue.length a.queue.length)).setCell ⟨w.heap.size + 1 + 1, 3, none⟩ (.slice (some ⟨g4, 0, none⟩) a.purple.length a.purple.length)) w.heap.size 32 #[.slice A0 co.length c0, .slice A1 a.slots.length c1, .slice A2 a.queue.length c2, .slice A3 a.purple.length c3, .slice A4 F.length c4, .slice A5 lg.length c5, .int .i64 tk, .int .i64 st] := (((KP.far (p := ⟨w.heap.size + 1 + 1, 1, none⟩) (by simp; omega) _).far (p := ⟨w.heap.size + 1 + 1, 2, none⟩) (by simp; omega) _).far (p := ⟨w.heap.size + 1 + 1, 3, none⟩) (by simp; omega) _)
  have hsame : ∀ p : Addr, p.block ≠ w.heap.size + 1 + 1 → (((w2.setCell ⟨w.heap.size + 1 + 1, 1, none⟩ (.slice (some ⟨g2, 0, none⟩) a.slots.length a.slots.length)).setCell ⟨w.heap.size + 1 + 1, 2, none⟩ (.slice (some ⟨g3, 0, none⟩) a.queue.length a.queue.length)).setCell ⟨w.heap.size + 1 + 1, 3, none⟩ (.slice (some ⟨g4, 0, none⟩) a.purple.length a.purple.length)).cell? p = w2.cell? p := fun p hp => by
    rw [World.cell?_setCell_other _ _ _ _ (fun e => by subst e; exact hp rfl), World.cell?_setCell_other _ _ _ _ (fun e => by subst e; exact hp rfl), World.cell?_setCell_other _ _ _ _ (fun e => by subst e; exact hp rfl)]
  have hbW : Below w.heap.size w (((w2.setCell ⟨w.heap.size + 1 + 1, 1, none⟩ (.slice (some ⟨g2, 0, none⟩) a.slots.length a.slots.length)).setCell ⟨w.heap.size + 1 + 1, 2, none⟩ (.slice (some ⟨g3, 0, none⟩) a.queue.length a.queue.length)).setCell ⟨w.heap.size + 1 + 1, 3, none⟩ (.slice (some ⟨g4, 0, none⟩) a.purple.length a.purple.length)) := (((hbw.setCell (p := ⟨w.heap.size + 1 + 1, 1, none⟩) (by simp; omega) _).setCell (p := ⟨w.heap.size + 1 + 1, 2, none⟩) (by simp; omega) _).setCell (p := ⟨w.heap.size + 1 + 1, 3, none⟩) (by simp; omega) _)
  have hszW : (((w2.setCell ⟨w.heap.size + 1 + 1, 1, none⟩ (.slice (some ⟨g2, 0, none⟩) a.slots.length a.slots.length)).setCell ⟨w.heap.size + 1 + 1, 2, none⟩ (.slice (some ⟨g3, 0, none⟩) a.queue.length a.queue.length)).setCell ⟨w.heap.size + 1 + 1, 3, none⟩ (.slice (some ⟨g4, 0, none⟩) a.purple.length a.purple.length)).heap.size = w2.heap.size := by simp
  have hnW : New w.heap.size (((w2.setCell ⟨w.heap.size + 1 + 1, 1, none⟩ (.slice (some ⟨g2, 0, none⟩) a.slots.length a.slots.length)).setCell ⟨w.heap.size + 1 + 1, 2, none⟩ (.slice (some ⟨g3, 0, none⟩) a.queue.length a.queue.length)).setCell ⟨w.heap.size + 1 + 1, 3, none⟩ (.slice (some ⟨g4, 0, none⟩) a.purple.length a.purple.length)) := (((hnw.set_ _ _).set_ _ _).set_ _ _)
  rw [← hW2] at KA KB KC hsame hbW hszW hnW
  rw [← hW2]
  clear hW2 KO KR KP hbw hnw
  have hU3 : UnL W2 (w.heap.size + 1 + 1 + 1) w1.heap.size (some ⟨g1, 0, none⟩) co := hU2.keep fun p hp _ => hsame p (by omega)
  have hA3 : ArL W2 w1.heap.size w2.heap.size (some ⟨g2, 0, none⟩) (some ⟨g3, 0, none⟩) (some ⟨g4, 0, none⟩) a := hx2'.keep fun p hp _ => hsame p (by omega)
  clear hsame hU2 hx2' a4 n1 n2 n3 x1 x2 x3
  refine (toFrameS_n F A4 c4 L B W2 (Nat.le_trans hB hbW.size) (by omega) (hF.below (hbW.mono hB))).mono ?_
  rintro e w3 ⟨g5, rfl, hg5, hg5', hx3, hb3, hn3⟩
  have hnw := hnW.join hb3 hn3
  have KO := KA.below hb3 KA.lt
  have KR := KB.below hb3 KB.lt
  have KP := KC.below hb3 KC.lt
  have hbw := hbW.trans (hb3.mono hbW.size)
  have hU4 := (hU3.below (hb3.mono (by omega)))
  have hA4 := (hA3.below (hb3.mono (by omega)))
  have hs3 : w2.heap.size ≤ w3.heap.size := by have := hb3.size; omega
  have hx3' : FrL w3 w2.heap.size w3.heap.size (some ⟨g5, 0, none⟩) F := hx3.more (by omega) (Nat.le_refl _)
  have a5 := KP.cel 5 rfl
  have n4 := KO.cel 4 rfl
  have x4 : w3.frozen? ⟨w.heap.size + 1 + 1, 4, none⟩ = false := KO.frozen 4
  clear hb3 hx3 hn3 hF KA KB KC hbW hnW hU3 hA3 hszW
  go_wp2_with fail
  obtain ⟨W3, hW3⟩ : ∃ W3, W3 = (w3.setCell ⟨w.heap.size + 1 + 1, 4, none⟩ (.slice (some ⟨g5, 0, none⟩) F.length F.length)) := ⟨_, rfl⟩
  have KA : Blk (w3.setCell ⟨w.heap.size + 1 + 1, 4, none⟩ (.slice (some ⟨g5, 0, none⟩) F.length F.length)) (w.heap.size + 1 + 1) 43 #[.slice (some ⟨g1, 0, none⟩) co.length co.length, .slice (some ⟨g2, 0, none⟩) a.slots.length a.slots.length, .slice (some ⟨g3, 0, none⟩) a.queue.length a.queue.length, .slice (some ⟨g4, 0, none⟩) a.purple.length a.purple.length, .slice (some ⟨g5, 0, none⟩) F.length F.length, .slice none 0 0, .int .i64 0, .int .i64 0] := by
    have := (KO.set_ 4 (.slice (some ⟨g5, 0, none⟩) F.length F.length))
    simpa using this
  have KB : Blk (w3.setCell ⟨w.heap.size + 1 + 1, 4, none⟩ (.slice (some ⟨g5, 0, none⟩) F.length F.length)) (w.heap.size + 1) 43 #[.slice none 0 0, .slice none 0 0, .slice none 0 0, .slice none 0 0, .slice none 0 0, .slice none 0 0, .int .i64 0, .int .i64 0] := (KR.far (p := ⟨w.heap.size + 1 + 1, 4, none⟩) (by simp) _)
  have KC : Blk (w3.setCell ⟨w.heap.size + 1 + 1, 4, none⟩ (.slice (some ⟨g5, 0, none⟩) F.length F.length)) w.heap.size 32 #[.slice A0 co.length c0, .slice A1 a.slots.length c1, .slice A2 a.queue.length c2, .slice A3 a.purple.length c3, .slice A4 F.length c4, .slice A5 lg.length c5, .int .i64 tk, .int .i64 st] := (KP.far (p := ⟨w.heap.size + 1 + 1, 4, none⟩) (by simp; omega) _)
  have hsame : ∀ p : Addr, p.block ≠ w.heap.size + 1 + 1 → (w3.setCell ⟨w.heap.size + 1 + 1, 4, none⟩ (.slice (some ⟨g5, 0, none⟩) F.length F.length)).cell? p = w3.cell? p := fun p hp => by
    rw [World.cell?_setCell_other _ _ _ _ (fun e => by subst e; exact hp rfl)]
  have hbW : Below w.heap.size w (w3.setCell ⟨w.heap.size + 1 + 1, 4, none⟩ (.slice (some ⟨g5, 0, none⟩) F.length F.length)) := (hbw.setCell (p := ⟨w.heap.size + 1 + 1, 4, none⟩) (by simp; omega) _)
  have hszW : (w3.setCell ⟨w.heap.size + 1 + 1, 4, none⟩ (.slice (some ⟨g5, 0, none⟩) F.length F.length)).heap.size = w3.heap.size := by simp
  have hnW : New w.heap.size (w3.setCell ⟨w.heap.size + 1 + 1, 4, none⟩ (.slice (some ⟨g5, 0, none⟩) F.length F.length)) := (hnw.set_ _ _)
  rw [← hW3] at KA KB KC hsame hbW hszW hnW
  rw [← hW3]
  clear hW3 KO KR KP hbw hnw
  have hU5 : UnL W3 (w.heap.size + 1 + 1 + 1) w1.heap.size (some ⟨g1, 0, none⟩) co := hU4.keep fun p hp _ => hsame p (by omega)
  have hA5 : ArL W3 w1.heap.size w2.heap.size (some ⟨g2, 0, none⟩) (some ⟨g3, 0, none⟩) (some ⟨g4, 0, none⟩) a := hA4.keep fun p hp _ => hsame p (by omega)
  have hF5 : FrL W3 w2.heap.size w3.heap.size (some ⟨g5, 0, none⟩) F := hx3'.keep fun p hp _ => hsame p (by omega)
  clear hsame hU4 hA4 hx3' a5 n4 x4
  refine (toByteS_n lg A5 c5 B W3 (by omega) (Nat.le_trans hB hbW.size) (hN.keep fun p _ hp => (hbW.mono hB).cell hp).1).mono ?_
  rintro e w4 ⟨g6, rfl, hB4, hg6, hg6', hb4, hn4⟩
  have hnw := hnW.join hb4 hn4
  have KO := KA.below hb4 KA.lt
  have KR := KB.below hb4 KB.lt
  have KP := KC.below hb4 KC.lt
  have hbw := hbW.trans (hb4.mono hbW.size)
  have hU6 := (hU5.below (hb4.mono (by omega)))
  have hA6 := (hA5.below (hb4.mono (by omega)))
  have hF6 := (hF5.below (hb4.mono (by omega)))
  have hs4 : w3.heap.size ≤ w4.heap.size := by have := hb4.size; omega
  have hg6w : w3.heap.size ≤ g6 := by omega
  have hNm : NmB w4 w3.heap.size w4.heap.size (some ⟨g6, 0, none⟩) lg := ⟨RB.of_blk hB4 hg6', fun _ => ⟨_, rfl, hg6w⟩⟩
  have a6 := KP.cel 6 rfl
  have a7 := KP.cel 7 rfl
  have n0 := KO.cel 0 rfl
  have m0 := KR.cel 0 rfl
  have y0 : w4.frozen? ⟨w.heap.size + 1, 0, none⟩ = false := KR.frozen 0
  have n1 := KO.cel 1 rfl
  have m1 := KR.cel 1 rfl
  have y1 : w4.frozen? ⟨w.heap.size + 1, 1, none⟩ = false := KR.frozen 1
  have n2 := KO.cel 2 rfl
  have m2 := KR.cel 2 rfl
  have y2 : w4.frozen? ⟨w.heap.size + 1, 2, none⟩ = false := KR.frozen 2
  have n3 := KO.cel 3 rfl
  have m3 := KR.cel 3 rfl
  have y3 : w4.frozen? ⟨w.heap.size + 1, 3, none⟩ = false := KR.frozen 3
  have n4 := KO.cel 4 rfl
  have m4 := KR.cel 4 rfl
  have y4 : w4.frozen? ⟨w.heap.size + 1, 4, none⟩ = false := KR.frozen 4
  have n5 := KO.cel 5 rfl
  have m5 := KR.cel 5 rfl
  have y5 : w4.frozen? ⟨w.heap.size + 1, 5, none⟩ = false := KR.frozen 5
  have n6 := KO.cel 6 rfl
  have m6 := KR.cel 6 rfl
  have y6 : w4.frozen? ⟨w.heap.size + 1, 6, none⟩ = false := KR.frozen 6
  have n7 := KO.cel 7 rfl
  have m7 := KR.cel 7 rfl
  have y7 : w4.frozen? ⟨w.heap.size + 1, 7, none⟩ = false := KR.frozen 7
  have x5 : w4.frozen? ⟨w.heap.size + 1 + 1, 5, none⟩ = false := KO.frozen 5
  have x6 : w4.frozen? ⟨w.heap.size + 1 + 1, 6, none⟩ = false := KO.frozen 6
  have x7 : w4.frozen? ⟨w.heap.size + 1 + 1, 7, none⟩ = false := KO.frozen 7
  clear hb4 hB4 hn4 hN KA KB KC hbW hnW hU5 hA5 hF5 hszW KO KR KP
  go_wp2_with fail
  refine bodyPost_ret (v := .agg #[.slice (some ⟨g1, 0, none⟩) co.length co.length, .slice (some ⟨g2, 0, none⟩) a.slots.length a.slots.length, .slice (some ⟨g3, 0, none⟩) a.queue.length a.queue.length, .slice (some ⟨g4, 0, none⟩) a.purple.length a.purple.length, .slice (some ⟨g5, 0, none⟩) F.length F.length, .slice (some ⟨g6, 0, none⟩) lg.length lg.length, .int .i64 tk, .int .i64 st]) (by simp [results, Tryz.results10, go_sem, m0, m1, m2, m3, m4, m5, m6, m7]) rfl
    ⟨g1, g2, g3, g4, g5, g6, w1.heap.size, w2.heap.size, w3.heap.size, rfl, ⟨by omega, hs2, hs3, by simp; omega, ?_, ?_, ?_, ?_, hlg⟩, ?_, ?_⟩
  · refine (hU6.keep (fun p hp _ => ?_)).more (by omega) (Nat.le_refl _)
    repeat rw [World.cell?_setCell_other _ _ _ _ (fun e => by subst e; simp at hp; omega)]
  · refine (hA6.keep (fun p hp _ => ?_)).more (by omega) (Nat.le_refl _)
    repeat rw [World.cell?_setCell_other _ _ _ _ (fun e => by subst e; simp at hp; omega)]
  · refine (hF6.keep (fun p hp _ => ?_)).more (by omega) (Nat.le_refl _)
    repeat rw [World.cell?_setCell_other _ _ _ _ (fun e => by subst e; simp at hp; omega)]
  · refine (hNm.keep (fun p hp _ => ?_)).more (Nat.le_refl _) (by simp)
    repeat rw [World.cell?_setCell_other _ _ _ _ (fun e => by subst e; simp at hp; omega)]
  · repeat (with_reducible first | exact hbw | refine Below.setCell ?_ (by simp; omega) _ | refine Below.setCell ?_ (by simp) _)
  · repeat (with_reducible first | exact hnw | apply New.set_)
end FrmN
end Go.Proofs.YtddjcjjnpidhiaaGreatDoor
