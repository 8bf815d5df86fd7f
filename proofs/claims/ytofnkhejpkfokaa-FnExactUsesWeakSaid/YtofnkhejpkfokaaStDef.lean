/-
  The program's measure of statements: what is said of it.
-/
import Derived.Test.YtofnkhejpkfokaaParts
namespace Go.Proofs.Ytofnkhejpkfokaa
open Go.RowKit
set_option linter.unusedVariables false

def MeaSts (l : List St) : Prop := ∀ (A : Option Addr) (cp L B g d : Nat) (a c : Int) (w : World), StL w L B A l → B ≤ w.heap.size → B ≤ g → stsSz l ≤ 1048576 →
  Blk w g 65 #[.int .i64 a, .int .i64 c] → 0 ≤ a → a ≤ 90 → 0 ≤ c → c ≤ 100 → d ≤ 8 →
  Calls Try.prog 91 #[.pointer (some ⟨g, 0, none⟩), .slice A l.length cp, .int .i64 (d : Int)] w (MeaP (stsGood l d) (stsN l) (stsDeep l d) g a c w)

def MeaSt (s : St) : Prop := ∀ (vs : List Value) (L B g d : Nat) (a c : Int) (w : World), StV w L B vs s → B ≤ w.heap.size → B ≤ g → stSz s ≤ 1048576 →
  Blk w g 65 #[.int .i64 a, .int .i64 c] → 0 ≤ a → a ≤ 90 → 0 ≤ c → c ≤ 100 → d ≤ 8 →
  Calls Try.prog 116 #[.pointer (some ⟨g, 0, none⟩), .agg vs.toArray, .int .i64 (d : Int)] w (MeaP (stGood s d) (stN s) (stDeep s d) g a c w)

theorem exr_one {w : World} {g g' L B : Nat} {t : TypeId} {e0 e1 e2 e3 : Value} {e : Ex} (hb : Blk w g' t #[e0, e1, e2, e3]) (hne : g' ≠ g) (h : ExV w L B e0 e1 e2 e3 e) : ExR w g L B (some ⟨g', 0, none⟩) [e] := by
  refine ⟨by unfold maxLen; simp, fun _ => ⟨_, rfl, hne, hb.lt, fun k hk => ?_⟩⟩
  obtain rfl : k = 0 := by simpa using hk
  refine ⟨e0, e1, e2, e3, ?_, h⟩
  rw [show (Addr.add ⟨g', 0, none⟩ (0 * 4)) = ⟨g', 0, none⟩ from rfl]
  exact ⟨hb.cell_of 0 rfl, hb.cell_of 1 rfl, hb.cell_of 2 rfl, hb.cell_of 3 rfl⟩
theorem exr_two {w : World} {g g' L B : Nat} {t : TypeId} {e0 e1 e2 e3 f0 f1 f2 f3 : Value} {e f : Ex} (hb : Blk w g' t #[e0, e1, e2, e3, f0, f1, f2, f3]) (hne : g' ≠ g) (h : ExV w L B e0 e1 e2 e3 e) (h' : ExV w L B f0 f1 f2 f3 f) : ExR w g L B (some ⟨g', 0, none⟩) [e, f] := by
  refine ⟨by unfold maxLen; simp, fun _ => ⟨_, rfl, hne, hb.lt, fun k hk => ?_⟩⟩
  have hk2 : k = 0 ∨ k = 1 := by simp at hk; omega
  rcases hk2 with rfl | rfl
  · refine ⟨e0, e1, e2, e3, ?_, h⟩
    rw [show (Addr.add ⟨g', 0, none⟩ (0 * 4)) = ⟨g', 0, none⟩ from rfl]
    exact ⟨hb.cell_of 0 rfl, hb.cell_of 1 rfl, hb.cell_of 2 rfl, hb.cell_of 3 rfl⟩
  · refine ⟨f0, f1, f2, f3, ?_, h'⟩
    rw [show (Addr.add ⟨g', 0, none⟩ (1 * 4)) = ⟨g', 4, none⟩ from rfl]
    exact ⟨hb.cell_of 4 rfl, hb.cell_of 5 rfl, hb.cell_of 6 rfl, hb.cell_of 7 rfl⟩

/-- a row of blocks in memory, each with its measure -/
def BlkRow (w : World) (g L B g' : Nat) (bl : List (List St)) : Prop :=
  ∀ j (h : j < bl.length), ∃ (A : Option Addr) (c : Nat), w.cell? ⟨g', j, none⟩ = some (.slice A bl[j].length c) ∧ StL w L B A bl[j] ∧ MeaSts bl[j] ∧ stsSz bl[j] ≤ 1048576
theorem BlkRow.past {w w' : World} {g L B g' : Nat} {bl : List (List St)} (h : BlkRow w g L B g' bl) (hp : Past g w w') (hne : g' ≠ g) (hlt : g' < w.heap.size) (hg : B ≤ g) (hB : B ≤ w.heap.size) : BlkRow w' g L B g' bl := fun j hj => by
  obtain ⟨A, c, hc, hs, hm, hz⟩ := h j hj
  exact ⟨A, c, (World.cell?_of_block (hp.block g' hlt hne)).trans hc, hs.below (hp.below hg hB), hm, hz⟩

end Go.Proofs.Ytofnkhejpkfokaa
