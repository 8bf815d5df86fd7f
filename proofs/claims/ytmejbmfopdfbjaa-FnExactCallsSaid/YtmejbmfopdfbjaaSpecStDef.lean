/-
  The model's check of statements: what is said of it; its early ways out; l2none.
-/
import Derived.Test.YtmejbmfopdfbjaaSpecExK1
import Derived.Test.YtmejbmfopdfbjaaStParts
namespace Go.Proofs.Ytmejbmfopdfbjaa
open Go.RowKit
set_option linter.unusedVariables false

def SpSts (l : List St) : Prop := ∀ (A : Option Addr) (cp L B g d : Nat) (left : Int) (w : World), StL w L B A l → B ≤ w.heap.size → B ≤ g → stsSz l ≤ 1048576 →
  Blk w g 62 #[.int .i64 left] → 0 ≤ left → left ≤ 90 → d ≤ 8 →
  Calls Try.prog 32 #[.slice A l.length cp, .int .i64 (d : Int), .pointer (some ⟨g, 0, none⟩)] w (SpP (stsGood l d) (stsN l) g left w)
def SpSt (s : St) : Prop := ∀ (vs : List Value) (L B g d : Nat) (left : Int) (w : World), StV w L B vs s → B ≤ w.heap.size → B ≤ g → stSz s ≤ 1048576 →
  Blk w g 62 #[.int .i64 left] → 0 ≤ left → left ≤ 90 → d ≤ 8 →
  Calls Try.prog 54 #[.agg vs.toArray, .int .i64 (d : Int), .pointer (some ⟨g, 0, none⟩)] w (SpP (stGood s d) (stN s) g left w)

/-- how many parts F has -/
def fN (k : Int) (f : Ex) : Nat := if k = 2 then exN f else 0
theorem st_parts {k : Int} {name : List UInt8} {e f : Ex} {body els : List St} {d : Nat} {left : Int} (h : stGood (.mk k name e f body els) d = true ∧ (stN (.mk k name e f body els) : Int) ≤ left) :
    d ≤ 7 ∧ stOk1 k name f body.length els.length = true ∧ exGood e (d + 1) = true ∧ (k = 2 → exGood f (d + 1) = true) ∧ stsGood body (d + 1) = true ∧ stsGood els (d + 1) = true ∧ (1 + exN e + fN k f + stsN body + stsN els : Int) ≤ left := by
  obtain ⟨hG, hN⟩ := h
  rw [stGood_mk] at hG
  rw [stN_mk] at hN
  simp only [Bool.and_eq_true, decide_eq_true_eq] at hG
  obtain ⟨⟨⟨⟨⟨g1, g2⟩, g3⟩, g4⟩, g5⟩, g6⟩ := hG
  exact ⟨g1, g2, g3, fun hk => by simpa [hk] using g4, g5, g6, by unfold fN; omega⟩
theorem st_yes {k : Int} {name : List UInt8} {e f : Ex} {body els : List St} {d g : Nat} {left u : Int} {w w' : World} (hP : Past g w w') (hK : Blk w' g 62 #[.int .i64 u]) (h1 : d ≤ 7) (h2 : stOk1 k name f body.length els.length = true) (h3 : exGood e (d + 1) = true)
    (h4 : k = 2 → exGood f (d + 1) = true) (h5 : stsGood body (d + 1) = true) (h6 : stsGood els (d + 1) = true) (hu : u = left - (1 + exN e + fN k f + stsN body + stsN els : Int)) (h0 : 0 ≤ u) :
    SpP (stGood (.mk k name e f body els) d) (stN (.mk k name e f body els)) g left w (.returned (.bool true)) w' := by
  have hN : (stN (.mk k name e f body els) : Int) = 1 + exN e + fN k f + stsN body + stsN els := by rw [stN_mk]; unfold fN; omega
  refine ⟨true, rfl, hP, u, hK, ⟨fun _ => ⟨?_, by omega⟩, fun _ => rfl⟩, fun _ => by omega⟩
  rw [stGood_mk, h2, h3, h5, h6]
  by_cases hk : k = 2
  · simp [h1, h4 hk]
  · simp [h1, hk]

set_option maxHeartbeats 1000000 in
theorem l2none_c (e : Ex) (v0 v1 v2 v3 : Value) (L B : Nat) (w : World) (h : ExV w L B v0 v1 v2 v3 e) :
    Calls Try.prog 85 #[.agg #[v0, v1, v2, v3]] w fun r w' => r = .returned (.bool (exNone e)) ∧ Below w.heap.size w w' := by
  cases e with
  | mk k n name args =>
    obtain ⟨A, c, A', c', rfl, rfl, rfl, rfl, hR, hm, hx⟩ := h.open_
    unfold maxLen at hm
    have hm' := hx.1
    unfold maxLen at hm'
    have hb : Below w.heap.size w (w.alloc (.cells #[.int .i64 k, .int .i64 n, .slice A name.length c, .slice A' args.length c'] 73)) := (Below.refl _ _).alloc (Nat.le_refl _) _
    clear hx hR h
    go_enter Try.func85, Try.ntmps85
    go_wp2
    all_goals
      go_ret
      refine ⟨ret_bool' ?_, by first | exact hb | simp_all⟩
      first
        | (simp_all [exNone]; done)
        | (simp_all [exNone]; rw [Bool.eq_iff_iff, beq_iff_eq, beq_iff_eq]; omega)

set_option maxRecDepth 100000 in
set_option maxHeartbeats 4000000 in
theorem l2st_early (k : Int) (name : List UInt8) (e f : Ex) (body els : List St) (vs : List Value) (L B g d : Nat) (left : Int) (w : World) (h : StV w L B vs (.mk k name e f body els)) (hB : B ≤ w.heap.size) (hg : B ≤ g)
    (hK : Blk w g 62 #[.int .i64 left]) (h0 : 0 ≤ left) (h1 : left ≤ 90) (hd : d ≤ 8) (hno : left < 1 ∨ 7 < d ∨ k < 0 ∨ 7 < k) :
    Calls Try.prog 54 #[.agg vs.toArray, .int .i64 (d : Int), .pointer (some ⟨g, 0, none⟩)] w (SpP (stGood (.mk k name e f body els) d) (stN (.mk k name e f body els)) g left w) := by
  obtain ⟨A, c, e0, e1, e2, e3, f0, f1, f2, f3, A1, c1, A2, c2, rfl, hR, hm, he, hf, hb1, hb2⟩ := h.open_
  obtain ⟨xk, xn, xA, xa, xc, xA', xa', xc', rfl, rfl, rfl, rfl⟩ := he.shape
  obtain ⟨yk, yn, yA, ya, yc, yA', ya', yc', rfl, rfl, rfl, rfl⟩ := hf.shape
  have hne : w.heap.size ≠ g := by have := hK.lt; omega
  have fin : ∀ o u, SpP (stGood (.mk k name e f body els) d) (stN (.mk k name e f body els)) g left w (.returned (.bool false)) ((w.alloc o).setCell ⟨g, 0, none⟩ (.int .i64 u)) := fun o u =>
    sp_no (((Past.refl g w).alloc _).set_ (.inl rfl) _) ((hK.alloc _).set_ 0 _) (fun hh => by
      obtain ⟨p1, p2, p3, p4, p5, p6, p7⟩ := st_parts hh
      have := stOk1_kind p2
      omega)
  have Fin := Lib.hid fin
  have c0 : ∀ o, (w.alloc o).cell? ⟨g, 0, none⟩ = some (.int .i64 left) := fun o => (hK.alloc o).cell_of 0 rfl
  have f0 : ∀ o, (w.alloc o).frozen? ⟨g, 0, none⟩ = false := fun o => (hK.alloc o).frozen 0
  clear hR h fin hm hB hg hK he hf hb1 hb2
  by_cases hl : left < 1
  · clear hno
    go_enter Try.func54, Try.ntmps54
    go_wp2
    go_ret
    exact Fin.out _ _
  have hl' : 0 ≤ left - 1 := by omega
  by_cases h7 : 7 < (d : Int)
  · clear hno hl
    go_enter Try.func54, Try.ntmps54
    go_wp2
    go_ret
    exact Fin.out _ _
  have h7' : (d : Int) ≤ 7 := by omega
  by_cases hk0 : k < 0
  · clear hno hl h7
    go_enter Try.func54, Try.ntmps54
    go_wp2
    go_ret
    exact Fin.out _ _
  · have hk0' : 0 ≤ k := by omega
    have hk8 : 7 < k := by omega
    clear hno hl h7 hk0
    go_enter Try.func54, Try.ntmps54
    go_wp2
    go_ret
    exact Fin.out _ _
end Go.Proofs.Ytmejbmfopdfbjaa
