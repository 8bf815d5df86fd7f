/-
  Results: the laws' own functions over them (size, copy, likeness, marks).
-/
import Derived.Test.YtebgigiakfjocaaDoorOwnU
import Derived.IntWalk
namespace Go.Proofs.YtebgigiakfjocaaDoor
open Go.RowKit
set_option linter.unusedVariables false
set_option linter.unusedSimpArgs false
namespace Res
theorem _root_.Go.Proofs.YtebgigiakfjocaaDoor.Blk.three {w : World} {g : Nat} {t : TypeId} {a b d : Value} (h : Blk w g t #[a, b, d]) : w.cell? ⟨g, 0, none⟩ = some a ∧ w.cell? ⟨g, 1, none⟩ = some b ∧ w.cell? ⟨g, 2, none⟩ = some d :=
  ⟨by rw [h.cell]; rfl, by rw [h.cell]; rfl, by rw [h.cell]; rfl⟩

theorem szByteS_r (A : Option Addr) (n c : Nat) (w : World) (hn : n ≤ 9223372036854775807) :
    Calls Tryd.prog 51 #[.slice A n c, .int .i64 1048576] w fun e w' => ∃ r : Int, e = .returned (.int .i64 r) ∧ Hid (0 ≤ r → n ≤ 1048576) ∧ w' = w := by
  by_cases h : n ≤ 1048576
  · have h0 : ¬ (1048576 - (n : Int) < 0) := by omega
    have Hh : Hid (∀ r : Int, 0 ≤ r → n ≤ 1048576) := Lib.hid (fun _ _ => h)
    clear h
    go_enter Tryd.func51, Tryd.ntmps51
    go_wp2
    go_ret
    exact ⟨_, rfl, Lib.hid (Hh.out _), rfl⟩
  · have h0 : 1048576 - (n : Int) < 0 := by omega
    go_enter Tryd.func51, Tryd.ntmps51
    go_wp2
    go_ret
    exact ⟨-1, rfl, Lib.hid (fun h2 => by omega), rfl⟩

section
variable (code ticks : Int) (l : List UInt8) (A : Option Addr) (c B : Nat) (w : World)
set_option maxRecDepth 100000 in
theorem szResult_c (hn : l.length ≤ 9223372036854775807) :
    Calls Tryd.prog 20 #[.agg #[.int .i64 code, .slice A l.length c, .int .i64 ticks], .int .i64 1048576] w fun e w' => ∃ r : Int, e = .returned (.int .i64 r) ∧ (0 ≤ r → l.length ≤ 1048576) ∧ Below w.heap.size w w' := by
  have hbW : Below w.heap.size w (w.alloc (.cells #[.int .i64 code, .slice A l.length c, .int .i64 ticks] 41)) := (Below.refl _ _).alloc (Nat.le_refl _) _
  have Hs := Lib.hid (szByteS_r A l.length c (w.alloc (.cells #[.int .i64 code, .slice A l.length c, .int .i64 ticks] 41)) hn)
  have HbW := Lib.hid hbW
  clear hbW
  go_enter Tryd.func20, Tryd.ntmps20
  go_wp2_with fail
  refine Hs.out.mono ?_
  rintro e w1 ⟨r, rfl, hr, rfl⟩
  by_cases h : r < 0
  · go_wp2
    go_ret
    exact ⟨-1, rfl, fun h2 => by omega, HbW.out⟩
  · go_wp2
    go_ret
    exact ⟨r, rfl, hr.out, HbW.out⟩

set_option maxRecDepth 100000 in
theorem toResult_c (hB : B ≤ w.heap.size) (hl : l.length ≤ 4294967296) (h : RB w B A l) :
    Calls Tryd.prog 22 #[.agg #[.int .i64 code, .slice A l.length c, .int .i64 ticks]] w fun e w' => ∃ g, e = .returned (.agg #[.int .i64 code, .slice (some ⟨g, 0, none⟩) l.length l.length, .int .i64 ticks]) ∧ Blk w' g 5 (vb l).toArray ∧ w.heap.size ≤ g ∧ g < w'.heap.size ∧ Below w.heap.size w w' := by
  have K0 := ((Blk.new w 41 #[.int .i64 code, .slice A l.length c, .int .i64 ticks]).alloc (.cells #[.int .i64 0, .slice none 0 0, .int .i64 0] 44)).alloc (.cells #[.int .i64 code, .slice none 0 0, .int .i64 0] 44)
  have K1 := (Blk.new (w.alloc (.cells #[.int .i64 code, .slice A l.length c, .int .i64 ticks] 41)) 44 #[.int .i64 0, .slice none 0 0, .int .i64 0]).alloc (.cells #[.int .i64 code, .slice none 0 0, .int .i64 0] 44)
  have K2 := Blk.new ((w.alloc (.cells #[.int .i64 code, .slice A l.length c, .int .i64 ticks] 41)).alloc (.cells #[.int .i64 0, .slice none 0 0, .int .i64 0] 44)) 44 #[.int .i64 code, .slice none 0 0, .int .i64 0]
  have hbW : Below w.heap.size w (((w.alloc (.cells #[.int .i64 code, .slice A l.length c, .int .i64 ticks] 41)).alloc (.cells #[.int .i64 0, .slice none 0 0, .int .i64 0] 44)).alloc (.cells #[.int .i64 code, .slice none 0 0, .int .i64 0] 44)) := (((Below.refl _ _).alloc (Nat.le_refl _) _).alloc (by simp) _).alloc (by simp; omega) _
  have hs0 : (((w.alloc (.cells #[.int .i64 code, .slice A l.length c, .int .i64 ticks] 41)).alloc (.cells #[.int .i64 0, .slice none 0 0, .int .i64 0] 44)).alloc (.cells #[.int .i64 code, .slice none 0 0, .int .i64 0] 44)).heap.size = w.heap.size + 3 := by simp
  rw [World.size_alloc] at K1 K2
  rw [World.size_alloc] at K2
  have Hc := Lib.hid (toByteS_c l A c B _ hl (by rw [hs0]; omega) (h.below (hbW.mono hB)))
  have HK0 := Lib.hid K0
  have HK1 := Lib.hid K1
  have HK2 := Lib.hid K2
  have HbW := Lib.hid hbW
  clear K0 K1 K2 hbW h
  go_enter Tryd.func22, Tryd.ntmps22
  go_wp2_with fail
  refine Hc.out.mono ?_
  rintro e w4 ⟨g, rfl, hK, hlo, hlt, hb⟩
  rw [hs0] at hlo
  have k0 := HK0.out.below hb (by omega)
  have k1 := HK1.out.below hb (by omega)
  have k2 := HK2.out.below hb (by omega)
  have hs4 := hb.size
  rw [hs0] at hs4
  have Hb := Lib.hid (HbW.out.trans (hb.mono (by omega)))
  have HK := Lib.hid hK
  obtain ⟨a0, a1, a2⟩ := k0.three
  obtain ⟨b0, b1, b2⟩ := k1.three
  obtain ⟨d0, d1, d2⟩ := k2.three
  have y0 := k1.frozen 0
  have y1 := k1.frozen 1
  have y2 := k1.frozen 2
  have z0 := k2.frozen 0
  have z1 := k2.frozen 1
  have z2 := k2.frozen 2
  clear hb hK k0 k1 k2 HK0 HK1 HK2 HbW Hc hs0
  go_wp2_with fail
  refine bodyPost_ret (v := .agg #[.int .i64 code, .slice (some ⟨g, 0, none⟩) l.length l.length, .int .i64 ticks]) (by simp [results, Tryd.results22, go_sem, b0, b1, b2]) rfl
    ⟨g, rfl, ?_, by omega, by simpa using hlt, ?_⟩
  · refine Blk.far (Blk.far (Blk.far (Blk.far (Blk.far HK.out ?_ _) ?_ _) ?_ _) ?_ _) ?_ _ <;> first | (show g ≠ w.heap.size + 1 + 1; omega) | (show g ≠ w.heap.size + 1; omega)
  · refine Below.setCell (Below.setCell (Below.setCell (Below.setCell (Below.setCell Hb.out ?_ _) ?_ _) ?_ _) ?_ _) ?_ _ <;> first | (show w.heap.size ≤ w.heap.size + 1 + 1; omega) | (show w.heap.size ≤ w.heap.size + 1; omega)

set_option maxRecDepth 100000 in
theorem eqResult_c (A' : Option Addr) (c' B' : Nat) (hB : B ≤ w.heap.size) (hB' : B' ≤ w.heap.size) (hl : l.length ≤ 4294967296) (h : RB w B A l) (h' : RB w B' A' l) :
    Calls Tryd.prog 24 #[.agg #[.int .i64 code, .slice A l.length c, .int .i64 ticks], .agg #[.int .i64 code, .slice A' l.length c', .int .i64 ticks]] w fun e w' => e = .returned (.bool true) ∧ Below w.heap.size w w' := by
  have K0 := (Blk.new w 44 #[.int .i64 code, .slice A l.length c, .int .i64 ticks]).alloc (.cells #[.int .i64 code, .slice A' l.length c', .int .i64 ticks] 44)
  have K1 := Blk.new (w.alloc (.cells #[.int .i64 code, .slice A l.length c, .int .i64 ticks] 44)) 44 #[.int .i64 code, .slice A' l.length c', .int .i64 ticks]
  have hbW : Below w.heap.size w ((w.alloc (.cells #[.int .i64 code, .slice A l.length c, .int .i64 ticks] 44)).alloc (.cells #[.int .i64 code, .slice A' l.length c', .int .i64 ticks] 44)) := ((Below.refl _ _).alloc (Nat.le_refl _) _).alloc (by simp) _
  rw [World.size_alloc] at K1
  have Hc := Lib.hid (eqByteS_c l A A' c c' B B' _ hl (h.below (hbW.mono hB)) (h'.below (hbW.mono hB')))
  have HK0 := Lib.hid K0
  have HK1 := Lib.hid K1
  have HbW := Lib.hid hbW
  clear K0 K1 hbW h h'
  go_enter Tryd.func24, Tryd.ntmps24
  go_wp2_with fail
  refine Hc.out.mono ?_
  rintro e w2 ⟨rfl, n2, hw2⟩
  have hb2 : Below (w.heap.size + 2) ((w.alloc (.cells #[.int .i64 code, .slice A l.length c, .int .i64 ticks] 44)).alloc (.cells #[.int .i64 code, .slice A' l.length c', .int .i64 ticks] 44)) w2 := by subst hw2; exact ⟨rfl, rfl, rfl, Nat.le_refl _, fun _ _ => rfl⟩
  obtain ⟨a0, a1, a2⟩ := (HK0.out.below hb2 (by omega)).three
  obtain ⟨b0, b1, b2⟩ := (HK1.out.below hb2 (by omega)).three
  have Hb := Lib.hid (HbW.out.trans (hb2.mono (by omega)))
  clear hw2 hb2 HK0 HK1 HbW Hc
  go_wp2
  go_ret
  exact ⟨rfl, Hb.out⟩

set_option maxRecDepth 100000 in
theorem markResult_o (lo : Nat) (k : Nat) (f : Nat → Int) (n : Nat) (hsz : k + n ≤ 1073741824) (h : OwnU w lo A n f) (hlo : lo ≤ w.heap.size) :
    Calls Tryd.prog 25 #[.agg #[.int .i64 code, .slice A n c, .int .i64 ticks], .int .i64 (k : Int)] w fun e w' => e = .returned (.int .i64 ((k + n : Nat) : Int)) ∧ OwnU w' lo A n (fun i => (((k + i) % 256 : Nat) : Int)) ∧ Below lo w w' ∧ (∀ b, b < w.heap.size → (∀ ad, A = some ad → ad.block ≠ b) → w'.heap[b]? = w.heap[b]?) := by
  have hbW := (Below.refl w.heap.size w).alloc (Nat.le_refl _) (.cells #[.int .i64 code, .slice A n c, .int .i64 ticks] 44)
  have Hc := Lib.hid (markByteS_o n A c lo k f _ hsz (h.below hbW))
  have HbW := Lib.hid hbW
  clear hbW h
  go_enter Tryd.func25, Tryd.ntmps25
  go_wp2_with fail
  refine Hc.out.mono ?_
  rintro e w2 ⟨rfl, hO, hs, hb, hot⟩
  have Hb := Lib.hid ((HbW.out.mono hlo).trans hb)
  have HO := Lib.hid hO
  have Hot : Hid (∀ b, b < w.heap.size → (∀ ad, A = some ad → ad.block ≠ b) → w2.heap[b]? = w.heap[b]?) := Lib.hid (fun b hlt hne => (hot b hne).trans (HbW.out.block b hlt))
  clear hO hs hb hot HbW Hc
  go_wp2
  go_ret
  exact ⟨rfl, HO.out, Hb.out, Hot.out⟩
end
end Res
end Go.Proofs.YtebgigiakfjocaaDoor
