/-
  The program's room: headers, fields, slots.
-/
import Derived.Test.YtfmlgpnjckamjaaRegion
import Derived.Test.YtfmlgpnjckamjaaMarn
import Derived.Test.YtfmlgpnjckamjaaBytes
import Derived.Lib.Bytealg
import Derived.Lib.BytesEntry
import Derived.Laws.Externs
import Derived.Test.YtfmlgpnjckamjaaWord
import Derived.Laws.BytesString
import Derived.Laws.BytesArg
namespace Go.Proofs.Ytfmlgpnjckamjaa
open Go.RowKit
set_option linter.unusedVariables false
set_option linter.unusedSimpArgs false

set_option maxRecDepth 100000 in
set_option maxHeartbeats 1000000 in
theorem headHolds_c (lv : Bool) (g c gen : Int) (w : World) :
    Calls Try.prog 136 #[.agg #[.bool lv, .int .i64 g, .int .i64 c], .int .i64 gen] w fun e w' => e = .returned (.bool (lv && g == gen)) ∧ Below w.heap.size w w' := by
  cases lv
  · go_enter Try.func136, Try.ntmps136
    go_wp2
    go_ret
    exact ⟨rfl, blw1 _ _⟩
  · go_enter Try.func136, Try.ntmps136
    go_wp2
    go_ret
    exact ⟨rfl, blw1 _ _⟩

set_option maxRecDepth 100000 in
set_option maxHeartbeats 1000000 in
theorem headHeld_c (lv : Bool) (g c gen : Int) (w : World) :
    Calls Try.prog 114 #[.agg #[.bool lv, .int .i64 g, .int .i64 c], .int .i64 gen] w fun e w' => e = .returned (.bool (decide (0 ≤ gen) && decide (gen ≤ g))) ∧ Below w.heap.size w w' := by
  by_cases h : 0 ≤ gen
  · rw [decide_eq_true h, Bool.true_and]
    go_enter Try.func114, Try.ntmps114
    go_wp2
    go_ret
    exact ⟨rfl, blw1 _ _⟩
  · have h' := decide_eq_false h
    rw [h', Bool.false_and]
    go_enter Try.func114, Try.ntmps114
    go_wp2
    go_ret
    exact ⟨rfl, blw1 _ _⟩

def bndH (lv : Bool) (g c : Int) : Bool := if lv then decide (1 ≤ g) && decide (g ≤ 1000000) && decide (1 ≤ c) && decide (c ≤ 1000000) else decide (0 ≤ g) && decide (g ≤ 1000000) && c == 0

set_option maxRecDepth 100000 in
set_option maxHeartbeats 4000000 in
theorem headBounded_c (lv : Bool) (g c : Int) (w : World) :
    Calls Try.prog 127 #[.agg #[.bool lv, .int .i64 g, .int .i64 c]] w fun e w' => e = .returned (.bool (bndH lv g c)) ∧ Below w.heap.size w w' := by
  cases lv
  · by_cases h1 : 0 ≤ g
    · by_cases h2 : g ≤ 1000000
      · have e : bndH false g c = (c == 0) := by simp [bndH, h1, h2]
        rw [e]
        clear e
        go_enter Try.func127, Try.ntmps127
        go_wp2
        go_ret
        exact ⟨rfl, blw1 _ _⟩
      · have e : bndH false g c = false := by simp [bndH, h1, h2]
        have h2' := decide_eq_false h2
        rw [e]
        clear e
        go_enter Try.func127, Try.ntmps127
        go_wp2
        go_ret
        exact ⟨rfl, blw1 _ _⟩
    · have e : bndH false g c = false := by simp [bndH, h1]
      have h1' := decide_eq_false h1
      rw [e]
      clear e
      go_enter Try.func127, Try.ntmps127
      go_wp2
      go_ret
      exact ⟨rfl, blw1 _ _⟩
  · by_cases h1 : 1 ≤ g
    · by_cases h2 : g ≤ 1000000
      · by_cases h3 : 1 ≤ c
        · have e : bndH true g c = decide (c ≤ 1000000) := by simp [bndH, h1, h2, h3]
          rw [e]
          clear e
          go_enter Try.func127, Try.ntmps127
          go_wp2
          go_ret
          exact ⟨rfl, blw1 _ _⟩
        · have e : bndH true g c = false := by simp [bndH, h1, h2, h3]
          have h3' := decide_eq_false h3
          rw [e]
          clear e
          go_enter Try.func127, Try.ntmps127
          go_wp2
          go_ret
          exact ⟨rfl, blw1 _ _⟩
      · have e : bndH true g c = false := by simp [bndH, h1, h2]
        have h2' := decide_eq_false h2
        rw [e]
        clear e
        go_enter Try.func127, Try.ntmps127
        go_wp2
        go_ret
        exact ⟨rfl, blw1 _ _⟩
    · have e : bndH true g c = false := by simp [bndH, h1]
      have h1' := decide_eq_false h1
      rw [e]
      clear e
      go_enter Try.func127, Try.ntmps127
      go_wp2
      go_ret
      exact ⟨rfl, blw1 _ _⟩

/-- a room, as it is handed about -/
def roomV (A0 : Option Addr) (n c0 : Nat) (v1 v2 v3 : Value) : Value := .agg #[.slice A0 n c0, v1, v2, v3]

set_option maxRecDepth 100000 in
set_option maxHeartbeats 1000000 in
theorem roomHas_c (A0 : Option Addr) (n c0 : Nat) (v1 v2 v3 : Value) (h1 : v1.cells = #[v1]) (h2 : v2.cells = #[v2]) (h3 : v3.cells = #[v3]) (x : Int) (w : World) (hn : n ≤ maxLen) :
    Calls Try.prog 113 #[.agg #[.slice A0 n c0, v1, v2, v3], .int .i64 x] w fun e w' => e = .returned (.bool (decide (0 ≤ x) && decide (x < n))) ∧ Below w.heap.size w w' := by
  unfold maxLen at hn
  by_cases h : 0 ≤ x
  · rw [decide_eq_true h, Bool.true_and]
    go_enter Try.func113, Try.ntmps113
    go_wp2
    go_ret
    exact ⟨rfl, blw1 _ _⟩
  · have h' := decide_eq_false h
    rw [h', Bool.false_and]
    go_enter Try.func113, Try.ntmps113
    go_wp2
    go_ret
    exact ⟨rfl, blw1 _ _⟩
end Go.Proofs.Ytfmlgpnjckamjaa

namespace Go.Proofs.Ytfmlgpnjckamjaa
open Go.RowKit
set_option linter.unusedVariables false
set_option linter.unusedSimpArgs false

section
variable (A0 : Option Addr) (c0 : Nat) (v1 v2 v3 : Value) (h1 : v1.cells = #[v1]) (h2 : v2.cells = #[v2]) (h3 : v3.cells = #[v3])

include h1 h2 h3 in
set_option maxRecDepth 100000 in
set_option maxHeartbeats 2000000 in
theorem roomHolds_c (S : List Sl) (L B : Nat) (k n g : Int) (w : World) (hB : B ≤ w.heap.size) (h : SlL w L B A0 S) :
    Calls Try.prog 112 #[.agg #[.slice A0 S.length c0, v1, v2, v3], .agg #[.int .i64 k, .int .i64 n, .int .i64 g]] w fun e w' => e = .returned (.bool (valOk S 2 n g)) ∧ Below w.heap.size w w' := by
  have hm := h.1
  have KA : Blk ((w.alloc (.cells #[.slice A0 S.length c0, v1, v2, v3] 100)).alloc (.cells #[.int .i64 k, .int .i64 n, .int .i64 g] 43)) w.heap.size 100 #[.slice A0 S.length c0, v1, v2, v3] := (Blk.new w 100 #[.slice A0 S.length c0, v1, v2, v3]).alloc _
  have KB : Blk ((w.alloc (.cells #[.slice A0 S.length c0, v1, v2, v3] 100)).alloc (.cells #[.int .i64 k, .int .i64 n, .int .i64 g] 43)) (w.heap.size + 1) 43 #[.int .i64 k, .int .i64 n, .int .i64 g] := by
    have := Blk.new (w.alloc (.cells #[.slice A0 S.length c0, v1, v2, v3] 100)) 43 #[.int .i64 k, .int .i64 n, .int .i64 g]
    simpa using this
  have hbW := blw2 w (.cells #[.slice A0 S.length c0, v1, v2, v3] 100) (.cells #[.int .i64 k, .int .i64 n, .int .i64 g] 43)
  have HKA := Lib.hid KA
  have HKB := Lib.hid KB
  have HbW := Lib.hid hbW
  have Hm := Lib.hid hm
  have H := Lib.hid h
  clear KA KB hbW hm h
  go_enter Try.func112, Try.ntmps112
  go_wp2_with fail
  generalize hW : (w.alloc (.cells #[.slice A0 S.length c0, v1, v2, v3] 100)).alloc (.cells #[.int .i64 k, .int .i64 n, .int .i64 g] 43) = W
  rw [hW] at HKA HKB HbW
  clear hW
  have r0 : ∀ u : Wn W, u.val.cell? ⟨w.heap.size, 0, none⟩ = some (.slice A0 S.length c0) := fun u => (HKA.out.below u.prop HKA.out.lt).cel 0 rfl
  have r1 : ∀ u : Wn W, u.val.cell? ⟨w.heap.size, 1, none⟩ = some v1 := fun u => (HKA.out.below u.prop HKA.out.lt).cel 1 rfl
  have r2 : ∀ u : Wn W, u.val.cell? ⟨w.heap.size, 2, none⟩ = some v2 := fun u => (HKA.out.below u.prop HKA.out.lt).cel 2 rfl
  have r3 : ∀ u : Wn W, u.val.cell? ⟨w.heap.size, 3, none⟩ = some v3 := fun u => (HKA.out.below u.prop HKA.out.lt).cel 3 rfl
  have q1 : ∀ u : Wn W, u.val.cell? ⟨w.heap.size + 1, 1, none⟩ = some (.int .i64 n) := fun u => (HKB.out.below u.prop HKB.out.lt).cel 1 rfl
  have q2 : ∀ u : Wn W, u.val.cell? ⟨w.heap.size + 1, 2, none⟩ = some (.int .i64 g) := fun u => (HKB.out.below u.prop HKB.out.lt).cel 2 rfl
  rcases slotAt_cases S n with ⟨hs, hno⟩ | ⟨m, hlt, rfl, hs⟩
  · have e : valOk S 2 n g = false := by simp [valOk, hs]
    have hh : (decide (0 ≤ n) && decide (n < (S.length : Int))) = false := by
      rw [Bool.and_eq_false_iff]
      by_cases hn0 : 0 ≤ n
      · exact .inr (decide_eq_false fun h => hno ⟨hn0, h⟩)
      · exact .inl (decide_eq_false hn0)
    have hHh := (fun u : World => roomHas_c A0 S.length c0 v1 v2 v3 h1 h2 h3 n u Hm.out)
    rw [hh] at hHh
    have Hh := Lib.hid (fun u : Wn W => Calls.there u (hHh u.val))
    clear hHh
    have E := Lib.hid e
    clear hno hs hh e
    refine region_below (by kernel_rfl) (by kernel_rfl) ?_
    repeat (go_big_quiet_step ((go_at_call 113; exact Hh.out _)))
    refine wpQuiet_nil ?_
    intro w2 hw2
    obtain ⟨⟨w2, hb2⟩, rfl⟩ := hw2
    go_wp2
    go_ret
    exact ⟨by rw [E.out]; rfl, HbW.out.trans (hb2.mono HbW.out.size)⟩
  · have e : valOk S 2 m g = (S[m].live && S[m].gen == g) := by simp [valOk, hs]
    have hh : (decide (0 ≤ (m : Int)) && decide ((m : Int) < (S.length : Int))) = true := by simp; omega
    have hHh := (fun u : World => roomHas_c A0 S.length c0 v1 v2 v3 h1 h2 h3 (m : Int) u Hm.out)
    rw [hh] at hHh
    have Hh := Lib.hid (fun u : Wn W => Calls.there u (hHh u.val))
    clear hHh
    obtain ⟨ad, rfl, _, hb, hat⟩ := (H.out.below (HbW.out.mono hB)).2 (by omega)
    obtain ⟨x0, x1, x2, x3, hc4, rfl, rfl, rfl, _⟩ := hat m hlt
    obtain ⟨b, hb1⟩ : ∃ b, b = S[m].live := ⟨_, rfl⟩
    obtain ⟨gn, hb2⟩ : ∃ b, b = S[m].gen := ⟨_, rfl⟩
    obtain ⟨ct, hb3⟩ : ∃ b, b = S[m].count := ⟨_, rfl⟩
    rw [← hb1, ← hb2, ← hb3] at hc4
    rw [← hb1, ← hb2] at e
    have hc : ∀ u : Wn W, C4 u.val (ad.add (m * 4)) (.bool b) (.int .i64 gn) (.int .i64 ct) x3 := fun u => hc4.keep (w' := u.val) (fun q hq => u.prop.cell (by rw [hq, block_of_add]; have := HbW.out.size; omega))
    have d0 := fun u => (hc u).1
    have d1 := fun u => (hc u).2.1
    have d2 := fun u => (hc u).2.2.1
    have hHhh := (fun u : World => headHolds_c b gn ct g u)
    rw [← e] at hHhh
    have Hhh := Lib.hid (fun u : Wn W => Calls.there u (hHhh u.val))
    clear hHhh
    clear hat hs hc hc4 hb1 hb2 hb3 e hh
    refine region_below (by kernel_rfl) (by kernel_rfl) ?_
    repeat (go_big_quiet_step ((first | (go_at_call 113; exact Hh.out _) | (go_at_call 136; exact Hhh.out _))))
    refine wpQuiet_nil ?_
    intro w2 hw2
    obtain ⟨⟨w2, hb2⟩, rfl⟩ := hw2
    go_wp2
    go_ret
    exact ⟨rfl, HbW.out.trans (hb2.mono HbW.out.size)⟩

include h1 h2 h3 in
set_option maxRecDepth 100000 in
set_option maxHeartbeats 4000000 in
theorem roomRight_c (S : List Sl) (L B : Nat) (k n g : Int) (w : World) (hB : B ≤ w.heap.size) (h : SlL w L B A0 S) :
    Calls Try.prog 84 #[.agg #[.slice A0 S.length c0, v1, v2, v3], .agg #[.int .i64 k, .int .i64 n, .int .i64 g]] w fun e w' => e = .returned (.bool (valOk S k n g)) ∧ Below w.heap.size w w' := by
  have hm := h.1
  by_cases k0 : k = 0
  · subst k0
    by_cases hn : n = 0
    · subst hn
      have E := Lib.hid (show valOk S 0 0 g = (g == 0) by simp [valOk])
      clear hm h
      go_enter Try.func84, Try.ntmps84
      go_wp2
      go_ret
      exact ⟨by rw [E.out]; rfl, blw2 _ _ _⟩
    · have E := Lib.hid (show valOk S 0 n g = false by simp [valOk, hn])
      have hn' : (n == 0) = false := by simpa using hn
      clear hm h
      go_enter Try.func84, Try.ntmps84
      go_wp2
      go_ret
      exact ⟨by rw [E.out]; rfl, blw2 _ _ _⟩
  have k0' : (k == 0) = false := by simpa using k0
  by_cases k1 : k = 1
  · subst k1
    have E := Lib.hid (show valOk S 1 n g = (g == 0) by simp [valOk])
    clear hm h k0 k0'
    go_enter Try.func84, Try.ntmps84
    go_wp2
    go_ret
    exact ⟨by rw [E.out]; rfl, blw2 _ _ _⟩
  have k1' : (k == 1) = false := by simpa using k1
  have KA : Blk ((w.alloc (.cells #[.slice A0 S.length c0, v1, v2, v3] 100)).alloc (.cells #[.int .i64 k, .int .i64 n, .int .i64 g] 43)) w.heap.size 100 #[.slice A0 S.length c0, v1, v2, v3] := (Blk.new w 100 #[.slice A0 S.length c0, v1, v2, v3]).alloc _
  have KB : Blk ((w.alloc (.cells #[.slice A0 S.length c0, v1, v2, v3] 100)).alloc (.cells #[.int .i64 k, .int .i64 n, .int .i64 g] 43)) (w.heap.size + 1) 43 #[.int .i64 k, .int .i64 n, .int .i64 g] := by
    have := Blk.new (w.alloc (.cells #[.slice A0 S.length c0, v1, v2, v3] 100)) 43 #[.int .i64 k, .int .i64 n, .int .i64 g]
    simpa using this
  have hbW := blw2 w (.cells #[.slice A0 S.length c0, v1, v2, v3] 100) (.cells #[.int .i64 k, .int .i64 n, .int .i64 g] 43)
  by_cases k2 : k = 2
  · subst k2
    have Hh := Lib.hid (roomHolds_c A0 c0 v1 v2 v3 h1 h2 h3 S L B 2 n g _ (Nat.le_trans hB hbW.size) (h.below (hbW.mono hB)))
    have HbW := Lib.hid hbW
    clear hm h k0 k1 k0' k1' KA KB hbW
    go_enter Try.func84, Try.ntmps84
    go_wp2_with fail
    refine Hh.out.mono ?_
    rintro e w' ⟨rfl, hb⟩
    go_wp2
    go_ret
    exact ⟨rfl, HbW.out.trans (hb.mono HbW.out.size)⟩
  have k2' : (k == 2) = false := by simpa using k2
  by_cases k3 : k = 3
  · subst k3
    have HKA := Lib.hid KA
    have HKB := Lib.hid KB
    have HbW := Lib.hid hbW
    have Hm := Lib.hid hm
    have H := Lib.hid h
    clear KA KB hbW hm h k0 k1 k2 k0' k1' k2'
    go_enter Try.func84, Try.ntmps84
    go_wp2_with fail
    generalize hW : (w.alloc (.cells #[.slice A0 S.length c0, v1, v2, v3] 100)).alloc (.cells #[.int .i64 3, .int .i64 n, .int .i64 g] 43) = W
    rw [hW] at HKA HKB HbW
    clear hW
    have r0 : ∀ u : Wn W, u.val.cell? ⟨w.heap.size, 0, none⟩ = some (.slice A0 S.length c0) := fun u => (HKA.out.below u.prop HKA.out.lt).cel 0 rfl
    have r1 : ∀ u : Wn W, u.val.cell? ⟨w.heap.size, 1, none⟩ = some v1 := fun u => (HKA.out.below u.prop HKA.out.lt).cel 1 rfl
    have r2 : ∀ u : Wn W, u.val.cell? ⟨w.heap.size, 2, none⟩ = some v2 := fun u => (HKA.out.below u.prop HKA.out.lt).cel 2 rfl
    have r3 : ∀ u : Wn W, u.val.cell? ⟨w.heap.size, 3, none⟩ = some v3 := fun u => (HKA.out.below u.prop HKA.out.lt).cel 3 rfl
    have q1 : ∀ u : Wn W, u.val.cell? ⟨w.heap.size + 1, 1, none⟩ = some (.int .i64 n) := fun u => (HKB.out.below u.prop HKB.out.lt).cel 1 rfl
    have q2 : ∀ u : Wn W, u.val.cell? ⟨w.heap.size + 1, 2, none⟩ = some (.int .i64 g) := fun u => (HKB.out.below u.prop HKB.out.lt).cel 2 rfl
    rcases slotAt_cases S n with ⟨hs, hno⟩ | ⟨m, hlt, rfl, hs⟩
    · have E := Lib.hid (show valOk S 3 n g = false by simp [valOk, hs])
      have hh : (decide (0 ≤ n) && decide (n < (S.length : Int))) = false := by
        rw [Bool.and_eq_false_iff]
        by_cases hn0 : 0 ≤ n
        · exact .inr (decide_eq_false fun h => hno ⟨hn0, h⟩)
        · exact .inl (decide_eq_false hn0)
      have hHh := (fun u : World => roomHas_c A0 S.length c0 v1 v2 v3 h1 h2 h3 n u Hm.out)
      rw [hh] at hHh
      have Hh := Lib.hid (fun u : Wn W => Calls.there u (hHh u.val))
      clear hHh hno hs hh
      refine region_below (by kernel_rfl) (by kernel_rfl) ?_
      repeat (go_big_quiet_step ((go_at_call 113; exact Hh.out _)))
      refine wpQuiet_nil ?_
      intro w2 hw2
      obtain ⟨⟨w2, hb2⟩, rfl⟩ := hw2
      go_wp2
      go_ret
      exact ⟨by rw [E.out]; rfl, HbW.out.trans (hb2.mono HbW.out.size)⟩
    · have e : valOk S 3 m g = (decide (0 ≤ g) && decide (g ≤ S[m].gen)) := by simp [valOk, hs]
      have hh : (decide (0 ≤ (m : Int)) && decide ((m : Int) < (S.length : Int))) = true := by simp; omega
      have hHh := (fun u : World => roomHas_c A0 S.length c0 v1 v2 v3 h1 h2 h3 (m : Int) u Hm.out)
      rw [hh] at hHh
      have Hh := Lib.hid (fun u : Wn W => Calls.there u (hHh u.val))
      obtain ⟨ad, rfl, _, hb, hat⟩ := (H.out.below (HbW.out.mono hB)).2 (by omega)
      obtain ⟨x0, x1, x2, x3, hc4, rfl, rfl, rfl, _⟩ := hat m hlt
      obtain ⟨b, hb1⟩ : ∃ b, b = S[m].live := ⟨_, rfl⟩
      obtain ⟨gn, hb2⟩ : ∃ b, b = S[m].gen := ⟨_, rfl⟩
      obtain ⟨ct, hb3⟩ : ∃ b, b = S[m].count := ⟨_, rfl⟩
      rw [← hb1, ← hb2, ← hb3] at hc4
      rw [← hb2] at e
      have hc : ∀ u : Wn W, C4 u.val (ad.add (m * 4)) (.bool b) (.int .i64 gn) (.int .i64 ct) x3 := fun u => hc4.keep (w' := u.val) (fun q hq => u.prop.cell (by rw [hq, block_of_add]; have := HbW.out.size; omega))
      have d0 := fun u => (hc u).1
      have d1 := fun u => (hc u).2.1
      have d2 := fun u => (hc u).2.2.1
      have hHhh := (fun u : World => headHeld_c b gn ct g u)
      rw [← e] at hHhh
      have Hhh := Lib.hid (fun u : Wn W => Calls.there u (hHhh u.val))
      clear hHhh hHh hat hs hc hc4 hb1 hb2 hb3 e hh
      refine region_below (by kernel_rfl) (by kernel_rfl) ?_
      repeat (go_big_quiet_step ((first | (go_at_call 113; exact Hh.out _) | (go_at_call 114; exact Hhh.out _))))
      refine wpQuiet_nil ?_
      intro w2 hw2
      obtain ⟨⟨w2, hb2⟩, rfl⟩ := hw2
      go_wp2
      go_ret
      exact ⟨rfl, HbW.out.trans (hb2.mono HbW.out.size)⟩
  have k3' : (k == 3) = false := by simpa using k3
  have E := Lib.hid (show valOk S k n g = false by simp [valOk, k0, k1, k2, k3])
  clear hm h k0 k1 k2 k3 KA KB
  go_enter Try.func84, Try.ntmps84
  go_wp2
  go_ret
  exact ⟨by rw [E.out]; rfl, hbW⟩
end
end Go.Proofs.Ytfmlgpnjckamjaa

namespace Go.Proofs.Ytfmlgpnjckamjaa
open Go.RowKit
set_option linter.unusedVariables false

theorem run_bytesOf_RB {P : Program} {w : World} {B : Nat} {A : Option Addr} {l : List UInt8} (h : RB w B A l) (c : Nat) : (Extern.Bytes.bytesOf (Value.slice A l.length c)).run P w = .ok ⟨l.toArray⟩ w := by
  rcases A with _ | ad
  · have : l = [] := by
      rcases Nat.eq_zero_or_pos l.length with h0 | h0
      · exact List.eq_nil_of_length_eq_zero h0
      · obtain ⟨ad, e, _⟩ := h.at_ h0
        cases e
    subst this
    rfl
  · have hc : ∀ j x, (l.map fun b => (b.toNat : Int))[j]? = some x → w.cell? (ad.add j) = some (.int .u8 x) := fun j x hj => by
      have hj' : j < l.length := by
        rcases Nat.lt_or_ge j l.length with h1 | h1
        · exact h1
        · rw [List.getElem?_eq_none (by simpa using h1)] at hj
          cases hj
      obtain ⟨ad', e, _, hx⟩ := h.at_ hj'
      cases e
      rw [hx]
      rw [List.getElem?_map, List.getElem?_eq_getElem hj'] at hj
      simpa using hj
    have := Lib.run_loadBytesX (P := P) (w := w) (l.map fun b => (b.toNat : Int)) ad .empty hc
    rw [List.length_map] at this
    show (Extern.Bytes.loadBytes ad l.length .empty).run P w = _
    rw [this]
    congr 2
    show (#[] ++ _ : Array UInt8) = _
    rw [Array.empty_append]
    congr 1
    unfold Lib.bytesOf
    rw [List.map_map]
    conv => rhs; rw [← List.map_id l]
    apply List.map_congr_left
    intro b _
    simp

theorem bytesCompare_c (l l' : List UInt8) (A A' : Option Addr) (c c' B B' : Nat) (w : World) (h : RB w B A l) (h' : RB w B' A' l') :
    Calls Try.prog 117 #[.slice A l.length c, .slice A' l'.length c'] w fun e w' => e = .returned (.int .i64 (Lib.compareBytes l l')) ∧ w = w' := by
  have hrun : (callFunc 137 #[.slice A l.length c, .slice A' l'.length c']).run Try.prog w = .ok (.value (.int .i64 (Lib.compareBytes l l'))) w := by
    rw [run_callFunc_extern Try.func137 (by kernel_rfl) (by kernel_rfl) (by kernel_rfl) (e := Extern.BytealgCompare.compare) (by kernel_rfl)]
    have e : (Extern.BytealgCompare.compare #[.slice A l.length c, .slice A' l'.length c']).run Try.prog w = .ok (.int .i64 (Lib.compareBytes l l')) w := by
      change Sem.run Try.prog (do pure (goInt (Extern.BytealgCompare.cmp (← Extern.Bytes.bytesOf (.slice A l.length c)) (← Extern.Bytes.bytesOf (.slice A' l'.length c'))))) w = _
      simp only [Sem.run_bind, run_bytesOf_RB h, run_bytesOf_RB h', Sem.run_pure, Result.andThen]
      rw [Lib.cmp_eq]
      rfl
    rw [e]
    rfl
  have Hr := Lib.hid hrun
  clear hrun
  go_enter Try.func117, Try.ntmps117
  go_wp2_with (simp only [Hr.out])
  go_ret
  exact ⟨rfl, rfl⟩
end Go.Proofs.Ytfmlgpnjckamjaa

namespace Go.Proofs.Ytfmlgpnjckamjaa
open Go.RowKit
set_option linter.unusedVariables false

theorem convert_RB {P : Program} {w : World} {B : Nat} {A : Option Addr} {l : List UInt8} (h : RB w B A l) (src e dst c : Nat) (hs : P.underlying src = some (.slice e)) (he : P.underlying e = some (.int .u8)) (hd : P.underlying dst = some .string) :
    (Go.convert src dst (Value.slice A l.length c)).run P w = .ok (.string ⟨l.toArray⟩) w := by
  rw [run_convert_bytes_string w src dst e A l.length c hs he hd]
  rcases A with _ | ad
  · have : l = [] := by
      rcases Nat.eq_zero_or_pos l.length with h0 | h0
      · exact List.eq_nil_of_length_eq_zero h0
      · obtain ⟨ad, e, _⟩ := h.at_ h0
        cases e
    subst this
    simp [Conv.bytesToString]
    rfl
  · have hl := run_loadCells_list (P := P) w ad (vb l) (fun j v hj => by
      have hj' : j < l.length := by
        rcases Nat.lt_or_ge j l.length with h1 | h1
        · exact h1
        · rw [List.getElem?_eq_none (by rw [vb_len]; exact h1)] at hj
          cases hj
      obtain ⟨ad', e, _, hc⟩ := h.2 (by omega)
      cases e
      exact hc j v hj)
    have hm : (vb l) = (l.map fun b => (b.toNat : Int)).map (Value.int .u8) := by simp [vb]
    rw [vb_len, hm] at hl
    rw [run_bytesToString w ad l.length c _ hl, foldl_push_bytes]
    congr 2
    show ByteArray.mk _ = ByteArray.mk _
    congr 1
    apply Array.ext'
    rw [Array.toList_append, List.map_map]
    show [] ++ List.map _ l = l
    rw [List.nil_append]
    conv => rhs; rw [← List.map_id l]
    apply List.map_congr_left
    intro b _
    simp

/-- is a field, at its place, as it may be? -/
def fdAt (S : List Sl) (fs : List Fd) (k : Nat) : Bool :=
  match fs[k]? with
  | none => true
  | some f => wordOk f.name && valOk S f.k f.n f.g && (match k with
    | 0 => true
    | j + 1 => match fs[j]? with
      | none => true
      | some e => Op.bytesLess e.name f.name)
def fdsOk (S : List Sl) (fs : List Fd) : Bool := (List.range fs.length).all (fdAt S fs)
/-- a slot but for its fields' insides -/
def slBd (s : Sl) : Bool := decide (0 ≤ s.gen) && decide (s.gen ≤ 1000000) && decide (0 ≤ s.count) && decide (s.count ≤ 1000000) && (if s.live then !(s.gen == 0) && !(s.count == 0) else s.count == 0 && s.fs.length == 0)
def slOk (S : List Sl) (s : Sl) : Bool := slBd s && fdsOk S s.fs
def liveAt (S : List Sl) (n : Int) : Bool := match slotAt S n with | some s => s.live | none => false
def purAt (S : List Sl) (P : List Int) (i : Nat) : Bool :=
  match P[i]? with
  | none => true
  | some x => liveAt S x && !(P.take i).contains x
def arOk (a : Ar) : Bool :=
  decide (1 ≤ a.slots.length) && decide (a.slots.length ≤ 16) && decide (a.queue.length ≤ 500) && decide (a.purple.length ≤ 16) && inAll a.queue a.slots.length && inAll a.purple a.slots.length &&
  a.slots.all (slOk a.slots) && a.queue.all (liveAt a.slots) && (List.range a.purple.length).all (purAt a.slots a.purple)

theorem range_next {p : Nat → Bool} {k : Nat} (h : (List.range k).all p = true) (hp : p k = true) : (List.range (k + 1)).all p = true := by
  rw [List.range_succ, List.all_append, h]; simp [hp]
theorem range_not {p : Nat → Bool} {n k : Nat} (hk : k < n) (hp : p k = false) : (List.range n).all p = false := by
  rw [List.all_eq_false]
  exact ⟨k, List.mem_range.2 hk, by simp [hp]⟩
section
variable {α : Type}
theorem all_next {p : α → Bool} {l : List α} {k : Nat} (h : (l.take k).all p = true) (hk : k < l.length) (hp : p l[k] = true) : (l.take (k + 1)).all p = true := by
  rw [List.take_succ_eq_append_getElem hk, List.all_append, h]; simp [hp]
theorem all_not {p : α → Bool} {l : List α} {k : Nat} (hk : k < l.length) (hp : p l[k] = false) : l.all p = false := by
  rw [List.all_eq_false]
  exact ⟨l[k], List.getElem_mem hk, by simp [hp]⟩
end
theorem fdAt_zero {S : List Sl} {fs : List Fd} (h : 0 < fs.length) : fdAt S fs 0 = (wordOk fs[0].name && valOk S fs[0].k fs[0].n fs[0].g) := by
  unfold fdAt
  rw [List.getElem?_eq_getElem h]
  simp
theorem fdAt_succ {S : List Sl} {fs : List Fd} {k : Nat} (h : k + 1 < fs.length) : fdAt S fs (k + 1) = (wordOk fs[k + 1].name && valOk S fs[k + 1].k fs[k + 1].n fs[k + 1].g && Op.bytesLess fs[k].name fs[k + 1].name) := by
  unfold fdAt
  rw [List.getElem?_eq_getElem h]
  simp only [List.getElem?_eq_getElem (show k < fs.length by omega)]
theorem fdAt_word {S : List Sl} {fs : List Fd} {k : Nat} (h : k < fs.length) (hw : wordOk fs[k].name = false) : fdAt S fs k = false := by
  unfold fdAt
  rw [List.getElem?_eq_getElem h]
  simp [hw]
theorem fdAt_val {S : List Sl} {fs : List Fd} {k : Nat} (h : k < fs.length) (hv : valOk S fs[k].k fs[k].n fs[k].g = false) : fdAt S fs k = false := by
  unfold fdAt
  rw [List.getElem?_eq_getElem h]
  simp [hv]
theorem purAt_eq {S : List Sl} {P : List Int} {k : Nat} (h : k < P.length) : purAt S P k = (liveAt S P[k] && !(P.take k).contains P[k]) := by
  unfold purAt
  rw [List.getElem?_eq_getElem h]
theorem liveAt_eq {S : List Sl} {k : Nat} (h : k < S.length) : liveAt S k = S[k].live := by
  unfold liveAt slotAt
  rw [if_pos (by omega), show ((k : Int)).toNat = k by omega, List.getElem?_eq_getElem h]

theorem wordOk_len {l : List UInt8} (h : wordOk l = true) : l.length ≤ 6 := by
  unfold wordOk at h
  simp only [Bool.and_eq_true, decide_eq_true_eq] at h
  exact h.1.2
theorem inAll_get {l : List Int} {n : Int} (h : inAll l n = true) {k : Nat} (hk : k < l.length) : 0 ≤ l[k] ∧ l[k] < n := by
  unfold inAll at h
  rw [List.all_eq_true] at h
  have := h l[k] (List.getElem_mem hk)
  simpa using this

/-- bytes behind one another, two ways of telling -/
theorem compare_less : ∀ (a b : List UInt8), (0 ≤ Lib.compareBytes a b) = (Op.bytesLess a b = false)
  | [], [] => by simp [Lib.compareBytes, Op.bytesLess]
  | [], _ :: _ => by simp [Lib.compareBytes, Op.bytesLess]
  | _ :: _, [] => by simp [Lib.compareBytes, Op.bytesLess]
  | x :: a, y :: b => by
    have ih := compare_less a b
    unfold Lib.compareBytes Op.bytesLess
    by_cases h1 : x < y
    · simp [h1]
    · by_cases h2 : y < x
      · have hne : ¬ x = y := by rintro rfl; exact h1 h2
        simp [h1, h2, hne]
      · have : x = y := UInt8.le_antisymm (UInt8.not_lt.1 h2) (UInt8.not_lt.1 h1)
        subst this
        simp [h1, ih]
end Go.Proofs.Ytfmlgpnjckamjaa

namespace Go.Proofs.Ytfmlgpnjckamjaa
open Go.RowKit
set_option linter.unusedVariables false
set_option linter.unusedSimpArgs false

theorem fdsOk_yes {S : List Sl} {fs : List Fd} (h : (List.range fs.length).all (fdAt S fs) = true) : fdsOk S fs = true := h
theorem fdsOk_no {S : List Sl} {fs : List Fd} {j : Nat} (hj : j < fs.length) (h : fdAt S fs j = false) : fdsOk S fs = false := range_not hj h
theorem sum_fd {fs : List Fd} {n j : Nat} (h : (fs.map fdSz).sum ≤ n) (hj : j < fs.length) : fs[j].name.length ≤ n := by
  have h2 := sum_get fdSz hj
  have h4 : fdSz fs[j] = fs[j].name.length := rfl
  omega

section
variable (A0 : Option Addr) (c0 : Nat) (v1 v2 v3 : Value) (h1 : v1.cells = #[v1]) (h2 : v2.cells = #[v2]) (h3 : v3.cells = #[v3])

include h1 h2 h3 in
set_option maxRecDepth 100000 in
set_option maxHeartbeats 8000000 in
theorem fieldsOk_c (S : List Sl) (L B : Nat) (FA : Option Addr) (fc : Nat) (fs : List Fd) (w : World) (hB : B ≤ w.heap.size) (h : SlL w L B A0 S) (L' B' : Nat) (hB' : B' ≤ w.heap.size) (hF : FdL w L' B' FA fs) (hsz : (fs.map fdSz).sum ≤ 1050000) :
    Calls Try.prog 128 #[.agg #[.slice A0 S.length c0, v1, v2, v3], .slice FA fs.length fc] w fun e w' => e = .returned (.bool (fdsOk S fs)) ∧ Below w.heap.size w w' := by
  have hfm := hF.1
  unfold maxLen at hfm
  have KA := Blk.new w 100 #[.slice A0 S.length c0, v1, v2, v3]
  have hbW := blw1 w (.cells #[.slice A0 S.length c0, v1, v2, v3] 100)
  have HKA := Lib.hid KA
  have HbW := Lib.hid hbW
  have H := Lib.hid h
  have HF := Lib.hid hF
  have Hsz := Lib.hid hsz
  clear KA hbW h hF hsz
  go_enter Try.func128, Try.ntmps128
  go_wp2_with fail
  generalize hW : w.alloc (.cells #[.slice A0 S.length c0, v1, v2, v3] 100) = W
  rw [hW] at HKA HbW
  have hWsz : W.heap.size = w.heap.size + 1 := by rw [← hW]; simp
  have HWs := Lib.hid hWsz
  clear hW hWsz
  go_loopw [9] (fun i wr => ∃ j : Nat, j ≤ fs.length ∧ i = .int .i64 j ∧ (List.range j).all (fdAt S fs) = true ∧ Below w.heap.size w wr ∧ Blk wr w.heap.size 100 #[.slice A0 S.length c0, v1, v2, v3]) (fun i _ => fs.length - (intOf i).toNat)
  case atStart => exact ⟨0, Nat.zero_le _, rfl, rfl, HbW.out, HKA.out⟩
  case round =>
    obtain ⟨j, hj, rfl, hfa, hbi, KPi⟩ := hrel
    have Hfa := Lib.hid hfa
    clear hfa HbW HKA
    by_cases hjl : j < fs.length
    · obtain ⟨fd, rfl, _, hfb, hfat⟩ := HF.out.2 (by omega)
      obtain ⟨y0, y1, y2, y3, hy4, NA, nc, rfl, hN, hnm, rfl, rfl, rfl⟩ := hfat j hjl
      obtain ⟨⟨nm, fk, fn, fg⟩, hf⟩ : ∃ f, f = fs[j] := ⟨_, rfl⟩
      rw [← hf] at hy4 hN hnm
      dsimp only at hy4 hN hnm
      have Hf := Lib.hid hf
      have hnm4 : nm.length ≤ 4294967296 := by have := sum_fd Hsz.out hjl; simp only [← Hf.out] at this; omega
      have hsize := hbi.size
      obtain ⟨c0', c1', c2', c3'⟩ := hy4.keep (w' := wr) (fun q hq => hbi.cell (by rw [hq, block_of_add]; omega))
      have KF := Blk.new wr 92 #[.slice NA nm.length nc, .int .i64 fk, .int .i64 fn, .int .i64 fg]
      have KR := KPi.alloc (.cells #[.slice NA nm.length nc, .int .i64 fk, .int .i64 fn, .int .i64 fg] 92)
      have hb1 := hbi.alloc hsize (.cells #[.slice NA nm.length nc, .int .i64 fk, .int .i64 fn, .int .i64 fg] 92)
      have HKF := Lib.hid KF
      have HKR := Lib.hid KR
      have Hb1 := Lib.hid hb1
      have HN := Lib.hid hN
      have Hhat := Lib.hid hfat
      clear hfat hf KF KR hb1 hN hy4 hbi KPi
      go_wp2_with fail
      generalize hW1 : wr.alloc (.cells #[.slice NA nm.length nc, .int .i64 fk, .int .i64 fn, .int .i64 fg] 92) = W1
      rw [hW1] at HKF HKR Hb1
      clear hW1 c0' c1' c2' c3'
      have hB1 : B ≤ W1.heap.size := Nat.le_trans hB Hb1.out.size
      have f0 : ∀ u : Wn W1, u.val.cell? ⟨wr.heap.size, 0, none⟩ = some (.slice NA nm.length nc) := fun u => (HKF.out.below u.prop HKF.out.lt).cel 0 rfl
      have f1 : ∀ u : Wn W1, u.val.cell? ⟨wr.heap.size, 1, none⟩ = some (.int .i64 fk) := fun u => (HKF.out.below u.prop HKF.out.lt).cel 1 rfl
      have f2 : ∀ u : Wn W1, u.val.cell? ⟨wr.heap.size, 2, none⟩ = some (.int .i64 fn) := fun u => (HKF.out.below u.prop HKF.out.lt).cel 2 rfl
      have f3 : ∀ u : Wn W1, u.val.cell? ⟨wr.heap.size, 3, none⟩ = some (.int .i64 fg) := fun u => (HKF.out.below u.prop HKF.out.lt).cel 3 rfl
      have r0 : ∀ u : Wn W1, u.val.cell? ⟨w.heap.size, 0, none⟩ = some (.slice A0 S.length c0) := fun u => (HKR.out.below u.prop HKR.out.lt).cel 0 rfl
      have r1 : ∀ u : Wn W1, u.val.cell? ⟨w.heap.size, 1, none⟩ = some v1 := fun u => (HKR.out.below u.prop HKR.out.lt).cel 1 rfl
      have r2 : ∀ u : Wn W1, u.val.cell? ⟨w.heap.size, 2, none⟩ = some v2 := fun u => (HKR.out.below u.prop HKR.out.lt).cel 2 rfl
      have r3 : ∀ u : Wn W1, u.val.cell? ⟨w.heap.size, 3, none⟩ = some v3 := fun u => (HKR.out.below u.prop HKR.out.lt).cel 3 rfl
      have hlow : ∀ u : Wn W1, Below w.heap.size w u.val := fun u => Hb1.out.trans (u.prop.mono Hb1.out.size)
      have HL := Lib.hid hlow
      clear hlow
      have hwo : ∀ u : Wn W1, Calls Try.prog 83 #[.slice NA nm.length nc] u.val fun e w' => e = .returned (.bool (wordOk nm)) ∧ Below u.val.heap.size u.val w' := fun u => by
        refine (implWordOk_c nm NA nc B' u.val hnm4 (HN.out.1.below ((HL.out u).mono hB'))).mono ?_
        rintro e w' ⟨rfl, rfl⟩
        exact ⟨rfl, Below.refl _ _⟩
      have hvl : ∀ u : Wn W1, Calls Try.prog 84 #[.agg #[.slice A0 S.length c0, v1, v2, v3], .agg #[.int .i64 fk, .int .i64 fn, .int .i64 fg]] u.val fun e w' => e = .returned (.bool (valOk S fk fn fg)) ∧ Below u.val.heap.size u.val w' := fun u =>
        roomRight_c A0 c0 v1 v2 v3 h1 h2 h3 S L B fk fn fg u.val (Nat.le_trans hB1 u.prop.size) (H.out.below ((HL.out u).mono hB))
      cases hw : wordOk nm
      · have E := Lib.hid (fdsOk_no hjl (fdAt_word (S := S) hjl (by simp only [← Hf.out, hw])))
        rw [hw] at hwo
        have Hwo := Lib.hid (fun u => Calls.there u (hwo u))
        clear hwo hvl hw
        refine region_below (by kernel_rfl) (by kernel_rfl) ?_
        repeat (go_big_quiet_step ((go_at_call 83; exact Hwo.out _)))
        refine wpQuiet_nil ?_
        intro w2 hw2
        obtain ⟨⟨w2, hb2⟩, rfl⟩ := hw2
        clear f0 f1 f2 f3 r0 r1 r2 r3
        go_wp2
        go_ret
        exact ⟨by rw [E.out]; rfl, HL.out ⟨w2, hb2⟩⟩
      rw [hw] at hwo
      have Hw := Lib.hid hw
      have Hwo := Lib.hid (fun u => Calls.there u (hwo u))
      clear hwo hw
      cases hv : valOk S fk fn fg
      · have E := Lib.hid (fdsOk_no hjl (fdAt_val (S := S) hjl (by simp only [← Hf.out, hv])))
        rw [hv] at hvl
        have Hvl := Lib.hid (fun u => Calls.there u (hvl u))
        clear hvl hv
        refine region_below (by kernel_rfl) (by kernel_rfl) ?_
        repeat (go_big_quiet_step ((first | (go_at_call 83; exact Hwo.out _) | (go_at_call 84; exact Hvl.out _))))
        refine wpQuiet_nil ?_
        intro w2 hw2
        obtain ⟨⟨w2, hb2⟩, rfl⟩ := hw2
        clear f0 f1 f2 f3 r0 r1 r2 r3
        go_wp2
        go_ret
        exact ⟨by rw [E.out]; rfl, HL.out ⟨w2, hb2⟩⟩
      rw [hv] at hvl
      have Hv := Lib.hid hv
      have Hvl := Lib.hid (fun u => Calls.there u (hvl u))
      clear hvl hv
      rcases Nat.eq_zero_or_pos j with h0j | h0j
      · subst h0j
        have Hok := Lib.hid (show fdAt S fs 0 = true by rw [fdAt_zero hjl]; simp only [← Hf.out, Hw.out, Hv.out]; rfl)
        refine region_below (by kernel_rfl) (by kernel_rfl) ?_
        repeat (go_big_quiet_step ((first | (go_at_call 83; exact Hwo.out _) | (go_at_call 84; exact Hvl.out _))))
        refine wpQuiet_nil ?_
        intro w2 hw2
        obtain ⟨⟨w2, hb2⟩, rfl⟩ := hw2
        clear f0 f1 f2 f3 r0 r1 r2 r3
        go_wp2
        go_roundw
        case rel => exact ⟨1, by omega, by go_num, range_next Hfa.out Hok.out, HL.out ⟨w2, hb2⟩, HKR.out.below hb2 HKR.out.lt⟩
        case measure => simp [intOf]; omega
      · obtain ⟨i, hij⟩ : ∃ i, j = i + 1 := ⟨j - 1, by omega⟩
        obtain ⟨z0, z1, z2, z3, hz4, NA0, nc0, rfl, hN0, hnm0, rfl, rfl, rfl⟩ := Hhat.out i (by omega)
        obtain ⟨⟨nm0, fk0, fn0, fg0⟩, hf0⟩ : ∃ f, f = fs[i] := ⟨_, rfl⟩
        rw [← hf0] at hz4 hN0 hnm0
        dsimp only at hz4 hN0 hnm0
        have p0 : ∀ u : Wn W1, u.val.cell? (fd.add (i * 4)) = some (.slice NA0 nm0.length nc0) := fun u => (hz4.keep (w' := u.val) fun q hq => (HL.out u).cell (by rw [hq, block_of_add]; omega)).1
        have hcm : ∀ u : Wn W1, Calls Try.prog 117 #[.slice NA0 nm0.length nc0, .slice NA nm.length nc] u.val fun e w' => e = .returned (.int .i64 (Lib.compareBytes nm0 nm)) ∧ Below u.val.heap.size u.val w' := fun u => by
          refine (bytesCompare_c nm0 nm NA0 NA nc0 nc B' B' u.val (hN0.1.below ((HL.out u).mono hB')) (HN.out.1.below ((HL.out u).mono hB'))).mono ?_
          rintro e w' ⟨rfl, rfl⟩
          exact ⟨rfl, Below.refl _ _⟩
        have hsub : IntKind.i64.wrap ((j : Int) - 1) = (i : Int) := by rw [show (j : Int) - 1 = i by omega]; exact IntWalk.i64_in _ (by omega)
        have hi1 : i < fs.length := by omega
        have hjp : 0 < (j : Int) := by omega
        have hless := compare_less nm0 nm
        obtain ⟨z, hz⟩ : ∃ z, z = Lib.compareBytes nm0 nm := ⟨_, rfl⟩
        rw [← hz] at hcm hless
        have Hcm := Lib.hid (fun u => Calls.there u (hcm u))
        have hfe : fdAt S fs j = Op.bytesLess nm0 nm := by subst hij; rw [fdAt_succ hjl]; simp only [← Hf.out, ← hf0, Hw.out, Hv.out]; rfl
        have Hfe := Lib.hid hfe
        have Hless := Lib.hid hless
        clear hcm hless hz hfe hz4 hN0 hf0 hij
        by_cases hz0 : 0 ≤ z
        · have hc : Op.bytesLess nm0 nm = false := by rw [← Hless.out]; exact hz0
          have E := Lib.hid (fdsOk_no hjl (Hfe.out.trans hc))
          clear hc
          refine region_below (by kernel_rfl) (by kernel_rfl) ?_
          repeat (go_big_quiet_step ((first | (go_at_call 83; exact Hwo.out _) | (go_at_call 84; exact Hvl.out _) | (go_at_call 117; exact Hcm.out _))))
          refine wpQuiet_nil ?_
          intro w2 hw2
          obtain ⟨⟨w2, hb2⟩, rfl⟩ := hw2
          clear f0 f1 f2 f3 r0 r1 r2 r3 p0 hsub
          go_wp2
          go_ret
          exact ⟨by rw [E.out]; rfl, HL.out ⟨w2, hb2⟩⟩
        · have hc : Op.bytesLess nm0 nm = true := by
            cases hx : Op.bytesLess nm0 nm
            · rw [← Hless.out] at hx; exact absurd hx hz0
            · rfl
          have Hok := Lib.hid (Hfe.out.trans hc)
          have hz0' : decide (0 ≤ z) = false := decide_eq_false hz0
          clear hc hz0
          refine region_below (by kernel_rfl) (by kernel_rfl) ?_
          repeat (go_big_quiet_step ((first | (go_at_call 83; exact Hwo.out _) | (go_at_call 84; exact Hvl.out _) | (go_at_call 117; exact Hcm.out _))))
          refine wpQuiet_nil ?_
          intro w2 hw2
          obtain ⟨⟨w2, hb2⟩, rfl⟩ := hw2
          clear f0 f1 f2 f3 r0 r1 r2 r3 p0 hsub
          go_wp2
          go_roundw
          case rel => exact ⟨j + 1, by omega, by go_num, range_next Hfa.out Hok.out, HL.out ⟨w2, hb2⟩, HKR.out.below hb2 HKR.out.lt⟩
          case measure => simp [intOf]; omega
    · have hjl2 : j = fs.length := by omega
      have hok : fdsOk S fs = true := by subst hjl2; exact Hfa.out
      have Hok := Lib.hid hok
      clear hok
      go_wp2
      go_ret
      exact ⟨by rw [Hok.out]; rfl, hbi⟩
end
end Go.Proofs.Ytfmlgpnjckamjaa

namespace Go.Proofs.Ytfmlgpnjckamjaa
open Go.RowKit
set_option linter.unusedVariables false
set_option linter.unusedSimpArgs false

theorem slBd_eq (s : Sl) : slBd s = (bndH s.live s.gen s.count && (s.live || s.fs.length == 0)) := by
  unfold slBd bndH
  generalize (s.fs.length == 0) = b
  cases s.live <;> cases b <;> rw [Bool.eq_iff_iff] <;> simp <;> omega
theorem slOk_eq (S : List Sl) (s : Sl) : slOk S s = (bndH s.live s.gen s.count && (s.live || s.fs.length == 0) && fdsOk S s.fs) := by unfold slOk; rw [slBd_eq]
theorem slsSz_fd {S : List Sl} {n k : Nat} (h : slsSz S ≤ n) (hk : k < S.length) : (S[k].fs.map fdSz).sum ≤ n := by
  have h1 := sum_get slSz hk
  unfold slsSz at h
  have h3 : slSz S[k] = S[k].fs.length + (S[k].fs.map fdSz).sum := rfl
  omega

section
variable (A0 : Option Addr) (c0 : Nat) (v1 v2 v3 : Value) (h1 : v1.cells = #[v1]) (h2 : v2.cells = #[v2]) (h3 : v3.cells = #[v3])

include h1 h2 h3 in
set_option maxRecDepth 100000 in
set_option maxHeartbeats 8000000 in
theorem slotsOk_c (S : List Sl) (L B : Nat) (w : World) (hB : B ≤ w.heap.size) (h : SlL w L B A0 S) (hsz : slsSz S ≤ 1050000) :
    Calls Try.prog 98 #[.agg #[.slice A0 S.length c0, v1, v2, v3]] w fun e w' => e = .returned (.bool (S.all (slOk S))) ∧ Below w.heap.size w w' := by
  have hm := h.1
  unfold maxLen at hm
  have KA := Blk.new w 100 #[.slice A0 S.length c0, v1, v2, v3]
  have hbW := blw1 w (.cells #[.slice A0 S.length c0, v1, v2, v3] 100)
  have HKA := Lib.hid KA
  have HbW := Lib.hid hbW
  have H := Lib.hid h
  have Hsz := Lib.hid hsz
  clear KA hbW h hsz
  go_enter Try.func98, Try.ntmps98
  go_wp2_with fail
  generalize hW : w.alloc (.cells #[.slice A0 S.length c0, v1, v2, v3] 100) = W
  rw [hW] at HKA HbW
  clear hW
  go_loopw [8] (fun i wr => ∃ k : Nat, k ≤ S.length ∧ i = .int .i64 k ∧ (S.take k).all (slOk S) = true ∧ Below w.heap.size w wr ∧ Blk wr w.heap.size 100 #[.slice A0 S.length c0, v1, v2, v3]) (fun i _ => S.length - (intOf i).toNat)
  case atStart => exact ⟨0, Nat.zero_le _, rfl, by simp, HbW.out, HKA.out⟩
  case round =>
    obtain ⟨k, hk, rfl, hall, hbi, KPi⟩ := hrel
    have Hall := Lib.hid hall
    clear hall HbW HKA
    by_cases hlt : k < S.length
    · obtain ⟨ad, rfl, _, hbk, hat⟩ := H.out.2 (by omega)
      obtain ⟨x0, x1, x2, x3, hc4, hx0, hx1, hx2, FA, fc, hx3, hF⟩ := hat k hlt
      obtain ⟨⟨lv, gn, ct, fs⟩, hs⟩ : ∃ s, s = S[k] := ⟨_, rfl⟩
      rw [← hs] at hx0 hx1 hx2 hx3 hF
      dsimp only at hx0 hx1 hx2 hx3 hF
      subst hx0 hx1 hx2 hx3
      have Hs := Lib.hid hs
      have hfs : (fs.map fdSz).sum ≤ 1050000 := by have := slsSz_fd Hsz.out hlt; rwa [← Hs.out] at this
      have hfm := hF.1
      unfold maxLen at hfm
      have hsize := hbi.size
      obtain ⟨d0, d1, d2, d3⟩ := hc4.keep (w' := wr) (fun q hq => hbi.cell (by rw [hq, block_of_add]; omega))
      have KF := Blk.new wr 129 #[.bool lv, .int .i64 gn, .int .i64 ct, .slice FA fs.length fc]
      have KR := KPi.alloc (.cells #[.bool lv, .int .i64 gn, .int .i64 ct, .slice FA fs.length fc] 129)
      have hb1 := hbi.alloc hsize (.cells #[.bool lv, .int .i64 gn, .int .i64 ct, .slice FA fs.length fc] 129)
      have hslok : slOk S S[k] = (bndH lv gn ct && (lv || fs.length == 0) && fdsOk S fs) := by rw [slOk_eq, ← Hs.out]
      have Hsl := Lib.hid hslok
      have HKF := Lib.hid KF
      have HKR := Lib.hid KR
      have Hb1 := Lib.hid hb1
      have HF := Lib.hid hF
      have Hfs := Lib.hid hfs
      have Hbd := Lib.hid (headBounded_c lv gn ct (wr.alloc (.cells #[.bool lv, .int .i64 gn, .int .i64 ct, .slice FA fs.length fc] 129)))
      clear hs KF KR hb1 hF hfs hc4 hbi KPi hat hslok
      go_wp2_with fail
      refine Hbd.out.mono ?_
      rintro e w1 ⟨rfl, hbw1⟩
      have hbA := Hb1.out.trans (hbw1.mono Hb1.out.size)
      have KF1 := HKF.out.below hbw1 HKF.out.lt
      have KR1 := HKR.out.below hbw1 HKR.out.lt
      have f0 := KF1.cel 0 rfl
      have f3 := KF1.cel 3 rfl
      have r0 := KR1.cel 0 (v := .slice (some ad) S.length c0) rfl
      have r1 := KR1.cel 1 (v := v1) rfl
      have r2 := KR1.cel 2 (v := v2) rfl
      have r3 := KR1.cel 3 (v := v3) rfl
      have HbA := Lib.hid hbA
      have HKR1 := Lib.hid KR1
      clear hbA hbw1 KF1 KR1 Hbd HKF HKR Hb1 d0 d1 d2 d3
      cases hbn : bndH lv gn ct
      · have E := Lib.hid (show S.all (slOk S) = false from all_not hlt (by rw [Hsl.out, hbn]; rfl))
        clear hbn
        go_wp2
        go_ret
        exact ⟨by rw [E.out]; rfl, HbA.out⟩
      have Hbn := Lib.hid hbn
      clear hbn
      have hfo := fieldsOk_c (some ad) c0 v1 v2 v3 h1 h2 h3 S L B FA fc fs w1 (Nat.le_trans hB HbA.out.size) (H.out.below (HbA.out.mono hB)) L B (Nat.le_trans hB HbA.out.size) (HF.out.below (HbA.out.mono hB)) Hfs.out
      cases lv
      · by_cases hl0 : 0 < (fs.length : Int)
        · have E := Lib.hid (show S.all (slOk S) = false from all_not hlt (by rw [Hsl.out, Hbn.out]; have : (fs.length == 0) = false := by simp; rintro rfl; simp at hl0
                                                                              rw [this]; rfl))
          have hne : ¬ fs = [] := by rintro rfl; simp at hl0
          clear hfo
          go_wp2
          go_ret
          exact ⟨by first | rfl | (rw [E.out]; rfl), HbA.out⟩
        · obtain rfl : fs = [] := by apply List.eq_nil_of_length_eq_zero; omega
          have Hfo := Lib.hid hfo
          clear hfo hl0
          cases hfd : fdsOk S ([] : List Fd)
          · exact absurd hfd (by simp [fdsOk])
          have Hok := Lib.hid (show slOk S S[k] = true by rw [Hsl.out, Hbn.out, hfd]; rfl)
          rw [hfd] at Hfo
          clear hfd
          go_wp2_with fail
          refine Hfo.out.mono ?_
          rintro e w2 ⟨rfl, hbw2⟩
          have hbB := HbA.out.trans (hbw2.mono HbA.out.size)
          have KR2 := HKR1.out.below hbw2 HKR1.out.lt
          clear f0 f3 r0 r1 r2 r3
          go_wp2
          go_roundw
          case rel => exact ⟨k + 1, by omega, by go_num, all_next Hall.out hlt Hok.out, hbB, KR2⟩
          case measure => simp [intOf]; omega
      · have Hfo := Lib.hid hfo
        clear hfo
        cases hfd : fdsOk S fs
        · have E := Lib.hid (show S.all (slOk S) = false from all_not hlt (by rw [Hsl.out, Hbn.out, hfd]; rfl))
          rw [hfd] at Hfo
          clear hfd
          go_wp2_with fail
          refine Hfo.out.mono ?_
          rintro e w2 ⟨rfl, hbw2⟩
          have hbB := HbA.out.trans (hbw2.mono HbA.out.size)
          clear f0 f3 r0 r1 r2 r3
          go_wp2
          go_ret
          exact ⟨by rw [E.out]; rfl, hbB⟩
        · have Hok := Lib.hid (show slOk S S[k] = true by rw [Hsl.out, Hbn.out, hfd]; rfl)
          rw [hfd] at Hfo
          clear hfd
          go_wp2_with fail
          refine Hfo.out.mono ?_
          rintro e w2 ⟨rfl, hbw2⟩
          have hbB := HbA.out.trans (hbw2.mono HbA.out.size)
          have KR2 := HKR1.out.below hbw2 HKR1.out.lt
          clear f0 f3 r0 r1 r2 r3
          go_wp2
          go_roundw
          case rel => exact ⟨k + 1, by omega, by go_num, all_next Hall.out hlt Hok.out, hbB, KR2⟩
          case measure => simp [intOf]; omega
    · have hok : S.all (slOk S) = true := by
        have h1 := Hall.out
        rw [show k = S.length by omega, List.take_length] at h1
        exact h1
      have Hok := Lib.hid hok
      clear hok
      go_wp2
      go_ret
      exact ⟨by rw [Hok.out]; rfl, hbi⟩
end
end Go.Proofs.Ytfmlgpnjckamjaa
