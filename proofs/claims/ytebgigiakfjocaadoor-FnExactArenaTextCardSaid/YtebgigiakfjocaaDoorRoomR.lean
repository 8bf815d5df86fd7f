/-
  The program's room: values that are right.
-/
import Derived.Test.YtebgigiakfjocaaDoorRoomV
namespace Go.Proofs.YtebgigiakfjocaaDoor
open Go.RowKit
set_option linter.unusedVariables false
set_option linter.unusedSimpArgs false

section
variable (A0 : Option Addr) (c0 : Nat) (v1 v2 v3 : Value) (h1 : v1.cells = #[v1]) (h2 : v2.cells = #[v2]) (h3 : v3.cells = #[v3])

include h1 h2 h3 in
set_option maxRecDepth 100000 in
set_option maxHeartbeats 2000000 in
theorem roomHolds_c (S : List Sl) (L B : Nat) (k n g : Int) (w : World) (hB : B ≤ w.heap.size) (h : SlL w L B A0 S) :
    Calls Tryd.prog 139 #[.agg #[.slice A0 S.length c0, v1, v2, v3], .agg #[.int .i64 k, .int .i64 n, .int .i64 g]] w fun e w' => e = .returned (.bool (valOk S 2 n g)) ∧ Below w.heap.size w w' := by
  have hm := h.1
  have KA : Blk ((w.alloc (.cells #[.slice A0 S.length c0, v1, v2, v3] 82)).alloc (.cells #[.int .i64 k, .int .i64 n, .int .i64 g] 74)) w.heap.size 82 #[.slice A0 S.length c0, v1, v2, v3] := (Blk.new w 82 #[.slice A0 S.length c0, v1, v2, v3]).alloc _
  have KB : Blk ((w.alloc (.cells #[.slice A0 S.length c0, v1, v2, v3] 82)).alloc (.cells #[.int .i64 k, .int .i64 n, .int .i64 g] 74)) (w.heap.size + 1) 74 #[.int .i64 k, .int .i64 n, .int .i64 g] := by
    have := Blk.new (w.alloc (.cells #[.slice A0 S.length c0, v1, v2, v3] 82)) 74 #[.int .i64 k, .int .i64 n, .int .i64 g]
    simpa using this
  have hbW := blw2 w (.cells #[.slice A0 S.length c0, v1, v2, v3] 82) (.cells #[.int .i64 k, .int .i64 n, .int .i64 g] 74)
  have HKA := Lib.hid KA
  have HKB := Lib.hid KB
  have HbW := Lib.hid hbW
  have Hm := Lib.hid hm
  have H := Lib.hid h
  clear KA KB hbW hm h
  go_enter Tryd.func139, Tryd.ntmps139
  go_wp2_with fail
  generalize hW : (w.alloc (.cells #[.slice A0 S.length c0, v1, v2, v3] 82)).alloc (.cells #[.int .i64 k, .int .i64 n, .int .i64 g] 74) = W
  rw [hW] at HKA HKB HbW
  clear hW
  have r0 : ∀ u : Wn W, u.val.cell? ⟨w.heap.size, 0, none⟩ = some (.slice A0 S.length c0) := fun u => (HKA.out.below u.prop HKA.out.lt).cel 0 rfl
  have r1 : ∀ u : Wn W, u.val.cell? ⟨w.heap.size, 1, none⟩ = some v1 := fun u => (HKA.out.below u.prop HKA.out.lt).cel 1 rfl
  have r2 : ∀ u : Wn W, u.val.cell? ⟨w.heap.size, 2, none⟩ = some v2 := fun u => (HKA.out.below u.prop HKA.out.lt).cel 2 rfl
  have r3 : ∀ u : Wn W, u.val.cell? ⟨w.heap.size, 3, none⟩ = some v3 := fun u => (HKA.out.below u.prop HKA.out.lt).cel 3 rfl
  have q1 : ∀ u : Wn W, u.val.cell? ⟨w.heap.size + 1, 1, none⟩ = some (.int .i64 n) := fun u => (HKB.out.below u.prop HKB.out.lt).cel 1 rfl
  have q2 : ∀ u : Wn W, u.val.cell? ⟨w.heap.size + 1, 2, none⟩ = some (.int .i64 g) := fun u => (HKB.out.below u.prop HKB.out.lt).cel 2 rfl
  rcases slotAt_cases S n with ⟨hs, hno⟩ | ⟨m, hlt, rfl, hs⟩
  · have e : valOk S 2 n g = false := by simp [valOk, hs]
    have hh : (decide (0 ≤ n) && decide (n < (S.length : Int))) = false := by
      rw [Bool.and_eq_false_iff]
      by_cases hn0 : 0 ≤ n
      · exact .inr (decide_eq_false fun h => hno ⟨hn0, h⟩)
      · exact .inl (decide_eq_false hn0)
    have hHh := (fun u : World => roomHas_c A0 S.length c0 v1 v2 v3 h1 h2 h3 n u Hm.out)
    rw [hh] at hHh
    have Hh := Lib.hid (fun u : Wn W => Calls.there u (hHh u.val))
    clear hHh
    have E := Lib.hid e
    clear hno hs hh e
    refine region_below (by kernel_rfl) (by kernel_rfl) ?_
    repeat (go_big_quiet_step ((go_at_call 140; exact Hh.out _)))
    refine wpQuiet_nil ?_
    intro w2 hw2
    obtain ⟨⟨w2, hb2⟩, rfl⟩ := hw2
    go_wp2
    go_ret
    exact ⟨by rw [E.out]; rfl, HbW.out.trans (hb2.mono HbW.out.size)⟩
  · have e : valOk S 2 m g = (S[m].live && S[m].gen == g) := by simp [valOk, hs]
    have hh : (decide (0 ≤ (m : Int)) && decide ((m : Int) < (S.length : Int))) = true := by simp; omega
    have hHh := (fun u : World => roomHas_c A0 S.length c0 v1 v2 v3 h1 h2 h3 (m : Int) u Hm.out)
    rw [hh] at hHh
    have Hh := Lib.hid (fun u : Wn W => Calls.there u (hHh u.val))
    clear hHh
    obtain ⟨ad, rfl, _, hb, hat⟩ := (H.out.below (HbW.out.mono hB)).2 (by omega)
    obtain ⟨x0, x1, x2, x3, hc4, rfl, rfl, rfl, _⟩ := hat m hlt
    obtain ⟨b, hb1⟩ : ∃ b, b = S[m].live := ⟨_, rfl⟩
    obtain ⟨gn, hb2⟩ : ∃ b, b = S[m].gen := ⟨_, rfl⟩
    obtain ⟨ct, hb3⟩ : ∃ b, b = S[m].count := ⟨_, rfl⟩
    rw [← hb1, ← hb2, ← hb3] at hc4
    rw [← hb1, ← hb2] at e
    have hc : ∀ u : Wn W, C4 u.val (ad.add (m * 4)) (.bool b) (.int .i64 gn) (.int .i64 ct) x3 := fun u => hc4.keep (w' := u.val) (fun q hq => u.prop.cell (by rw [hq, block_of_add]; have := HbW.out.size; omega))
    have d0 := fun u => (hc u).1
    have d1 := fun u => (hc u).2.1
    have d2 := fun u => (hc u).2.2.1
    have hHhh := (fun u : World => headHolds_c b gn ct g u)
    rw [← e] at hHhh
    have Hhh := Lib.hid (fun u : Wn W => Calls.there u (hHhh u.val))
    clear hHhh
    clear hat hs hc hc4 hb1 hb2 hb3 e hh
    refine region_below (by kernel_rfl) (by kernel_rfl) ?_
    repeat (go_big_quiet_step ((first | (go_at_call 140; exact Hh.out _) | (go_at_call 154; exact Hhh.out _))))
    refine wpQuiet_nil ?_
    intro w2 hw2
    obtain ⟨⟨w2, hb2⟩, rfl⟩ := hw2
    go_wp2
    go_ret
    exact ⟨rfl, HbW.out.trans (hb2.mono HbW.out.size)⟩

include h1 h2 h3 in
set_option maxRecDepth 100000 in
set_option maxHeartbeats 4000000 in
theorem roomRight_c (S : List Sl) (L B : Nat) (k n g : Int) (w : World) (hB : B ≤ w.heap.size) (h : SlL w L B A0 S) :
    Calls Tryd.prog 121 #[.agg #[.slice A0 S.length c0, v1, v2, v3], .agg #[.int .i64 k, .int .i64 n, .int .i64 g]] w fun e w' => e = .returned (.bool (valOk S k n g)) ∧ Below w.heap.size w w' := by
  have hm := h.1
  by_cases k0 : k = 0
  · subst k0
    by_cases hn : n = 0
    · subst hn
      have E := Lib.hid (show valOk S 0 0 g = (g == 0) by simp [valOk])
      clear hm h
      go_enter Tryd.func121, Tryd.ntmps121
      go_wp2
      go_ret
      exact ⟨by rw [E.out]; rfl, blw2 _ _ _⟩
    · have E := Lib.hid (show valOk S 0 n g = false by simp [valOk, hn])
      have hn' : (n == 0) = false := by simpa using hn
      clear hm h
      go_enter Tryd.func121, Tryd.ntmps121
      go_wp2
      go_ret
      exact ⟨by rw [E.out]; rfl, blw2 _ _ _⟩
  have k0' : (k == 0) = false := by simpa using k0
  by_cases k1 : k = 1
  · subst k1
    have E := Lib.hid (show valOk S 1 n g = (g == 0) by simp [valOk])
    clear hm h k0 k0'
    go_enter Tryd.func121, Tryd.ntmps121
    go_wp2
    go_ret
    exact ⟨by rw [E.out]; rfl, blw2 _ _ _⟩
  have k1' : (k == 1) = false := by simpa using k1
  have KA : Blk ((w.alloc (.cells #[.slice A0 S.length c0, v1, v2, v3] 82)).alloc (.cells #[.int .i64 k, .int .i64 n, .int .i64 g] 74)) w.heap.size 82 #[.slice A0 S.length c0, v1, v2, v3] := (Blk.new w 82 #[.slice A0 S.length c0, v1, v2, v3]).alloc _
  have KB : Blk ((w.alloc (.cells #[.slice A0 S.length c0, v1, v2, v3] 82)).alloc (.cells #[.int .i64 k, .int .i64 n, .int .i64 g] 74)) (w.heap.size + 1) 74 #[.int .i64 k, .int .i64 n, .int .i64 g] := by
    have := Blk.new (w.alloc (.cells #[.slice A0 S.length c0, v1, v2, v3] 82)) 74 #[.int .i64 k, .int .i64 n, .int .i64 g]
    simpa using this
  have hbW := blw2 w (.cells #[.slice A0 S.length c0, v1, v2, v3] 82) (.cells #[.int .i64 k, .int .i64 n, .int .i64 g] 74)
  by_cases k2 : k = 2
  · subst k2
    have Hh := Lib.hid (roomHolds_c A0 c0 v1 v2 v3 h1 h2 h3 S L B 2 n g _ (Nat.le_trans hB hbW.size) (h.below (hbW.mono hB)))
    have HbW := Lib.hid hbW
    clear hm h k0 k1 k0' k1' KA KB hbW
    go_enter Tryd.func121, Tryd.ntmps121
    go_wp2_with fail
    refine Hh.out.mono ?_
    rintro e w' ⟨rfl, hb⟩
    go_wp2
    go_ret
    exact ⟨rfl, HbW.out.trans (hb.mono HbW.out.size)⟩
  have k2' : (k == 2) = false := by simpa using k2
  by_cases k3 : k = 3
  · subst k3
    have HKA := Lib.hid KA
    have HKB := Lib.hid KB
    have HbW := Lib.hid hbW
    have Hm := Lib.hid hm
    have H := Lib.hid h
    clear KA KB hbW hm h k0 k1 k2 k0' k1' k2'
    go_enter Tryd.func121, Tryd.ntmps121
    go_wp2_with fail
    generalize hW : (w.alloc (.cells #[.slice A0 S.length c0, v1, v2, v3] 82)).alloc (.cells #[.int .i64 3, .int .i64 n, .int .i64 g] 74) = W
    rw [hW] at HKA HKB HbW
    clear hW
    have r0 : ∀ u : Wn W, u.val.cell? ⟨w.heap.size, 0, none⟩ = some (.slice A0 S.length c0) := fun u => (HKA.out.below u.prop HKA.out.lt).cel 0 rfl
    have r1 : ∀ u : Wn W, u.val.cell? ⟨w.heap.size, 1, none⟩ = some v1 := fun u => (HKA.out.below u.prop HKA.out.lt).cel 1 rfl
    have r2 : ∀ u : Wn W, u.val.cell? ⟨w.heap.size, 2, none⟩ = some v2 := fun u => (HKA.out.below u.prop HKA.out.lt).cel 2 rfl
    have r3 : ∀ u : Wn W, u.val.cell? ⟨w.heap.size, 3, none⟩ = some v3 := fun u => (HKA.out.below u.prop HKA.out.lt).cel 3 rfl
    have q1 : ∀ u : Wn W, u.val.cell? ⟨w.heap.size + 1, 1, none⟩ = some (.int .i64 n) := fun u => (HKB.out.below u.prop HKB.out.lt).cel 1 rfl
    have q2 : ∀ u : Wn W, u.val.cell? ⟨w.heap.size + 1, 2, none⟩ = some (.int .i64 g) := fun u => (HKB.out.below u.prop HKB.out.lt).cel 2 rfl
    rcases slotAt_cases S n with ⟨hs, hno⟩ | ⟨m, hlt, rfl, hs⟩
    · have E := Lib.hid (show valOk S 3 n g = false by simp [valOk, hs])
      have hh : (decide (0 ≤ n) && decide (n < (S.length : Int))) = false := by
        rw [Bool.and_eq_false_iff]
        by_cases hn0 : 0 ≤ n
        · exact .inr (decide_eq_false fun h => hno ⟨hn0, h⟩)
        · exact .inl (decide_eq_false hn0)
      have hHh := (fun u : World => roomHas_c A0 S.length c0 v1 v2 v3 h1 h2 h3 n u Hm.out)
      rw [hh] at hHh
      have Hh := Lib.hid (fun u : Wn W => Calls.there u (hHh u.val))
      clear hHh hno hs hh
      refine region_below (by kernel_rfl) (by kernel_rfl) ?_
      repeat (go_big_quiet_step ((go_at_call 140; exact Hh.out _)))
      refine wpQuiet_nil ?_
      intro w2 hw2
      obtain ⟨⟨w2, hb2⟩, rfl⟩ := hw2
      go_wp2
      go_ret
      exact ⟨by rw [E.out]; rfl, HbW.out.trans (hb2.mono HbW.out.size)⟩
    · have e : valOk S 3 m g = (decide (0 ≤ g) && decide (g ≤ S[m].gen)) := by simp [valOk, hs]
      have hh : (decide (0 ≤ (m : Int)) && decide ((m : Int) < (S.length : Int))) = true := by simp; omega
      have hHh := (fun u : World => roomHas_c A0 S.length c0 v1 v2 v3 h1 h2 h3 (m : Int) u Hm.out)
      rw [hh] at hHh
      have Hh := Lib.hid (fun u : Wn W => Calls.there u (hHh u.val))
      obtain ⟨ad, rfl, _, hb, hat⟩ := (H.out.below (HbW.out.mono hB)).2 (by omega)
      obtain ⟨x0, x1, x2, x3, hc4, rfl, rfl, rfl, _⟩ := hat m hlt
      obtain ⟨b, hb1⟩ : ∃ b, b = S[m].live := ⟨_, rfl⟩
      obtain ⟨gn, hb2⟩ : ∃ b, b = S[m].gen := ⟨_, rfl⟩
      obtain ⟨ct, hb3⟩ : ∃ b, b = S[m].count := ⟨_, rfl⟩
      rw [← hb1, ← hb2, ← hb3] at hc4
      rw [← hb2] at e
      have hc : ∀ u : Wn W, C4 u.val (ad.add (m * 4)) (.bool b) (.int .i64 gn) (.int .i64 ct) x3 := fun u => hc4.keep (w' := u.val) (fun q hq => u.prop.cell (by rw [hq, block_of_add]; have := HbW.out.size; omega))
      have d0 := fun u => (hc u).1
      have d1 := fun u => (hc u).2.1
      have d2 := fun u => (hc u).2.2.1
      have hHhh := (fun u : World => headHeld_c b gn ct g u)
      rw [← e] at hHhh
      have Hhh := Lib.hid (fun u : Wn W => Calls.there u (hHhh u.val))
      clear hHhh hHh hat hs hc hc4 hb1 hb2 hb3 e hh
      refine region_below (by kernel_rfl) (by kernel_rfl) ?_
      repeat (go_big_quiet_step ((first | (go_at_call 140; exact Hh.out _) | (go_at_call 141; exact Hhh.out _))))
      refine wpQuiet_nil ?_
      intro w2 hw2
      obtain ⟨⟨w2, hb2⟩, rfl⟩ := hw2
      go_wp2
      go_ret
      exact ⟨rfl, HbW.out.trans (hb2.mono HbW.out.size)⟩
  have k3' : (k == 3) = false := by simpa using k3
  have E := Lib.hid (show valOk S k n g = false by simp [valOk, k0, k1, k2, k3])
  clear hm h k0 k1 k2 k3 KA KB
  go_enter Tryd.func121, Tryd.ntmps121
  go_wp2
  go_ret
  exact ⟨by rw [E.out]; rfl, hbW⟩
end
end Go.Proofs.YtebgigiakfjocaaDoor
