/-
  Colors: painting, judging.
-/
import Derived.Test.YtiofabnicdlceaaTrialD
import Derived.Test.YtiofabnicdlceaaSetIns
namespace Go.Proofs.Ytiofabnicdlceaa
open Go.RowKit
set_option linter.unusedVariables false
set_option linter.unusedSimpArgs false

def paintL (col l : List Int) (c : Int) : List Int := l.foldl (fun a n => a.set n.toNat c) col
theorem paintL_len (l : List Int) (c : Int) : ∀ col : List Int, (paintL col l c).length = col.length := by
  induction l with
  | nil => intro col; rfl
  | cons x r ih => intro col; show (paintL (col.set x.toNat c) r c).length = _; rw [ih]; simp
theorem paintL_snoc (col : List Int) {l : List Int} {k : Nat} (h : k < l.length) (c : Int) : paintL col (l.take (k + 1)) c = (paintL col (l.take k) c).set l[k].toNat c := by
  unfold paintL
  rw [List.take_succ_eq_append_getElem h, List.foldl_append]; rfl
theorem gI_set {m : List Int} {i j : Nat} {b : Int} (h : i < m.length) : gI (m.set i b) j = if j = i then b else gI m j := by
  unfold gI
  rw [List.getD_eq_getElem?_getD, List.getD_eq_getElem?_getD]
  by_cases e : j = i
  · subst e
    rw [if_pos rfl, List.getElem?_set_self h]; rfl
  · rw [if_neg e, List.getElem?_set_ne (by omega)]
theorem paintL_at (l : List Int) (c : Int) (j : Nat) : ∀ col : List Int, (∀ x ∈ l, 0 ≤ x ∧ x < (col.length : Int)) → gI (paintL col l c) j = if (j : Int) ∈ l then c else gI col j := by
  induction l with
  | nil => intro col _; simp [paintL]
  | cons x r ih =>
    intro col h
    have hx := h x (by simp)
    show gI (paintL (col.set x.toNat c) r c) j = _
    rw [ih _ (fun y hy => by have := h y (by simp [hy]); simpa using this), gI_set (by omega)]
    by_cases h1 : (j : Int) ∈ r
    · rw [if_pos h1, if_pos (by simp [h1])]
    · rw [if_neg h1]
      by_cases h2 : j = x.toNat
      · rw [if_pos h2, if_pos (by simp; left; omega)]
      · rw [if_neg h2, if_neg (by simp; exact ⟨by omega, h1⟩)]

set_option maxRecDepth 100000 in
set_option maxHeartbeats 2000000 in
theorem paint_c (col l : List Int) (N : Nat) (c : Int) (LA A : Option Addr) (ln lc cp L B gC : Nat) (w : World) (hB : B ≤ w.heap.size) (hl : l.length ≤ 1048576) (hN : col.length = N) (h : IL w L B A l) (hg : gC < L ∨ B ≤ gC) (hr : InR N l) (hc : Blk w gC 82 (vi col).toArray) :
    Calls Try.prog 83 #[.agg #[.slice (some ⟨gC, 0, none⟩) N N, .slice LA ln lc], .slice A l.length cp, .int .i64 c] w fun e w' => (∃ v, e = .returned v) ∧ Blk w' gC 82 (vi (paintL col l c)).toArray ∧ Apart (fun k => k = gC) w w' := by
  have hgl := hc.lt
  have HK := Lib.hid (Blk.new w 77 #[.slice (some ⟨gC, 0, none⟩) N N, .slice LA ln lc])
  have HC := Lib.hid (hc.alloc (.cells #[.slice (some ⟨gC, 0, none⟩) N N, .slice LA ln lc] 77))
  have HA := Lib.hid ((Apart.refl (fun k => k = gC) w).alloc (.cells #[.slice (some ⟨gC, 0, none⟩) N N, .slice LA ln lc] 77))
  have H := Lib.hid h
  have HG := Lib.hid (And.intro hgl hg)
  have HR := Lib.hid hr
  have HN := Lib.hid hN
  clear h hc hg hr hN hgl
  go_enter Try.func83, Try.ntmps83
  go_wp2_with fail
  go_loopw [10] (fun i wr => ∃ k : Nat, k ≤ l.length ∧ i = .int .i64 k ∧ Hid (Blk wr gC 82 (vi (paintL col (l.take k) c)).toArray) ∧ Hid (Blk wr w.heap.size 77 #[.slice (some ⟨gC, 0, none⟩) N N, .slice LA ln lc]) ∧ Hid (Apart (fun k => k = gC) w wr)) (fun i _ => l.length - (intOf i).toNat)
  case atStart => exact ⟨0, Nat.zero_le _, rfl, HC, HK, HA⟩
  case round =>
    obtain ⟨k, hk, rfl, hcR, hkR, haR⟩ := hrel
    have hsw := haR.out.size
    by_cases hlt : k < l.length
    · obtain ⟨ad, rfl, hLa, hBa, hat⟩ := (H.out.keep (w' := wr) (fun p h1 h2 => World.cell?_of_block (haR.out.block p.block (by omega) (by rcases HG.out.2 with h | h <;> omega)))).2 (by omega)
      have d0 := hat k hlt
      obtain ⟨j, hj⟩ : ∃ j : Nat, l[k] = (j : Int) := ⟨l[k].toNat, by have := HR.out k hlt; omega⟩
      have hjN : j < N := by have := HR.out k hlt; omega
      rw [hj] at d0
      have Hsn := Lib.hid (show paintL col (l.take (k + 1)) c = (paintL col (l.take k) c).set j c by rw [paintL_snoc col hlt, hj, Int.toNat_natCast])
      have hpl : j < (paintL col (l.take k) c).length := by rw [paintL_len, HN.out]; exact hjN
      obtain ⟨z, hz⟩ : ∃ z, z = (paintL col (l.take k) c)[j] := ⟨_, rfl⟩
      have q0 : wr.cell? ⟨gC, j, none⟩ = some (.int .i64 z) := by
        rw [hcR.out.cell]
        simp [vi, List.getElem?_eq_getElem hpl, hz]
      have f0 := hcR.out.frozen j
      have p0 := hkR.out.cel 0 (v := .slice (some ⟨gC, 0, none⟩) N N) rfl
      have Hn : Hid (Blk (wr.setCell ⟨gC, j, none⟩ (.int .i64 c)) gC 82 (vi (paintL col (l.take (k + 1)) c)).toArray) := Lib.hid (by
        have h1 := hcR.out.set_ j (.int .i64 c)
        rw [vi_set] at h1
        rw [Hsn.out]
        exact h1)
      have Hk2 := Lib.hid (hkR.out.far (p := ⟨gC, j, none⟩) (by have := HG.out.1; simp; omega) (.int .i64 c))
      have Ha2 := Lib.hid (haR.out.setCell (p := ⟨gC, j, none⟩) rfl (.int .i64 c))
      clear hat hj hpl hz hcR hkR haR
      go_wp2
      go_roundw
      case rel => exact ⟨k + 1, by omega, by go_num, Hn, Hk2, Ha2⟩
      case measure => simp [intOf]; omega
    · obtain rfl : k = l.length := by omega
      have hb2 := hcR.out
      rw [List.take_length] at hb2
      have Hb2 := Lib.hid hb2
      clear hb2 hcR
      go_wp2
      refine bodyPost_end (results_none rfl _ _ _) rfl ?_
      exact ⟨⟨_, rfl⟩, Hb2.out, haR.out⟩

def judge (c : Int) : Int := if c = 1 then 3 else c
theorem judged_c (c : Int) (w : World) : Calls Try.prog 85 #[.int .i64 c] w fun e w' => e = .returned (.int .i64 (judge c)) ∧ w = w' := by
  unfold judge
  by_cases h : c = 1
  · subst h
    rw [if_pos rfl]
    go_enter Try.func85, Try.ntmps85
    go_wp2
    go_ret
    exact ⟨rfl, rfl⟩
  · rw [if_neg h]
    go_enter Try.func85, Try.ntmps85
    go_wp2
    go_ret
    exact ⟨rfl, rfl⟩
/-- what colors are at the end -/
noncomputable def colF (S : List Sl) (P : List Int) : List Int := (List.range S.length).map fun j => if gO (grayS S P) j then (if gO (blackS S P) j then 2 else 3) else 0
theorem colF_len (S : List Sl) (P : List Int) : (colF S P).length = S.length := by simp [colF]
theorem colF_at {S : List Sl} {P : List Int} {j : Nat} (h : j < S.length) : gI (colF S P) j = if gO (grayS S P) j then (if gO (blackS S P) j then 2 else 3) else 0 := by
  rw [gI_get (by rw [colF_len]; exact h)]
  simp [colF]
end Go.Proofs.Ytiofabnicdlceaa
