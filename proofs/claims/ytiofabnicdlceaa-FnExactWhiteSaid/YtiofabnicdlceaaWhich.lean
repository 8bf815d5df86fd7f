/-
  Which slots have a color.
-/
import Derived.Test.YtiofabnicdlceaaTrialD
namespace Go.Proofs.Ytiofabnicdlceaa
open Go.RowKit
set_option linter.unusedVariables false
set_option linter.unusedSimpArgs false

/-- a row of truths that has grown to l, in a block of its own from lo on, or none -/
def BRow (w : World) (lo : Nat) (v : Value) (l : List Bool) : Prop := w.ownsRow lo 4 1 v l.length (vo l)
theorem BRow.nil (w : World) (lo : Nat) : BRow w lo (.slice none 0 0) [] := World.ownsRow_nil _ _ _ _
theorem BRow.form {w : World} {lo : Nat} {v : Value} {l : List Bool} (h : BRow w lo v l) : ∃ A c, v = .slice A l.length c ∧ l.length ≤ c := by
  rcases h.2 with ⟨hv, h0⟩ | ⟨g', cap, cur, hv, _, _, h1, _⟩
  · exact ⟨none, 0, by rw [h0]; exact hv, by omega⟩
  · exact ⟨_, _, hv, h1⟩
theorem BRow.at_ {w : World} {lo : Nat} {v : Value} {l : List Bool} (h : BRow w lo v l) {g : Nat} (hg : v.ownBlock = some g) : lo ≤ g ∧ g < w.heap.size ∧ ∃ cs, Blk w g 4 cs := by
  rcases h.2 with ⟨hv, _⟩ | ⟨g', cap, cur, hv, hb, hh, _⟩
  · subst hv; cases hg
  · subst hv
    have : g' = g := by simpa [Value.ownBlock] using hg
    subst this
    exact ⟨hb, Blk.lt hh, cur, hh⟩
theorem BRow.alloc {w : World} {lo : Nat} {v : Value} {l : List Bool} (h : BRow w lo v l) (o : Obj) : BRow (w.alloc o) lo v l := by
  refine ⟨h.1, ?_⟩
  rcases h.2 with h1 | ⟨g', cap, cur, hv, hb, hh, hr⟩
  · exact .inl h1
  · exact .inr ⟨g', cap, cur, hv, hb, (Below.heap_alloc w o g' (Blk.lt hh)).trans hh, hr⟩
theorem BRow.snoc {w' : World} {lo : Nat} {v' : Value} {l : List Bool} {x : Bool} (h : w'.ownsRow lo 4 1 v' (l.length + 1) (vo l ++ [.bool x])) : BRow w' lo v' (l ++ [x]) := by
  unfold BRow
  rw [List.length_append]
  simpa [vo] using h
theorem BRow.grown {a w w' : World} {lo : Nat} {v : Value} {l : List Bool} (h : BRow w lo v l) (hb : Below lo a w) (hlo : lo ≤ w.heap.size) (hg : w.grownBy w' v.ownBlock) : Below lo a w' := hb.grown hg hlo fun g hg' => (h.at_ hg').1
theorem BRow.own {w : World} {lo : Nat} {A : Option Addr} {n c : Nat} {l : List Bool} (h : BRow w lo (.slice A n c) l) : OwnO w lo A l.length (gO l) := fun hn => by
  rcases h.2 with ⟨_, h0⟩ | ⟨g', cap, cur, hv, hb, hh, h1, h2, h3, h4⟩
  · omega
  · injection hv with e1 e2 e3
    refine ⟨g', cur, e1, hh, hb, by omega, fun i hi => ?_⟩
    have h5 : (vo l)[i]? = some (.bool (gO l i)) := by rw [vo_get, List.getElem?_eq_getElem hi, gO_get hi]; rfl
    rw [← h4, List.getElem?_take_of_lt (by omega)] at h5
    simpa using h5
def mapTo (p : Int → Bool) (col : List Int) (k : Nat) : List Bool := (col.take k).map p
theorem mapTo_zero (p : Int → Bool) (col : List Int) : mapTo p col 0 = [] := rfl
theorem mapTo_len {p : Int → Bool} {col : List Int} {k : Nat} (h : k ≤ col.length) : (mapTo p col k).length = k := by unfold mapTo; rw [List.length_map, List.length_take]; omega
theorem mapTo_succ {p : Int → Bool} {col : List Int} {k : Nat} (h : k < col.length) : mapTo p col (k + 1) = mapTo p col k ++ [p col[k]] := by unfold mapTo; rw [List.take_succ_eq_append_getElem h, List.map_append]; rfl
theorem mapTo_all (p : Int → Bool) (col : List Int) : mapTo p col col.length = col.map p := by unfold mapTo; rw [List.take_length]
def isG (c : Int) : Bool := c != 0
def isW (c : Int) : Bool := c == 3

theorem isG_c (c : Int) (w : World) : Calls Try.prog 51 #[.int .i64 c] w fun e w' => e = .returned (.bool (isG c)) ∧ w = w' := by
  unfold isG
  go_enter Try.func51, Try.ntmps51
  go_wp2
  go_ret
  exact ⟨rfl, rfl⟩

set_option maxRecDepth 100000 in
set_option maxHeartbeats 4000000 in
theorem which_isG_c (col : List Int) (N : Nat) (CA : Option Addr) (cn cc gC : Nat) (w : World) (hN : col.length = N) (hl : N ≤ 1048576) (hc : Blk w gC 82 (vi col).toArray) :
    Calls Try.prog 50 #[.agg #[.slice (some ⟨gC, 0, none⟩) N N, .slice CA cn cc], .func (.func 51) #[] #[]] w (AnsO w (col.map isG)) := by
  obtain ⟨i0, hi, hz0, hz1, hz2⟩ := info_parts infoBo
  have hbW := blw1 w (.cells #[.slice (some ⟨gC, 0, none⟩) N N, .slice CA cn cc] 77)
  have HC := Lib.hid (hc.alloc (.cells #[.slice (some ⟨gC, 0, none⟩) N N, .slice CA cn cc] 77))
  have HK := Lib.hid (Blk.new w 77 #[.slice (some ⟨gC, 0, none⟩) N N, .slice CA cn cc])
  have HbW := Lib.hid hbW
  have HN := Lib.hid hN
  have hx := fun c w => isG_c c w
  have Hx := Lib.hid hx
  clear hc hbW hN hx
  go_enter Try.func50, Try.ntmps50
  go_wp2_with fail
  generalize hW : w.alloc (.cells #[.slice (some ⟨gC, 0, none⟩) N N, .slice CA cn cc] 77) = W
  rw [hW] at HC HK HbW
  clear hW
  go_loopw [5, 11] (fun n i wr => ∃ k : Nat, k ≤ N ∧ i = .int .i64 k ∧ Hid (BRow wr W.heap.size n (mapTo isG col k)) ∧ Hid (Below W.heap.size W wr)) (fun _ i _ => N - (intOf i).toNat)
  case atStart => exact ⟨0, Nat.zero_le _, rfl, Lib.hid (BRow.nil _ _), Lib.hid (Below.refl _ _)⟩
  case round =>
    obtain ⟨k, hk, rfl, hrow, hbl⟩ := hrel
    obtain ⟨A', c', rfl, hlc⟩ := hrow.out.form
    have hws := hbl.out.size
    have Hll := Lib.hid (mapTo_len (p := isG) (show k ≤ col.length by rw [HN.out]; exact hk))
    by_cases hlt : k < N
    · have hkc : k < col.length := by rw [HN.out]; exact hlt
      have q0 : wr.cell? ⟨gC, k, none⟩ = some (.int .i64 col[k]) := by
        rw [(HC.out.below hbl.out HC.out.lt).cell]
        have : (vi col)[k]? = some (.int .i64 col[k]) := by rw [vi_get, List.getElem?_eq_getElem hkc]; rfl
        simpa using this
      have Hn := Lib.hid (mapTo_succ (p := isG) hkc)
      have Hc := Lib.hid (Hx.out col[k] wr)
      obtain ⟨z, hz⟩ : ∃ z, z = col[k] := ⟨_, rfl⟩
      rw [← hz] at q0 Hn Hc
      obtain ⟨b, hb⟩ : ∃ b, b = isG z := ⟨_, rfl⟩
      rw [← hb] at Hn Hc
      have Hcell := Lib.hid (cell_one_new wr (.bool b) 4)
      have HO := Lib.hid (hrow.out.alloc (.cells #[.bool b] 4))
      clear hz hb hkc
      go_wp2_with fail
      refine Hc.out.mono ?_
      rintro e w' ⟨rfl, rfl⟩
      go_wp2_with (at_builtin; refine wpList_append_own _ rfl (.tmp 15) (.tmp 19) 43 rfl W.heap.size 4 i0 _ 1 1 Try.underlying43 hi hz0 hz1 hz2 rfl (by omega) _ _ _ rfl HO.out ⟨wr.heap.size, 0, none⟩ 1 1 [.bool b] rfl rfl Hcell.out (by simp [Value.oneCell']) (by have := Hll.out; unfold maxLen; omega) (by have := Hll.out; omega) (by simp; omega) ?_; intro v' w4 hown' hgrow _)
      have hbn : Below W.heap.size W w4 := HO.out.grown (hbl.out.alloc hws _) (by simp; omega) hgrow
      have Hnew := Lib.hid (BRow.snoc hown')
      have Hbn := Lib.hid hbn
      clear hown' hgrow hbn HO Hcell
      go_roundw
      case rel => exact ⟨k + 1, by omega, by go_num, by rw [Hn.out]; exact Hnew, Hbn⟩
      case measure => simp [intOf]; omega
    · obtain rfl : k = N := by omega
      have e : mapTo isG col k = col.map isG := by rw [← HN.out]; exact mapTo_all _ _
      have ho := hrow.out.own
      rw [e] at ho
      have Ho := Lib.hid (ho.lo_le HbW.out.size)
      have E := Lib.hid e
      have Hbw := Lib.hid (HbW.out.trans (hbl.out.mono HbW.out.size))
      clear hrow ho e
      go_wp2
      go_ret
      exact ⟨_, _, by rw [← E.out]; rfl, Ho.out, Hbw.out⟩

end Go.Proofs.Ytiofabnicdlceaa
