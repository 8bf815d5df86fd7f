/-
  Rows of values (of three cells): given ones, and ones that a call makes itself; the numbers of those that are references.
-/
import Derived.Test.YtiofabnicdlceaaArnAns
namespace Go.Proofs.Ytiofabnicdlceaa
open Go.RowKit
set_option linter.unusedVariables false
set_option linter.unusedSimpArgs false

structure Vl where
  k : Int
  n : Int
  g : Int
def VlL (w : World) (L B : Nat) (A : Option Addr) (l : List Vl) : Prop :=
  l.length ≤ maxLen ∧ (0 < l.length → ∃ ad, A = some ad ∧ L ≤ ad.block ∧ ad.block < B ∧ ∀ k (h : k < l.length), w.cell? (ad.add (k * 3)) = some (.int .i64 l[k].k) ∧
    w.cell? ⟨(ad.add (k * 3)).block, (ad.add (k * 3)).off + 1, none⟩ = some (.int .i64 l[k].n) ∧ w.cell? ⟨(ad.add (k * 3)).block, (ad.add (k * 3)).off + 2, none⟩ = some (.int .i64 l[k].g))
theorem VlL.keep {w w' : World} {L B : Nat} {A : Option Addr} {l : List Vl} (h : VlL w L B A l) (hk : ∀ p : Addr, L ≤ p.block → p.block < B → w'.cell? p = w.cell? p) : VlL w' L B A l :=
  ⟨h.1, fun hn => by
    obtain ⟨ad, e, h1, h2, h3⟩ := h.2 hn
    refine ⟨ad, e, h1, h2, fun k hk' => ?_⟩
    obtain ⟨a0, a1, a2⟩ := h3 k hk'
    have e1 : (ad.add (k * 3)).block = ad.block := by rw [block_of_add]
    exact ⟨(hk _ (by rw [e1]; exact h1) (by rw [e1]; exact h2)).trans a0, (hk ⟨(ad.add (k * 3)).block, _, none⟩ (by rw [e1]; exact h1) (by rw [e1]; exact h2)).trans a1, (hk ⟨(ad.add (k * 3)).block, _, none⟩ (by rw [e1]; exact h1) (by rw [e1]; exact h2)).trans a2⟩⟩
theorem VlL.more {w : World} {L B L' B' : Nat} {A : Option Addr} {l : List Vl} (h : VlL w L B A l) (hL : L' ≤ L) (hB : B ≤ B') : VlL w L' B' A l :=
  ⟨h.1, fun hn => by obtain ⟨ad, e, h1, h2, h3⟩ := h.2 hn; exact ⟨ad, e, by omega, by omega, h3⟩⟩
theorem VlL.below {w w' : World} {L B : Nat} {A : Option Addr} {l : List Vl} (h : VlL w L B A l) (hb : Below B w w') : VlL w' L B A l := h.keep fun _ _ hp => hb.cell hp

def vv : List Vl → List Value
  | [] => []
  | x :: r => .int .i64 x.k :: .int .i64 x.n :: .int .i64 x.g :: vv r
theorem vv_len : ∀ l : List Vl, (vv l).length = l.length * 3
  | [] => rfl
  | x :: r => by simp [vv, vv_len r]; omega
theorem vv_app : ∀ (l r : List Vl), vv (l ++ r) = vv l ++ vv r
  | [], r => rfl
  | x :: l, r => by simp [vv, vv_app l r]
theorem vv_get : ∀ (l : List Vl) (i : Nat) (h : i < l.length), (vv l)[i * 3]? = some (.int .i64 l[i].k) ∧ (vv l)[i * 3 + 1]? = some (.int .i64 l[i].n) ∧ (vv l)[i * 3 + 2]? = some (.int .i64 l[i].g)
  | x :: r, 0, _ => ⟨rfl, rfl, rfl⟩
  | x :: r, i + 1, h => by
    have := vv_get r i (by simpa using h)
    have e0 : (i + 1) * 3 = i * 3 + 1 + 1 + 1 := by omega
    have e1 : (i + 1) * 3 + 1 = (i * 3 + 1) + 1 + 1 + 1 := by omega
    have e2 : (i + 1) * 3 + 2 = (i * 3 + 2) + 1 + 1 + 1 := by omega
    refine ⟨?_, ?_, ?_⟩
    · rw [e0]; simp only [vv, List.getElem?_cons_succ, List.getElem_cons_succ]; exact this.1
    · rw [e1]; simp only [vv, List.getElem?_cons_succ, List.getElem_cons_succ]; exact this.2.1
    · rw [e2]; simp only [vv, List.getElem?_cons_succ, List.getElem_cons_succ]; exact this.2.2

/-- a row of values that has grown, in a block of its own from lo on, or none -/
def VRow (w : World) (lo : Nat) (v : Value) (l : List Vl) : Prop := w.ownsRow lo 60 3 v l.length (vv l)
theorem VRow.nil (w : World) (lo : Nat) : VRow w lo (.slice none 0 0) [] := World.ownsRow_nil _ _ _ _
theorem VRow.form {w : World} {lo : Nat} {v : Value} {l : List Vl} (h : VRow w lo v l) : ∃ A c, v = .slice A l.length c ∧ l.length ≤ c := by
  rcases h.2 with ⟨hv, h0⟩ | ⟨g', cap, cur, hv, _, _, h1, _⟩
  · exact ⟨none, 0, by rw [h0]; exact hv, by omega⟩
  · exact ⟨_, _, hv, h1⟩
theorem VRow.at_ {w : World} {lo : Nat} {v : Value} {l : List Vl} (h : VRow w lo v l) {g : Nat} (hg : v.ownBlock = some g) : lo ≤ g ∧ g < w.heap.size ∧ ∃ cs, Blk w g 60 cs := by
  rcases h.2 with ⟨hv, _⟩ | ⟨g', cap, cur, hv, hb, hh, _⟩
  · subst hv; cases hg
  · subst hv
    have : g' = g := by simpa [Value.ownBlock] using hg
    subst this
    exact ⟨hb, Blk.lt hh, cur, hh⟩
theorem VRow.keep {w w' : World} {lo : Nat} {v : Value} {l : List Vl} (h : VRow w lo v l) (hk : ∀ g, v.ownBlock = some g → w'.heap[g]? = w.heap[g]?) : VRow w' lo v l := by
  refine ⟨h.1, ?_⟩
  rcases h.2 with h1 | ⟨g', cap, cur, hv, hb, hh, hr⟩
  · exact .inl h1
  · exact .inr ⟨g', cap, cur, hv, hb, (hk g' (by rw [hv]; rfl)).trans hh, hr⟩
theorem VRow.below {w w' : World} {lo : Nat} {v : Value} {l : List Vl} (h : VRow w lo v l) (hb : Below w.heap.size w w') : VRow w' lo v l := h.keep fun g hg => hb.block g (h.at_ hg).2.1
theorem VRow.alloc {w : World} {lo : Nat} {v : Value} {l : List Vl} (h : VRow w lo v l) (o : Obj) : VRow (w.alloc o) lo v l := h.below ((Below.refl _ _).alloc (Nat.le_refl _) o)
theorem VRow.snoc {w' : World} {lo : Nat} {v' : Value} {l : List Vl} {x : Vl} (h : w'.ownsRow lo 60 3 v' (l.length + 1) (vv l ++ [.int .i64 x.k, .int .i64 x.n, .int .i64 x.g])) : VRow w' lo v' (l ++ [x]) := by
  unfold VRow
  rw [List.length_append, vv_app]
  simpa [vv] using h
theorem VRow.grown {a w w' : World} {lo : Nat} {v : Value} {l : List Vl} (h : VRow w lo v l) (hb : Below lo a w) (hlo : lo ≤ w.heap.size) (hg : w.grownBy w' v.ownBlock) : Below lo a w' := hb.grown hg hlo fun g hg' => (h.at_ hg').1
theorem VRow.vl {w : World} {lo : Nat} {A : Option Addr} {n c : Nat} {l : List Vl} (h : VRow w lo (.slice A n c) l) (hm : l.length ≤ maxLen) : VlL w lo w.heap.size A l := by
  refine ⟨hm, fun hn => ?_⟩
  rcases h.2 with ⟨_, h0⟩ | ⟨g', cap, cur, hv, hb, hh, h1, h2, h3, h4⟩
  · omega
  · injection hv with e1 e2 e3
    refine ⟨_, e1, hb, Blk.lt hh, fun i hi => ?_⟩
    obtain ⟨b0, b1, b2⟩ := vv_get l i hi
    rw [← h4, List.getElem?_take_of_lt (by omega)] at b0 b1 b2
    have hB : Blk w g' 60 cur := hh
    rw [add_zero_]
    exact ⟨hB.cel _ (by simpa using b0), hB.cel _ (by simpa using b1), hB.cel _ (by simpa using b2)⟩

/-- whom the first k refer to -/
def refsV (l : List Vl) (k : Nat) : List Int := ((l.take k).filter fun f => f.k == 2).map fun f => f.n
theorem refsV_zero (l : List Vl) : refsV l 0 = [] := rfl
theorem refsV_yes {l : List Vl} {k : Nat} (h : k < l.length) (h2 : l[k].k = 2) : refsV l (k + 1) = refsV l k ++ [l[k].n] := by
  unfold refsV
  rw [List.take_succ_eq_append_getElem h, List.filter_append, List.map_append]
  simp [h2]
theorem refsV_no {l : List Vl} {k : Nat} (h : k < l.length) (h2 : ¬ l[k].k = 2) : refsV l (k + 1) = refsV l k := by
  unfold refsV
  rw [List.take_succ_eq_append_getElem h, List.filter_append, List.map_append]
  simp [h2]
theorem refsV_le (l : List Vl) (k : Nat) : (refsV l k).length ≤ k := by
  unfold refsV
  rw [List.length_map]
  exact Nat.le_trans (List.length_filter_le _ _) (by simp; omega)
/-- fields' values -/
def valsTo (l : List Fd) (k : Nat) : List Vl := (l.take k).map fun f => ⟨f.k, f.n, f.g⟩
theorem valsTo_zero (l : List Fd) : valsTo l 0 = [] := rfl
theorem valsTo_succ {l : List Fd} {k : Nat} (h : k < l.length) : valsTo l (k + 1) = valsTo l k ++ [⟨l[k].k, l[k].n, l[k].g⟩] := by
  unfold valsTo
  rw [List.take_succ_eq_append_getElem h, List.map_append]; rfl
theorem valsTo_len {l : List Fd} {k : Nat} (h : k ≤ l.length) : (valsTo l k).length = k := by simp [valsTo]; omega
theorem refsV_vals (l : List Fd) : refsV (valsTo l l.length) (valsTo l l.length).length = refsTo l l.length := by
  unfold refsV refsTo valsTo
  rw [List.take_length, List.take_length, List.filter_map, List.map_map]
  rfl

set_option maxRecDepth 100000 in
set_option maxHeartbeats 2000000 in
theorem refsAmong_c (l : List Vl) (A : Option Addr) (c L B : Nat) (w : World) (hB : B ≤ w.heap.size) (hl : l.length ≤ 1048576) (h : VlL w L B A l) :
    Calls Try.prog 78 #[.slice A l.length c] w (AnsI w (refsV l l.length)) := by
  obtain ⟨i0, hi, hz0, hz1, hz2⟩ := info_parts infoI
  have H := Lib.hid h
  clear h
  go_enter Try.func78, Try.ntmps78
  go_wp2_with fail
  go_loopw [3, 8] (fun n i wr => ∃ k : Nat, k ≤ l.length ∧ i = .int .i64 k ∧ Hid (IRow wr w.heap.size n (refsV l k)) ∧ Below w.heap.size w wr) (fun _ i _ => l.length - (intOf i).toNat)
  case atStart => exact ⟨0, Nat.zero_le _, rfl, Lib.hid (IRow.nil _ _), Below.refl _ _⟩
  case round =>
    obtain ⟨k, hk, rfl, hrow, hbl⟩ := hrel
    obtain ⟨A', c', rfl, hlc⟩ := hrow.out.form
    have hll := refsV_le l k
    have hws := hbl.size
    by_cases hlt : k < l.length
    · obtain ⟨ad, rfl, _, hbk, hat⟩ := (H.out.below (hbl.mono hB)).2 (by omega)
      obtain ⟨d0, d1, d2⟩ := hat k hlt
      have Hy := Lib.hid (fun h => refsV_yes (l := l) (k := k) hlt h)
      have Hno := Lib.hid (fun h => refsV_no (l := l) (k := k) hlt h)
      obtain ⟨vk, hvk⟩ : ∃ f, f = l[k].k := ⟨_, rfl⟩
      obtain ⟨vn, hvn⟩ : ∃ f, f = l[k].n := ⟨_, rfl⟩
      obtain ⟨vg, hvg⟩ : ∃ f, f = l[k].g := ⟨_, rfl⟩
      rw [← hvk] at d0 Hy Hno
      rw [← hvn] at d1 Hy
      rw [← hvg] at d2
      clear hat hvk hvn hvg
      have hr1 := hrow.out.alloc (.cells #[.int .i64 vk, .int .i64 vn, .int .i64 vg] 60)
      have hbl1 := hbl.trans ((blw1 wr (.cells #[.int .i64 vk, .int .i64 vn, .int .i64 vg] 60)).mono hws)
      by_cases he : vk = 2
      · subst he
        have Hn := Lib.hid (Hy.out rfl)
        have HO := Lib.hid (hr1.alloc (.cells #[.int .i64 vn] 3))
        have Hcell := Lib.hid (cell_one_new (wr.alloc (.cells #[.int .i64 2, .int .i64 vn, .int .i64 vg] 60)) (.int .i64 vn) 3)
        have Hbl1 := Lib.hid hbl1
        clear hr1 hbl hbl1 Hy Hno
        go_wp2_with (at_builtin; refine wpList_append_own _ rfl (.tmp 15) (.tmp 18) 23 rfl w.heap.size 3 i0 _ 1 8 Try.underlying23 hi hz0 hz1 hz2 rfl (by omega) _ _ _ rfl HO.out ⟨wr.heap.size + 1, 0, none⟩ 1 1 [.int .i64 vn] rfl rfl (by have := Hcell.out; rw [World.size_alloc] at this; exact this) (by simp [Value.oneCell']) (by unfold maxLen; omega) (by omega) (by simp; omega) ?_; intro v' w4 hown' hgrow _)
        have hbn : Below w.heap.size w w4 := HO.out.grown (Hbl1.out.alloc (by simp; omega) _) (by simp; omega) hgrow
        have Hnew := Lib.hid (IRow.snoc hown')
        have Hbn := Lib.hid hbn
        clear hown' hgrow hbn HO Hcell Hbl1
        go_roundw
        case rel => exact ⟨k + 1, by omega, by go_num, by rw [Hn.out]; exact Hnew, Hbn.out⟩
        case measure => simp [intOf]; omega
      · have Hn := Lib.hid (Hno.out he)
        have Hr1 := Lib.hid hr1
        have Hbl1 := Lib.hid hbl1
        clear hr1 hbl hbl1 Hy Hno hrow
        go_wp2
        go_roundw
        case rel => exact ⟨k + 1, by omega, by go_num, by rw [Hn.out]; exact Hr1, Hbl1.out⟩
        case measure => simp [intOf]; omega
    · obtain rfl : k = l.length := by omega
      have Hbw := Lib.hid hbl
      clear hbl
      go_wp2
      go_ret
      exact ⟨_, _, rfl, hrow.out.own, Hbw.out⟩
end Go.Proofs.Ytiofabnicdlceaa
