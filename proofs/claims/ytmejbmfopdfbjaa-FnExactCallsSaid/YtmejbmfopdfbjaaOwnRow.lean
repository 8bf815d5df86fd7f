/-
  withName on a row of names that are all ours: the new name lies in a block of its own, too.
-/
import Derived.Test.YtmejbmfopdfbjaaOwnMark
import Derived.Test.YtmejbmfopdfbjaaLocals
namespace Go.Proofs.Ytmejbmfopdfbjaa
open Go.RowKit Go.Shelf
set_option linter.unusedVariables false

/-- a row of names, each in a block of its own -/
def ORow (w : World) (n lo : Nat) (v : Value) (l : List (List UInt8)) : Prop :=
  NmRow w n lo v l ∧ ∃ xs gs, w.ownsRow lo 22 1 v l.length xs ∧ NmL w lo l l.length xs gs
theorem ORow.nil (w : World) (n lo : Nat) : ORow w n lo (.slice none 0 0) [] := ⟨NmRow.nil _ _ _, [], fun _ => 0, World.ownsRow_nil _ _ _ _, NmL.zero _ _ _ _⟩
theorem ORow.keep {w w' : World} {n lo : Nat} {v : Value} {l : List (List UInt8)} (h : ORow w n lo v l) (hs : w.heap.size ≤ w'.heap.size)
    (hk : ∀ k, k < w.heap.size → (k < n ∨ Tag NmT w.heap[k]?) → w'.heap[k]? = w.heap[k]?) : ORow w' n lo v l := by
  obtain ⟨h1, xs, gs, ho, hx⟩ := h
  refine ⟨h1.keep hs hk, xs, gs, own_keep ho (fun g hg => ?_), hx.keep (fun g t hb => hk g hb.lt (.inr ⟨t, _, hb, .inl rfl⟩))⟩
  have ht := (own_tag ho hg).2
  exact hk g ht.lt (.inr (ht.mono fun t e => .inr e))
theorem ORow.ext {w w' : World} {n lo s : Nat} {v : Value} {l : List (List UInt8)} (h : ORow w n lo v l) (he : Ext s NmT w w') (hn : n ≤ s) : ORow w' n lo v l :=
  h.keep he.size fun k _ hc => he.block k (by rcases hc with hc | hc <;> first | exact .inl (by omega) | exact .inr hc)
theorem ORow.below {w w' : World} {n lo : Nat} {v : Value} {l : List (List UInt8)} (h : ORow w n lo v l) (hb : Below w.heap.size w w') : ORow w' n lo v l :=
  h.keep hb.size fun k hk _ => hb.block k hk
theorem ORow.own {w : World} {n lo : Nat} {v : Value} {l : List (List UInt8)} (h : ORow w n lo v l) : ∃ A c gs, v = .slice A l.length c ∧ OwnN w lo A l gs := by
  obtain ⟨⟨_, A, c, _, hv, _⟩, xs, gs, ho, hx⟩ := h
  subst hv
  exact ⟨A, c, gs, rfl, hx.own ho⟩

theorem Solo.nmB {w : World} {lo g : Nat} {A : Option Addr} {e : List UInt8} (h : Solo w lo g A e) : NmB w 0 A e := by
  refine ⟨⟨by simp [vb], fun hn => ?_⟩, fun hn => ?_⟩
  · obtain ⟨e1, e2, tc, hb, ht⟩ := h hn
    refine ⟨_, e1, hb.lt, fun j u hu => ?_⟩
    rw [show (Addr.add ⟨g, 0, none⟩ j) = ⟨g, j, none⟩ by unfold Addr.add; split <;> simp_all]
    rw [hb.cell]
    exact ht j u hu
  · obtain ⟨e1, e2, tc, hb, ht⟩ := h hn
    exact ⟨_, e1, .inr ⟨tc, _, hb, rfl⟩⟩

set_option maxRecDepth 100000 in
set_option maxHeartbeats 4000000 in
theorem withNameO_c (l : List (List UInt8)) (b : List UInt8) (v : Value) (A : Option Addr) (c B n lo : Nat) (w : World) (hB : B ≤ w.heap.size) (hlo : lo ≤ w.heap.size) (hn : n ≤ lo) (hl : l.length + 1 ≤ 4194304) (hb : b.length ≤ 1048576) (h : ORow w n lo v l) (hR : RB w B A b) :
    Calls Try.prog 38 #[v, .slice A b.length c] w fun r w' => ∃ v', r = .returned v' ∧ ORow w' n lo v' (withN l b) ∧ w.grownBy w' v.ownBlock := by
  obtain ⟨i0, hi, hz0, hz1, hz2⟩ := info_parts infoBs
  obtain ⟨Ak, ck, hv, hck, hckm, hbs⟩ := h.1.bsl
  subst hv
  have hx := placeOf_c l b Ak A ck c 0 w.heap.size B w (Nat.le_refl _) hB hbs hR
  have Hx := Lib.hid hx
  clear hx
  by_cases hp : 0 ≤ placeOf l b
  · have hw : withN l b = l := by unfold withN; rw [if_pos hp]
    rw [hw]
    have H := Lib.hid h
    clear hw h hR hbs
    go_enter Try.func38, Try.ntmps38
    go_wp2_with fail
    refine Hx.out.mono ?_
    rintro r w1 ⟨rfl, hb1⟩
    go_wp2
    go_ret
    exact ⟨_, rfl, H.out.below hb1, grown_below hb1 _⟩
  · have hw : withN l b = l ++ [b] := by unfold withN; rw [if_neg hp]
    rw [hw]
    have H := Lib.hid h
    have HR := Lib.hid hR
    clear hw h hR hbs
    go_enter Try.func38, Try.ntmps38
    go_wp2_with fail
    refine Hx.out.mono ?_
    rintro r w1 ⟨rfl, hb1⟩
    have hcl := bytesCloneO_c b A c B w1 (Nat.le_trans hB hb1.size) hb (HR.out.below (hb1.mono hB))
    have Hcl := Lib.hid hcl
    clear hcl Hx
    go_wp2_with fail
    refine Hcl.out.mono ?_
    rintro r w2 ⟨A2, c2, g2, rfl, hso, hb2⟩
    have hb02 := hb1.trans (hb2.mono hb1.size)
    obtain ⟨⟨_, A3, c3, ys, e, _, hc3, hcm3, hall⟩, xs, gs, hown1, hnm1⟩ := H.out.below hb1
    injection e with e1 e2 e3
    subst e1
    subst e3
    have hlm : ∀ j (hj : j < l.length), l[j].length ≤ maxLen := fun j hj => by
      obtain ⟨_, _, _, _, h3⟩ := hall j hj
      exact h3
    have hO := (own_keep hown1 (fun g hg => hb2.block g (own_tag hown1 hg).2.lt)).alloc (.cells #[.slice A2 b.length c2] 22)
    have HO := Lib.hid hO
    have Hso := Lib.hid hso
    have Hlm := Lib.hid hlm
    have Hnm1 := Lib.hid hnm1
    have Hb2 := Lib.hid hb2
    have Hs1 := Lib.hid hb1.size
    clear hO hso hall hlm hnm1 Hcl hown1
    have hs2 := hb02.size
    have hcell := cell_one_new w2 (.slice A2 b.length c2) 22
    have Hcell := Lib.hid hcell
    clear hcell
    go_wp2_with (at_builtin; refine wpList_append_own _ rfl (.tmp 10) (.tmp 13) 23 rfl lo 22 i0 _ 1 24 Try.underlying23 hi hz0 hz1 hz2 rfl (by omega) _ _ _ rfl HO.out ⟨w2.heap.size, 0, none⟩ 1 1 [.slice A2 b.length c2] rfl rfl Hcell.out (by simp [Value.oneCell']) (by unfold maxLen; omega) (by omega) (by simp; omega) ?_; intro v' w3 hown' hgrow _)
    go_ret
    have hba : Below w2.heap.size w2 (w2.alloc (.cells #[.slice A2 b.length c2] 22)) := (Below.refl _ _).alloc (Nat.le_refl _) _
    have hxl : xs.length = l.length := by have := HO.out.1; omega
    have hkeep : ∀ (g : Nat) (t : Array Value), Blk w2 g 5 t → w3.heap[g]? = w2.heap[g]? := fun g t hb => by
      have h1 : Blk (w2.alloc (.cells #[.slice A2 b.length c2] 22)) g 5 t := hb.alloc _
      exact (row_apart HO.out h1 (by decide) hgrow).trans (hba.block g hb.lt)
    have hnm2 : NmL w2 lo l l.length xs gs := Hnm1.out.keep (fun g t hb => Hb2.out.block g hb.lt)
    have hns : NmB w2 0 A2 b := Hso.out.nmB
    have hex : NmL w3 lo (l ++ [b]) l.length xs gs := by
      have h3 := hnm2.keep hkeep
      refine ⟨fun j hj hjk => ?_, fun i j hi hj hik hjk hij ti tj => ?_⟩
      · obtain ⟨A4, c4, x1, x2⟩ := h3.1 j hjk hjk
        rw [List.getElem_append_left hjk]
        exact ⟨A4, c4, x1, x2⟩
      · rw [List.getElem_append_left hik] at ti
        rw [List.getElem_append_left hjk] at tj
        exact h3.2 i j hik hjk hik hjk hij ti tj
    have hll : l.length < (l ++ [b]).length := by simp
    have elast : (l ++ [b])[l.length] = b := by simp
    have hs3 : Solo w3 lo g2 A2 (l ++ [b])[l.length] := by
      rw [elast]
      intro h0
      obtain ⟨e1, e2, e3⟩ := (Hso.out.keep (w' := w3) (fun t hb => hkeep g2 t hb)) h0
      exact ⟨e1, by have := Hs1.out; omega, e3⟩
    have hne : ∀ i (hi : i < (l ++ [b]).length), i < l.length → 0 < (l ++ [b])[i].length → 0 < (l ++ [b])[l.length].length → gs i ≠ g2 := fun i hi hik h0 hk0 => by
      rw [List.getElem_append_left hik] at h0
      rw [elast] at hk0
      obtain ⟨Ai, ci, _, hsi⟩ := Hnm1.out.1 i hik hik
      have h1 := hsi.lt h0
      obtain ⟨_, h2, _⟩ := Hso.out hk0
      omega
    have hnew := NmL.snoc (c := c2) hll hxl hex hs3 hne
    rw [elast] at hnew
    refine ⟨_, rfl, ⟨NmRow.snoc hn hl HO.out (fun j hj => ?_) ((hns.more (Nat.zero_le n)).below hba) (by unfold maxLen; omega) hown' hgrow, xs ++ [.slice A2 b.length c2], (fun i => if i = l.length then g2 else gs i), ?_, ?_⟩, grown_of (hb02.alloc hs2 _) hgrow⟩
    · obtain ⟨A4, c4, x1, x2⟩ := hnm2.1 j hj hj
      exact ⟨A4, c4, x1, (x2.nmB.more (Nat.zero_le n)).below hba, Hlm.out j hj⟩
    · rw [List.length_append]
      exact hown'
    · rw [List.length_append]
      exact hnew
end Go.Proofs.Ytmejbmfopdfbjaa
