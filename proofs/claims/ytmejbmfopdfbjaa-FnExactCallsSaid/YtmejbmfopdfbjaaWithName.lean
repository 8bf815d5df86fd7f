/-
  The program's withName: a row of names, and one that wasn't there, copied.
-/
import Derived.Test.YtmejbmfopdfbjaaOwn
import Derived.Test.YtmejbmfopdfbjaaFnAll
namespace Go.Proofs.Ytmejbmfopdfbjaa
open Go.RowKit Go.Shelf
set_option linter.unusedVariables false

/-- the list with a name that wasn't there -/
def withN (l : List (List UInt8)) (b : List UInt8) : List (List UInt8) := if 0 ≤ placeOf l b then l else l ++ [b]

theorem grown_of {w w1 w2 : World} {row : Option Nat} (h : Below w.heap.size w w1) (g : w1.grownBy w2 row) : w.grownBy w2 row :=
  ⟨g.os.trans h.os, g.tape.trans h.tape, g.output.trans h.output, Nat.le_trans h.size g.size, fun k hk hr => (g.block k (Nat.lt_of_lt_of_le hk h.size) hr).trans (h.block k hk)⟩
theorem grown_below {w w' : World} (h : Below w.heap.size w w') (row : Option Nat) : w.grownBy w' row :=
  ⟨h.os, h.tape, h.output, h.size, fun k hk _ => h.block k hk⟩

set_option maxRecDepth 100000 in
set_option maxHeartbeats 2000000 in
theorem bytesClone_c (l : List UInt8) (A : Option Addr) (c B : Nat) (w : World) (hB : B ≤ w.heap.size) (hl : l.length ≤ 1048576) (h : RB w B A l) :
    Calls Try.prog 50 #[.slice A l.length c] w fun r w' => ∃ A' c', r = .returned (.slice A' l.length c') ∧ NmB w' 0 A' l ∧ Below w.heap.size w w' := by
  obtain ⟨i0, hi, hz0, hz1, hz2⟩ := info_parts infoU8
  have qn : ∀ (w : World) (a : Option Addr) (n c n' c' : Nat), (binOp .eql 22 (.slice a n c) (.slice none n' c')).run Try.prog w = .ok (.bool a.isNone) w := fun w a n c n' c' => Lib.run_eql_slice_nil w _ _ a n c n' c' Try.underlying22
  cases A with
  | none =>
    have h0 : l = [] := by
      cases l with
      | nil => rfl
      | cons x r => obtain ⟨ad, e, _⟩ := h.2 (by simp); cases e
    subst h0
    go_enter Try.func50, Try.ntmps50
    go_wp2
    go_ret
    exact ⟨none, 0, rfl, ⟨⟨rfl, fun hn => by simp at hn⟩, fun hn => by simp at hn⟩, Below.refl _ _⟩
  | some ad =>
    have hb0 : Below w.heap.size w (w.alloc (.cells #[] 5)) := (Below.refl _ _).alloc (Nat.le_refl _) _
    have hR := h.below (hb0.mono hB)
    have hO : (w.alloc (.cells #[] 5)).ownsRow w.heap.size 5 1 (.slice (some ⟨w.heap.size, 0, none⟩) 0 0) 0 [] :=
      ⟨rfl, .inr ⟨w.heap.size, 0, #[], rfl, Nat.le_refl _, Blk.new w _ _, Nat.le_refl _, Nat.zero_le _, rfl, rfl⟩⟩
    have hcs : ∀ j u, (vb l)[j]? = some u → (w.alloc (.cells #[] 5)).cell? (ad.add j) = some u := fun j u hj => by
      have hjl : j < l.length := by rw [← vb_len l]; exact (List.getElem?_eq_some_iff.1 hj).1
      obtain ⟨ad', e, _, hc⟩ := hR.2 (by omega)
      injection e with e
      subst e
      have := hc j u hj
      simpa using this
    have HO := Lib.hid hO
    have Hcs := Lib.hid hcs
    clear hO hR h hcs
    go_enter Try.func50, Try.ntmps50
    go_wp2_with (at_builtin; refine wpList_append_own _ rfl (.tmp 5) (.tmp 6) 22 rfl w.heap.size 5 i0 _ 1 1 Try.underlying22 hi hz0 hz1 hz2 rfl (by omega) _ _ _ rfl HO.out ad l.length c (vb l) rfl (by rw [vb_len, Nat.mul_one]) Hcs.out (fun u hu => by obtain ⟨b, _, rfl⟩ := List.mem_map.1 hu; rfl) (by unfold maxLen; omega) (by omega) (by simp) ?_; intro v2 w2 hown2 hg2 _)
    go_ret
    rw [Nat.zero_add, List.nil_append] at hown2
    have hbn : Below w.heap.size w w2 := hb0.grown hg2 (by simp) (fun g hg => by
      have h3 : (Value.slice (some ⟨w.heap.size, 0, none⟩) 0 0).ownBlock = some g := hg
      simp [Value.ownBlock] at h3
      omega)
    obtain ⟨A', c', rfl⟩ : ∃ A' c', v2 = .slice A' l.length c' := by
      rcases hown2.2 with ⟨h1, h0⟩ | ⟨g2, cap2, cur2, hv2, _⟩
      · exact ⟨none, 0, by rw [h1, h0]⟩
      · exact ⟨_, _, hv2⟩
    refine ⟨A', c', rfl, ⟨Reads.of_own hown2, fun hp => ?_⟩, hbn⟩
    have hR := Reads.of_own hown2
    obtain ⟨ad', e, hb', _⟩ := hR.2 hp
    subst e
    exact ⟨ad', rfl, .inr (own_tag hown2 rfl).2⟩

set_option maxRecDepth 100000 in
set_option maxHeartbeats 4000000 in
theorem withName_c (l : List (List UInt8)) (b : List UInt8) (v : Value) (A : Option Addr) (c B n lo : Nat) (w : World) (hB : B ≤ w.heap.size) (hlo : lo ≤ w.heap.size) (hn : n ≤ lo) (hl : l.length + 1 ≤ 4194304) (hb : b.length ≤ 1048576) (h : NmRow w n lo v l) (hR : RB w B A b) :
    Calls Try.prog 38 #[v, .slice A b.length c] w fun r w' => ∃ v', r = .returned v' ∧ NmRow w' n lo v' (withN l b) ∧ w.grownBy w' v.ownBlock := by
  obtain ⟨i0, hi, hz0, hz1, hz2⟩ := info_parts infoBs
  obtain ⟨Ak, ck, hv, hck, hckm, hbs⟩ := h.bsl
  subst hv
  have hx := placeOf_c l b Ak A ck c 0 w.heap.size B w (Nat.le_refl _) hB hbs hR
  have Hx := Lib.hid hx
  clear hx
  by_cases hp : 0 ≤ placeOf l b
  · have hw : withN l b = l := by unfold withN; rw [if_pos hp]
    rw [hw]
    have H := Lib.hid h
    clear hw h hR hbs
    go_enter Try.func38, Try.ntmps38
    go_wp2_with fail
    refine Hx.out.mono ?_
    rintro r w1 ⟨rfl, hb1⟩
    go_wp2
    go_ret
    exact ⟨_, rfl, H.out.below hb1, grown_below hb1 _⟩
  · have hw : withN l b = l ++ [b] := by unfold withN; rw [if_neg hp]
    rw [hw]
    have H := Lib.hid h
    have HR := Lib.hid hR
    clear hw h hR hbs
    go_enter Try.func38, Try.ntmps38
    go_wp2_with fail
    refine Hx.out.mono ?_
    rintro r w1 ⟨rfl, hb1⟩
    have hcl := bytesClone_c b A c B w1 (Nat.le_trans hB hb1.size) hb (HR.out.below (hb1.mono hB))
    have Hcl := Lib.hid hcl
    clear hcl Hx
    go_wp2_with fail
    refine Hcl.out.mono ?_
    rintro r w2 ⟨A2, c2, rfl, hnb, hb2⟩
    have hb02 := hb1.trans (hb2.mono hb1.size)
    have h2 := H.out.below hb02
    obtain ⟨_, A3, c3, xs, e, hown, hc3, hcm3, hall⟩ := h2
    injection e with e1 e2 e3
    subst e1
    subst e3
    have hO := hown.alloc (.cells #[.slice A2 b.length c2] 22)
    have HO := Lib.hid hO
    have Hnb := Lib.hid hnb
    have Hall := Lib.hid hall
    have hs2 := hb02.size
    have hcell := cell_one_new w2 (.slice A2 b.length c2) 22
    have Hcell := Lib.hid hcell
    clear hO hnb hall Hcl hcell
    go_wp2_with (at_builtin; refine wpList_append_own _ rfl (.tmp 10) (.tmp 13) 23 rfl lo 22 i0 _ 1 24 Try.underlying23 hi hz0 hz1 hz2 rfl (by omega) _ _ _ rfl HO.out ⟨w2.heap.size, 0, none⟩ 1 1 [.slice A2 b.length c2] rfl rfl Hcell.out (by simp [Value.oneCell']) (by unfold maxLen; omega) (by omega) (by simp; omega) ?_; intro v' w3 hown' hgrow _)
    go_ret
    have hba : Below w2.heap.size w2 (w2.alloc (.cells #[.slice A2 b.length c2] 22)) := (Below.refl _ _).alloc (Nat.le_refl _) _
    refine ⟨_, rfl, NmRow.snoc hn hl HO.out (fun j hj => ?_) ((Hnb.out.more (Nat.zero_le n)).below hba) (by unfold maxLen; omega) hown' hgrow, grown_of (hb02.alloc hs2 _) hgrow⟩
    obtain ⟨A4, c4, x1, x2, x3⟩ := Hall.out j hj
    exact ⟨A4, c4, x1, x2.below hba, x3⟩
end Go.Proofs.Ytmejbmfopdfbjaa
