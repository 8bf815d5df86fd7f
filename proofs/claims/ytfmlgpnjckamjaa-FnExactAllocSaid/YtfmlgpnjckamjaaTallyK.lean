/-
  The tally keeps a value: the count of its slot grows by one.
-/
import Derived.Test.YtfmlgpnjckamjaaTallyA
namespace Go.Proofs.Ytfmlgpnjckamjaa
open Go.RowKit
set_option linter.unusedVariables false
set_option linter.unusedSimpArgs false

/-- the slots once a value is kept -/
def keepS (S : List Sl) (k n : Int) : List Sl := if k = 2 then ArnM.cntAt S n.toNat ((S[n.toNat]?.map Sl.count).getD 0 + 1) else S
theorem keepS_no {S : List Sl} {k n : Int} (h : ¬ k = 2) : keepS S k n = S := if_neg h
theorem keepS_yes {S : List Sl} {m : Nat} (h : m < S.length) : keepS S 2 (m : Int) = ArnM.cntAt S m (S[m].count + 1) := by
  unfold keepS
  rw [if_pos rfl, Int.toNat_natCast, List.getElem?_eq_getElem h]
  rfl

set_option maxHeartbeats 1000000 in
theorem keep_c (S : List Sl) (Q P : List Int) (bt lo : Nat) (d : Value) (k n gn : Int) (w : World) (hS : S.length ≤ 1050000) (h : TalQ w lo bt d ⟨S, Q, P⟩)
    (hk : k = 2 → ∃ m : Nat, n = m ∧ ∃ hm : m < S.length, -1000000000000 ≤ S[m].count ∧ S[m].count ≤ 1000000000000) :
    Calls Try.prog 48 #[.pointer (some ⟨bt, 0, none⟩), .agg #[.int .i64 k, .int .i64 n, .int .i64 gn]] w fun e w' => (∃ z, e = .returned z) ∧ TalQ w' lo bt d ⟨keepS S k n, Q, P⟩ ∧ Below lo w w' := by
  obtain ⟨A0, A1, A2, c0, c1, c2, g, fb, nb, g1, g2, hK, hlo, hO, hl⟩ := h
  dsimp only at hK
  have hbW := CopyOf.blw1 w (.cells #[.int .i64 k, .int .i64 n, .int .i64 gn] 43)
  have hsz : (w.alloc (.cells #[.int .i64 k, .int .i64 n, .int .i64 gn] 43)).heap.size = w.heap.size + 1 := by simp
  have hKV := Blk.new w 43 #[.int .i64 k, .int .i64 n, .int .i64 gn]
  have hK1 := hK.below hbW hK.lt
  have hO1 := hO.apart (S := fun _ => False) (Apart.of_below hbW) (fun _ _ h => h)
  have hlt := hK.lt
  have hl1 : ∀ b, ArnM.asOf ⟨S, Q, P⟩ g fb nb g1 g2 b → b < w.heap.size + 1 ∧ ¬ b = bt := fun b hb => ⟨by have := (hl b hb).1; omega, (hl b hb).2⟩
  have v0 := hKV.cel 0 (v := .int .i64 k) rfl
  have v1 := hKV.cel 1 (v := .int .i64 n) rfl
  by_cases hk2 : k = 2
  · subst hk2
    obtain ⟨m, rfl, hm, hc1, hc2⟩ := hk rfl
    have E := Lib.hid (keepS_yes hm)
    obtain ⟨rfl, hgl, cs, hG, hat⟩ := hO1.slots.row (by dsimp only; omega)
    obtain ⟨e0, e1, e2, -⟩ := hat m hm
    dsimp only at e2
    have q2 : (w.alloc (.cells #[.int .i64 2, .int .i64 m, .int .i64 gn] 43)).cell? ⟨g, m * 4 + 2, none⟩ = some (.int .i64 S[m].count) := by rw [hG.cell]; exact e2
    have z2 : (w.alloc (.cells #[.int .i64 2, .int .i64 m, .int .i64 gn] 43)).frozen? ⟨g, m * 4 + 2, none⟩ = false := hG.frozen _
    have t0 := hK1.cel 0 (v := .slice (some ⟨g, 0, none⟩) S.length c0) rfl
    obtain ⟨ct, hct⟩ : ∃ ct, ct = S[m].count := ⟨_, rfl⟩
    rw [← hct] at q2 hc1 hc2 E
    have Hfin := Lib.hid (hO1.setCnt m hm (ct + 1))
    have HK1 := Lib.hid hK1
    have HbW := Lib.hid hbW
    have Hl1 := Lib.hid hl1
    have hwr : IntKind.i64.wrap (ct + 1) = ct + 1 := by rw [IntKind.wrap_i64]; omega
    clear hO1 hat e0 e1 e2 hG hKV hK hO hK1 hbW hl hl1 hk hct
    go_enter Try.func48, Try.ntmps48
    go_wp2
    go_region_with fail
    all_goals
      go_wp2
      refine bodyPost_end (results_none rfl _ _ _) rfl ?_
      rw [E.out]
      have hst := (Apart.setCell (S := fun b => b = g) (p := ⟨g, m * 4 + 2, none⟩) (Apart.refl _ (w.alloc (.cells #[.int .i64 2, .int .i64 m, .int .i64 gn] 43))) rfl (.int .i64 (ct + 1))).drew
      have hgb : ¬ g = bt := (Hl1.out g (.inl (.inl ⟨by dsimp only; omega, rfl⟩))).2
      refine ⟨⟨_, rfl⟩, ⟨_, A1, A2, c0, c1, c2, g, fb, nb, g1, g2, ?_, hlo, Hfin.out.apart (S := fun _ => False) (Apart.refl _ _).drew (fun _ _ h => h), fun b hb => ?_⟩, (HbW.out.mono (by omega)).trans (hst.below (by omega) (fun k hk e => by omega))⟩
      · dsimp only
        rw [ArnM.cntAt_len]
        exact HK1.out.apart hst (fun e => hgb e.symm)
      · have h2 := Hl1.out b (hb.imp (fun h => (ArnM.bsOf_cnt g fb nb b).1 h) id)
        exact ⟨by simpa using h2.1, h2.2⟩
  · have E := Lib.hid (keepS_no (S := S) (n := n) hk2)
    have hd : (k == 2) = false := by simpa using hk2
    have HO1 := Lib.hid hO1
    have HK1 := Lib.hid hK1
    have HbW := Lib.hid hbW
    have Hl1 := Lib.hid hl1
    clear hO1 hKV hK hO hK1 hbW hl1 hk
    go_enter Try.func48, Try.ntmps48
    go_wp2
    refine bodyPost_end (results_none rfl _ _ _) rfl ?_
    rw [E.out]
    exact ⟨⟨_, rfl⟩, ⟨_, _, _, _, _, _, _, _, _, _, _, HK1.out, hlo, HO1.out, fun b hb => ⟨by simpa using (Hl1.out b hb).1, (Hl1.out b hb).2⟩⟩, HbW.out.mono (by omega)⟩
end Go.Proofs.Ytfmlgpnjckamjaa
