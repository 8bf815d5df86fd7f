/-
  The program's walk through statements: whatever yields.
-/
import Derived.Test.YtmejbmfopdfbjaaVisit
import Derived.Test.YtmejbmfopdfbjaaStParts
namespace Go.Proofs.Ytmejbmfopdfbjaa
open Go.RowKit Go.Shelf
set_option linter.unusedVariables false
attribute [local go_sem] Oper.semAt_some

mutual
def flatSt : St → List St
  | .mk k name e f body els => .mk k name e f body els :: (flatSts body ++ flatSts els)
def flatSts : List St → List St
  | [] => []
  | s :: r => flatSt s ++ flatSts r
end
theorem flatSt_mk (k : Int) (name : List UInt8) (e f : Ex) (body els : List St) : flatSt (.mk k name e f body els) = .mk k name e f body els :: (flatSts body ++ flatSts els) := by rw [flatSt]
theorem flatSts_step : ∀ {l : List St} {k : Nat} (hk : k < l.length), flatSts (l.take (k + 1)) = flatSts (l.take k) ++ flatSt l[k]
  | [], k, hk => by simp at hk
  | e :: r, 0, hk => by simp [flatSts]
  | e :: r, k + 1, hk => by
    have := flatSts_step (l := r) (k := k) (by simpa using hk)
    simp only [List.take_succ_cons, flatSts, List.getElem_cons_succ]
    rw [this, List.append_assoc]
theorem flatSts_pre : ∀ (l : List St) (k : Nat), flatSts (l.take k) <+: flatSts l
  | [], k => by simp [flatSts]
  | e :: r, 0 => by simp [flatSts]
  | e :: r, k + 1 => by
    have := flatSts_pre r k
    simp only [List.take_succ_cons, flatSts]
    exact (List.prefix_append_right_inj _).2 this
/-- the statements of blocks -/
def flatBs (l : List (List St)) : List St := l.flatMap flatSts
theorem flatBs_step {l : List (List St)} {k : Nat} (hk : k < l.length) : flatBs (l.take (k + 1)) = flatBs (l.take k) ++ flatSts l[k] := by
  unfold flatBs
  rw [List.take_succ_eq_append_getElem hk, List.flatMap_append]
  simp
theorem flatBs_pre (l : List (List St)) (k : Nat) : flatBs (l.take k) <+: flatBs l := by
  conv => rhs; rw [← List.take_append_drop k l]
  unfold flatBs
  rw [List.flatMap_append]
  exact List.prefix_append _ _
theorem flatBs_eq {k : Int} {name : List UInt8} {f : Ex} {body els : List St} (h : stOk1 k name f body.length els.length = true) : flatBs (blocksL k body els) = flatSts body ++ flatSts els := by
  obtain ⟨h1, h2⟩ := stOk1_blocks h
  unfold blocksL
  by_cases h5 : k = 5
  · rw [if_pos h5]; simp [flatBs]
  rw [if_neg h5, h2 h5]
  by_cases h6 : k = 6
  · rw [if_pos h6]; simp [flatBs, flatSts]
  · rw [if_neg h6, h1 h5 h6]; simp [flatBs, flatSts]

/-- a statement as it is handed on -/
structure SV where
  vs : List Value
  s : St
def svEnc (x : SV) : Array Value := #[.agg x.vs.toArray]
def svGood (n : Nat) (x : SV) (W : World) : Prop := StV W 0 n x.vs x.s ∧ ∃ d, stGood x.s d = true

def VisSts (ls : List St) : Prop := ∀ (d l m n b s : Nat) (T : TypeId → Prop) (tot : List St) (J Jx : List SV → World → Prop) (hT : NoT T) (hG : stsGood ls d = true) (hJ : Stays s T J) (hY : Rounds Try.prog l svEnc n b T (fun xs => xs.map SV.s <+: tot) (svGood n) J Jx) (pre : List SV) (A : Option Addr) (cp : Nat) (W : World),
  s ≤ W.heap.size → n ≤ W.heap.size → b ≤ W.heap.size → StL W 0 n A ls → pre.map SV.s ++ flatSts ls <+: tot → J pre W →
  CallsIn Fence.wide m Try.prog 90 #[.slice A ls.length cp, .func (.yield l) #[] #[]] W fun e B =>
    (e = .returned (.bool true) ∧ ∃ xs : List SV, xs.map SV.s = flatSts ls ∧ J (pre ++ xs) B ∧ KB n b T W B) ∨ (e = .returned (.bool false) ∧ ∃ xs : List SV, xs.map SV.s <+: flatSts ls ∧ Jx (pre ++ xs) B ∧ KB n b T W B)

/-- a row of blocks -/
def VRow (W : World) (n g' d : Nat) (bl : List (List St)) : Prop :=
  ∀ j (h : j < bl.length), ∃ (A : Option Addr) (c : Nat), W.cell? ⟨g', j, none⟩ = some (.slice A bl[j].length c) ∧ StL W 0 n A bl[j] ∧ VisSts bl[j] ∧ stsGood bl[j] d = true
theorem VRow.kb {W W' : World} {n b g' d : Nat} {T : TypeId → Prop} {bl : List (List St)} (h : VRow W n g' d bl) (hk : KB n b T W W') (hb : b ≤ g') (ht : ¬ Tag T W.heap[g']?) (hlt : g' < W.heap.size) (hn : n ≤ W.heap.size) : VRow W' n g' d bl := fun j hj => by
  obtain ⟨A, c, hc, hs, hv, hg⟩ := h j hj
  exact ⟨A, c, (World.cell?_of_block (hk.block g' hlt (.inr ⟨hb, ht⟩))).trans hc, hs.below (hk.below hn), hv, hg⟩

set_option maxRecDepth 100000 in
set_option maxHeartbeats 8000000 in
theorem visSts_of (ls : List St) (ih : ∀ s ∈ ls, ∀ k name e f body els, s = .mk k name e f body els → VisSts body ∧ VisSts els) : VisSts ls := by
  intro d l m n b s T tot J Jx hT hG hJ hY pre A cp W hs hn hb h hpt hj
  have hm := h.1
  unfold maxLen at hm
  have Ih := Lib.hid ih
  have HY := Lib.hid hY
  have HJ := Lib.hid hJ
  have HG := Lib.hid hG
  have Hpt := Lib.hid hpt
  clear ih hY hJ hG hpt
  refine callsIn_of_wp Try.func90 rfl trivial ?_ rfl
  simp only [Try.ntmps90, List.size_toArray, List.length_cons, List.length_nil, Nat.reduceAdd, Nat.reduceSub, Array.replicate_succ, Array.replicate_zero, List.push_toArray, List.append_toArray, List.nil_append, List.cons_append]
  gi_wp2
  gi_loopw [11] (fun i wr => ∃ (k : Nat) (xs : List SV), k ≤ ls.length ∧ i = .int .i64 k ∧ Hid (xs.map SV.s = flatSts (ls.take k)) ∧ J (pre ++ xs) wr ∧ KB n b T W wr) (fun i _ => ls.length - (intOf i).toNat)
  case atStart => exact ⟨0, [], Nat.zero_le _, rfl, Lib.hid (by simp [flatSts]), by simpa using hj, KB.refl _ _ _ _⟩
  case round =>
    obtain ⟨k, xs, hk, rfl, hxs, hJk, hkb⟩ := hrel
    by_cases hlt : k < ls.length
    · obtain ⟨ad, rfl, _, hbk, hat⟩ := (h.below (hkb.below hn)).2 (by omega)
      obtain ⟨vs, hcells, hv⟩ := hat k hlt
      obtain ⟨kk, name, e, f, body, els, hle⟩ : ∃ kk name e f body els, ls[k] = .mk kk name e f body els := by cases ls[k]; exact ⟨_, _, _, _, _, _, rfl⟩
      have Hle := Lib.hid hle
      rw [hle] at hv
      have hv' := hv
      obtain ⟨sA, sc, e0, e1, e2, e3, f0, f1, f2, f3, A1, c1, A2, c2, rfl, hR, hmn, he, hf, hb1, hb2⟩ := hv.open_
      obtain ⟨ih1, ih2⟩ := Ih.out ls[k] (List.getElem_mem hlt) kk name e f body els hle
      have hgd := stsGood_get hlt HG.out
      rw [hle] at hgd
      have hgk := hgd
      rw [stGood_mk] at hgd
      simp only [Bool.and_eq_true, decide_eq_true_eq] at hgd
      obtain ⟨⟨⟨⟨⟨g1, g2⟩, g3⟩, g4⟩, g5⟩, g6⟩ := hgd
      have hflat := flatBs_eq g2
      have hkk := stOk1_kind g2
      obtain ⟨xk, xn, xA, xa, xc, xA', xa', xc', rfl, rfl, rfl, rfl⟩ := he.shape
      obtain ⟨yk, yn, yA, ya, yc, yA', ya', yc', rfl, rfl, rfl, rfl⟩ := hf.shape
      have q0 := hcells 0 _ rfl
      have q1 := hcells 1 _ rfl
      have q2 := hcells 2 _ rfl
      have q3 := hcells 3 _ rfl
      have q4 := hcells 4 _ rfl
      have q5 := hcells 5 _ rfl
      have q6 := hcells 6 _ rfl
      have q7 := hcells 7 _ rfl
      have q8 := hcells 8 _ rfl
      have q9 := hcells 9 _ rfl
      have q10 := hcells 10 _ rfl
      have q11 := hcells 11 _ rfl
      simp only [if_true, Nat.reduceEqDiff, if_false] at q0 q1 q2 q3 q4 q5 q6 q7 q8 q9 q10 q11
      have hws := hkb.size
      have hbo := fun o => (Below.refl wr.heap.size wr).alloc (Nat.le_refl _) o
      obtain ⟨X, hX⟩ : ∃ X : SV, X = ⟨[.int .i64 kk, .slice sA name.length sc, .int .i64 xk, .int .i64 xn, .slice xA xa xc, .slice xA' xa' xc', .int .i64 yk, .int .i64 yn, .slice yA ya yc, .slice yA' ya' yc', .slice A1 body.length c1, .slice A2 els.length c2], .mk kk name e f body els⟩ := ⟨_, rfl⟩
      have hXs : X.s = .mk kk name e f body els := by rw [hX]
      have hsp0 : xs.map SV.s ++ (X.s :: flatBs (blocksL kk body els)) <+: flatSts ls := by
        have h1 := flatSts_pre ls (k + 1)
        rw [flatSts_step hlt, Hle.out, flatSt_mk, ← hxs.out, ← hflat, ← hXs] at h1
        exact h1
      have hsp2 : (pre ++ xs).map SV.s ++ (X.s :: flatBs (blocksL kk body els)) <+: tot := by
        refine List.IsPrefix.trans ?_ Hpt.out
        rw [List.map_append, List.append_assoc]
        exact (List.prefix_append_right_inj _).2 hsp0
      have hsp : (pre ++ xs ++ [X]).map SV.s <+: tot := by
        refine List.IsPrefix.trans ?_ hsp2
        rw [List.map_append (l₁ := pre ++ xs)]
        exact (List.prefix_append_right_inj _).2 (List.prefix_append [X.s] _)
      have Hsp := Lib.hid hsp
      have Hsp2 := Lib.hid hsp2
      clear hsp0 hsp hsp2
      obtain ⟨fn, tmps, assign, bodyc, hy, hRd⟩ := HY.out (m - 1) (pre ++ xs) X (wr.alloc (.cells #[.int .i64 kk, .slice sA name.length sc, .int .i64 xk, .int .i64 xn, .slice xA xa xc, .slice xA' xa' xc', .int .i64 yk, .int .i64 yn, .slice yA ya yc, .slice yA' ya' yc', .slice A1 body.length c1, .slice A2 els.length c2] 98))
        (HJ.out _ _ _ hJk (Ext.of (hbo _) (by omega))) Hsp.out (by rw [hX]; exact ⟨hv'.below ((hbo _).mono (by omega)), d, hgk⟩)
      have KB0 := Blk.new wr 98 #[.int .i64 kk, .slice sA name.length sc, .int .i64 xk, .int .i64 xn, .slice xA xa xc, .slice xA' xa' xc', .int .i64 yk, .int .i64 yn, .slice yA ya yc, .slice yA' ya' yc', .slice A1 body.length c1, .slice A2 els.length c2]
      have HXs := Lib.hid hXs
      have Hflat := Lib.hid hflat
      have Data := Lib.hid (And.intro hb1 (And.intro hb2 (And.intro ih1 (And.intro ih2 (And.intro g5 g6)))))
      rw [hX] at hy
      dsimp only [svEnc] at hy
      clear hgk hle hat hcells hX hXs hflat hb1 hb2 ih1 ih2 g1 g2 g3 g4 g5 g6 hR he hf hv hv'
      gi_wp2_with fail
      refine ⟨fun hd => by simp [Fence.wide] at hd, ?_⟩
      refine hRd.mono ?_
      rintro r W3 (⟨rfl, hJ3, hk3⟩ | ⟨rfl, hx3, hk3⟩)
      case inr =>
        clear hy hRd
        gi_wp2
        go_ret
        refine .inr ⟨rfl, xs ++ [X], ?_, by simpa [List.append_assoc] using hx3, (hkb.alloc _).trans hk3⟩
        have h1 := flatSts_pre ls (k + 1)
        rw [flatSts_step hlt, Hle.out, flatSt_mk] at h1
        refine List.IsPrefix.trans ?_ h1
        rw [List.map_append, hxs.out]
        exact (List.prefix_append_right_inj _).2 (by simp [HXs.out])
      have hk03 : KB n b T W W3 := (hkb.alloc _).trans hk3
      have hw3 := hk3.size
      have hwa : wr.heap.size + 1 ≤ W3.heap.size := by simpa using hw3
      have K3 := KB0.kb hk3 (.inr ⟨by omega, hT.2.1⟩)
      clear q0 q1 q2 q3 q4 q5 q6 q7 q8 q9 q10 q11
      have q0 := K3.cell_of 0 rfl
      have q1 := K3.cell_of 1 rfl
      have q2 := K3.cell_of 2 rfl
      have q3 := K3.cell_of 3 rfl
      have q4 := K3.cell_of 4 rfl
      have q5 := K3.cell_of 5 rfl
      have q6 := K3.cell_of 6 rfl
      have q7 := K3.cell_of 7 rfl
      have q8 := K3.cell_of 8 rfl
      have q9 := K3.cell_of 9 rfl
      have q10 := K3.cell_of 10 rfl
      have q11 := K3.cell_of 11 rfl
      clear hy hRd KB0
      gi_wp2_with fail
      refine ⟨trivial, fun hd => by simp [Fence.wide] at hd, ?_⟩
      gi_at_call 61
      refine (callsIn_wide.2 (statementOf_c kk _ _ _ _ _ _ _ _ _ _ _ _ _ _ _ _ _ _ _ _ _ _ _ _ _ W3 hkk.1 hkk.2)).mono ?_
      rintro r W4 ⟨rfl, hb34⟩
      have hk04 := hk03.trans (KB.of hb34 n b T)
      have hJ4 := HJ.out _ _ _ hJ3 (Ext.of hb34 (by omega))
      have hw4 := hk04.size
      clear q0 q1 q2 q3 q4 q5 q6 q7 q8 q9 q10 q11 K3
      have hks : kk = 0 ∨ kk = 1 ∨ kk = 2 ∨ kk = 3 ∨ kk = 4 ∨ kk = 5 ∨ kk = 6 ∨ kk = 7 := by omega
      clear hkk
      rcases hks with rfl | rfl | rfl | rfl | rfl | rfl | rfl | rfl
      · -- kind K
        simp only [ifVal0]
        have mb := @m_blocks0
        gi_wp2_with fail
        refine ⟨trivial, fun hd => by simp [Fence.wide] at hd, ?_⟩
        gi_at_call 140
        refine (callsIn_wide.2 (havingBlocks_c _ _ _ _ _ _ _ _ W4)).mono ?_
        rintro r W6 ⟨rfl, hb6⟩
        have hk06 := hk04.trans (KB.of hb6 n b T)
        have hJ6 := HJ.out _ _ _ hJ4 (Ext.of hb6 (by omega))
        clear mb
        gi_wp2
        gi_loopw [23] (fun i wz => i = .int .i64 0 ∧ wz = W6) (fun i _ => 0)
        case atStart => exact ⟨rfl, rfl⟩
        case round =>
          obtain ⟨rfl, rfl⟩ := hrel
          gi_wp2
          go_roundw
          case rel =>
            have e2 := Hflat.out
            have e3 : flatBs (blocksL 0 body els) = [] := rfl
            rw [e3] at e2
            exact ⟨k + 1, xs ++ [X], by omega, by go_num, Lib.hid (by rw [flatSts_step hlt, Hle.out, flatSt_mk, ← e2, List.map_append, hxs.out]; simp [HXs.out]), by simpa [List.append_assoc] using hJ6, hk06⟩
          case measure => simp [intOf]; omega
      · -- kind K
        simp only [ifVal1]
        have mb := @m_blocks1
        gi_wp2_with fail
        refine ⟨trivial, fun hd => by simp [Fence.wide] at hd, ?_⟩
        gi_at_call 140
        refine (callsIn_wide.2 (havingBlocks_c _ _ _ _ _ _ _ _ W4)).mono ?_
        rintro r W6 ⟨rfl, hb6⟩
        have hk06 := hk04.trans (KB.of hb6 n b T)
        have hJ6 := HJ.out _ _ _ hJ4 (Ext.of hb6 (by omega))
        clear mb
        gi_wp2
        gi_loopw [23] (fun i wz => i = .int .i64 0 ∧ wz = W6) (fun i _ => 0)
        case atStart => exact ⟨rfl, rfl⟩
        case round =>
          obtain ⟨rfl, rfl⟩ := hrel
          gi_wp2
          go_roundw
          case rel =>
            have e2 := Hflat.out
            have e3 : flatBs (blocksL 1 body els) = [] := rfl
            rw [e3] at e2
            exact ⟨k + 1, xs ++ [X], by omega, by go_num, Lib.hid (by rw [flatSts_step hlt, Hle.out, flatSt_mk, ← e2, List.map_append, hxs.out]; simp [HXs.out]), by simpa [List.append_assoc] using hJ6, hk06⟩
          case measure => simp [intOf]; omega
      · -- kind K
        simp only [ifVal2]
        have mb := @m_blocks2
        gi_wp2_with fail
        refine ⟨trivial, fun hd => by simp [Fence.wide] at hd, ?_⟩
        gi_at_call 140
        refine (callsIn_wide.2 (havingBlocks_c _ _ _ _ _ _ _ _ W4)).mono ?_
        rintro r W6 ⟨rfl, hb6⟩
        have hk06 := hk04.trans (KB.of hb6 n b T)
        have hJ6 := HJ.out _ _ _ hJ4 (Ext.of hb6 (by omega))
        clear mb
        gi_wp2
        gi_loopw [23] (fun i wz => i = .int .i64 0 ∧ wz = W6) (fun i _ => 0)
        case atStart => exact ⟨rfl, rfl⟩
        case round =>
          obtain ⟨rfl, rfl⟩ := hrel
          gi_wp2
          go_roundw
          case rel =>
            have e2 := Hflat.out
            have e3 : flatBs (blocksL 2 body els) = [] := rfl
            rw [e3] at e2
            exact ⟨k + 1, xs ++ [X], by omega, by go_num, Lib.hid (by rw [flatSts_step hlt, Hle.out, flatSt_mk, ← e2, List.map_append, hxs.out]; simp [HXs.out]), by simpa [List.append_assoc] using hJ6, hk06⟩
          case measure => simp [intOf]; omega
      · -- kind K
        simp only [ifVal3]
        have mb := @m_blocks3
        gi_wp2_with fail
        refine ⟨trivial, fun hd => by simp [Fence.wide] at hd, ?_⟩
        gi_at_call 140
        refine (callsIn_wide.2 (havingBlocks_c _ _ _ _ _ _ _ _ W4)).mono ?_
        rintro r W6 ⟨rfl, hb6⟩
        have hk06 := hk04.trans (KB.of hb6 n b T)
        have hJ6 := HJ.out _ _ _ hJ4 (Ext.of hb6 (by omega))
        clear mb
        gi_wp2
        gi_loopw [23] (fun i wz => i = .int .i64 0 ∧ wz = W6) (fun i _ => 0)
        case atStart => exact ⟨rfl, rfl⟩
        case round =>
          obtain ⟨rfl, rfl⟩ := hrel
          gi_wp2
          go_roundw
          case rel =>
            have e2 := Hflat.out
            have e3 : flatBs (blocksL 3 body els) = [] := rfl
            rw [e3] at e2
            exact ⟨k + 1, xs ++ [X], by omega, by go_num, Lib.hid (by rw [flatSts_step hlt, Hle.out, flatSt_mk, ← e2, List.map_append, hxs.out]; simp [HXs.out]), by simpa [List.append_assoc] using hJ6, hk06⟩
          case measure => simp [intOf]; omega
      · -- kind K
        simp only [ifVal4]
        have mb := @m_blocks4
        gi_wp2_with fail
        refine ⟨trivial, fun hd => by simp [Fence.wide] at hd, ?_⟩
        gi_at_call 140
        refine (callsIn_wide.2 (havingBlocks_c _ _ _ _ _ _ _ _ W4)).mono ?_
        rintro r W6 ⟨rfl, hb6⟩
        have hk06 := hk04.trans (KB.of hb6 n b T)
        have hJ6 := HJ.out _ _ _ hJ4 (Ext.of hb6 (by omega))
        clear mb
        gi_wp2
        gi_loopw [23] (fun i wz => i = .int .i64 0 ∧ wz = W6) (fun i _ => 0)
        case atStart => exact ⟨rfl, rfl⟩
        case round =>
          obtain ⟨rfl, rfl⟩ := hrel
          gi_wp2
          go_roundw
          case rel =>
            have e2 := Hflat.out
            have e3 : flatBs (blocksL 4 body els) = [] := rfl
            rw [e3] at e2
            exact ⟨k + 1, xs ++ [X], by omega, by go_num, Lib.hid (by rw [flatSts_step hlt, Hle.out, flatSt_mk, ← e2, List.map_append, hxs.out]; simp [HXs.out]), by simpa [List.append_assoc] using hJ6, hk06⟩
          case measure => simp [intOf]; omega
      · -- kind K
        simp only [ifVal5]
        have mb := @m_blocks5
        gi_wp2_with fail
        refine ⟨trivial, fun hd => by simp [Fence.wide] at hd, ?_⟩
        gi_at_call 142
        refine (callsIn_wide.2 (choosingBlocks_c _ _ _ _ _ _ _ _ _ _ _ _ _ _ W4)).mono ?_
        rintro r W6 ⟨g6, rfl, hg6, hB6, hb6⟩
        have hk06 := hk04.trans (KB.of hb6 n b T)
        have hJ6 := HJ.out _ _ _ hJ4 (Ext.of hb6 (by omega))
        have hn6 : n ≤ W6.heap.size := Nat.le_trans hn hk06.size
        have Row : Hid (VRow W6 n g6 (d + 1) [body, els]) := Lib.hid (by
          intro j hj
          obtain ⟨x1, x2, x3, x4, x5, x6⟩ := Data.out
          have hkd : KB n b T wr W6 := ((((KB.refl n b T wr).alloc _).trans hk3).trans (KB.of hb34 n b T)).trans (KB.of hb6 n b T)
          have hD := hkd.below (Nat.le_trans hn hws)
          have hj2 : j = 0 ∨ j = 1 := by simp at hj; omega
          rcases hj2 with rfl | rfl
          · exact ⟨_, _, hB6.cell_of 0 rfl, x1.below hD, x3, x5⟩
          · exact ⟨_, _, hB6.cell_of 1 rfl, x2.below hD, x4, x6⟩)
        have hlt6 := hB6.lt
        have ht6 : ¬ Tag T W6.heap[g6]? := no_tag hB6 hT.2.2.1
        have hg6b : b ≤ g6 := by omega
        clear mb hB6
        gi_wp2
        gi_loopw [23] (fun i wz => ∃ (j : Nat) (ys : List SV), j ≤ 2 ∧ i = .int .i64 j ∧ Hid (ys.map SV.s = flatBs ([body, els].take j)) ∧ J (pre ++ (xs ++ X :: ys)) wz ∧ KB n b T W6 wz) (fun i _ => 2 - (intOf i).toNat)
        case atStart => exact ⟨0, [], Nat.zero_le _, rfl, Lib.hid (by simp [flatBs]), by simpa [List.append_assoc] using hJ6, KB.refl _ _ _ _⟩
        case round =>
          obtain ⟨j, ys, hj', rfl, hys, hJj, hkj⟩ := hrel
          by_cases hlt' : j < 2
          · have hltB : j < [body, els].length := hlt'
            have hwj := hkj.size
            have hspB : (pre ++ (xs ++ X :: ys)).map SV.s ++ flatSts [body, els][j] <+: tot := by
              refine List.IsPrefix.trans ?_ Hsp2.out
              have h2 := flatBs_pre [body, els] (j + 1)
              rw [flatBs_step hltB, ← hys.out] at h2
              rw [← List.append_assoc, List.map_append, List.append_assoc]
              refine (List.prefix_append_right_inj _).2 ?_
              rw [List.map_cons, List.cons_append]
              exact List.cons_prefix_cons.2 ⟨rfl, h2⟩
            have HspB := Lib.hid hspB
            clear hspB
            obtain ⟨Aj, cj, hcell, hst, hvis, hgj⟩ := Row.out.kb hkj hg6b ht6 hlt6 hn6 j hltB
            have hw6 := hk06.size
            have hc0 := hvis (d + 1) l (m - 1) n b s T tot J Jx hT hgj HJ.out HY.out _ Aj cj _ (by omega) (by omega) (by omega) hst HspB.out hJj
            have Hc := Lib.hid hc0
            clear hc0 hst hvis hgj
            gi_wp2_with fail
            refine ⟨trivial, fun hd => by simp [Fence.wide] at hd, ?_⟩
            gi_at_call 90
            refine Hc.out.mono ?_
            rintro r W7 (⟨rfl, zs, hzs, hJ7, hk7⟩ | ⟨rfl, zs, hzs, hx7, hk7⟩)
            · have Hzs := Lib.hid hzs
              clear hzs hcell Hc
              gi_wp2
              go_roundw
              case rel => exact ⟨j + 1, ys ++ zs, by omega, by go_num, Lib.hid (by rw [flatBs_step hltB, List.map_append, hys.out, Hzs.out]), by simpa [List.append_assoc] using hJ7, hkj.trans hk7⟩
              case measure => simp [intOf]; omega
            · have Hzs := Lib.hid hzs
              clear hzs hcell Hc
              gi_wp2
              go_ret
              refine .inr ⟨rfl, xs ++ X :: (ys ++ zs), ?_, by simpa [List.append_assoc] using hx7, hk06.trans (hkj.trans hk7)⟩
              have h1 := flatSts_pre ls (k + 1)
              rw [flatSts_step hlt, Hle.out, flatSt_mk] at h1
              refine List.IsPrefix.trans ?_ h1
              have h2 := flatBs_pre [body, els] (j + 1)
              rw [flatBs_step hltB] at h2
              have e2 := Hflat.out
              have e3 : blocksL 5 body els = [body, els] := rfl
              rw [e3] at e2
              rw [e2] at h2
              rw [List.map_append, List.map_cons, List.map_append, hxs.out, hys.out, HXs.out]
              refine (List.prefix_append_right_inj _).2 (List.cons_prefix_cons.2 ⟨rfl, ?_⟩)
              exact List.IsPrefix.trans ((List.prefix_append_right_inj _).2 Hzs.out) h2
          · have hj2 : j = 2 := by omega
            gi_wp2
            go_roundw
            case rel =>
              have e2 := Hflat.out
              have e3 : blocksL 5 body els = [body, els] := rfl
              have e4 : [body, els].take 2 = [body, els] := rfl
              rw [e3] at e2
              have h3 := hys.out
              rw [hj2, e4] at h3
              rw [e2] at h3
              exact ⟨k + 1, xs ++ X :: ys, by omega, by go_num, Lib.hid (by rw [flatSts_step hlt, Hle.out, flatSt_mk, ← h3, List.map_append, List.map_cons, hxs.out, HXs.out]), hJj, hk06.trans hkj⟩
            case measure => simp [intOf]; omega
      · -- kind K
        simp only [ifVal6]
        have mb := @m_blocks6
        gi_wp2_with fail
        refine ⟨trivial, fun hd => by simp [Fence.wide] at hd, ?_⟩
        gi_at_call 143
        refine (callsIn_wide.2 (loopingBlocks_c _ _ _ _ _ _ _ _ _ _ _ W4)).mono ?_
        rintro r W6 ⟨g6, rfl, hg6, hB6, hb6⟩
        have hk06 := hk04.trans (KB.of hb6 n b T)
        have hJ6 := HJ.out _ _ _ hJ4 (Ext.of hb6 (by omega))
        have hn6 : n ≤ W6.heap.size := Nat.le_trans hn hk06.size
        have Row : Hid (VRow W6 n g6 (d + 1) [body]) := Lib.hid (by
          intro j hj
          obtain ⟨x1, x2, x3, x4, x5, x6⟩ := Data.out
          have hkd : KB n b T wr W6 := ((((KB.refl n b T wr).alloc _).trans hk3).trans (KB.of hb34 n b T)).trans (KB.of hb6 n b T)
          have hD := hkd.below (Nat.le_trans hn hws)
          obtain rfl : j = 0 := by simpa using hj
          exact ⟨_, _, hB6.cell_of 0 rfl, x1.below hD, x3, x5⟩)
        have hlt6 := hB6.lt
        have ht6 : ¬ Tag T W6.heap[g6]? := no_tag hB6 hT.2.2.1
        have hg6b : b ≤ g6 := by omega
        clear mb hB6
        gi_wp2
        gi_loopw [23] (fun i wz => ∃ (j : Nat) (ys : List SV), j ≤ 1 ∧ i = .int .i64 j ∧ Hid (ys.map SV.s = flatBs ([body].take j)) ∧ J (pre ++ (xs ++ X :: ys)) wz ∧ KB n b T W6 wz) (fun i _ => 1 - (intOf i).toNat)
        case atStart => exact ⟨0, [], Nat.zero_le _, rfl, Lib.hid (by simp [flatBs]), by simpa [List.append_assoc] using hJ6, KB.refl _ _ _ _⟩
        case round =>
          obtain ⟨j, ys, hj', rfl, hys, hJj, hkj⟩ := hrel
          by_cases hlt' : j < 1
          · obtain rfl : j = 0 := by omega
            have hltB : 0 < [body].length := hlt'
            have hwj := hkj.size
            have hspB : (pre ++ (xs ++ X :: ys)).map SV.s ++ flatSts [body][0] <+: tot := by
              refine List.IsPrefix.trans ?_ Hsp2.out
              have h2 := flatBs_pre [body] (0 + 1)
              rw [flatBs_step hltB, ← hys.out] at h2
              rw [← List.append_assoc, List.map_append, List.append_assoc]
              refine (List.prefix_append_right_inj _).2 ?_
              rw [List.map_cons, List.cons_append]
              exact List.cons_prefix_cons.2 ⟨rfl, h2⟩
            have HspB := Lib.hid hspB
            clear hspB
            obtain ⟨Aj, cj, hcell, hst, hvis, hgj⟩ := Row.out.kb hkj hg6b ht6 hlt6 hn6 0 hltB
            have hw6 := hk06.size
            have hc0 := hvis (d + 1) l (m - 1) n b s T tot J Jx hT hgj HJ.out HY.out _ Aj cj _ (by omega) (by omega) (by omega) hst HspB.out hJj
            have Hc := Lib.hid hc0
            clear hc0 hst hvis hgj
            gi_wp2_with fail
            refine ⟨trivial, fun hd => by simp [Fence.wide] at hd, ?_⟩
            gi_at_call 90
            refine Hc.out.mono ?_
            rintro r W7 (⟨rfl, zs, hzs, hJ7, hk7⟩ | ⟨rfl, zs, hzs, hx7, hk7⟩)
            · have Hzs := Lib.hid hzs
              clear hzs hcell Hc
              gi_wp2
              go_roundw
              case rel => exact ⟨0 + 1, ys ++ zs, by omega, by go_num, Lib.hid (by rw [flatBs_step hltB, List.map_append, hys.out, Hzs.out]), by simpa [List.append_assoc] using hJ7, hkj.trans hk7⟩
              case measure => simp [intOf]
            · have Hzs := Lib.hid hzs
              clear hzs hcell Hc
              gi_wp2
              go_ret
              refine .inr ⟨rfl, xs ++ X :: (ys ++ zs), ?_, by simpa [List.append_assoc] using hx7, hk06.trans (hkj.trans hk7)⟩
              have h1 := flatSts_pre ls (k + 1)
              rw [flatSts_step hlt, Hle.out, flatSt_mk] at h1
              refine List.IsPrefix.trans ?_ h1
              have h2 := flatBs_pre [body] (0 + 1)
              rw [flatBs_step hltB] at h2
              have e2 := Hflat.out
              have e3 : blocksL 6 body els = [body] := rfl
              rw [e3] at e2
              rw [e2] at h2
              rw [List.map_append, List.map_cons, List.map_append, hxs.out, hys.out, HXs.out]
              refine (List.prefix_append_right_inj _).2 (List.cons_prefix_cons.2 ⟨rfl, ?_⟩)
              exact List.IsPrefix.trans ((List.prefix_append_right_inj _).2 Hzs.out) h2
          · obtain rfl : j = 1 := by omega
            gi_wp2
            go_roundw
            case rel =>
              have e2 := Hflat.out
              have e3 : blocksL 6 body els = [body] := rfl
              have e4 : [body].take 1 = [body] := rfl
              rw [e3] at e2
              have h3 := hys.out
              rw [e4] at h3
              rw [e2] at h3
              exact ⟨k + 1, xs ++ X :: ys, by omega, by go_num, Lib.hid (by rw [flatSts_step hlt, Hle.out, flatSt_mk, ← h3, List.map_append, List.map_cons, hxs.out, HXs.out]), hJj, hk06.trans hkj⟩
            case measure => simp [intOf]; omega
      · -- kind K
        simp only [ifVal7]
        have mb := @m_blocks7
        gi_wp2_with fail
        refine ⟨trivial, fun hd => by simp [Fence.wide] at hd, ?_⟩
        gi_at_call 140
        refine (callsIn_wide.2 (havingBlocks_c _ _ _ _ _ _ _ _ W4)).mono ?_
        rintro r W6 ⟨rfl, hb6⟩
        have hk06 := hk04.trans (KB.of hb6 n b T)
        have hJ6 := HJ.out _ _ _ hJ4 (Ext.of hb6 (by omega))
        clear mb
        gi_wp2
        gi_loopw [23] (fun i wz => i = .int .i64 0 ∧ wz = W6) (fun i _ => 0)
        case atStart => exact ⟨rfl, rfl⟩
        case round =>
          obtain ⟨rfl, rfl⟩ := hrel
          gi_wp2
          go_roundw
          case rel =>
            have e2 := Hflat.out
            have e3 : flatBs (blocksL 7 body els) = [] := rfl
            rw [e3] at e2
            exact ⟨k + 1, xs ++ [X], by omega, by go_num, Lib.hid (by rw [flatSts_step hlt, Hle.out, flatSt_mk, ← e2, List.map_append, hxs.out]; simp [HXs.out]), by simpa [List.append_assoc] using hJ6, hk06⟩
          case measure => simp [intOf]; omega
    · gi_wp2
      go_ret
      have hkl : k = ls.length := by omega
      subst hkl
      have h1 := hxs.out
      rw [List.take_length] at h1
      exact .inl ⟨rfl, xs, h1, hJk, hkb⟩

theorem visSts_c (ls : List St) : VisSts ls := by
  have one : ∀ s : St, ∀ k name e f body els, s = .mk k name e f body els → VisSts body ∧ VisSts els := fun s => St.ind (P := fun s => ∀ k name e f body els, s = .mk k name e f body els → VisSts body ∧ VisSts els) (fun k name e f body els ih1 ih2 k' n' e' f' b' l' he => by
    injection he with _ _ _ _ h1 h2
    rw [← h1, ← h2]
    exact ⟨visSts_of body ih1, visSts_of els ih2⟩) s
  exact visSts_of ls fun s _ => one s
end Go.Proofs.Ytmejbmfopdfbjaa
