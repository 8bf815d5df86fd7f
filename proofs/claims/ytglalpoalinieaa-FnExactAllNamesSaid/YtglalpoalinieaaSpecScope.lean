/-
  The model's l2scope: names through statements.
-/
import Derived.Test.YtglalpoalinieaaSpecCalls
namespace Go.Proofs.Ytglalpoalinieaa
open Go.RowKit Go.Shelf
set_option linter.unusedVariables false

/-- names and calls through statements, in the order of the text -/
def scopeOk (l : List Fn) : List (List UInt8) → List St → Bool
  | _, [] => true
  | known, .mk k name e f _ _ :: r => (flatExs (asksL k e f)).all (fun x => askOk known x && callOk l x) &&
    (if k = 0 then decide (placeOf known name < 0) && scopeOk l (known ++ [name]) r else if k = 1 then decide (0 ≤ placeOf known name) && scopeOk l known r else scopeOk l known r)
theorem scopeOk_nil (l : List Fn) (known : List (List UInt8)) : scopeOk l known [] = true := by rw [scopeOk]
theorem scopeOk_cons (l : List Fn) (known : List (List UInt8)) (k : Int) (name : List UInt8) (e f : Ex) (x y r : List St) : scopeOk l known (.mk k name e f x y :: r) = ((flatExs (asksL k e f)).all (fun x => askOk known x && callOk l x) &&
    (if k = 0 then decide (placeOf known name < 0) && scopeOk l (known ++ [name]) r else if k = 1 then decide (0 ≤ placeOf known name) && scopeOk l known r else scopeOk l known r)) := by rw [scopeOk]
theorem scopeOk_app (l : List Fn) : ∀ (known : List (List UInt8)) (a b : List St), scopeOk l known (a ++ b) = (scopeOk l known a && scopeOk l (known ++ letsOf a) b)
  | known, [], b => by simp [scopeOk_nil, letsOf]
  | known, .mk k name e f x y :: r, b => by
    rw [List.cons_append, scopeOk_cons, scopeOk_cons, letsOf_cons]
    by_cases h : k = 0
    · rw [if_pos h, if_pos h, if_pos h, scopeOk_app l (known ++ [name]) r b]
      simp [Bool.and_assoc]
    · rw [if_neg h, if_neg h, if_neg h]
      by_cases h1 : k = 1
      · rw [if_pos h1, if_pos h1, scopeOk_app l known r b]
        simp [Bool.and_assoc]
      · rw [if_neg h1, if_neg h1, scopeOk_app l known r b]
        simp [Bool.and_assoc]
theorem scopeOk_pre {l : List Fn} {known : List (List UInt8)} {a b : List St} (h : a <+: b) (hb : scopeOk l known a = false) : scopeOk l known b = false := by
  obtain ⟨t, rfl⟩ := h
  rw [scopeOk_app, hb]; rfl
theorem scopeOk_eq (l : List Fn) : ∀ (sts : List St) (known : List (List UInt8)), scopeOk l known sts = (hold known sts && (stsEx sts).all (callOk l))
  | [], known => by simp [scopeOk_nil, hold_nil, stsEx]
  | .mk k name e f x y :: r, known => by
    have e1 : stsEx (.mk k name e f x y :: r) = flatExs (asksL k e f) ++ stsEx r := rfl
    have e2 : (flatExs (asksL k e f)).all (fun x => askOk known x && callOk l x) = ((flatExs (asksL k e f)).all (askOk known) && (flatExs (asksL k e f)).all (callOk l)) := by
      rw [Bool.eq_iff_iff]
      simp only [Bool.and_eq_true, List.all_eq_true]
      exact ⟨fun h => ⟨fun z hz => (h z hz).1, fun z hz => (h z hz).2⟩, fun h z hz => ⟨h.1 z hz, h.2 z hz⟩⟩
    rw [scopeOk_cons, hold_cons, e1, List.all_append, e2]
    by_cases h : k = 0
    · rw [if_pos h, if_pos h, scopeOk_eq l r (known ++ [name])]
      generalize (flatExs (asksL k e f)).all (askOk known) = a
      generalize (flatExs (asksL k e f)).all (callOk l) = b
      generalize decide (placeOf known name < 0) = c
      generalize hold (known ++ [name]) r = d
      generalize (stsEx r).all (callOk l) = g
      cases a <;> cases b <;> cases c <;> cases d <;> cases g <;> rfl
    · rw [if_neg h, if_neg h]
      by_cases h1 : k = 1
      · rw [if_pos h1, if_pos h1, scopeOk_eq l r known]
        generalize (flatExs (asksL k e f)).all (askOk known) = a
        generalize (flatExs (asksL k e f)).all (callOk l) = b
        generalize decide (0 ≤ placeOf known name) = c
        generalize hold known r = d
        generalize (stsEx r).all (callOk l) = g
        cases a <;> cases b <;> cases c <;> cases d <;> cases g <;> rfl
      · rw [if_neg h1, if_neg h1, scopeOk_eq l r known]
        generalize (flatExs (asksL k e f)).all (askOk known) = a
        generalize (flatExs (asksL k e f)).all (callOk l) = b
        generalize hold known r = d
        generalize (stsEx r).all (callOk l) = g
        cases a <;> cases b <;> cases d <;> cases g <;> rfl
/-- both expressions of a statement, or all that it has -/
theorem knows_two (l : List Fn) (known : List (List UInt8)) {k : Int} {name : List UInt8} {e f : Ex} {a b : Nat} (h : stOk1 k name f a b = true) : (flatExs (asksL k e f)).all (fun x => askOk known x && callOk l x) = (knows l known e && knows l known f) := by
  by_cases h2 : k = 2
  · subst h2
    have e1 : asksL 2 e f = [e, f] := rfl
    rw [e1, flatExs_all]
    simp [knows]
  · have e1 : asksL k e f = [e] := by unfold asksL; rw [if_neg h2]
    have e2 : knows l known f = true := by
      have hf : exNone f = true := by
        unfold stOk1 at h
        by_cases h1 : k = 0 ∨ k = 1
        · rw [if_pos h1] at h; simp only [Bool.and_eq_true] at h; exact h.1.1.2
        rw [if_neg h1, if_neg h2] at h
        by_cases h3 : k = 3 ∨ k = 4 ∨ k = 7
        · rw [if_pos h3] at h; simp only [Bool.and_eq_true] at h; exact h.1.1.2
        rw [if_neg h3] at h
        by_cases h4 : k = 5
        · rw [if_pos h4] at h; simp only [Bool.and_eq_true] at h; exact h.2
        rw [if_neg h4] at h
        by_cases h5 : k = 6
        · rw [if_pos h5] at h; simp only [Bool.and_eq_true] at h; exact h.1.2
        rw [if_neg h5] at h
        cases h
      obtain ⟨fk, fn, fname, fargs⟩ := f
      unfold exNone at hf
      simp only [Bool.and_eq_true, beq_iff_eq, List.length_eq_zero_iff] at hf
      obtain ⟨⟨⟨rfl, _⟩, _⟩, rfl⟩ := hf
      rw [knows_mk]; rfl
    rw [e1, flatExs_all, e2, Bool.and_true]
    simp [knows]
theorem stsSz_split : ∀ {l : List St} {k : Nat} (hk : k < l.length), stsSz (l.take k) + 1 + stSz l[k] ≤ stsSz l
  | [], k, hk => by simp at hk
  | e :: r, 0, hk => by simp [stsSz] <;> omega
  | e :: r, k + 1, hk => by
    have := stsSz_split (l := r) (k := k) (by simpa using hk)
    simp only [List.take_succ_cons, stsSz, List.getElem_cons_succ]
    omega

def ScP (l : List Fn) (ls : List St) : Prop := ∀ (d : Nat) (A : Option Addr) (cp : Nat) (As : Option Addr) (cs : Nat) (v : Value) (known : List (List UInt8)) (L B lo : Nat) (w : World), B ≤ lo → lo ≤ w.heap.size → stsGood ls d = true → known.length + stsSz ls ≤ 2097152 →
  FnL w L B A l → StL w L B As ls → NmRow w B lo v known →
  Calls Try.prog 49 #[.agg #[.slice A l.length cp], v, .slice As ls.length cs] w fun r w' => ∃ v', r = .returned (.tuple #[v', .bool (scopeOk l known (flatSts ls))]) ∧ (scopeOk l known (flatSts ls) = true → NmRow w' B lo v' (known ++ letsOf (flatSts ls))) ∧ KB lo 0 NmT w w'

theorem KB.grown0 {w w' : World} {lo : Nat} {v : Value} {k : Nat} {xs : List Value} (hown : w.ownsRow lo 33 1 v k xs) (hg : w.grownBy w' v.ownBlock) : KB lo 0 NmT w w' := KB.grown hown (Nat.le_refl _) hg
theorem NmRow.kb0 {w w' : World} {n lo : Nat} {v : Value} {l : List (List UInt8)} (h : NmRow w n lo v l) (hg : w.grownBy w' v.ownBlock) : KB lo 0 NmT w w' := by
  obtain ⟨_, _, _, _, _, hown5, _⟩ := h
  exact KB.grown0 hown5 hg
theorem not_NmT_St : ¬ NmT 78 := by rintro (h | h) <;> exact absurd h (by decide)
theorem not_NmT_Prog : ¬ NmT 29 := by rintro (h | h) <;> exact absurd h (by decide)

set_option maxRecDepth 100000 in
set_option maxHeartbeats 16000000 in
theorem scope_of (l : List Fn) (ls : List St) (ih : ∀ s ∈ ls, ∀ k name e f body els, s = .mk k name e f body els → ScP l body ∧ ScP l els) : ScP l ls := by
  intro d A cp As cs v known L B lo w hBlo hlo hgd hlen hl hs hrow
  have hn := hs.1
  unfold maxLen at hn
  obtain ⟨i0, hi, hz0, hz1, hz2⟩ := info_parts infoBs
  have hb0 : Below w.heap.size w (w.alloc (.cells #[.slice A l.length cp] 29)) := (Below.refl _ _).alloc (Nat.le_refl _) _
  have KP := Blk.new w 29 #[.slice A l.length cp]
  have hrow0 := hrow.below hb0
  have hk0 : KB lo 0 NmT w (w.alloc (.cells #[.slice A l.length cp] 29)) := (KB.refl _ _ _ _).alloc _
  obtain ⟨Av, cv, rfl, _⟩ := hrow.bsl
  have Hgd := Lib.hid hgd
  have Ih := Lib.hid ih
  clear ih hgd hrow
  go_enter Try.func49, Try.ntmps49
  go_wp2
  go_loopw [1, 8] (fun s i wr => ∃ (k : Nat), k ≤ ls.length ∧ i = .int .i64 k ∧ NmRow wr B lo s (known ++ letsOf (flatSts (ls.take k))) ∧ KB lo 0 NmT w wr ∧ Blk wr w.heap.size 29 #[.slice A l.length cp] ∧ Hid (scopeOk l known (flatSts (ls.take k)) = true)) (fun _ i _ => ls.length - (intOf i).toNat)
  case atStart => exact ⟨0, Nat.zero_le _, rfl, by simpa [flatSts, letsOf] using hrow0, hk0, KP, Lib.hid (by simp [flatSts, scopeOk_nil])⟩
  case round =>
    obtain ⟨k, hk, rfl, hrow, hkb, hKP, hall⟩ := hrel
    have hbl : Below lo w wr := hkb.below hlo
    have hws := hkb.size
    have hws' : lo ≤ wr.heap.size := Nat.le_trans hlo hws
    by_cases hlt : k < ls.length
    · obtain ⟨ad, rfl, _, hbk, hat⟩ := (hs.below (hbl.mono hBlo)).2 (by omega)
      obtain ⟨vs, hcells, hv⟩ := hat k hlt
      obtain ⟨kk, name, e, f, body, els, hle⟩ : ∃ kk name e f body els, ls[k] = .mk kk name e f body els := by cases ls[k]; exact ⟨_, _, _, _, _, _, rfl⟩
      have Hle := Lib.hid hle
      have hszs := stsSz_split hlt
      rw [hle, stSz_mk] at hszs
      rw [hle] at hv
      obtain ⟨sA, sc, e0, e1, e2, e3, f0, f1, f2, f3, A1, c1, A2, c2, rfl, hR, hmn, he, hf, hb1, hb2⟩ := hv.open_
      obtain ⟨ih1, ih2⟩ := Ih.out ls[k] (List.getElem_mem hlt) kk name e f body els hle
      have hgk := stsGood_get hlt Hgd.out
      rw [hle, stGood_mk] at hgk
      simp only [Bool.and_eq_true, decide_eq_true_eq] at hgk
      obtain ⟨⟨⟨⟨⟨_, g2⟩, _⟩, _⟩, g5⟩, g6⟩ := hgk
      have he' := he
      have hf' := hf
      obtain ⟨xk, xn, xA, xa, xc, xA', xa', xc', rfl, rfl, rfl, rfl⟩ := he.shape
      obtain ⟨yk, yn, yA, ya, yc, yA', ya', yc', rfl, rfl, rfl, rfl⟩ := hf.shape
      have q0 := hcells 0 _ rfl
      have q1 := hcells 1 _ rfl
      have q2 := hcells 2 _ rfl
      have q3 := hcells 3 _ rfl
      have q4 := hcells 4 _ rfl
      have q5 := hcells 5 _ rfl
      have q6 := hcells 6 _ rfl
      have q7 := hcells 7 _ rfl
      have q8 := hcells 8 _ rfl
      have q9 := hcells 9 _ rfl
      have q10 := hcells 10 _ rfl
      have q11 := hcells 11 _ rfl
      simp only [if_true, Nat.reduceEqDiff, if_false] at q0 q1 q2 q3 q4 q5 q6 q7 q8 q9 q10 q11
      obtain ⟨kn, hkn⟩ : ∃ kn, known ++ letsOf (flatSts (ls.take k)) = kn := ⟨_, rfl⟩
      rw [hkn] at hrow
      have hknl : kn.length + 1 + stsSz body + stsSz els ≤ 2097152 := by
        have h1 := letsOf_len (flatSts (ls.take k))
        have h2 := (flatSts_sz (ls.take k)).1
        rw [← hkn, List.length_append]
        omega
      have hfail : ∀ X, X <+: flatSt ls[k] → scopeOk l kn X = false → scopeOk l known (flatSts ls) = false := fun X hX hf => by
        refine scopeOk_pre (a := flatSts (ls.take k) ++ X) ?_ ?_
        · have h1 := flatSts_pre ls (k + 1)
          rw [flatSts_step hlt] at h1
          exact List.IsPrefix.trans ((List.prefix_append_right_inj _).2 hX) h1
        · rw [scopeOk_app, hkn, hf, Bool.and_false]
      have hstep : letsOf (flatSts (ls.take (k + 1))) = letsOf (flatSts (ls.take k)) ++ letsOf (flatSt ls[k]) := by rw [flatSts_step hlt, letsOf_app]
      have hstep2 : scopeOk l known (flatSts (ls.take (k + 1))) = scopeOk l kn (flatSt ls[k]) := by rw [flatSts_step hlt, scopeOk_app, hall.out, Bool.true_and, hkn]
      rw [hle, flatSt_mk] at hfail hstep hstep2
      have hs1 := scopeOk_cons l kn kk name e f body els []
      rw [knows_two l kn g2, scopeOk_nil, scopeOk_nil] at hs1
      simp only [Bool.and_true] at hs1
      have hkk := stOk1_kind g2
      have Data := Lib.hid (And.intro hb1 (And.intro hb2 (And.intro ih1 (And.intro ih2 (And.intro g5 g6)))))
      have HF := Lib.hid hfail
      have HS := Lib.hid (And.intro hstep (And.intro hstep2 (And.intro hs1 hkn)))
      have hknl1 : kn.length + 1 ≤ 4194304 := by omega
      have Hsz := Lib.hid hknl
      obtain ⟨Ak, ck, rfl, _⟩ := hrow.bsl
      have hbs := fun (w' : World) (hb : Below wr.heap.size wr w') => (show BsL w' 0 w'.heap.size Ak kn from by obtain ⟨A5, c5, e5, _, _, h5⟩ := (hrow.below hb).bsl; injection e5 with e5 _ _; subst e5; exact h5)
      have hdt := fun (w' : World) (hb : Below wr.heap.size wr w') => (show Below lo w w' from hbl.trans (hb.mono (by omega)))
      have hKe := fun (w' : World) (hb : Below wr.heap.size wr w') => l2knows_c l e A cp _ _ _ _ kn Ak ck L B 0 w'.heap.size w' (Nat.le_trans (by omega) hb.size) (Nat.le_refl _) (hl.below ((hdt w' hb).mono hBlo)) (hbs w' hb) (he'.below (hb.mono (by omega)))
      have hKf := fun (w' : World) (hb : Below wr.heap.size wr w') => l2knows_c l f A cp _ _ _ _ kn Ak ck L B 0 w'.heap.size w' (Nat.le_trans (by omega) hb.size) (Nat.le_refl _) (hl.below ((hdt w' hb).mono hBlo)) (hbs w' hb) (hf'.below (hb.mono (by omega)))
      have hAt := fun (w' : World) (hb : Below wr.heap.size wr w') => l2at_c kn name Ak sA ck sc 0 w'.heap.size B w' (Nat.le_refl _) (Nat.le_trans (by omega) hb.size) (hbs w' hb) (hR.1.below (hb.mono (by omega)))
      have hbW : Below wr.heap.size wr (wr.alloc (.cells #[.int .i64 kk, .slice sA name.length sc, .int .i64 xk, .int .i64 xn, .slice xA xa xc, .slice xA' xa' xc', .int .i64 yk, .int .i64 yn, .slice yA ya yc, .slice yA' ya' yc', .slice A1 body.length c1, .slice A2 els.length c2] 78)) := (Below.refl _ _).alloc (Nat.le_refl _) _
      have KS := Blk.new wr 78 #[.int .i64 kk, .slice sA name.length sc, .int .i64 xk, .int .i64 xn, .slice xA xa xc, .slice xA' xa' xc', .int .i64 yk, .int .i64 yn, .slice yA ya yc, .slice yA' ya' yc', .slice A1 body.length c1, .slice A2 els.length c2]
      have KPW := hKP.alloc (.cells #[.int .i64 kk, .slice sA name.length sc, .int .i64 xk, .int .i64 xn, .slice xA xa xc, .slice xA' xa' xc', .int .i64 yk, .int .i64 yn, .slice yA ya yc, .slice yA' ya' yc', .slice A1 body.length c1, .slice A2 els.length c2] 78)
      have HKf := Lib.hid hKf
      have HAt := Lib.hid hAt
      have HKe := Lib.hid (hKe _ hbW)
      have hsW : (wr.alloc (.cells #[.int .i64 kk, .slice sA name.length sc, .int .i64 xk, .int .i64 xn, .slice xA xa xc, .slice xA' xa' xc', .int .i64 yk, .int .i64 yn, .slice yA ya yc, .slice yA' ya' yc', .slice A1 body.length c1, .slice A2 els.length c2] 78)).heap.size = wr.heap.size + 1 := by simp
      have p0 := fun o => (hKP.alloc o).cell_of 0 (v := .slice A l.length cp) rfl
      clear hle hat hcells hv hbs hdt hKe hKf hAt he he' hf hf' hb1 hb2 ih1 ih2 g2 g5 g6 hfail hstep hstep2 hs1 hkn hszs hknl
      cases hk1 : knows l kn e
      · have hno : scopeOk l known (flatSts ls) = false := HF.out [.mk kk name e f body els] (List.cons_prefix_cons.2 ⟨rfl, List.nil_prefix⟩) (by rw [HS.out.2.2.1, hk1]; rfl)
        have Hno := Lib.hid hno
        rw [hk1] at HKe
        clear hno hk1
        go_wp2_with fail
        refine HKe.out.mono ?_
        rintro r w1 ⟨rfl, hb1⟩
        have hkx : KB lo 0 NmT wr w1 := (KB.of hbW _ _ _).trans (KB.of hb1 _ _ _)
        go_wp2
        refine bodyPost_ret (v := .tuple #[.slice Ak kn.length ck, .bool false]) (by simp [results, Try.results49, go_sem]) rfl ?_
        exact ⟨_, by rw [Hno.out], fun hy => (Bool.noConfusion (Hno.out.symm.trans hy)), hkb.trans hkx⟩
      rw [hk1] at HKe
      have Hk1 := Lib.hid hk1
      clear hk1
      go_wp2_with fail
      refine HKe.out.mono ?_
      rintro r w1 ⟨rfl, hb1⟩
      have hbx1 := hbW.trans (hb1.mono hbW.size)
      have KS1 := KS.below hb1 KS.lt
      have KP1 := KPW.below hb1 KPW.lt
      have p1 := KP1.cell_of 0 (v := .slice A l.length cp) rfl
      have r0 := KS1.cell_of 0 (v := .int .i64 kk) rfl
      have r1 := KS1.cell_of 1 (v := .slice sA name.length sc) rfl
      have r2 := KS1.cell_of 2 (v := .int .i64 xk) rfl
      have r3 := KS1.cell_of 3 (v := .int .i64 xn) rfl
      have r4 := KS1.cell_of 4 (v := .slice xA xa xc) rfl
      have r5 := KS1.cell_of 5 (v := .slice xA' xa' xc') rfl
      have r6 := KS1.cell_of 6 (v := .int .i64 yk) rfl
      have r7 := KS1.cell_of 7 (v := .int .i64 yn) rfl
      have r8 := KS1.cell_of 8 (v := .slice yA ya yc) rfl
      have r9 := KS1.cell_of 9 (v := .slice yA' ya' yc') rfl
      have r10 := KS1.cell_of 10 (v := .slice A1 body.length c1) rfl
      have r11 := KS1.cell_of 11 (v := .slice A2 els.length c2) rfl
      have HKf1 := Lib.hid (HKf.out w1 hbx1)
      clear HKe HKf q0 q1 q2 q3 q4 q5 q6 q7 q8 q9 q10 q11 p0
      cases hk2 : knows l kn f
      · have hno : scopeOk l known (flatSts ls) = false := HF.out [.mk kk name e f body els] (List.cons_prefix_cons.2 ⟨rfl, List.nil_prefix⟩) (by rw [HS.out.2.2.1, hk2, Bool.and_false]; rfl)
        have Hno := Lib.hid hno
        rw [hk2] at HKf1
        clear hno hk2
        go_wp2_with fail
        refine HKf1.out.mono ?_
        rintro r w2 ⟨rfl, hb2⟩
        have hkx : KB lo 0 NmT wr w2 := (KB.of hbx1 _ _ _).trans (KB.of hb2 _ _ _)
        go_wp2
        refine bodyPost_ret (v := .tuple #[.slice Ak kn.length ck, .bool false]) (by simp [results, Try.results49, go_sem]) rfl ?_
        exact ⟨_, by rw [Hno.out], fun hy => (Bool.noConfusion (Hno.out.symm.trans hy)), hkb.trans hkx⟩
      rw [hk2] at HKf1
      have Hk2 := Lib.hid hk2
      clear hk2
      go_wp2_with fail
      refine HKf1.out.mono ?_
      rintro r w2 ⟨rfl, hb2⟩
      have hbx2 := hbx1.trans (hb2.mono hbx1.size)
      have KS2 := KS1.below hb2 KS1.lt
      have KP2 := KP1.below hb2 KP1.lt
      have p2 := KP2.cell_of 0 (v := .slice A l.length cp) rfl
      have t0 := KS2.cell_of 0 (v := .int .i64 kk) rfl
      have t1 := KS2.cell_of 1 (v := .slice sA name.length sc) rfl
      have HAt2 := Lib.hid (HAt.out w2 hbx2)
      have hs2 := hbx2.size
      clear HKf1 r0 r1 r2 r3 r4 r5 r6 r7 r8 r9 r10 r11 p1
      have hpp : kk = 0 ∨ kk = 1 ∨ (kk ≠ 0 ∧ kk ≠ 1) := by omega
      rcases hpp with rfl | rfl | ⟨hn0, hn1⟩
      · -- let
        rcases Int.lt_or_le (placeOf kn name) 0 with hpl | hpl
        · have hpd : decide (0 ≤ placeOf kn name) = false := decide_eq_false (by omega)
          have hS1 : scopeOk l kn [.mk 0 name e f body els] = true := by
            rw [HS.out.2.2.1, Hk1.out, Hk2.out, if_pos (by trivial)]
            simpa using hpl
          have hL1 : kn ++ letsOf [.mk 0 name e f body els] = kn ++ [name] := rfl
          have HX := Lib.hid (And.intro hL1 hS1)
          have hpl' := hpl
          clear hS1 hL1
          go_wp2_with fail
          refine HAt2.out.mono ?_
          rintro r w3 ⟨rfl, hb3⟩
          have hbx3 := hbx2.trans (hb3.mono hbx2.size)
          have KS3 := KS2.below hb3 KS2.lt
          have KP3 := KP2.below hb3 KP2.lt
          have hrow3 := hrow.below hbx3
          have hs3 := hbx3.size
          have hba : Below w3.heap.size w3 (w3.alloc (.cells #[.slice sA name.length sc] 33)) := (Below.refl _ _).alloc (Nat.le_refl _) _
          obtain ⟨_, A3, c3, xs, e3, hown, hc3, hcm3, hall2⟩ := id hrow3
          injection e3 with e31 e32 e33
          subst e31
          subst e33
          have hO := hown.alloc (.cells #[.slice sA name.length sc] 33)
          have hrow4 := hrow3.below hba
          have HO := Lib.hid hO
          have Hall2 := Lib.hid hall2
          have hcl1 := cell_one_new w3 (.slice sA name.length sc) 33
          have Hcl1 := Lib.hid hcl1
          have u1 := KS3.cell_of 1 (v := .slice sA name.length sc) rfl
          have KS4 := KS3.alloc (.cells #[.slice sA name.length sc] 33)
          have KP4 := KP3.alloc (.cells #[.slice sA name.length sc] 33)
          have hmn2 := hmn
          clear hO hall2 hcl1 t1
          go_wp2_with (at_builtin; refine wpList_append_own _ rfl (.tmp 60) (.tmp 63) 40 rfl lo 33 i0 _ 1 24 Try.underlying40 hi hz0 hz1 hz2 rfl (by omega) _ _ _ rfl HO.out ⟨w3.heap.size, 0, none⟩ 1 1 [.slice sA name.length sc] rfl rfl Hcl1.out (by simp [Value.oneCell']) (by unfold maxLen; omega) (by omega) (by simp; omega) ?_; intro v' wX hown' hgrow _; have hkg := hrow4.kb0 hgrow; have KPX := KP4.kb hkg (.inr ⟨Nat.zero_le _, not_NmT_Prog⟩); have KSX := KS4.kb hkg (.inr ⟨Nat.zero_le _, not_NmT_St⟩); have px := KPX.cell_of 0 (v := .slice A l.length cp) rfl; have x4 := KSX.cell_of 10 (v := .slice A1 body.length c1) rfl)
          have hgs := hgrow.size
          have hkX : KB lo 0 NmT wr wX := ((KB.of hbx3 _ _ _).alloc _).trans hkg
          have hdX2 : Below lo wr wX := hkX.below hws'
          have hdX := hbl.trans hdX2
          have hrowX : NmRow wX B lo v' (kn ++ [name]) := NmRow.snoc hBlo hknl1 HO.out (fun j hj => by
            obtain ⟨A4, c4, x1, x2, x3⟩ := Hall2.out j hj
            exact ⟨A4, c4, x1, x2.below hba, x3⟩) (NmB.of_data ((hR.below (hbx3.mono (by omega))).below (hba.mono (by omega))) (by simp; omega)) hmn2 hown' hgrow
          clear hown' hgrow hkg u1 HO Hcl1 Hall2
          have hsX := hkX.size
          have HBo := Lib.hid (Data.out.2.2.1 _ A cp A1 c1 (v') (kn ++ [name]) L B lo wX hBlo (by omega) Data.out.2.2.2.2.1 (by have := Hsz.out; rw [List.length_append, List.length_singleton]; omega) (hl.below (hdX.mono hBlo)) (Data.out.1.below (hdX2.mono hBlo)) hrowX)
          have px := KPX.cell_of 0 (v := .slice A l.length cp) rfl
          have x4 := KSX.cell_of 10 (v := .slice A1 body.length c1) rfl
          clear HAt HAt2 t0 p2
          cases hok1 : scopeOk l (kn ++ [name]) (flatSts body)
          · have hno : scopeOk l known (flatSts ls) = false := HF.out ((.mk 0 name e f body els) :: flatSts body) (List.cons_prefix_cons.2 ⟨rfl, List.prefix_append _ _⟩) (by
              rw [show ((.mk 0 name e f body els) :: flatSts body) = [(.mk 0 name e f body els)] ++ flatSts body from rfl, scopeOk_app, HX.out.2, HX.out.1, hok1, Bool.and_false])
            have Hno := Lib.hid hno
            rw [hok1] at HBo
            clear hno hok1
            skip
            refine HBo.out.mono ?_
            rintro r wY ⟨v2, rfl, _, hkY⟩
            go_wp2
            refine bodyPost_ret (v := .tuple #[v', .bool false]) (by simp [results, Try.results49, go_sem]) rfl ?_
            exact ⟨_, by rw [Hno.out], fun hy => (Bool.noConfusion (Hno.out.symm.trans hy)), hkb.trans (hkX.trans hkY)⟩
          rw [hok1] at HBo
          have Hok1 := Lib.hid hok1
          clear hok1
          skip
          refine HBo.out.mono ?_
          rintro r wY ⟨v2, rfl, hrY, hkY⟩
          have hrowY := hrY (by trivial)
          have KSY := KSX.kb hkY (.inr ⟨Nat.zero_le _, not_NmT_St⟩)
          have KPY := KPX.kb hkY (.inr ⟨Nat.zero_le _, not_NmT_Prog⟩)
          have hdY := hdX.trans (hkY.below (by omega))
          have hdY2 := hdX2.trans (hkY.below (by omega))
          have py := KPY.cell_of 0 (v := .slice A l.length cp) rfl
          have y5 := KSY.cell_of 11 (v := .slice A2 els.length c2) rfl
          have hsY := hkY.size
          have HEl := Lib.hid (Data.out.2.2.2.1 _ A cp A2 c2 v2 ((kn ++ [name]) ++ letsOf (flatSts body)) L B lo wY hBlo (by omega) Data.out.2.2.2.2.2 (by have h1 := Hsz.out; have h2 := letsOf_len (flatSts body); have h3 := (flatSts_sz body).1; rw [List.length_append, List.length_append, List.length_singleton]; omega) (hl.below (hdY.mono hBlo)) (Data.out.2.1.below (hdY2.mono hBlo)) hrowY)
          clear px x4 HBo
          cases hok2 : scopeOk l ((kn ++ [name]) ++ letsOf (flatSts body)) (flatSts els)
          · have hno : scopeOk l known (flatSts ls) = false := HF.out ((.mk 0 name e f body els) :: (flatSts body ++ flatSts els)) (List.prefix_refl _) (by
              rw [show ((.mk 0 name e f body els) :: (flatSts body ++ flatSts els)) = [(.mk 0 name e f body els)] ++ (flatSts body ++ flatSts els) from rfl, scopeOk_app, HX.out.2, HX.out.1, scopeOk_app, hok2, Bool.and_false, Bool.and_false])
            have Hno := Lib.hid hno
            rw [hok2] at HEl
            clear hno hok2
            go_wp2_with fail
            refine HEl.out.mono ?_
            rintro r wZ ⟨v3, rfl, _, hkZ⟩
            go_wp2
            refine bodyPost_ret (v := .tuple #[v', .bool false]) (by simp [results, Try.results49, go_sem]) rfl ?_
            exact ⟨_, by rw [Hno.out], fun hy => (Bool.noConfusion (Hno.out.symm.trans hy)), hkb.trans (hkX.trans (hkY.trans hkZ))⟩
          · rw [hok2] at HEl
            have Hok2 := Lib.hid hok2
            clear hok2
            go_wp2_with fail
            refine HEl.out.mono ?_
            rintro r wZ ⟨v3, rfl, hrZ, hkZ⟩
            have hrowZ := hrZ (by trivial)
            have KPZ := KPY.kb hkZ (.inr ⟨Nat.zero_le _, not_NmT_Prog⟩)
            clear py y5 HEl
            go_wp2
            go_roundw
            case rel =>
              have e9 : ((.mk 0 name e f body els) :: (flatSts body ++ flatSts els)) = [(.mk 0 name e f body els)] ++ (flatSts body ++ flatSts els) := rfl
              refine ⟨k + 1, by omega, by go_num, ?_, hkb.trans (hkX.trans (hkY.trans hkZ)), KPZ, Lib.hid ?_⟩
              · rw [HS.out.1, ← List.append_assoc, HS.out.2.2.2, e9, letsOf_app, letsOf_app, ← List.append_assoc, HX.out.1, ← List.append_assoc]
                exact hrowZ
              · have h7 : scopeOk l kn ([(.mk 0 name e f body els)] ++ (flatSts body ++ flatSts els)) = true := by rw [scopeOk_app, HX.out.1, HX.out.2, scopeOk_app, Hok1.out, Hok2.out]; rfl
                have h8 := HS.out.2.1
                rw [h8, e9]
                exact h7
            case measure => simp [intOf]; omega
        · have hpd : decide (0 ≤ placeOf kn name) = true := decide_eq_true hpl
          have hno : scopeOk l known (flatSts ls) = false := HF.out [.mk 0 name e f body els] (List.cons_prefix_cons.2 ⟨rfl, List.nil_prefix⟩) (by
            rw [HS.out.2.2.1, if_pos (by trivial), show decide (placeOf kn name < 0) = false from decide_eq_false (by omega), Bool.and_false])
          have Hno := Lib.hid hno
          clear hno
          go_wp2_with fail
          refine HAt2.out.mono ?_
          rintro r w3 ⟨rfl, hb3⟩
          have hkx : KB lo 0 NmT wr w3 := (KB.of hbx2 _ _ _).trans (KB.of hb3 _ _ _)
          go_wp2
          refine bodyPost_ret (v := .tuple #[.slice Ak kn.length ck, .bool false]) (by simp [results, Try.results49, go_sem]) rfl ?_
          exact ⟨_, by rw [Hno.out], fun hy => (Bool.noConfusion (Hno.out.symm.trans hy)), hkb.trans hkx⟩
      · -- set
        rcases Int.lt_or_le (placeOf kn name) 0 with hpl | hpl
        · have hpd : decide (placeOf kn name < 0) = true := decide_eq_true hpl
          have hno : scopeOk l known (flatSts ls) = false := HF.out [.mk 1 name e f body els] (List.cons_prefix_cons.2 ⟨rfl, List.nil_prefix⟩) (by
            rw [HS.out.2.2.1, if_neg (by decide), if_pos (by trivial), show decide (0 ≤ placeOf kn name) = false from decide_eq_false (by omega), Bool.and_false])
          have Hno := Lib.hid hno
          clear hno
          go_wp2_with fail
          refine HAt2.out.mono ?_
          rintro r w3 ⟨rfl, hb3⟩
          have hkx : KB lo 0 NmT wr w3 := (KB.of hbx2 _ _ _).trans (KB.of hb3 _ _ _)
          go_wp2
          refine bodyPost_ret (v := .tuple #[.slice Ak kn.length ck, .bool false]) (by simp [results, Try.results49, go_sem]) rfl ?_
          exact ⟨_, by rw [Hno.out], fun hy => (Bool.noConfusion (Hno.out.symm.trans hy)), hkb.trans hkx⟩
        · have hpd : decide (placeOf kn name < 0) = false := decide_eq_false (by omega)
          have hS1 : scopeOk l kn [.mk 1 name e f body els] = true := by
            rw [HS.out.2.2.1, Hk1.out, Hk2.out, if_neg (by decide), if_pos (by trivial)]
            simpa using hpl
          have hL1 : kn ++ letsOf [.mk 1 name e f body els] = kn := List.append_nil kn
          have HX := Lib.hid (And.intro hL1 hS1)
          clear hS1 hL1
          go_wp2_with fail
          refine HAt2.out.mono ?_
          rintro r wX ⟨rfl, hb3⟩
          have hbx3 := hbx2.trans (hb3.mono hbx2.size)
          have hkX : KB lo 0 NmT wr wX := KB.of hbx3 _ _ _
          have KSX := KS2.below hb3 KS2.lt
          have KPX := KP2.below hb3 KP2.lt
          have hdX2 : Below lo wr wX := hkX.below hws'
          have hdX := hbl.trans hdX2
          have hrowX := hrow.below hbx3
          have z0 := KSX.cell_of 0 (v := .int .i64 1) rfl
          have hsX := hkX.size
          have HBo := Lib.hid (Data.out.2.2.1 _ A cp A1 c1 (.slice Ak kn.length ck) kn L B lo wX hBlo (by omega) Data.out.2.2.2.2.1 (by have := Hsz.out; omega) (hl.below (hdX.mono hBlo)) (Data.out.1.below (hdX2.mono hBlo)) hrowX)
          have px := KPX.cell_of 0 (v := .slice A l.length cp) rfl
          have x4 := KSX.cell_of 10 (v := .slice A1 body.length c1) rfl
          clear HAt HAt2 p2 t0 t1
          cases hok1 : scopeOk l kn (flatSts body)
          · have hno : scopeOk l known (flatSts ls) = false := HF.out ((.mk 1 name e f body els) :: flatSts body) (List.cons_prefix_cons.2 ⟨rfl, List.prefix_append _ _⟩) (by
              rw [show ((.mk 1 name e f body els) :: flatSts body) = [(.mk 1 name e f body els)] ++ flatSts body from rfl, scopeOk_app, HX.out.2, HX.out.1, hok1, Bool.and_false])
            have Hno := Lib.hid hno
            rw [hok1] at HBo
            clear hno hok1
            go_wp2_with fail
            refine HBo.out.mono ?_
            rintro r wY ⟨v2, rfl, _, hkY⟩
            go_wp2
            refine bodyPost_ret (v := .tuple #[.slice Ak kn.length ck, .bool false]) (by simp [results, Try.results49, go_sem]) rfl ?_
            exact ⟨_, by rw [Hno.out], fun hy => (Bool.noConfusion (Hno.out.symm.trans hy)), hkb.trans (hkX.trans hkY)⟩
          rw [hok1] at HBo
          have Hok1 := Lib.hid hok1
          clear hok1
          go_wp2_with fail
          refine HBo.out.mono ?_
          rintro r wY ⟨v2, rfl, hrY, hkY⟩
          have hrowY := hrY (by trivial)
          have KSY := KSX.kb hkY (.inr ⟨Nat.zero_le _, not_NmT_St⟩)
          have KPY := KPX.kb hkY (.inr ⟨Nat.zero_le _, not_NmT_Prog⟩)
          have hdY := hdX.trans (hkY.below (by omega))
          have hdY2 := hdX2.trans (hkY.below (by omega))
          have py := KPY.cell_of 0 (v := .slice A l.length cp) rfl
          have y5 := KSY.cell_of 11 (v := .slice A2 els.length c2) rfl
          have hsY := hkY.size
          have HEl := Lib.hid (Data.out.2.2.2.1 _ A cp A2 c2 v2 (kn ++ letsOf (flatSts body)) L B lo wY hBlo (by omega) Data.out.2.2.2.2.2 (by have h1 := Hsz.out; have h2 := letsOf_len (flatSts body); have h3 := (flatSts_sz body).1; rw [List.length_append]; omega) (hl.below (hdY.mono hBlo)) (Data.out.2.1.below (hdY2.mono hBlo)) hrowY)
          clear px x4 HBo
          cases hok2 : scopeOk l (kn ++ letsOf (flatSts body)) (flatSts els)
          · have hno : scopeOk l known (flatSts ls) = false := HF.out ((.mk 1 name e f body els) :: (flatSts body ++ flatSts els)) (List.prefix_refl _) (by
              rw [show ((.mk 1 name e f body els) :: (flatSts body ++ flatSts els)) = [(.mk 1 name e f body els)] ++ (flatSts body ++ flatSts els) from rfl, scopeOk_app, HX.out.2, HX.out.1, scopeOk_app, hok2, Bool.and_false, Bool.and_false])
            have Hno := Lib.hid hno
            rw [hok2] at HEl
            clear hno hok2
            go_wp2_with fail
            refine HEl.out.mono ?_
            rintro r wZ ⟨v3, rfl, _, hkZ⟩
            go_wp2
            refine bodyPost_ret (v := .tuple #[.slice Ak kn.length ck, .bool false]) (by simp [results, Try.results49, go_sem]) rfl ?_
            exact ⟨_, by rw [Hno.out], fun hy => (Bool.noConfusion (Hno.out.symm.trans hy)), hkb.trans (hkX.trans (hkY.trans hkZ))⟩
          · rw [hok2] at HEl
            have Hok2 := Lib.hid hok2
            clear hok2
            go_wp2_with fail
            refine HEl.out.mono ?_
            rintro r wZ ⟨v3, rfl, hrZ, hkZ⟩
            have hrowZ := hrZ (by trivial)
            have KPZ := KPY.kb hkZ (.inr ⟨Nat.zero_le _, not_NmT_Prog⟩)
            clear py y5 HEl
            go_wp2
            go_roundw
            case rel =>
              have e9 : ((.mk 1 name e f body els) :: (flatSts body ++ flatSts els)) = [(.mk 1 name e f body els)] ++ (flatSts body ++ flatSts els) := rfl
              refine ⟨k + 1, by omega, by go_num, ?_, hkb.trans (hkX.trans (hkY.trans hkZ)), KPZ, Lib.hid ?_⟩
              · rw [HS.out.1, ← List.append_assoc, HS.out.2.2.2, e9, letsOf_app, letsOf_app, ← List.append_assoc, HX.out.1, ← List.append_assoc]
                exact hrowZ
              · have h7 : scopeOk l kn ([(.mk 1 name e f body els)] ++ (flatSts body ++ flatSts els)) = true := by rw [scopeOk_app, HX.out.1, HX.out.2, scopeOk_app, Hok1.out, Hok2.out]; rfl
                have h8 := HS.out.2.1
                rw [h8, e9]
                exact h7
            case measure => simp [intOf]; omega
      · -- others
        have hS1 : scopeOk l kn [.mk kk name e f body els] = true := by
          rw [HS.out.2.2.1, Hk1.out, Hk2.out, if_neg hn0, if_neg hn1]; rfl
        have hL1 : kn ++ letsOf [.mk kk name e f body els] = kn := by rw [letsOf_cons, if_neg hn0]; exact List.append_nil kn
        have HX := Lib.hid (And.intro hL1 hS1)
        have h0b : (kk == 0) = false := by simp [hn0]
        have h1b : (kk == 1) = false := by simp [hn1]
        have h0c : ¬ kk = 0 := hn0
        have h1c : ¬ kk = 1 := hn1
        clear hS1 hL1 hn0 hn1
        have hkX : KB lo 0 NmT wr w2 := KB.of hbx2 _ _ _
        have KSX := KS2
        have KPX := KP2
        have hdX2 : Below lo wr w2 := hkX.below hws'
        have hdX := hbl.trans hdX2
        have hrowX := hrow.below hbx2
        have hsX := hkX.size
        have HBo := Lib.hid (Data.out.2.2.1 _ A cp A1 c1 (.slice Ak kn.length ck) kn L B lo w2 hBlo (by omega) Data.out.2.2.2.2.1 (by have := Hsz.out; omega) (hl.below (hdX.mono hBlo)) (Data.out.1.below (hdX2.mono hBlo)) hrowX)
        have px := KPX.cell_of 0 (v := .slice A l.length cp) rfl
        have x4 := KSX.cell_of 10 (v := .slice A1 body.length c1) rfl
        clear HAt HAt2 p2 t1
        cases hok1 : scopeOk l kn (flatSts body)
        · have hno : scopeOk l known (flatSts ls) = false := HF.out ((.mk kk name e f body els) :: flatSts body) (List.cons_prefix_cons.2 ⟨rfl, List.prefix_append _ _⟩) (by
            rw [show ((.mk kk name e f body els) :: flatSts body) = [(.mk kk name e f body els)] ++ flatSts body from rfl, scopeOk_app, HX.out.2, HX.out.1, hok1, Bool.and_false])
          have Hno := Lib.hid hno
          rw [hok1] at HBo
          clear hno hok1
          go_wp2_with fail
          refine HBo.out.mono ?_
          rintro r wY ⟨v2, rfl, _, hkY⟩
          go_wp2
          refine bodyPost_ret (v := .tuple #[.slice Ak kn.length ck, .bool false]) (by simp [results, Try.results49, go_sem]) rfl ?_
          exact ⟨_, by rw [Hno.out], fun hy => (Bool.noConfusion (Hno.out.symm.trans hy)), hkb.trans (hkX.trans hkY)⟩
        rw [hok1] at HBo
        have Hok1 := Lib.hid hok1
        clear hok1
        go_wp2_with fail
        refine HBo.out.mono ?_
        rintro r wY ⟨v2, rfl, hrY, hkY⟩
        have hrowY := hrY (by trivial)
        have KSY := KSX.kb hkY (.inr ⟨Nat.zero_le _, not_NmT_St⟩)
        have KPY := KPX.kb hkY (.inr ⟨Nat.zero_le _, not_NmT_Prog⟩)
        have hdY := hdX.trans (hkY.below (by omega))
        have hdY2 := hdX2.trans (hkY.below (by omega))
        have py := KPY.cell_of 0 (v := .slice A l.length cp) rfl
        have y5 := KSY.cell_of 11 (v := .slice A2 els.length c2) rfl
        have hsY := hkY.size
        have HEl := Lib.hid (Data.out.2.2.2.1 _ A cp A2 c2 v2 (kn ++ letsOf (flatSts body)) L B lo wY hBlo (by omega) Data.out.2.2.2.2.2 (by have h1 := Hsz.out; have h2 := letsOf_len (flatSts body); have h3 := (flatSts_sz body).1; rw [List.length_append]; omega) (hl.below (hdY.mono hBlo)) (Data.out.2.1.below (hdY2.mono hBlo)) hrowY)
        clear px x4 HBo
        cases hok2 : scopeOk l (kn ++ letsOf (flatSts body)) (flatSts els)
        · have hno : scopeOk l known (flatSts ls) = false := HF.out ((.mk kk name e f body els) :: (flatSts body ++ flatSts els)) (List.prefix_refl _) (by
            rw [show ((.mk kk name e f body els) :: (flatSts body ++ flatSts els)) = [(.mk kk name e f body els)] ++ (flatSts body ++ flatSts els) from rfl, scopeOk_app, HX.out.2, HX.out.1, scopeOk_app, hok2, Bool.and_false, Bool.and_false])
          have Hno := Lib.hid hno
          rw [hok2] at HEl
          clear hno hok2
          go_wp2_with fail
          refine HEl.out.mono ?_
          rintro r wZ ⟨v3, rfl, _, hkZ⟩
          go_wp2
          refine bodyPost_ret (v := .tuple #[.slice Ak kn.length ck, .bool false]) (by simp [results, Try.results49, go_sem]) rfl ?_
          exact ⟨_, by rw [Hno.out], fun hy => (Bool.noConfusion (Hno.out.symm.trans hy)), hkb.trans (hkX.trans (hkY.trans hkZ))⟩
        · rw [hok2] at HEl
          have Hok2 := Lib.hid hok2
          clear hok2
          go_wp2_with fail
          refine HEl.out.mono ?_
          rintro r wZ ⟨v3, rfl, hrZ, hkZ⟩
          have hrowZ := hrZ (by trivial)
          have KPZ := KPY.kb hkZ (.inr ⟨Nat.zero_le _, not_NmT_Prog⟩)
          clear py y5 HEl
          go_wp2
          go_roundw
          case rel =>
            have e9 : ((.mk kk name e f body els) :: (flatSts body ++ flatSts els)) = [(.mk kk name e f body els)] ++ (flatSts body ++ flatSts els) := rfl
            refine ⟨k + 1, by omega, by go_num, ?_, hkb.trans (hkX.trans (hkY.trans hkZ)), KPZ, Lib.hid ?_⟩
            · rw [HS.out.1, ← List.append_assoc, HS.out.2.2.2, e9, letsOf_app, letsOf_app, ← List.append_assoc, HX.out.1, ← List.append_assoc]
              exact hrowZ
            · have h7 : scopeOk l kn ([(.mk kk name e f body els)] ++ (flatSts body ++ flatSts els)) = true := by rw [scopeOk_app, HX.out.1, HX.out.2, scopeOk_app, Hok1.out, Hok2.out]; rfl
              have h8 := HS.out.2.1
              rw [h8, e9]
              exact h7
          case measure => simp [intOf]; omega
    · have Hrow := Lib.hid hrow
      obtain ⟨Ak, ck, rfl, _⟩ := hrow.bsl
      clear hrow
      go_wp2
      have hkl : k = ls.length := by omega
      have h1 := hall.out
      have h2 := Hrow.out
      rw [hkl, List.take_length] at h1
      refine bodyPost_ret (v := .tuple #[.slice Ak (known ++ letsOf (flatSts (ls.take k))).length ck, .bool true]) (by simp [results, Try.results49, go_sem]) rfl ?_
      refine ⟨_, by rw [h1], fun _ => ?_, hkb⟩
      rw [hkl, List.take_length] at h2
      rw [hkl, List.take_length]
      exact h2

theorem l2scope_c (l : List Fn) (ls : List St) : ScP l ls := by
  have one : ∀ s : St, ∀ k name e f body els, s = .mk k name e f body els → ScP l body ∧ ScP l els := fun s => St.ind (P := fun s => ∀ k name e f body els, s = .mk k name e f body els → ScP l body ∧ ScP l els) (fun k name e f body els ih1 ih2 k' n' e' f' b' l' he => by
    injection he with _ _ _ _ h1 h2
    rw [← h1, ← h2]
    exact ⟨scope_of l body ih1, scope_of l els ih2⟩) s
  exact scope_of l ls fun s _ => one s
end Go.Proofs.Ytglalpoalinieaa
