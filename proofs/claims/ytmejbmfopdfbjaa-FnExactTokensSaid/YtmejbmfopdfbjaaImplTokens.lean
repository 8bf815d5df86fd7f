/-
  The program's Tokens.
-/
import Derived.Test.YtmejbmfopdfbjaaTokRow
namespace Go.Proofs.Ytmejbmfopdfbjaa
open Go.RowKit Go.Shelf
set_option linter.unusedVariables false
attribute [local go_sem] Oper.semAt_some

theorem cell_new4 (w : World) (v0 v1 v2 v3 : Value) (t : TypeId) : ∀ (j : Nat) (u : Value), [v0, v1, v2, v3][j]? = some u → (w.alloc (.cells #[v0, v1, v2, v3] t)).cell? (Addr.add ⟨w.heap.size, 0, none⟩ j) = some u := fun j u hj => by
  have e : (Addr.add ⟨w.heap.size, 0, none⟩ j) = ⟨w.heap.size, j, none⟩ := by unfold Addr.add; split <;> simp_all
  rw [e]
  exact (Blk.new w t #[v0, v1, v2, v3]).cell_of j (by simpa using hj)

theorem not_TkT_R : ¬ TkT 38 := by rintro (h | h) <;> exact absurd h (by decide)
theorem not_TkT_I : ¬ TkT 3 := by rintro (h | h) <;> exact absurd h (by decide)
theorem not_TkT_B : ¬ TkT 22 := by rintro (h | h) <;> exact absurd h (by decide)

/-- what the rounds keep -/
def TkI (w : World) (a : Addr) (n cp : Nat) (pre : List TV) (Z : World) : Prop :=
  (∀ x ∈ pre, x.ok = true) ∧ (∃ gs v, Blk Z (w.heap.size + 1 + 1) 38 #[v] ∧ TRow Z w.heap.size v (pre.map TV.tok) gs ∧ ∀ i (hi : i < pre.length), gs i = pre[i].g) ∧ Below w.heap.size w Z ∧
    Blk Z w.heap.size 38 #[.slice none 0 0] ∧ Blk Z (w.heap.size + 1) 3 #[.int .i64 0] ∧ Blk Z (w.heap.size + 1 + 1 + 1) 22 #[.slice (some a) n cp]
def TkX (w : World) (c : Code) (pre : List TV) (Z : World) : Prop :=
  c = .ret ∧ (∃ p0 x, pre = p0 ++ [x] ∧ (∀ y ∈ p0, y.ok = true) ∧ x.ok = false ∧ Blk Z (w.heap.size + 1) 3 #[.int .i64 x.tok.pos]) ∧ Blk Z w.heap.size 38 #[.slice none 0 0] ∧ Below w.heap.size w Z
theorem TkI.ext {w A B : World} {a : Addr} {n cp s : Nat} {pre : List TV} (h : TkI w a n cp pre A) (hs : w.heap.size + 4 ≤ s) (he : Ext s TkT A B) : TkI w a n cp pre B := by
  obtain ⟨h1, ⟨gs, v, h2, h3, h4⟩, h5, h6, h7, h8⟩ := h
  exact ⟨h1, ⟨gs, v, h2.below he.below (by omega), h3.ext he, h4⟩, h5.trans (he.below.mono (by omega)), h6.below he.below (by omega), h7.below he.below (by omega), h8.below he.below (by omega)⟩
theorem TkX.ext {w A B : World} {c : Code} {s : Nat} {pre : List TV} (h : TkX w c pre A) (hs : w.heap.size + 4 ≤ s) (he : Ext s TkT A B) : TkX w c pre B := by
  obtain ⟨h1, ⟨p0, x, h2, h3, h4, h5⟩, h6, h7⟩ := h
  exact ⟨h1, ⟨p0, x, h2, h3, h4, h5.below he.below (by omega)⟩, h6.below he.below (by omega), h7.trans (he.below.mono (by omega))⟩
theorem tkI_snoc {pre : List TV} {x : TV} {gs : Nat → Nat} (h : ∀ i (hi : i < pre.length), gs i = pre[i].g) : ∀ i (hi : i < (pre ++ [x]).length), (if i = (pre.map TV.tok).length then x.g else gs i) = (pre ++ [x])[i].g := fun i hi => by
  rw [List.length_map]
  rcases Nat.lt_or_ge i pre.length with h1 | h1
  · rw [if_neg (by omega), List.getElem_append_left h1, h i h1]
  · obtain rfl : i = pre.length := by simp at hi; omega
    rw [if_pos rfl]; simp
theorem TRow.ownN {w : World} {lo n : Nat} {A : Option Addr} {c : Nat} {ts : List Tok} {gs : Nat → Nat} (h : TRow w lo (.slice A n c) ts gs) (hn : n = ts.length) : OwnTx w lo A ts gs := by
  subst hn
  exact h.own
theorem tok_fst (xs : List TV) : (xs.map tvTo).map Prod.fst = xs.map TV.tok := by rw [List.map_map]; rfl

set_option maxRecDepth 100000 in
set_option maxHeartbeats 8000000 in
theorem implTokens_c (b : List UInt8) (a : Addr) (cp B : Nat) (w : World) (hB : B ≤ w.heap.size) (hlb : b.length ≤ 1048576) (hcp : b.length ≤ cp) (h : RB w B (some a) b) :
    Calls Try.prog 17 #[.slice (some a) b.length cp] w fun r w' => ∃ A c gs, r = .returned (.tuple #[.slice A (tokRes b).1.length c, .int .i64 (tokRes b).2]) ∧ OwnTx w' w.heap.size A (tokRes b).1 gs ∧ Below w.heap.size w w' := by
  by_cases h2 : 2000 < (b.length : Int)
  · have hr : tokRes b = ([], 0) := by unfold tokRes; rw [if_pos (by omega)]
    rw [hr]
    clear hr
    go_enter Try.func17, Try.ntmps17
    go_wp2
    refine bodyPost_ret (v := .tuple #[.slice none 0 0, .int .i64 0]) (by simp [results, Try.results17, go_sem]) rfl ?_
    exact ⟨none, 0, fun _ => 0, rfl, OwnTx.nil _ _ _ _, ((Below.refl _ _).alloc (Nat.le_refl _) _).alloc (by simp) _⟩
  have h2' : (b.length : Int) ≤ 2000 := by omega
  have hres : tokRes b = resOf (scanAt b 0) [] := by unfold tokRes; rw [if_neg (by omega)]
  rw [hres]
  have hsl : (scanAt b 0).length ≤ b.length := (scanL_len b.length b 0 (Nat.le_refl _)).1
  obtain ⟨i0, hi, hz0, hz1, hz2⟩ := info_parts infoTok
  clear hres h2
  refine (callsIn_wide (n := 3)).1 ?_
  refine callsIn_of_wp_marks Try.func17 rfl trivial ?_ rfl
  simp only [Try.ntmps17, List.size_toArray, List.length_cons, List.length_nil, Nat.reduceAdd, Nat.reduceSub, Array.replicate_succ, Array.replicate_zero, List.push_toArray, List.append_toArray, List.nil_append, List.cons_append]
  gi_wp2_with fail
  refine ⟨trivial, ?_⟩
  gi_at_call 43
  refine (callsIn_wide.2 (scan_c (some a) _ cp _)).mono ?_
  rintro r W2 ⟨rfl, rfl⟩
  gi_wp2_with fail
  obtain ⟨V, hV⟩ : ∃ V, (((w.alloc (.cells #[.slice none 0 0] 38)).alloc (.cells #[.int .i64 0] 3)).alloc (.cells #[.slice none 0 0] 38)).alloc (.cells #[.slice (some a) b.length cp] 22) = V := ⟨_, rfl⟩
  have hVs : V.heap.size = w.heap.size + 4 := by rw [← hV]; simp
  have hVb : Below w.heap.size w V := by rw [← hV]; exact ((((Below.refl _ _).alloc (Nat.le_refl _) _).alloc (by simp) _).alloc (by simp; omega) _).alloc (by simp; omega) _
  have k0 : Blk V w.heap.size 38 #[.slice none 0 0] := by rw [← hV]; exact (((Blk.new w _ _).alloc _).alloc _).alloc _
  have k1 : Blk V (w.heap.size + 1) 3 #[.int .i64 0] := by
    have := ((Blk.new (w.alloc (.cells #[.slice none 0 0] 38)) 3 #[.int .i64 0]).alloc (.cells #[.slice none 0 0] 38)).alloc (.cells #[.slice (some a) b.length cp] 22)
    simp only [World.size_alloc] at this
    rw [← hV]; exact this
  have k2 : Blk V (w.heap.size + 1 + 1) 38 #[.slice none 0 0] := by
    have := (Blk.new ((w.alloc (.cells #[.slice none 0 0] 38)).alloc (.cells #[.int .i64 0] 3)) 38 #[.slice none 0 0]).alloc (.cells #[.slice (some a) b.length cp] 22)
    simp only [World.size_alloc] at this
    rw [← hV]; exact this
  have k3 : Blk V (w.heap.size + 1 + 1 + 1) 22 #[.slice (some a) b.length cp] := by
    have := Blk.new (((w.alloc (.cells #[.slice none 0 0] 38)).alloc (.cells #[.int .i64 0] 3)).alloc (.cells #[.slice none 0 0] 38)) 22 #[.slice (some a) b.length cp]
    simp only [World.size_alloc] at this
    rw [← hV]; exact this
  have hseq := scan1_seq b a cp B (V.heap.size + 2) (w.heap.size + 1 + 1 + 1) V hlb hcp (by omega) k3 (h.below (hVb.mono hB))
  have hI0 : TkI w a b.length cp [] V := ⟨fun x hx => by simp at hx, ⟨fun _ => 0, _, k2, TRow.nil _ _ _, fun i hi => by simp at hi⟩, hVb, k0, k1, k3⟩
  try rw [hV]
  clear hV k0 k1 k2 k3 h
  refine range_goodP (gf := 70) (lb := #[.pointer (some ⟨w.heap.size + 1 + 1 + 1, 0, none⟩)]) rfl (enters_of Try.func70 (by kernel_rfl) rfl) (p := w.heap.size + 1 + 1 + 1) (n := B) (by omega) (by omega) hseq (fun _ => rfl)
    (TkI w a b.length cp) (TkX w) (fun x A B' hx hb => hx.ext (by omega) hb) (fun c x A B' hx hb => hx.ext (by omega) hb) hI0 ?round ?done ?stop
  case done =>
    rintro D xs Z hD ⟨hS, hap⟩ ⟨hok, ⟨gs, v, hcell, hrow, hgs⟩, hbz, hr0, hr1, hr3⟩ hK
    have hfin : resOf (scanAt b 0) [] = (xs.map TV.tok, -1) := by
      rw [← hS, resOf_all (fun x hx => by obtain ⟨y, hy, rfl⟩ := List.mem_map.1 hx; exact hok y hy), tok_fst]
    obtain ⟨Av, cv, hv⟩ := hrow.form
    rw [List.length_map] at hv
    subst hv
    have n0 := hcell.cell_of 0 rfl
    have r0 := hr0.cell_of 0 (v := .slice none 0 0) rfl
    have r1 := hr1.cell_of 0 (v := .int .i64 0) rfl
    have z0 := hr0.frozen 0
    have z1 := hr1.frozen 0
    have hK2 : (((Z.setCell ⟨w.heap.size, 0, none⟩ (.slice Av xs.length cv)).setCell ⟨w.heap.size + 1, 0, none⟩ (.int .i64 (-1))).heap[D]?) = some (.deferred (some [])) :=
      (Below.heap_setCell _ ⟨w.heap.size + 1, 0, none⟩ _ D (by simp; omega)).trans ((Below.heap_setCell Z ⟨w.heap.size, 0, none⟩ _ D (by simp; omega)).trans hK)
    have hb4 := ((hbz.setCell (p := ⟨w.heap.size, 0, none⟩) (by simp) (.slice Av xs.length cv)).setCell (p := ⟨w.heap.size + 1, 0, none⟩) (by simp) (.int .i64 (-1))).trans (below_putObj (s := w.heap.size) (l := D) (.deferred none) (by omega))
    have hx0 := (((hr0.set_ 0 (.slice Av xs.length cv)).far (p := ⟨w.heap.size + 1, 0, none⟩) (by simp) (.int .i64 (-1))).below (below_putObj (s := w.heap.size + 4) (l := D) (.deferred none) (by omega)) (by omega)).cell_of 0 (v := .slice Av xs.length cv) rfl
    have hx1 := (((hr1.far (p := ⟨w.heap.size, 0, none⟩) (by simp) (.slice Av xs.length cv)).set_ 0 (.int .i64 (-1))).below (below_putObj (s := w.heap.size + 4) (l := D) (.deferred none) (by omega)) (by omega)).cell_of 0 (v := .int .i64 (-1)) rfl
    have hrow2 : TRow ((((Z.setCell ⟨w.heap.size, 0, none⟩ (.slice Av xs.length cv)).setCell ⟨w.heap.size + 1, 0, none⟩ (.int .i64 (-1))).putObj D (.deferred none))) w.heap.size (.slice Av xs.length cv) (xs.map TV.tok) gs := by
      refine hrow.keep fun k hk => ?_
      have e0 : k ≠ w.heap.size := by rintro rfl; exact no_tag hr0 not_TkT_R hk
      have e1 : k ≠ w.heap.size + 1 := by rintro rfl; exact no_tag hr1 not_TkT_I hk
      have e2 : k ≠ D := by rintro rfl; exact def_tag hK hk
      exact (World.putObj_heap_other e2).trans ((Below.heap_setCell _ ⟨w.heap.size + 1, 0, none⟩ _ k (by simpa using e1)).trans (Below.heap_setCell Z ⟨w.heap.size, 0, none⟩ _ k (by simpa using e0)))
    have Hfin := Lib.hid hfin
    have Hrow := Lib.hid hrow2
    clear hrow hrow2 hfin
    gi_wp2
    refine ⟨by simp, .inl ⟨_, _, rfl, run_takeDeferred hK2, ?_⟩⟩
    refine ⟨.tuple #[.slice Av xs.length cv, .int .i64 (-1)], by simp [results, Try.results17, go_sem, hx0, hx1], Av, cv, gs, by rw [Hfin.out, List.length_map], ?_, hb4⟩
    rw [Hfin.out]
    exact Hrow.out.ownN (List.length_map _).symm
  case stop =>
    rintro D c pre Z hD ⟨hS, hap⟩ ⟨rfl, ⟨p0, x, rfl, hok, hx, hr1⟩, hr0, hbz⟩ hK
    have hfin : resOf (scanAt b 0) [] = ([], x.tok.pos) := by
      obtain ⟨r, hr⟩ := hS
      have e : scanAt b 0 = p0.map tvTo ++ (x.tok, false) :: r := by
        rw [← hr, List.map_append, List.append_assoc]
        have : tvTo x = (x.tok, false) := by unfold tvTo; rw [hx]
        simp [this]
      rw [e, resOf_bad (fun y hy => by obtain ⟨z, hz, rfl⟩ := List.mem_map.1 hy; exact hok z hz)]
    have hx0 := (hr0.below (below_putObj (s := w.heap.size + 4) (l := D) (.deferred none) (by omega)) (by omega)).cell_of 0 (v := .slice none 0 0) rfl
    have hx1 := (hr1.below (below_putObj (s := w.heap.size + 4) (l := D) (.deferred none) (by omega)) (by omega)).cell_of 0 (v := .int .i64 x.tok.pos) rfl
    have hb4 := hbz.trans (below_putObj (s := w.heap.size) (l := D) (W := Z) (.deferred none) (by omega))
    have Hfin := Lib.hid hfin
    clear hfin
    gi_wp2
    refine ⟨by simp, .inl ⟨_, _, rfl, run_takeDeferred hK, ?_⟩⟩
    exact ⟨.tuple #[.slice none 0 0, .int .i64 x.tok.pos], by simp [results, Try.results17, go_sem, hx0, hx1], none, 0, fun _ => 0, by rw [Hfin.out]; rfl, by rw [Hfin.out]; exact OwnTx.nil _ _ _ _, hb4⟩
  case round =>
    rintro l' m' pre x Z K hZs hI ⟨hsp, hap⟩ ⟨hgood, hglt⟩ hcont
    obtain ⟨tk, ok, xA, xc, xg⟩ := x
    obtain ⟨kd, ps, nn, tx⟩ := tk
    dsimp only [tvEnc]
    have hpl := hsp.length_le
    rw [List.length_map, List.length_append, List.length_singleton] at hpl
    have hpl1 : pre.length + 1 ≤ 2000 := by omega
    gi_wp2
    refine hcont _ _ ((Below.refl _ _).alloc (Nat.le_refl _) _) ?_
    intro B' hAB hsz' hoth
    have hZBx := (Ext.of (s := V.heap.size) (T := TkT) ((Below.refl _ Z).alloc (Nat.le_refl _) _) (by omega)).trans hAB
    have hZB := hZBx.below
    have KE : Blk B' Z.heap.size 78 #[.int .i64 kd, .int .i64 ps, .int .i64 nn, .slice xA tx.length xc] := (hoth Z.heap.size (by omega)).trans (Blk.new Z _ _)
    have hgB := hgood.keep (w' := B') (fun t hb => hZBx.block _ (.inr ⟨t, _, hb, .inl rfl⟩))
    obtain ⟨hok, ⟨gs, v, hcell, hrow, hgs⟩, hbz, hr0, hr1, hr3⟩ := hI.ext (by omega) hZBx
    have hZs2 := hZBx.size
    clear hcont hoth hI hZBx hAB hsz' hgood
    try dsimp only at hglt hgB
    cases ok
    case false =>
      have q1 := KE.cell_of 1 (v := .int .i64 ps) rfl
      have r0 := hr0.cell_of 0 (v := .slice none 0 0) rfl
      have r1 := hr1.cell_of 0 (v := .int .i64 0) rfl
      have z0 := hr0.frozen 0
      have z1 := hr1.frozen 0
      gi_wp2_with fail
      gi_region_with (fail)
      all_goals
        have hkp : KP (w.heap.size + 1 + 1 + 1) B V.heap.size TkT B' (((B'.setCell ⟨w.heap.size, 0, none⟩ (.slice none 0 0)).setCell ⟨w.heap.size + 1, 0, none⟩ (.int .i64 ps)).drewN 1) :=
          (((KP.refl _ _ _ _ B').set_ (q := ⟨w.heap.size, 0, none⟩) (by simp; omega) (by simp; omega) (.inl (by simp; omega)) _).set_ (q := ⟨w.heap.size + 1, 0, none⟩) (by simp; omega) (by simp) (.inl (by simp; omega)) _).drewN 1
        have hk1 : Blk (((B'.setCell ⟨w.heap.size, 0, none⟩ (.slice none 0 0)).setCell ⟨w.heap.size + 1, 0, none⟩ (.int .i64 ps)).drewN 1) (w.heap.size + 1) 3 #[.int .i64 ps] := ((hr1.far (p := ⟨w.heap.size, 0, none⟩) (by simp) (.slice none 0 0)).set_ 0 (.int .i64 ps))
        have hk0 : Blk (((B'.setCell ⟨w.heap.size, 0, none⟩ (.slice none 0 0)).setCell ⟨w.heap.size + 1, 0, none⟩ (.int .i64 ps)).drewN 1) w.heap.size 38 #[.slice none 0 0] := ((hr0.set_ 0 (.slice none 0 0)).far (p := ⟨w.heap.size + 1, 0, none⟩) (by simp) (.int .i64 ps))
        have hbf : Below w.heap.size w (((B'.setCell ⟨w.heap.size, 0, none⟩ (.slice none 0 0)).setCell ⟨w.heap.size + 1, 0, none⟩ (.int .i64 ps)).drewN 1) := below_drewN ((hbz.setCell (by simp) _).setCell (by simp) _) 1
        have Hkp := Lib.hid hkp
        have Hk1 := Lib.hid hk1
        have Hk0 := Lib.hid hk0
        have Hbf := Lib.hid hbf
        clear hkp hk1 hk0 hbf q1 r0 r1 z0 z1
        gi_wp2
        exact ⟨Hkp.out, rfl, ⟨pre, _, rfl, hok, rfl, Hk1.out⟩, Hk0.out, Hbf.out⟩
    case true =>
      have q0 := KE.cell_of 0 (v := .int .i64 kd) rfl
      have q1 := KE.cell_of 1 (v := .int .i64 ps) rfl
      have q2 := KE.cell_of 2 (v := .int .i64 nn) rfl
      have q3 := KE.cell_of 3 (v := .slice xA tx.length xc) rfl
      obtain ⟨Av, cv, hv⟩ := hrow.form
      rw [List.length_map] at hv
      subst hv
      have n0 := hcell.cell_of 0 (v := .slice Av pre.length cv) rfl
      have hba : Below B'.heap.size B' (B'.alloc (.cells #[.int .i64 kd, .int .i64 ps, .int .i64 nn, .slice xA tx.length xc] 78)) := (Below.refl _ _).alloc (Nat.le_refl _) _
      have hrowa := hrow.below hba
      obtain ⟨xs, hown, hop⟩ := id hrowa
      have hcell4 := cell_new4 B' (.int .i64 kd) (.int .i64 ps) (.int .i64 nn) (.slice xA tx.length xc) 78
      have hown1 := hown
      rw [List.length_map] at hown1
      have HO := Lib.hid hown
      have HO1 := Lib.hid hown1
      have Hop := Lib.hid hop
      have Hrowa := Lib.hid hrowa
      have Hcell4 := Lib.hid hcell4
      have Hb := Lib.hid hba
      have hcella := hcell.below hba hcell.lt
      have hr3a := hr3.below hba hr3.lt
      have hr0a := hr0.below hba hr0.lt
      have hr1a := hr1.below hba hr1.lt
      have Hca := Lib.hid hcella
      have hws : w.heap.size ≤ B'.heap.size := hbz.size
      clear hown hown1 hop hrowa hcell4 hba hrow
      gi_wp2_with (gi_at_builtin; refine wpListIn_append_own _ rfl (.tmp 18) (.tmp 20) 38 rfl w.heap.size 78 i0 _ 4 48 Try.underlying38 hi hz0 hz1 hz2 rfl (by omega) _ _ _ rfl HO1.out ⟨B'.heap.size, 0, none⟩ 1 1 [.int .i64 kd, .int .i64 ps, .int .i64 nn, .slice xA tx.length xc] rfl rfl Hcell4.out (by simp [Value.oneCell']) (by unfold maxLen; omega) (by omega) (by simp; omega) ?_; intro v' Z6 hown' hgrow _; obtain ⟨A6, c6, rfl⟩ := own_formS hown'; have hcell6 := Hrowa.out.apart Hca.out not_TkT_R hgrow; have z6 := hcell6.frozen 0; have n6 := hcell6.cell_of 0 (v := .slice Av pre.length cv) rfl)
      have hs6 := hgrow.size
      have hgl : 0 < tx.length → xg < B'.heap.size := fun h0 => by
        obtain ⟨_, _, tc, hbk, _⟩ := hgB h0
        exact hbk.lt
      have hTx : TxS (B'.alloc (.cells #[.int .i64 kd, .int .i64 ps, .int .i64 nn, .slice xA tx.length xc] 78)) w.heap.size xg xA tx := (hgB.below Hb.out).less (by omega)
      have hnew : TRow Z6 w.heap.size (.slice A6 (pre.length + 1) c6) (pre.map TV.tok ++ [⟨kd, ps, nn, tx⟩]) (fun i => if i = (pre.map TV.tok).length then xg else gs i) := by
        refine TRow.snoc HO.out Hop.out hTx (fun i hi h0 h1 => ?_) (by rw [List.length_map]; exact hown') hgrow
        have hi' : i < pre.length := by rw [List.length_map] at hi; exact hi
        rw [hgs i hi']
        have h2 := hap i pre.length (by simp; omega) (by simp) (by omega)
        rw [List.getElem_append_left hi'] at h2
        simp at h2
        rw [List.getElem_map] at h0
        exact h2 h0 h1
      have hkp6 : KP (w.heap.size + 1 + 1 + 1) B V.heap.size TkT B' Z6 := (KP.of Hb.out _ _ _ _).trans (Hrowa.out.kp hB hr3a not_TkT_B hgrow)
      have hb6 : Below w.heap.size w Z6 := (hbz.trans (Hb.out.mono hws)).grown hgrow (by simp; omega) (fun g hg => Hrowa.out.ownb hg.symm.symm)
      refine ⟨hkp6.set_ (q := ⟨w.heap.size + 1 + 1, 0, none⟩) (by simp; omega) (by simp) (.inl (by simp; omega)) _, ?_, ?_, hb6.setCell (p := ⟨w.heap.size + 1 + 1, 0, none⟩) (by simp; omega) _, ?_, ?_, ?_⟩
      · intro y hy
        rw [List.mem_append] at hy
        rcases hy with hy | hy
        · exact hok y hy
        · rw [List.mem_singleton.1 hy]
      · refine ⟨_, .slice A6 (pre.length + 1) c6, hcell6.set_ 0 _, ?_, tkI_snoc hgs⟩
        rw [List.map_append]
        refine hnew.keep fun k hk => Below.heap_setCell Z6 ⟨w.heap.size + 1 + 1, 0, none⟩ _ k ?_
        rintro rfl
        exact no_tag hcell6 not_TkT_R hk
      · exact (Hrowa.out.apart hr0a not_TkT_R hgrow).far (p := ⟨w.heap.size + 1 + 1, 0, none⟩) (by simp; omega) _
      · exact (Hrowa.out.apart hr1a not_TkT_I hgrow).far (p := ⟨w.heap.size + 1 + 1, 0, none⟩) (by simp) _
      · exact (Hrowa.out.apart hr3a not_TkT_B hgrow).far (p := ⟨w.heap.size + 1 + 1, 0, none⟩) (by simp) _
end Go.Proofs.Ytmejbmfopdfbjaa
