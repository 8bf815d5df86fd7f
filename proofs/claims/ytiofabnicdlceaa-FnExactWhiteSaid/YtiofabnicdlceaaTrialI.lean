/-
  The program's trial.
-/
import Derived.Test.YtiofabnicdlceaaPaint
import Derived.Test.YtiofabnicdlceaaCounts
import Derived.Test.YtiofabnicdlceaaReachI
namespace Go.Proofs.Ytiofabnicdlceaa
open Go.RowKit
set_option linter.unusedVariables false
set_option linter.unusedSimpArgs false

theorem infoCol : (Try.prog.info? 82).map (fun i => (i.zero, i.size, i.bytes)) = some (some (.int .i64 0), 1, 8) := by kernel_rfl
theorem OwnI.far {w : World} {lo n g : Nat} {A : Option Addr} {f : Nat → Int} {t : TypeId} {cs : Array Value} (h : OwnI w lo A n f) (hb : Blk w g t cs) (hne : t ≠ 3) (i : Nat) (v : Value) : OwnI (w.setCell ⟨g, i, none⟩ v) lo A n f := fun hn => by
  obtain ⟨g', cs', e, hB, h0⟩ := h hn
  exact ⟨g', cs', e, hB.far (p := ⟨g, i, none⟩) (hB.ne_ hb (Ne.symm hne)) v, h0⟩
/-- a number of a row of the call's own is one less -/
theorem OwnI.unb {w : World} {lo N m : Nat} {A : Option Addr} {C : List Int} (h : OwnI w lo A N (gI C)) (hN : C.length = N) (hs : Lb C m) {n : Int} (hn : 0 ≤ n ∧ n < N) :
    ∃ (g j : Nat) (z : Int), A = some ⟨g, 0, none⟩ ∧ lo ≤ g ∧ g < w.heap.size ∧ n = (j : Int) ∧ j < N ∧ -(m : Int) ≤ z ∧ z ≤ 1000000 ∧ w.cell? ⟨g, j, none⟩ = some (.int .i64 z) ∧ w.frozen? ⟨g, j, none⟩ = false ∧ OwnI (w.setCell ⟨g, j, none⟩ (.int .i64 (z - 1))) lo A N (gI (unb1 C (j : Int))) := by
  obtain ⟨j, rfl⟩ : ∃ j : Nat, n = j := ⟨n.toNat, by omega⟩
  have hj : j < C.length := by omega
  have h1 := hs j hj
  obtain ⟨g, cs, rfl, hB, hl, hcs, hat⟩ := h (by omega)
  refine ⟨g, j, C[j], rfl, hl, hB.lt, rfl, by omega, h1.1, h1.2, ?_, hB.frozen j, fun _ => ⟨g, _, rfl, hB.set_ j _, hl, by simpa using hcs, fun i hi => ?_⟩⟩
  · rw [hB.cell, hat j (by omega), gI_get hj]
  · unfold unb1
    rw [gI_set (by rw [Int.toNat_natCast]; exact hj), Int.toNat_natCast, List.getD_eq_getElem?_getD, List.getElem?_eq_getElem hj]
    by_cases e : i = j
    · subst e
      rw [Array.getElem?_setIfInBounds_self_of_lt (by omega), if_pos rfl]; rfl
    · rw [Array.getElem?_setIfInBounds_ne (by omega), hat i hi, if_neg e]
theorem OwnI.lt_ {w : World} {lo N g : Nat} {f : Nat → Int} (h : OwnI w lo (some ⟨g, 0, none⟩) N f) (hN : 0 < N) : lo ≤ g ∧ g < w.heap.size ∧ ∃ cs, Blk w g 3 cs := by
  obtain ⟨g', cs, e, hB, hl, _⟩ := h hN
  cases e
  exact ⟨hl, hB.lt, cs, hB⟩
theorem SetV.il_ {w : World} {lo n c : Nat} {A : Option Addr} {l : List Int} (h : SetV w lo (.slice A n c) l) : IL w lo w.heap.size A l := by
  rcases h with ⟨e, rfl⟩ | ⟨g, cs, e, hg, hB, h1, h2, h3⟩
  · exact IL.none_ _ _ _ _
  · injection e with e1 e2 e3
    subst e1
    refine ⟨by omega, fun hn => ⟨_, rfl, hg, hB.lt, fun k hk => ?_⟩⟩
    rw [add_zero_, hB.cell]
    exact h3 k hk
theorem OwnI.apart_ {w w' : World} {lo n g : Nat} {A : Option Addr} {f : Nat → Int} {t : TypeId} {cs : Array Value} (h : OwnI w lo A n f) (hb : Blk w g t cs) (hne : t ≠ 3) (ha : Apart (fun k => k = g) w w') : OwnI w' lo A n f := fun hn => by
  obtain ⟨g', cs', e, hB, h0⟩ := h hn
  exact ⟨g', cs', e, hB.apart ha (hB.ne_ hb (Ne.symm hne)), h0⟩
def kidsG (S : List Sl) (G : List Int) (k : Nat) : List Int := (G.take k).flatMap fun x => kidsOf S x.toNat
theorem kidsG_succ {S : List Sl} {G : List Int} {k : Nat} (h : k < G.length) : kidsG S G (k + 1) = kidsG S G k ++ kidsOf S G[k].toNat := by
  unfold kidsG
  rw [List.take_succ_eq_append_getElem h, List.flatMap_append]
  simp
theorem kidsG_le (S : List Sl) (G : List Int) (k : Nat) : (kidsG S G k).length ≤ (kidsG S G G.length).length := by
  unfold kidsG
  rw [List.take_length]
  conv => rhs; rw [← List.take_append_drop k G, List.flatMap_append, List.length_append]
  omega
theorem flat_filter {α : Type} (p : Nat → Bool) (f : Nat → List α) : ∀ l : List Nat, ((l.filter p).map fun n : Nat => (n : Int)).flatMap (fun x => f x.toNat) = l.flatMap fun j => if p j then f j else []
  | [] => rfl
  | a :: r => by
    have ih := flat_filter p f r
    cases h : p a
    · rw [List.filter_cons_of_neg (by simp [h]), List.flatMap_cons, ih]; simp [h]
    · rw [List.filter_cons_of_pos h, List.map_cons, List.flatMap_cons, List.flatMap_cons, ih]; simp [h]
open Classical in
theorem gray_dec {S : List Sl} {P : List Int} {j : Nat} (h : j < S.length) : gO (grayS S P) j = decide (Rch S (· ∈ P) j) := by
  have := gO_reachO (S := S) (F := P) h
  unfold grayS
  cases e : gO (reachO S P) j
  · symm; rw [decide_eq_false_iff_not]; intro h1; rw [this.2 h1] at e; cases e
  · symm; rw [decide_eq_true_iff]; exact this.1 e
theorem kidsG_all (S : List Sl) (P : List Int) : kidsG S (reachL S P) (reachL S P).length = grayTo S (grayS S P) S.length := by
  unfold kidsG grayTo
  rw [List.take_length]
  unfold reachL
  rw [flat_filter]
  refine congrArg List.flatten (List.map_congr_left fun j hj => ?_)
  rw [gray_dec (List.mem_range.1 hj)]
def keptG (G LF : List Int) (k : Nat) : List Int := (G.take k).filter fun x => decide (0 < gI LF x.toNat)
theorem keptG_yes {G LF : List Int} {k : Nat} (h : k < G.length) (hb : 0 < gI LF G[k].toNat) : keptG G LF (k + 1) = keptG G LF k ++ [G[k]] := by
  unfold keptG
  rw [List.take_succ_eq_append_getElem h, List.filter_append]
  simp [hb]
theorem keptG_no {G LF : List Int} {k : Nat} (h : k < G.length) (hb : ¬ 0 < gI LF G[k].toNat) : keptG G LF (k + 1) = keptG G LF k := by
  unfold keptG
  rw [List.take_succ_eq_append_getElem h, List.filter_append]
  simp [hb]
theorem keptG_le (G LF : List Int) (k : Nat) : (keptG G LF k).length ≤ k := Nat.le_trans (List.length_filter_le _ _) (by simp; omega)
theorem keptG_all (S : List Sl) (P LF : List Int) : keptG (reachL S P) LF (reachL S P).length = keptI S (grayS S P) LF S.length := by
  unfold keptG keptI
  rw [List.take_length]
  unfold reachL
  rw [List.filter_map, List.filter_filter]
  congr 1
  refine List.filter_congr fun n hn => ?_
  rw [gray_dec (List.mem_range.1 hn)]
  simp only [Function.comp, Int.toNat_natCast]
  rw [Bool.and_comm]
theorem reachL_in (S : List Sl) (F : List Int) : InR S.length (reachL S F) := InR.mem fun x hx => by
  obtain ⟨j, rfl, h, _⟩ := mem_reachL.1 hx
  omega
def jdg (col : List Int) (k : Nat) : List Int := (col.take k).map judge ++ col.drop k
theorem jdg_len (col : List Int) (k : Nat) : (jdg col k).length = col.length := by simp [jdg]; omega
theorem jdg_at {col : List Int} {k : Nat} (h : k < col.length) : (jdg col k)[k]'(by rw [jdg_len]; exact h) = col[k] := by
  unfold jdg
  rw [List.getElem_append_right (by simp; omega)]
  simp [List.getElem_drop, Nat.min_eq_left (Nat.le_of_lt h)]
theorem jdg_set {col : List Int} {k : Nat} (h : k < col.length) : (jdg col k).set k (judge col[k]) = jdg col (k + 1) := by
  unfold jdg
  rw [List.set_append_right _ _ (by simp; omega), List.take_succ_eq_append_getElem h, List.map_append, List.drop_eq_getElem_cons h]
  simp [Nat.min_eq_left (Nat.le_of_lt h)]
  rw [List.drop_eq_getElem_cons h]; rfl
theorem jdg_all (col : List Int) : jdg col col.length = col.map judge := by simp [jdg]
theorem colF_eq (S : List Sl) (P : List Int) : (paintL (paintL (List.replicate S.length 0) (reachL S P) 1) (reachL S (keptI S (grayS S P) (leftL S (grayS S P)) S.length)) 2).map judge = colF S P := by
  have hl1 : (paintL (List.replicate S.length 0) (reachL S P) 1).length = S.length := by rw [paintL_len]; simp
  refine List.ext_getElem (by rw [List.length_map, paintL_len, hl1, colF_len]) fun j h1 h2 => ?_
  have hj : j < S.length := by rw [colF_len] at h2; exact h2
  rw [List.getElem_map]
  have e1 := gI_get (l := paintL (paintL (List.replicate S.length 0) (reachL S P) 1) (reachL S (keptI S (grayS S P) (leftL S (grayS S P)) S.length)) 2) (i := j) (by rw [paintL_len, hl1]; exact hj)
  rw [← e1, paintL_at _ _ _ _ (fun x hx => by rw [hl1]; exact (reachL_in S _).at_mem hx), paintL_at _ _ _ _ (fun x hx => by rw [List.length_replicate]; exact (reachL_in S _).at_mem hx), ← gI_get h2, colF_at hj]
  have hz : gI (List.replicate S.length (0 : Int)) j = 0 := by unfold gI; rw [List.getD_eq_getElem?_getD, List.getElem?_eq_getElem (by simpa using hj)]; simp
  rw [hz]
  have hg : (j : Int) ∈ reachL S P ↔ gO (grayS S P) j = true := by
    rw [mem_reachL]
    unfold grayS
    rw [gO_reachO hj]
    refine ⟨fun h => ?_, fun h => ⟨j, rfl, hj, h⟩⟩
    obtain ⟨i, e, _, h⟩ := h
    obtain rfl : j = i := by omega
    exact h
  have hb : (j : Int) ∈ reachL S (keptI S (grayS S P) (leftL S (grayS S P)) S.length) ↔ gO (blackS S P) j = true := by
    rw [mem_reachL]
    unfold blackS
    rw [gO_reachO hj]
    refine ⟨fun h => ?_, fun h => ⟨j, rfl, hj, h⟩⟩
    obtain ⟨i, e, _, h⟩ := h
    obtain rfl : j = i := by omega
    exact h
  have hbg : gO (blackS S P) j = true → gO (grayS S P) j = true := fun h => by
    unfold blackS at h
    rw [gO_reachO hj] at h
    unfold grayS
    rw [gO_reachO hj]
    refine h.trans fun x hx => ?_
    unfold keptI at hx
    obtain ⟨n, hn, e⟩ := List.mem_map.1 hx
    obtain rfl : n = x := by omega
    obtain ⟨h1, h2⟩ := List.mem_filter.1 hn
    rw [Bool.and_eq_true] at h2
    exact (gO_reachO (List.mem_range.1 h1)).1 h2.1
  cases e2 : gO (blackS S P) j
  · rw [if_neg (fun h => by rw [hb.1 h] at e2; cases e2)]
    cases e3 : gO (grayS S P) j
    · rw [if_neg (fun h => by rw [hg.1 h] at e3; cases e3)]; rfl
    · rw [if_pos (hg.2 e3)]; rfl
  · rw [if_pos (hb.2 e2), hbg e2]; rfl
theorem OwnI.len_ {w : World} {lo n m : Nat} {A : Option Addr} {f : Nat → Int} (h : OwnI w lo A n f) (e : n = m) : OwnI w lo A m f := by subst e; exact h
theorem OwnI.cell_ {w : World} {lo N g i : Nat} {f : Nat → Int} (h : OwnI w lo (some ⟨g, 0, none⟩) N f) (hi : i < N) : w.cell? ⟨g, i, none⟩ = some (.int .i64 (f i)) := by
  obtain ⟨g', cs, e, hB, _, _, hat⟩ := h (by omega)
  cases e
  rw [hB.cell, hat i hi]
/-- what trialOf answers -/
def TriQ (w : World) (S : List Sl) (P : List Int) (e : Ending) (w' : World) : Prop :=
  ∃ gC CA cc, e = .returned (.agg #[.slice (some ⟨gC, 0, none⟩) S.length S.length, .slice CA S.length cc]) ∧ Blk w' gC 82 (vi (colF S P)).toArray ∧ w.heap.size ≤ gC ∧
    OwnI w' w.heap.size CA S.length (gI (leftL S (grayS S P))) ∧ Below w.heap.size w w'

set_option maxRecDepth 100000 in
set_option maxHeartbeats 16000000 in
theorem trialOf_c (S : List Sl) (Q P : List Int) (A0 A1 A2 : Option Addr) (c0 c1 c2 L B : Nat) (w : World) (hB : B ≤ w.heap.size) (h : ArL w L B A0 A1 A2 ⟨S, Q, P⟩) (hsz : arSz ⟨S, Q, P⟩ ≤ 1048576) (hok : arOk ⟨S, Q, P⟩ = true)
    (hroom : ∀ X : World, Below B w X → B ≤ X.heap.size → Calls Try.prog 40 #[.agg #[.slice A0 S.length c0, .slice A1 Q.length c1, .slice A2 P.length c2]] X (RoomQ X S (.slice A1 Q.length c1) (.slice A2 P.length c2) (arOk ⟨S, Q, P⟩))) :
    Calls Try.prog 49 #[.agg #[.slice A0 S.length c0, .slice A1 Q.length c1, .slice A2 P.length c2]] w (TriQ w S P) := by
  obtain ⟨hS1, hS16, -⟩ := arOk_at hok
  dsimp only at hS1 hS16
  have hsl : slsSz S ≤ 1048576 := by unfold arSz at hsz; dsimp only at hsz; omega
  have HS := Lib.hid (show InS S from InS.of_ok hok)
  have Hpu := Lib.hid (purple_in hok)
  have Hlb := Lib.hid (show Lb (cntTo S S.length) 0 from cnt_lb (a := ⟨S, Q, P⟩) hok)
  have Hsl := Lib.hid hsl
  have hbA : Below w.heap.size w ((w.alloc (.cells #[.slice A0 S.length c0, .slice A1 Q.length c1, .slice A2 P.length c2] 32)).alloc (.cells #[.slice none 0 0, .slice none 0 0] 77)) := ((Below.refl _ _).alloc (Nat.le_refl _) _).alloc (by simp) _
  have HR := Lib.hid (hroom _ (hbA.mono hB) (Nat.le_trans hB hbA.size))
  have HKq : Hid (Blk ((w.alloc (.cells #[.slice A0 S.length c0, .slice A1 Q.length c1, .slice A2 P.length c2] 32)).alloc (.cells #[.slice none 0 0, .slice none 0 0] 77)) (w.heap.size + 1) 77 #[.slice none 0 0, .slice none 0 0]) := Lib.hid (by
    have := Blk.new (w.alloc (.cells #[.slice A0 S.length c0, .slice A1 Q.length c1, .slice A2 P.length c2] 32)) 77 #[.slice none 0 0, .slice none 0 0]
    rwa [World.size_alloc] at this)
  have HbA := Lib.hid hbA
  have H := Lib.hid h
  have Hok := Lib.hid hok
  have hmk := run_make_row' (P := Try.prog) 75 82 (.int .i64 0) 8 Try.underlying75 infoCol rfl .i64 .i64 S.length (by omega) (by omega)
  rw [made_zero] at hmk
  clear h hsz hok hbA hsl hroom
  go_enter Try.func49, Try.ntmps49
  go_wp2_with fail
  refine HR.out.mono ?_
  rintro e w1 ⟨u0, u1, u2, u3, rfl, hb, hu, hyes⟩
  obtain ⟨A, c, rfl, hslot, -, rfl, rfl⟩ := hyes Hok.out
  obtain ⟨LA, ln, lc, rfl⟩ := hu u1 (by simp)
  have hbw1 := HbA.out.trans (hb.mono HbA.out.size)
  have HKq1 := HKq.out.below hb HKq.out.lt
  have hbr := blw1 w1 (.cells #[.slice A S.length c, .slice LA ln lc, .slice A1 Q.length c1, .slice A2 P.length c2] 66)
  have HKR := Lib.hid (Blk.new w1 66 #[.slice A S.length c, .slice LA ln lc, .slice A1 Q.length c1, .slice A2 P.length c2])
  have HKQ := Lib.hid (HKq1.below hbr HKq1.lt)
  have Hb2 := Lib.hid (hbw1.trans (hbr.mono hbw1.size))
  have HSl := Lib.hid ((hslot.below hbr).more (Nat.le_refl 0) hbr.size)
  clear hu hyes hb HR HKq HbA hbw1 HKq1 hbr hslot
  go_wp2_with fail
  generalize hW2 : w1.alloc (.cells #[.slice A S.length c, .slice LA ln lc, .slice A1 Q.length c1, .slice A2 P.length c2] 66) = w2
  rw [hW2] at HKR HKQ Hb2 HSl
  obtain ⟨rB, hrB⟩ : ∃ r, r = w1.heap.size := ⟨_, rfl⟩
  rw [← hrB] at HKR
  rw [← hrB]
  clear hW2 hrB
  have Hcn := Lib.hid (fun W (hW : Below w2.heap.size w2 W) => counts_c S A LA A1 A2 c ln lc Q.length c1 P.length c2 W (by omega) ((HSl.out.below hW).more (Nat.le_refl _) hW.size))
  have hCl := cntTo_len (Nat.le_refl S.length)
  obtain ⟨Cn, hCn⟩ : ∃ c, c = cntTo S S.length := ⟨_, rfl⟩
  rw [← hCn] at Hcn hCl Hlb
  have HCn := Lib.hid hCn
  have HCl := Lib.hid hCl
  have HbP := Lib.hid (show Below w2.heap.size w2 w2 from Below.refl _ _)
  have HKR9 := HKR
  clear hCn hCl
  go_upto_region 2 with fail
  go_cut [5] (fun p wx => ∃ (gC gT : Nat) (CA : Option Addr) (cc : Nat), p = .pointer (some ⟨gT, 0, none⟩) ∧ Hid (Blk wx gC 82 (vi (List.replicate S.length 0)).toArray) ∧ Hid (Blk wx gT 77 #[.slice (some ⟨gC, 0, none⟩) S.length S.length, .slice CA Cn.length cc]) ∧ Hid (Below w2.heap.size w2 wx) ∧ Hid (OwnI wx w2.heap.size CA Cn.length (gI Cn)) ∧ Hid (w2.heap.size ≤ gC))
  case first =>
    have HKR := Lib.hid HKR.out.drew
    have HbP := Lib.hid (show Below w2.heap.size w2 w2.drew from ⟨rfl, rfl, rfl, Nat.le_refl _, fun _ _ => rfl⟩)
    refine wp_region_noPanic ?_
    refine wp_region_held_drew (S := (fun W => Blk W rB 66 #[.slice A S.length c, .slice LA ln lc, .slice A1 Q.length c1, .slice A2 P.length c2])) (by kernel_rfl) ?_ (fun hHeld => ?_)
    · exact HKR.out
    refine wpAnyH_take (i := 0) (oi := _) (v := ?_) rfl (by kernel_rfl) (by kernel_rfl) (by kernel_rfl) (fun _ _ _ h => h) (Or.inl ⟨by rfl, ?_⟩) (by assumption) ?_
    rotate_left
    focus
      intro w hSw
      obtain ⟨qs10, qs11, qs12, qs13⟩ := Blk.four_ hSw
      go_simp
      try with_reducible rfl
    try simp only [List.getElem_toArray, List.getElem_cons_succ, List.getElem_cons_zero, Act.put, List.setIfInBounds_toArray, List.set_cons_zero, List.set_cons_succ]
    refine wpAnyH_take (i := 1) (oi := _) (v := ?_) rfl (by kernel_rfl) (by kernel_rfl) (by kernel_rfl) (fun _ _ _ h => h) (Or.inl ⟨by rfl, ?_⟩) (by assumption) ?_
    rotate_left
    focus
      intro w hSw
      obtain ⟨qs10, qs11, qs12, qs13⟩ := Blk.four_ hSw
      go_simp
      try with_reducible rfl
    try simp only [List.getElem_toArray, List.getElem_cons_succ, List.getElem_cons_zero, Act.put, List.setIfInBounds_toArray, List.set_cons_zero, List.set_cons_succ]
    refine wpAnyH_take (i := 2) (oi := _) (v := ?_) rfl (by kernel_rfl) (by kernel_rfl) (by kernel_rfl) (fun _ _ _ h => h) (Or.inl ⟨by rfl, ?_⟩) (by assumption) ?_
    rotate_left
    focus
      intro w hSw
      obtain ⟨qs10, qs11, qs12, qs13⟩ := Blk.four_ hSw
      go_simp
      try with_reducible rfl
    try simp only [List.getElem_toArray, List.getElem_cons_succ, List.getElem_cons_zero, Act.put, List.setIfInBounds_toArray, List.set_cons_zero, List.set_cons_succ]
    refine wpAnyH_take (i := 4) (oi := _) (v := ?_) rfl (by kernel_rfl) (by kernel_rfl) (by kernel_rfl) (fun _ _ _ h => h) (Or.inl ⟨by rfl, ?_⟩) (by assumption) ?_
    rotate_left
    focus
      intro w hSw
      obtain ⟨qs10, qs11, qs12, qs13⟩ := Blk.four_ hSw
      go_simp
      try with_reducible rfl
    try simp only [List.getElem_toArray, List.getElem_cons_succ, List.getElem_cons_zero, Act.put, List.setIfInBounds_toArray, List.set_cons_zero, List.set_cons_succ]
    refine wpAnyH_ready (rs := [3, 5, 7]) (by kernel_rfl) (by simp) ?_
    refine AllReadyH.cons (o := _) rfl (fun K hK => ?_) ?_
    · go_simp
      have HKRB := HKR
      have HbPB := HbP
      have hst := blw1 w2.drew (.cells (vi (List.replicate S.length 0)).toArray 82)
      have hmk : Hid (Blk (w2.drew.alloc (.cells (vi (List.replicate S.length 0)).toArray 82)) (w2.heap.size) 82 (vi (List.replicate S.length 0)).toArray) := Lib.hid (by have := Blk.new w2.drew 82 (vi (List.replicate S.length 0)).toArray; first | exact this | (simp only [World.size_alloc] at this; exact this) | (simp only [World.size_alloc] at this ⊢; omega))
      have hmkg : Hid (w2.heap.size ≤ w2.heap.size) := Lib.hid (by have := HbP.out.size; first | exact this | (simp only [World.size_alloc] at this; exact this) | (simp only [World.size_alloc] at this ⊢; omega))
      have HKR := Lib.hid (HKR.out.below hst HKR.out.lt)
      have HbP := Lib.hid (HbP.out.trans (hst.mono HbP.out.size))
      clear hst
      refine hK.out _ _ ?_ (fun hHeld => ?_)
      · exact HKR.out
      · clear hK K
        try simp only [List.getElem_toArray, List.getElem_cons_succ, List.getElem_cons_zero, Act.put, List.setIfInBounds_toArray, List.set_cons_zero, List.set_cons_succ]
        refine wpAnyH_ready (rs := [5, 7]) (by kernel_rfl) (by simp) ?_
        refine AllReadyH.cons (o := _) rfl (fun K hK => ?_) ?_
        · go_simp
          refine Calls.mono (Hcn.out (w2.drew.alloc (.cells (vi (List.replicate S.length 0)).toArray 82)) HbP.out) ?_
          rintro e w3 ⟨CA, cc, rfl, hco, hb⟩
          have hsz0 := HbP.out.size
          have hst := hb
          have HKR := Lib.hid (HKR.out.below hst HKR.out.lt)
          have HbP := Lib.hid (HbP.out.trans (hst.mono HbP.out.size))
          have hmk := Lib.hid (hmk.out.below hst hmk.out.lt)
          have HCo := Lib.hid (hco.lo_le hsz0)
          clear hst hb hsz0 hco
          refine hK.out _ _ ?_ (fun hHeld => ?_)
          · exact HKR.out
          · clear hK K
            try simp only [List.getElem_toArray, List.getElem_cons_succ, List.getElem_cons_zero, Act.put, List.setIfInBounds_toArray, List.set_cons_zero, List.set_cons_succ]
            refine wpAnyH_take (i := 6) (oi := _) (v := ?_) rfl (by kernel_rfl) (by kernel_rfl) (by kernel_rfl) (fun _ _ _ h => h) (Or.inl ⟨by rfl, ?_⟩) (by assumption) ?_
            rotate_left
            focus
              intro w hSw
              obtain ⟨qs10, qs11, qs12, qs13⟩ := Blk.four_ hSw
              go_simp
              try with_reducible rfl
            try simp only [List.getElem_toArray, List.getElem_cons_succ, List.getElem_cons_zero, Act.put, List.setIfInBounds_toArray, List.set_cons_zero, List.set_cons_succ]
            refine wpAnyH_ready (rs := [7]) (by kernel_rfl) (by simp) ?_
            refine AllReadyH.cons (o := _) rfl (fun K hK => ?_) ?_
            · go_simp
              have HKRB := HKR
              have HbPB := HbP
              have hmkB := hmk
              have HCoB := HCo
              have hst := blw1 w3 (.cells #[.slice none 0 0, .slice none 0 0] 77)
              have hbox : Hid (Blk (w3.alloc (.cells #[.slice none 0 0, .slice none 0 0] 77)) (w3.heap.size) 77 #[.slice none 0 0, .slice none 0 0]) := Lib.hid (by have := Blk.new w3 77 #[.slice none 0 0, .slice none 0 0]; first | exact this | (simp only [World.size_alloc] at this; exact this) | (simp only [World.size_alloc] at this ⊢; omega))
              have hboxg : Hid (w2.heap.size ≤ w3.heap.size) := Lib.hid (by have := HbP.out.size; first | exact this | (simp only [World.size_alloc] at this; exact this) | (simp only [World.size_alloc] at this ⊢; omega))
              have HKR := Lib.hid (HKR.out.below hst HKR.out.lt)
              have HbP := Lib.hid (HbP.out.trans (hst.mono HbP.out.size))
              have hmk := Lib.hid (hmk.out.below hst hmk.out.lt)
              have HCo := Lib.hid (HCo.out.below hst)
              clear hst
              refine hK.out _ _ ?_ (fun hHeld => ?_)
              · exact HKR.out
              · clear hK K
                try simp only [List.getElem_toArray, List.getElem_cons_succ, List.getElem_cons_zero, Act.put, List.setIfInBounds_toArray, List.set_cons_zero, List.set_cons_succ]
                refine wpAnyH_ready (rs := [8]) (by kernel_rfl) (by simp) ?_
                refine AllReadyH.cons (o := _) rfl (fun K hK => ?_) ?_
                · have z7_0 := hbox.out.cel 0 rfl
                  have z7_1 := hbox.out.cel 1 rfl
                  have y7_0 := hbox.out.frozen 0
                  have y7_1 := hbox.out.frozen 1
                  go_simp
                  have HKR := HKRB
                  have HbP := HbPB
                  have hmk := hmkB
                  have HCo := HCoB
                  have hst := blw1 w3 (.cells #[.slice (some ⟨w2.heap.size, 0, none⟩) S.length S.length, .slice CA Cn.length cc] 77)
                  have hbox : Hid (Blk (w3.alloc (.cells #[.slice (some ⟨w2.heap.size, 0, none⟩) S.length S.length, .slice CA Cn.length cc] 77)) (w3.heap.size) 77 #[.slice (some ⟨w2.heap.size, 0, none⟩) S.length S.length, .slice CA Cn.length cc]) := Lib.hid (by have := Blk.new w3 77 #[.slice (some ⟨w2.heap.size, 0, none⟩) S.length S.length, .slice CA Cn.length cc]; first | exact this | (simp only [World.size_alloc] at this; exact this) | (simp only [World.size_alloc] at this ⊢; omega))
                  have hboxg : Hid (w2.heap.size ≤ w3.heap.size) := Lib.hid (by have := HbP.out.size; first | exact this | (simp only [World.size_alloc] at this; exact this) | (simp only [World.size_alloc] at this ⊢; omega))
                  have HKR := Lib.hid (HKR.out.below hst HKR.out.lt)
                  have HbP := Lib.hid (HbP.out.trans (hst.mono HbP.out.size))
                  have hmk := Lib.hid (hmk.out.below hst hmk.out.lt)
                  have HCo := Lib.hid (HCo.out.below hst)
                  clear hst
                  refine hK.out _ _ ?_ (fun hHeld => ?_)
                  · exact HKR.out
                  · clear hK K
                    try simp only [List.getElem_toArray, List.getElem_cons_succ, List.getElem_cons_zero, Act.put, List.setIfInBounds_toArray, List.set_cons_zero, List.set_cons_succ]
                    refine wpAnyH_done (by kernel_rfl) ?_ _
                    refine NoPanic.normal ?_
                    try go_wp2_with fail
                    go_meet
                    case rel => exact ⟨w2.heap.size, w3.heap.size, CA, cc, rfl, hmk, hbox, HbP, HCo, hmkg⟩
                exact AllReadyH.nil
            exact AllReadyH.nil
        refine AllReadyH.cons (o := _) rfl (fun K hK => ?_) ?_
        · go_simp
          have hst := blw1 (w2.drew.alloc (.cells (vi (List.replicate S.length 0)).toArray 82)) (.cells #[.slice none 0 0, .slice none 0 0] 77)
          have hbox : Hid (Blk ((w2.drew.alloc (.cells (vi (List.replicate S.length 0)).toArray 82)).alloc (.cells #[.slice none 0 0, .slice none 0 0] 77)) (w2.heap.size + 1) 77 #[.slice none 0 0, .slice none 0 0]) := Lib.hid (by have := Blk.new (w2.drew.alloc (.cells (vi (List.replicate S.length 0)).toArray 82)) 77 #[.slice none 0 0, .slice none 0 0]; first | exact this | (simp only [World.size_alloc] at this; exact this) | (simp only [World.size_alloc] at this ⊢; omega))
          have hboxg : Hid (w2.heap.size ≤ w2.heap.size + 1) := Lib.hid (by have := HbP.out.size; first | exact this | (simp only [World.size_alloc] at this; exact this) | (simp only [World.size_alloc] at this ⊢; omega))
          have HKR := Lib.hid (HKR.out.below hst HKR.out.lt)
          have HbP := Lib.hid (HbP.out.trans (hst.mono HbP.out.size))
          have hmk := Lib.hid (hmk.out.below hst hmk.out.lt)
          clear hst
          refine hK.out _ _ ?_ (fun hHeld => ?_)
          · exact HKR.out
          · clear hK K
            try simp only [List.getElem_toArray, List.getElem_cons_succ, List.getElem_cons_zero, Act.put, List.setIfInBounds_toArray, List.set_cons_zero, List.set_cons_succ]
            refine wpAnyH_ready (rs := [5]) (by kernel_rfl) (by simp) ?_
            refine AllReadyH.cons (o := _) rfl (fun K hK => ?_) ?_
            · go_simp
              refine Calls.mono (Hcn.out ((w2.drew.alloc (.cells (vi (List.replicate S.length 0)).toArray 82)).alloc (.cells #[.slice none 0 0, .slice none 0 0] 77)) HbP.out) ?_
              rintro e w3 ⟨CA, cc, rfl, hco, hb⟩
              have hsz0 := HbP.out.size
              have hst := hb
              have HKR := Lib.hid (HKR.out.below hst HKR.out.lt)
              have HbP := Lib.hid (HbP.out.trans (hst.mono HbP.out.size))
              have hmk := Lib.hid (hmk.out.below hst hmk.out.lt)
              have hbox := Lib.hid (hbox.out.below hst hbox.out.lt)
              have HCo := Lib.hid (hco.lo_le hsz0)
              clear hst hb hsz0 hco
              refine hK.out _ _ ?_ (fun hHeld => ?_)
              · exact HKR.out
              · clear hK K
                try simp only [List.getElem_toArray, List.getElem_cons_succ, List.getElem_cons_zero, Act.put, List.setIfInBounds_toArray, List.set_cons_zero, List.set_cons_succ]
                refine wpAnyH_take (i := 6) (oi := _) (v := ?_) rfl (by kernel_rfl) (by kernel_rfl) (by kernel_rfl) (fun _ _ _ h => h) (Or.inl ⟨by rfl, ?_⟩) (by assumption) ?_
                rotate_left
                focus
                  intro w hSw
                  obtain ⟨qs10, qs11, qs12, qs13⟩ := Blk.four_ hSw
                  go_simp
                  try with_reducible rfl
                try simp only [List.getElem_toArray, List.getElem_cons_succ, List.getElem_cons_zero, Act.put, List.setIfInBounds_toArray, List.set_cons_zero, List.set_cons_succ]
                refine wpAnyH_ready (rs := [8]) (by kernel_rfl) (by simp) ?_
                refine AllReadyH.cons (o := _) rfl (fun K hK => ?_) ?_
                · have z7_0 := hbox.out.cel 0 rfl
                  have z7_1 := hbox.out.cel 1 rfl
                  have y7_0 := hbox.out.frozen 0
                  have y7_1 := hbox.out.frozen 1
                  go_simp
                  have HKR := Lib.hid ((HKR.out.far (p := ⟨w2.heap.size + 1, 0, none⟩) (Blk.ne_ HKR.out hbox.out (by decide)) (.slice (some ⟨w2.heap.size, 0, none⟩) S.length S.length)).far (p := ⟨w2.heap.size + 1, 1, none⟩) (Blk.ne_ HKR.out hbox.out (by decide)) (.slice CA Cn.length cc))
                  have HbP := Lib.hid ((HbP.out.setCell (p := ⟨w2.heap.size + 1, 0, none⟩) hboxg.out (.slice (some ⟨w2.heap.size, 0, none⟩) S.length S.length)).setCell (p := ⟨w2.heap.size + 1, 1, none⟩) hboxg.out (.slice CA Cn.length cc))
                  have hmk := Lib.hid ((hmk.out.far (p := ⟨w2.heap.size + 1, 0, none⟩) (Blk.ne_ hmk.out hbox.out (by decide)) (.slice (some ⟨w2.heap.size, 0, none⟩) S.length S.length)).far (p := ⟨w2.heap.size + 1, 1, none⟩) (Blk.ne_ hmk.out hbox.out (by decide)) (.slice CA Cn.length cc))
                  have HCo := Lib.hid (((HCo.out.far hbox.out (by decide) 0 (.slice (some ⟨w2.heap.size, 0, none⟩) S.length S.length)).far (hbox.out.set_ 0 (.slice (some ⟨w2.heap.size, 0, none⟩) S.length S.length)) (by decide) 1 (.slice CA Cn.length cc)))
                  have hbox := Lib.hid ((hbox.out.set_ 0 (.slice (some ⟨w2.heap.size, 0, none⟩) S.length S.length)).set_ 1 (.slice CA Cn.length cc))
                  refine hK.out _ _ ?_ (fun hHeld => ?_)
                  · exact HKR.out
                  · clear hK K
                    try simp only [List.getElem_toArray, List.getElem_cons_succ, List.getElem_cons_zero, Act.put, List.setIfInBounds_toArray, List.set_cons_zero, List.set_cons_succ]
                    refine wpAnyH_done (by kernel_rfl) ?_ _
                    refine NoPanic.normal ?_
                    try go_wp2_with fail
                    go_meet
                    case rel => exact ⟨w2.heap.size, w2.heap.size + 1, CA, cc, rfl, hmk, hbox, HbP, HCo, hmkg⟩
                exact AllReadyH.nil
            exact AllReadyH.nil
        exact AllReadyH.nil
    refine AllReadyH.cons (o := _) rfl (fun K hK => ?_) ?_
    · go_simp
      refine Calls.mono (Hcn.out w2.drew HbP.out) ?_
      rintro e w3 ⟨CA, cc, rfl, hco, hb⟩
      have hsz0 := HbP.out.size
      have hst := hb
      have HKR := Lib.hid (HKR.out.below hst HKR.out.lt)
      have HbP := Lib.hid (HbP.out.trans (hst.mono HbP.out.size))
      have HCo := Lib.hid (hco.lo_le hsz0)
      clear hst hb hsz0 hco
      refine hK.out _ _ ?_ (fun hHeld => ?_)
      · exact HKR.out
      · clear hK K
        try simp only [List.getElem_toArray, List.getElem_cons_succ, List.getElem_cons_zero, Act.put, List.setIfInBounds_toArray, List.set_cons_zero, List.set_cons_succ]
        refine wpAnyH_ready (rs := [3, 7]) (by kernel_rfl) (by simp) ?_
        refine AllReadyH.cons (o := _) rfl (fun K hK => ?_) ?_
        · go_simp
          have HKRB := HKR
          have HbPB := HbP
          have HCoB := HCo
          have hst := blw1 w3 (.cells (vi (List.replicate S.length 0)).toArray 82)
          have hmk : Hid (Blk (w3.alloc (.cells (vi (List.replicate S.length 0)).toArray 82)) (w3.heap.size) 82 (vi (List.replicate S.length 0)).toArray) := Lib.hid (by have := Blk.new w3 82 (vi (List.replicate S.length 0)).toArray; first | exact this | (simp only [World.size_alloc] at this; exact this) | (simp only [World.size_alloc] at this ⊢; omega))
          have hmkg : Hid (w2.heap.size ≤ w3.heap.size) := Lib.hid (by have := HbP.out.size; first | exact this | (simp only [World.size_alloc] at this; exact this) | (simp only [World.size_alloc] at this ⊢; omega))
          have HKR := Lib.hid (HKR.out.below hst HKR.out.lt)
          have HbP := Lib.hid (HbP.out.trans (hst.mono HbP.out.size))
          have HCo := Lib.hid (HCo.out.below hst)
          clear hst
          refine hK.out _ _ ?_ (fun hHeld => ?_)
          · exact HKR.out
          · clear hK K
            try simp only [List.getElem_toArray, List.getElem_cons_succ, List.getElem_cons_zero, Act.put, List.setIfInBounds_toArray, List.set_cons_zero, List.set_cons_succ]
            refine wpAnyH_take (i := 6) (oi := _) (v := ?_) rfl (by kernel_rfl) (by kernel_rfl) (by kernel_rfl) (fun _ _ _ h => h) (Or.inl ⟨by rfl, ?_⟩) (by assumption) ?_
            rotate_left
            focus
              intro w hSw
              obtain ⟨qs10, qs11, qs12, qs13⟩ := Blk.four_ hSw
              go_simp
              try with_reducible rfl
            try simp only [List.getElem_toArray, List.getElem_cons_succ, List.getElem_cons_zero, Act.put, List.setIfInBounds_toArray, List.set_cons_zero, List.set_cons_succ]
            refine wpAnyH_ready (rs := [7]) (by kernel_rfl) (by simp) ?_
            refine AllReadyH.cons (o := _) rfl (fun K hK => ?_) ?_
            · go_simp
              have hst := blw1 (w3.alloc (.cells (vi (List.replicate S.length 0)).toArray 82)) (.cells #[.slice none 0 0, .slice none 0 0] 77)
              have hbox : Hid (Blk ((w3.alloc (.cells (vi (List.replicate S.length 0)).toArray 82)).alloc (.cells #[.slice none 0 0, .slice none 0 0] 77)) (w3.heap.size + 1) 77 #[.slice none 0 0, .slice none 0 0]) := Lib.hid (by have := Blk.new (w3.alloc (.cells (vi (List.replicate S.length 0)).toArray 82)) 77 #[.slice none 0 0, .slice none 0 0]; first | exact this | (simp only [World.size_alloc] at this; exact this) | (simp only [World.size_alloc] at this ⊢; omega))
              have hboxg : Hid (w2.heap.size ≤ w3.heap.size + 1) := Lib.hid (by have := HbP.out.size; first | exact this | (simp only [World.size_alloc] at this; exact this) | (simp only [World.size_alloc] at this ⊢; omega))
              have HKR := Lib.hid (HKR.out.below hst HKR.out.lt)
              have HbP := Lib.hid (HbP.out.trans (hst.mono HbP.out.size))
              have HCo := Lib.hid (HCo.out.below hst)
              have hmk := Lib.hid (hmk.out.below hst hmk.out.lt)
              clear hst
              refine hK.out _ _ ?_ (fun hHeld => ?_)
              · exact HKR.out
              · clear hK K
                try simp only [List.getElem_toArray, List.getElem_cons_succ, List.getElem_cons_zero, Act.put, List.setIfInBounds_toArray, List.set_cons_zero, List.set_cons_succ]
                refine wpAnyH_ready (rs := [8]) (by kernel_rfl) (by simp) ?_
                refine AllReadyH.cons (o := _) rfl (fun K hK => ?_) ?_
                · have z7_0 := hbox.out.cel 0 rfl
                  have z7_1 := hbox.out.cel 1 rfl
                  have y7_0 := hbox.out.frozen 0
                  have y7_1 := hbox.out.frozen 1
                  go_simp
                  have HKR := HKRB
                  have HbP := HbPB
                  have HCo := HCoB
                  have hst := blw1 w3 (.cells (vi (List.replicate S.length 0)).toArray 82)
                  have hmk : Hid (Blk (w3.alloc (.cells (vi (List.replicate S.length 0)).toArray 82)) (w3.heap.size) 82 (vi (List.replicate S.length 0)).toArray) := Lib.hid (by have := Blk.new w3 82 (vi (List.replicate S.length 0)).toArray; first | exact this | (simp only [World.size_alloc] at this; exact this) | (simp only [World.size_alloc] at this ⊢; omega))
                  have hmkg : Hid (w2.heap.size ≤ w3.heap.size) := Lib.hid (by have := HbP.out.size; first | exact this | (simp only [World.size_alloc] at this; exact this) | (simp only [World.size_alloc] at this ⊢; omega))
                  have HKR := Lib.hid (HKR.out.below hst HKR.out.lt)
                  have HbP := Lib.hid (HbP.out.trans (hst.mono HbP.out.size))
                  have HCo := Lib.hid (HCo.out.below hst)
                  clear hst
                  have hst := blw1 (w3.alloc (.cells (vi (List.replicate S.length 0)).toArray 82)) (.cells #[.slice (some ⟨w3.heap.size, 0, none⟩) S.length S.length, .slice CA Cn.length cc] 77)
                  have hbox : Hid (Blk ((w3.alloc (.cells (vi (List.replicate S.length 0)).toArray 82)).alloc (.cells #[.slice (some ⟨w3.heap.size, 0, none⟩) S.length S.length, .slice CA Cn.length cc] 77)) (w3.heap.size + 1) 77 #[.slice (some ⟨w3.heap.size, 0, none⟩) S.length S.length, .slice CA Cn.length cc]) := Lib.hid (by have := Blk.new (w3.alloc (.cells (vi (List.replicate S.length 0)).toArray 82)) 77 #[.slice (some ⟨w3.heap.size, 0, none⟩) S.length S.length, .slice CA Cn.length cc]; first | exact this | (simp only [World.size_alloc] at this; exact this) | (simp only [World.size_alloc] at this ⊢; omega))
                  have hboxg : Hid (w2.heap.size ≤ w3.heap.size + 1) := Lib.hid (by have := HbP.out.size; first | exact this | (simp only [World.size_alloc] at this; exact this) | (simp only [World.size_alloc] at this ⊢; omega))
                  have HKR := Lib.hid (HKR.out.below hst HKR.out.lt)
                  have HbP := Lib.hid (HbP.out.trans (hst.mono HbP.out.size))
                  have HCo := Lib.hid (HCo.out.below hst)
                  have hmk := Lib.hid (hmk.out.below hst hmk.out.lt)
                  clear hst
                  refine hK.out _ _ ?_ (fun hHeld => ?_)
                  · exact HKR.out
                  · clear hK K
                    try simp only [List.getElem_toArray, List.getElem_cons_succ, List.getElem_cons_zero, Act.put, List.setIfInBounds_toArray, List.set_cons_zero, List.set_cons_succ]
                    refine wpAnyH_done (by kernel_rfl) ?_ _
                    refine NoPanic.normal ?_
                    try go_wp2_with fail
                    go_meet
                    case rel => exact ⟨w3.heap.size, w3.heap.size + 1, CA, cc, rfl, hmk, hbox, HbP, HCo, hmkg⟩
                exact AllReadyH.nil
            exact AllReadyH.nil
        refine AllReadyH.cons (o := _) rfl (fun K hK => ?_) ?_
        · go_simp
          have HKRB := HKR
          have HbPB := HbP
          have HCoB := HCo
          have hst := blw1 w3 (.cells #[.slice none 0 0, .slice none 0 0] 77)
          have hbox : Hid (Blk (w3.alloc (.cells #[.slice none 0 0, .slice none 0 0] 77)) (w3.heap.size) 77 #[.slice none 0 0, .slice none 0 0]) := Lib.hid (by have := Blk.new w3 77 #[.slice none 0 0, .slice none 0 0]; first | exact this | (simp only [World.size_alloc] at this; exact this) | (simp only [World.size_alloc] at this ⊢; omega))
          have hboxg : Hid (w2.heap.size ≤ w3.heap.size) := Lib.hid (by have := HbP.out.size; first | exact this | (simp only [World.size_alloc] at this; exact this) | (simp only [World.size_alloc] at this ⊢; omega))
          have HKR := Lib.hid (HKR.out.below hst HKR.out.lt)
          have HbP := Lib.hid (HbP.out.trans (hst.mono HbP.out.size))
          have HCo := Lib.hid (HCo.out.below hst)
          clear hst
          refine hK.out _ _ ?_ (fun hHeld => ?_)
          · exact HKR.out
          · clear hK K
            try simp only [List.getElem_toArray, List.getElem_cons_succ, List.getElem_cons_zero, Act.put, List.setIfInBounds_toArray, List.set_cons_zero, List.set_cons_succ]
            refine wpAnyH_ready (rs := [3]) (by kernel_rfl) (by simp) ?_
            refine AllReadyH.cons (o := _) rfl (fun K hK => ?_) ?_
            · go_simp
              have hst := blw1 (w3.alloc (.cells #[.slice none 0 0, .slice none 0 0] 77)) (.cells (vi (List.replicate S.length 0)).toArray 82)
              have hmk : Hid (Blk ((w3.alloc (.cells #[.slice none 0 0, .slice none 0 0] 77)).alloc (.cells (vi (List.replicate S.length 0)).toArray 82)) (w3.heap.size + 1) 82 (vi (List.replicate S.length 0)).toArray) := Lib.hid (by have := Blk.new (w3.alloc (.cells #[.slice none 0 0, .slice none 0 0] 77)) 82 (vi (List.replicate S.length 0)).toArray; first | exact this | (simp only [World.size_alloc] at this; exact this) | (simp only [World.size_alloc] at this ⊢; omega))
              have hmkg : Hid (w2.heap.size ≤ w3.heap.size + 1) := Lib.hid (by have := HbP.out.size; first | exact this | (simp only [World.size_alloc] at this; exact this) | (simp only [World.size_alloc] at this ⊢; omega))
              have HKR := Lib.hid (HKR.out.below hst HKR.out.lt)
              have HbP := Lib.hid (HbP.out.trans (hst.mono HbP.out.size))
              have HCo := Lib.hid (HCo.out.below hst)
              have hbox := Lib.hid (hbox.out.below hst hbox.out.lt)
              clear hst
              refine hK.out _ _ ?_ (fun hHeld => ?_)
              · exact HKR.out
              · clear hK K
                try simp only [List.getElem_toArray, List.getElem_cons_succ, List.getElem_cons_zero, Act.put, List.setIfInBounds_toArray, List.set_cons_zero, List.set_cons_succ]
                refine wpAnyH_take (i := 6) (oi := _) (v := ?_) rfl (by kernel_rfl) (by kernel_rfl) (by kernel_rfl) (fun _ _ _ h => h) (Or.inl ⟨by rfl, ?_⟩) (by assumption) ?_
                rotate_left
                focus
                  intro w hSw
                  obtain ⟨qs10, qs11, qs12, qs13⟩ := Blk.four_ hSw
                  go_simp
                  try with_reducible rfl
                try simp only [List.getElem_toArray, List.getElem_cons_succ, List.getElem_cons_zero, Act.put, List.setIfInBounds_toArray, List.set_cons_zero, List.set_cons_succ]
                refine wpAnyH_ready (rs := [8]) (by kernel_rfl) (by simp) ?_
                refine AllReadyH.cons (o := _) rfl (fun K hK => ?_) ?_
                · have z7_0 := hbox.out.cel 0 rfl
                  have z7_1 := hbox.out.cel 1 rfl
                  have y7_0 := hbox.out.frozen 0
                  have y7_1 := hbox.out.frozen 1
                  go_simp
                  have HKR := HKRB
                  have HbP := HbPB
                  have HCo := HCoB
                  have hst := blw1 w3 (.cells #[.slice (some ⟨w3.heap.size + 1, 0, none⟩) S.length S.length, .slice CA Cn.length cc] 77)
                  have hbox : Hid (Blk (w3.alloc (.cells #[.slice (some ⟨w3.heap.size + 1, 0, none⟩) S.length S.length, .slice CA Cn.length cc] 77)) (w3.heap.size) 77 #[.slice (some ⟨w3.heap.size + 1, 0, none⟩) S.length S.length, .slice CA Cn.length cc]) := Lib.hid (by have := Blk.new w3 77 #[.slice (some ⟨w3.heap.size + 1, 0, none⟩) S.length S.length, .slice CA Cn.length cc]; first | exact this | (simp only [World.size_alloc] at this; exact this) | (simp only [World.size_alloc] at this ⊢; omega))
                  have hboxg : Hid (w2.heap.size ≤ w3.heap.size) := Lib.hid (by have := HbP.out.size; first | exact this | (simp only [World.size_alloc] at this; exact this) | (simp only [World.size_alloc] at this ⊢; omega))
                  have HKR := Lib.hid (HKR.out.below hst HKR.out.lt)
                  have HbP := Lib.hid (HbP.out.trans (hst.mono HbP.out.size))
                  have HCo := Lib.hid (HCo.out.below hst)
                  clear hst
                  have hst := blw1 (w3.alloc (.cells #[.slice (some ⟨w3.heap.size + 1, 0, none⟩) S.length S.length, .slice CA Cn.length cc] 77)) (.cells (vi (List.replicate S.length 0)).toArray 82)
                  have hmk : Hid (Blk ((w3.alloc (.cells #[.slice (some ⟨w3.heap.size + 1, 0, none⟩) S.length S.length, .slice CA Cn.length cc] 77)).alloc (.cells (vi (List.replicate S.length 0)).toArray 82)) (w3.heap.size + 1) 82 (vi (List.replicate S.length 0)).toArray) := Lib.hid (by have := Blk.new (w3.alloc (.cells #[.slice (some ⟨w3.heap.size + 1, 0, none⟩) S.length S.length, .slice CA Cn.length cc] 77)) 82 (vi (List.replicate S.length 0)).toArray; first | exact this | (simp only [World.size_alloc] at this; exact this) | (simp only [World.size_alloc] at this ⊢; omega))
                  have hmkg : Hid (w2.heap.size ≤ w3.heap.size + 1) := Lib.hid (by have := HbP.out.size; first | exact this | (simp only [World.size_alloc] at this; exact this) | (simp only [World.size_alloc] at this ⊢; omega))
                  have HKR := Lib.hid (HKR.out.below hst HKR.out.lt)
                  have HbP := Lib.hid (HbP.out.trans (hst.mono HbP.out.size))
                  have HCo := Lib.hid (HCo.out.below hst)
                  have hbox := Lib.hid (hbox.out.below hst hbox.out.lt)
                  clear hst
                  refine hK.out _ _ ?_ (fun hHeld => ?_)
                  · exact HKR.out
                  · clear hK K
                    try simp only [List.getElem_toArray, List.getElem_cons_succ, List.getElem_cons_zero, Act.put, List.setIfInBounds_toArray, List.set_cons_zero, List.set_cons_succ]
                    refine wpAnyH_done (by kernel_rfl) ?_ _
                    refine NoPanic.normal ?_
                    try go_wp2_with fail
                    go_meet
                    case rel => exact ⟨w3.heap.size + 1, w3.heap.size, CA, cc, rfl, hmk, hbox, HbP, HCo, hmkg⟩
                exact AllReadyH.nil
            exact AllReadyH.nil
        exact AllReadyH.nil
    refine AllReadyH.cons (o := _) rfl (fun K hK => ?_) ?_
    · go_simp
      have HKRB := HKR
      have HbPB := HbP
      have hst := blw1 w2.drew (.cells #[.slice none 0 0, .slice none 0 0] 77)
      have hbox : Hid (Blk (w2.drew.alloc (.cells #[.slice none 0 0, .slice none 0 0] 77)) (w2.heap.size) 77 #[.slice none 0 0, .slice none 0 0]) := Lib.hid (by have := Blk.new w2.drew 77 #[.slice none 0 0, .slice none 0 0]; first | exact this | (simp only [World.size_alloc] at this; exact this) | (simp only [World.size_alloc] at this ⊢; omega))
      have hboxg : Hid (w2.heap.size ≤ w2.heap.size) := Lib.hid (by have := HbP.out.size; first | exact this | (simp only [World.size_alloc] at this; exact this) | (simp only [World.size_alloc] at this ⊢; omega))
      have HKR := Lib.hid (HKR.out.below hst HKR.out.lt)
      have HbP := Lib.hid (HbP.out.trans (hst.mono HbP.out.size))
      clear hst
      refine hK.out _ _ ?_ (fun hHeld => ?_)
      · exact HKR.out
      · clear hK K
        try simp only [List.getElem_toArray, List.getElem_cons_succ, List.getElem_cons_zero, Act.put, List.setIfInBounds_toArray, List.set_cons_zero, List.set_cons_succ]
        refine wpAnyH_ready (rs := [3, 5]) (by kernel_rfl) (by simp) ?_
        refine AllReadyH.cons (o := _) rfl (fun K hK => ?_) ?_
        · go_simp
          have hst := blw1 (w2.drew.alloc (.cells #[.slice none 0 0, .slice none 0 0] 77)) (.cells (vi (List.replicate S.length 0)).toArray 82)
          have hmk : Hid (Blk ((w2.drew.alloc (.cells #[.slice none 0 0, .slice none 0 0] 77)).alloc (.cells (vi (List.replicate S.length 0)).toArray 82)) (w2.heap.size + 1) 82 (vi (List.replicate S.length 0)).toArray) := Lib.hid (by have := Blk.new (w2.drew.alloc (.cells #[.slice none 0 0, .slice none 0 0] 77)) 82 (vi (List.replicate S.length 0)).toArray; first | exact this | (simp only [World.size_alloc] at this; exact this) | (simp only [World.size_alloc] at this ⊢; omega))
          have hmkg : Hid (w2.heap.size ≤ w2.heap.size + 1) := Lib.hid (by have := HbP.out.size; first | exact this | (simp only [World.size_alloc] at this; exact this) | (simp only [World.size_alloc] at this ⊢; omega))
          have HKR := Lib.hid (HKR.out.below hst HKR.out.lt)
          have HbP := Lib.hid (HbP.out.trans (hst.mono HbP.out.size))
          have hbox := Lib.hid (hbox.out.below hst hbox.out.lt)
          clear hst
          refine hK.out _ _ ?_ (fun hHeld => ?_)
          · exact HKR.out
          · clear hK K
            try simp only [List.getElem_toArray, List.getElem_cons_succ, List.getElem_cons_zero, Act.put, List.setIfInBounds_toArray, List.set_cons_zero, List.set_cons_succ]
            refine wpAnyH_ready (rs := [5]) (by kernel_rfl) (by simp) ?_
            refine AllReadyH.cons (o := _) rfl (fun K hK => ?_) ?_
            · go_simp
              refine Calls.mono (Hcn.out ((w2.drew.alloc (.cells #[.slice none 0 0, .slice none 0 0] 77)).alloc (.cells (vi (List.replicate S.length 0)).toArray 82)) HbP.out) ?_
              rintro e w3 ⟨CA, cc, rfl, hco, hb⟩
              have hsz0 := HbP.out.size
              have hst := hb
              have HKR := Lib.hid (HKR.out.below hst HKR.out.lt)
              have HbP := Lib.hid (HbP.out.trans (hst.mono HbP.out.size))
              have hbox := Lib.hid (hbox.out.below hst hbox.out.lt)
              have hmk := Lib.hid (hmk.out.below hst hmk.out.lt)
              have HCo := Lib.hid (hco.lo_le hsz0)
              clear hst hb hsz0 hco
              refine hK.out _ _ ?_ (fun hHeld => ?_)
              · exact HKR.out
              · clear hK K
                try simp only [List.getElem_toArray, List.getElem_cons_succ, List.getElem_cons_zero, Act.put, List.setIfInBounds_toArray, List.set_cons_zero, List.set_cons_succ]
                refine wpAnyH_take (i := 6) (oi := _) (v := ?_) rfl (by kernel_rfl) (by kernel_rfl) (by kernel_rfl) (fun _ _ _ h => h) (Or.inl ⟨by rfl, ?_⟩) (by assumption) ?_
                rotate_left
                focus
                  intro w hSw
                  obtain ⟨qs10, qs11, qs12, qs13⟩ := Blk.four_ hSw
                  go_simp
                  try with_reducible rfl
                try simp only [List.getElem_toArray, List.getElem_cons_succ, List.getElem_cons_zero, Act.put, List.setIfInBounds_toArray, List.set_cons_zero, List.set_cons_succ]
                refine wpAnyH_ready (rs := [8]) (by kernel_rfl) (by simp) ?_
                refine AllReadyH.cons (o := _) rfl (fun K hK => ?_) ?_
                · have z7_0 := hbox.out.cel 0 rfl
                  have z7_1 := hbox.out.cel 1 rfl
                  have y7_0 := hbox.out.frozen 0
                  have y7_1 := hbox.out.frozen 1
                  go_simp
                  have HKR := Lib.hid ((HKR.out.far (p := ⟨w2.heap.size, 0, none⟩) (Blk.ne_ HKR.out hbox.out (by decide)) (.slice (some ⟨w2.heap.size + 1, 0, none⟩) S.length S.length)).far (p := ⟨w2.heap.size, 1, none⟩) (Blk.ne_ HKR.out hbox.out (by decide)) (.slice CA Cn.length cc))
                  have HbP := Lib.hid ((HbP.out.setCell (p := ⟨w2.heap.size, 0, none⟩) hboxg.out (.slice (some ⟨w2.heap.size + 1, 0, none⟩) S.length S.length)).setCell (p := ⟨w2.heap.size, 1, none⟩) hboxg.out (.slice CA Cn.length cc))
                  have hmk := Lib.hid ((hmk.out.far (p := ⟨w2.heap.size, 0, none⟩) (Blk.ne_ hmk.out hbox.out (by decide)) (.slice (some ⟨w2.heap.size + 1, 0, none⟩) S.length S.length)).far (p := ⟨w2.heap.size, 1, none⟩) (Blk.ne_ hmk.out hbox.out (by decide)) (.slice CA Cn.length cc))
                  have HCo := Lib.hid (((HCo.out.far hbox.out (by decide) 0 (.slice (some ⟨w2.heap.size + 1, 0, none⟩) S.length S.length)).far (hbox.out.set_ 0 (.slice (some ⟨w2.heap.size + 1, 0, none⟩) S.length S.length)) (by decide) 1 (.slice CA Cn.length cc)))
                  have hbox := Lib.hid ((hbox.out.set_ 0 (.slice (some ⟨w2.heap.size + 1, 0, none⟩) S.length S.length)).set_ 1 (.slice CA Cn.length cc))
                  refine hK.out _ _ ?_ (fun hHeld => ?_)
                  · exact HKR.out
                  · clear hK K
                    try simp only [List.getElem_toArray, List.getElem_cons_succ, List.getElem_cons_zero, Act.put, List.setIfInBounds_toArray, List.set_cons_zero, List.set_cons_succ]
                    refine wpAnyH_done (by kernel_rfl) ?_ _
                    refine NoPanic.normal ?_
                    try go_wp2_with fail
                    go_meet
                    case rel => exact ⟨w2.heap.size + 1, w2.heap.size, CA, cc, rfl, hmk, hbox, HbP, HCo, hmkg⟩
                exact AllReadyH.nil
            exact AllReadyH.nil
        refine AllReadyH.cons (o := _) rfl (fun K hK => ?_) ?_
        · go_simp
          refine Calls.mono (Hcn.out (w2.drew.alloc (.cells #[.slice none 0 0, .slice none 0 0] 77)) HbP.out) ?_
          rintro e w3 ⟨CA, cc, rfl, hco, hb⟩
          have hsz0 := HbP.out.size
          have hst := hb
          have HKR := Lib.hid (HKR.out.below hst HKR.out.lt)
          have HbP := Lib.hid (HbP.out.trans (hst.mono HbP.out.size))
          have hbox := Lib.hid (hbox.out.below hst hbox.out.lt)
          have HCo := Lib.hid (hco.lo_le hsz0)
          clear hst hb hsz0 hco
          refine hK.out _ _ ?_ (fun hHeld => ?_)
          · exact HKR.out
          · clear hK K
            try simp only [List.getElem_toArray, List.getElem_cons_succ, List.getElem_cons_zero, Act.put, List.setIfInBounds_toArray, List.set_cons_zero, List.set_cons_succ]
            refine wpAnyH_ready (rs := [3]) (by kernel_rfl) (by simp) ?_
            refine AllReadyH.cons (o := _) rfl (fun K hK => ?_) ?_
            · go_simp
              have HKRB := HKR
              have HbPB := HbP
              have hboxB := hbox
              have HCoB := HCo
              have hst := blw1 w3 (.cells (vi (List.replicate S.length 0)).toArray 82)
              have hmk : Hid (Blk (w3.alloc (.cells (vi (List.replicate S.length 0)).toArray 82)) (w3.heap.size) 82 (vi (List.replicate S.length 0)).toArray) := Lib.hid (by have := Blk.new w3 82 (vi (List.replicate S.length 0)).toArray; first | exact this | (simp only [World.size_alloc] at this; exact this) | (simp only [World.size_alloc] at this ⊢; omega))
              have hmkg : Hid (w2.heap.size ≤ w3.heap.size) := Lib.hid (by have := HbP.out.size; first | exact this | (simp only [World.size_alloc] at this; exact this) | (simp only [World.size_alloc] at this ⊢; omega))
              have HKR := Lib.hid (HKR.out.below hst HKR.out.lt)
              have HbP := Lib.hid (HbP.out.trans (hst.mono HbP.out.size))
              have hbox := Lib.hid (hbox.out.below hst hbox.out.lt)
              have HCo := Lib.hid (HCo.out.below hst)
              clear hst
              refine hK.out _ _ ?_ (fun hHeld => ?_)
              · exact HKR.out
              · clear hK K
                try simp only [List.getElem_toArray, List.getElem_cons_succ, List.getElem_cons_zero, Act.put, List.setIfInBounds_toArray, List.set_cons_zero, List.set_cons_succ]
                refine wpAnyH_take (i := 6) (oi := _) (v := ?_) rfl (by kernel_rfl) (by kernel_rfl) (by kernel_rfl) (fun _ _ _ h => h) (Or.inl ⟨by rfl, ?_⟩) (by assumption) ?_
                rotate_left
                focus
                  intro w hSw
                  obtain ⟨qs10, qs11, qs12, qs13⟩ := Blk.four_ hSw
                  go_simp
                  try with_reducible rfl
                try simp only [List.getElem_toArray, List.getElem_cons_succ, List.getElem_cons_zero, Act.put, List.setIfInBounds_toArray, List.set_cons_zero, List.set_cons_succ]
                refine wpAnyH_ready (rs := [8]) (by kernel_rfl) (by simp) ?_
                refine AllReadyH.cons (o := _) rfl (fun K hK => ?_) ?_
                · have z7_0 := hbox.out.cel 0 rfl
                  have z7_1 := hbox.out.cel 1 rfl
                  have y7_0 := hbox.out.frozen 0
                  have y7_1 := hbox.out.frozen 1
                  go_simp
                  have HKR := Lib.hid ((HKR.out.far (p := ⟨w2.heap.size, 0, none⟩) (Blk.ne_ HKR.out hbox.out (by decide)) (.slice (some ⟨w3.heap.size, 0, none⟩) S.length S.length)).far (p := ⟨w2.heap.size, 1, none⟩) (Blk.ne_ HKR.out hbox.out (by decide)) (.slice CA Cn.length cc))
                  have HbP := Lib.hid ((HbP.out.setCell (p := ⟨w2.heap.size, 0, none⟩) hboxg.out (.slice (some ⟨w3.heap.size, 0, none⟩) S.length S.length)).setCell (p := ⟨w2.heap.size, 1, none⟩) hboxg.out (.slice CA Cn.length cc))
                  have HCo := Lib.hid (((HCo.out.far hbox.out (by decide) 0 (.slice (some ⟨w3.heap.size, 0, none⟩) S.length S.length)).far (hbox.out.set_ 0 (.slice (some ⟨w3.heap.size, 0, none⟩) S.length S.length)) (by decide) 1 (.slice CA Cn.length cc)))
                  have hmk := Lib.hid ((hmk.out.far (p := ⟨w2.heap.size, 0, none⟩) (Blk.ne_ hmk.out hbox.out (by decide)) (.slice (some ⟨w3.heap.size, 0, none⟩) S.length S.length)).far (p := ⟨w2.heap.size, 1, none⟩) (Blk.ne_ hmk.out hbox.out (by decide)) (.slice CA Cn.length cc))
                  have hbox := Lib.hid ((hbox.out.set_ 0 (.slice (some ⟨w3.heap.size, 0, none⟩) S.length S.length)).set_ 1 (.slice CA Cn.length cc))
                  refine hK.out _ _ ?_ (fun hHeld => ?_)
                  · exact HKR.out
                  · clear hK K
                    try simp only [List.getElem_toArray, List.getElem_cons_succ, List.getElem_cons_zero, Act.put, List.setIfInBounds_toArray, List.set_cons_zero, List.set_cons_succ]
                    refine wpAnyH_done (by kernel_rfl) ?_ _
                    refine NoPanic.normal ?_
                    try go_wp2_with fail
                    go_meet
                    case rel => exact ⟨w3.heap.size, w2.heap.size, CA, cc, rfl, hmk, hbox, HbP, HCo, hmkg⟩
                exact AllReadyH.nil
            exact AllReadyH.nil
        exact AllReadyH.nil
    exact AllReadyH.nil
  case rest =>
    obtain ⟨gC, gT, CA, cc, rfl, hcol, htri, hbc, hco, hgc⟩ := hcut
    obtain ⟨w4, hw4⟩ : ∃ x, x = wc := ⟨_, rfl⟩
    subst hw4
    obtain ⟨gL, csL, rfl, hBL, hgL2, hcsL, hatL⟩ := hco.out (by have := HCl.out; omega)
    have hcoL : OwnI w4 w2.heap.size (some ⟨gL, 0, none⟩) Cn.length (gI Cn) := fun _ => ⟨gL, csL, rfl, hBL, hgL2, hcsL, hatL⟩
    have HgL := Lib.hid (And.intro hgL2 hBL.lt)
    have HKr := Lib.hid (HKR9.out.below hbc.out HKR9.out.lt)
    have HKq := Lib.hid (HKQ.out.below hbc.out HKQ.out.lt)
    have Hrl := Lib.hid (And.intro HKR9.out.lt HKQ.out.lt)
    have HL := Lib.hid (H.out.below ((Hb2.out.trans (hbc.out.mono Hb2.out.size)).mono hB))
    have Hco := Lib.hid hcoL
    have Hgc4 := Lib.hid hcol.out.lt
    have Hpl : P.length ≤ 16 := Hpu.out.2
    have Hre := Lib.hid (reachable_c S P A A2 c c2 0 w4.heap.size L B (.slice LA ln lc) (.slice A1 Q.length c1) (.slice A2 P.length c2) rfl rfl rfl w4 Hsl.out hS16 HS.out (Nat.le_refl _) (Nat.le_trans hB (Nat.le_trans Hb2.out.size hbc.out.size)) ((HSl.out.below hbc.out).more (Nat.le_refl _) hbc.out.size) HL.out.2.2 (by omega) (fun x hx => Hpu.out.1.at_mem hx))
    have HGin := Lib.hid (reachL_in S P)
    have hGl : (reachL S P).length ≤ S.length := reachL_bd S P
    have HKG := Lib.hid (kidsG_all S P)
    have HKP := Lib.hid (keptG_all S P)
    have Hcf := Lib.hid (colF_eq S P)
    obtain ⟨G, hG⟩ : ∃ g, g = reachL S P := ⟨_, rfl⟩
    rw [← hG] at Hre HGin hGl HKG HKP Hcf
    clear hG hco hcoL hBL hgL2 hcsL hatL HKR9 HKQ HKR Hcn HbP
    have k0 := HKr.out.cel 0 (v := .slice A S.length c) rfl
    have k1 := HKr.out.cel 1 (v := .slice LA ln lc) rfl
    have k2 := HKr.out.cel 2 (v := .slice A1 Q.length c1) rfl
    have k3 := HKr.out.cel 3 (v := .slice A2 P.length c2) rfl
    go_wp2_with fail
    refine Hre.out.mono ?_
    rintro e w5 ⟨v, rfl, hs, hb5⟩
    obtain ⟨SA, sc, rfl⟩ := hs.form
    have Hcol5 := Lib.hid (hcol.out.below hb5 hcol.out.lt)
    have Htri5 := Lib.hid (htri.out.below hb5 htri.out.lt)
    have HKr5 := Lib.hid (HKr.out.below hb5 HKr.out.lt)
    have HKq5 := Lib.hid (HKq.out.below hb5 HKq.out.lt)
    have Hco5 := Lib.hid (Hco.out.below hb5)
    have Hset5 := Lib.hid hs
    have H25 := Lib.hid (hbc.out.trans (hb5.mono hbc.out.size))
    have Hw45 := Lib.hid hb5.size
    have t0 := Htri5.out.cel 0 (v := .slice (some ⟨gC, 0, none⟩) S.length S.length) rfl
    have t1 := Htri5.out.cel 1 (v := .slice (some ⟨gL, 0, none⟩) Cn.length cc) rfl
    have Hp := Lib.hid (paint_c (List.replicate S.length 0) G S.length 1 (some ⟨gL, 0, none⟩) SA Cn.length cc sc w4.heap.size w5.heap.size gC w5 (Nat.le_refl _) (by omega) (by simp) hs.il_ (.inl Hgc4.out) HGin.out Hcol5.out)
    clear hs hb5 hcol htri HKr HKq Hco Hre k0 k1 k2 k3 hbc
    go_wp2_with fail
    refine Hp.out.mono ?_
    rintro e w6 ⟨⟨ev, rfl⟩, hcol6, ha6⟩
    have Htri6 := Lib.hid (Htri5.out.apart ha6 (Htri5.out.ne_ Hcol5.out (by decide)))
    have HKr6 := Lib.hid (HKr5.out.apart ha6 (HKr5.out.ne_ Hcol5.out (by decide)))
    have HKq6 := Lib.hid (HKq5.out.apart ha6 (fun e => by have := Hrl.out.2; have := hgc.out; omega))
    have Hco6 := Lib.hid (Hco5.out.apart_ Hcol5.out (by decide) ha6)
    have Hset6 := Lib.hid (Hset5.out.apart ha6 (fun k hk e => by have := (Hset5.out.at_lt hk).1; have := Hgc4.out; omega))
    have H26 := Lib.hid (H25.out.trans (ha6.below H25.out.size (fun k hk e => by have := hgc.out; omega)))
    obtain ⟨col1, hc1⟩ : ∃ x, x = paintL (List.replicate S.length 0) G 1 := ⟨_, rfl⟩
    rw [← hc1] at hcol6 Hcf
    have Hc1l := Lib.hid (show col1.length = S.length by rw [hc1, paintL_len]; simp)
    have Hcol6 := Lib.hid hcol6
    have hsz6 := ha6.size
    have H46 := Lib.hid (show w4.heap.size ≤ w6.heap.size by have := Hw45.out; omega)
    clear hc1 hcol6 ha6 Hp Hcol5 Htri5 HKr5 HKq5 Hco5 Hset5 H25 Hw45 t0 t1 hsz6
    go_wp2_with fail
    go_loopw [37] (fun x wr => ∃ k : Nat, k ≤ G.length ∧ x = .int .i64 k ∧ Hid (OwnI wr w2.heap.size (some ⟨gL, 0, none⟩) Cn.length (gI (unbs Cn (kidsG S G k)))) ∧ Hid (Apart (fun j => j = gL) w6 wr)) (fun x _ => G.length - (intOf x).toNat)
    case atStart => exact ⟨0, Nat.zero_le _, rfl, Hco6, Lib.hid (Apart.refl _ _)⟩
    case round =>
      obtain ⟨k, hk, rfl, hco, hap⟩ := hrel
      have hklen := kidsG_le S G k
      rw [HKG.out] at hklen
      have hgt := grayTo_bd (S := S) (O := grayS S P) Hsl.out (Nat.le_refl S.length)
      have hsm := Lib.hid (Hlb.out.unbs (kidsG S G k))
      have hul := Lib.hid (show (unbs Cn (kidsG S G k)).length = Cn.length by rw [unbs_len])
      have hkb : (kidsG S G k).length ≤ 1048576 := by omega
      have Hks := Lib.hid (fun h => kidsG_succ (S := S) (G := G) (k := k) h)
      obtain ⟨kl, hkl⟩ : ∃ n, n = (kidsG S G k).length := ⟨_, rfl⟩
      rw [← hkl] at hkb hsm
      obtain ⟨C2, hC2⟩ : ∃ c, c = unbs Cn (kidsG S G k) := ⟨_, rfl⟩
      rw [← hC2] at hco hsm hul
      have HC2 := Lib.hid hC2
      clear hC2 hkl hklen hgt
      have hw26 : Below w2.heap.size w2 wr := H26.out.trans (hap.out.below H26.out.size (fun j hj e => by have := HgL.out.1; omega))
      have hset : SetV wr w4.heap.size (.slice SA G.length sc) G := Hset6.out.apart hap.out (fun j hj e => by have := (Hset6.out.at_lt hj).1; have := HgL.out.2; omega)
      have htri : Blk wr gT 77 #[.slice (some ⟨gC, 0, none⟩) S.length S.length, .slice (some ⟨gL, 0, none⟩) Cn.length cc] := Htri6.out.apart hap.out (fun e => by
        obtain ⟨_, _, cs, hb⟩ := Hco6.out.lt_ (by have := HCl.out; omega)
        exact (Htri6.out.ne_ hb (by decide)) e)
      have hKr : Blk wr rB 66 #[.slice A S.length c, .slice LA ln lc, .slice A1 Q.length c1, .slice A2 P.length c2] := HKr6.out.apart hap.out (fun e => by
        obtain ⟨_, _, cs, hb⟩ := Hco6.out.lt_ (by have := HCl.out; omega)
        exact (HKr6.out.ne_ hb (by decide)) e)
      by_cases hlt : k < G.length
      · obtain ⟨ga, rfl, _, hgb, hgat⟩ := hset.il_.2 (by omega)
        have d0 := hgat k hlt
        have hin := HGin.out k hlt
        obtain ⟨n, hn⟩ : ∃ n : Nat, G[k] = (n : Int) := ⟨G[k].toNat, by omega⟩
        have hnS : n < S.length := by omega
        have Hks2 := Lib.hid (show kidsG S G (k + 1) = kidsG S G k ++ kidsOf S n by rw [Hks.out hlt, hn, Int.toNat_natCast])
        rw [hn] at d0
        obtain ⟨ad, rfl, _, hbk, hat⟩ := (HSl.out.below hw26).2 (by omega)
        obtain ⟨y0, y1, y2, y3, ⟨f0, f1, f2, f3⟩, rfl, rfl, rfl, KA, kc, rfl, hKf⟩ := hat n hnS
        have hfz : S[n].fs.length ≤ 1048576 := by
          have h1 := sum_get slSz hnS
          have h2 : S[n].fs.length ≤ slSz S[n] := by unfold slSz fsSz; omega
          have h3 := Hsl.out
          unfold slsSz at h3
          omega
        have hkl2 := refsTo_le S[n].fs S[n].fs.length
        have hkid := kidsOf_get hnS
        have Hkc := Lib.hid (slotKids_c S[n] KA kc 0 w2.heap.size wr hw26.size hfz hKf)
        rw [← hkid] at Hkc hkl2
        have Hkin := Lib.hid (HS.out n hnS)
        obtain ⟨sl, hsl2⟩ : ∃ s, s = S[n] := ⟨_, rfl⟩
        rw [← hsl2] at f0 f1 f2 f3 Hkc hkl2 hfz
        obtain ⟨K, hK⟩ : ∃ q, q = kidsOf S n := ⟨_, rfl⟩
        rw [← hK] at Hkc hkl2 Hks2 Hkin
        obtain ⟨lv, gn, ct, fs⟩ := sl
        dsimp only at f0 f1 f2 f3 Hkc hkl2 hfz
        obtain ⟨fl, hfl⟩ : ∃ m, m = fs.length := ⟨_, rfl⟩
        rw [← hfl] at f3 Hkc hkl2 hfz
        have p0 := hKr.cel 0 (v := .slice (some ad) S.length c) rfl
        have Hap := hap
        have Hco2 := hco
        clear hat hKf hsl2 hK hkid hfl hgat hn hin hset htri hKr hw26 hco hap
        have hKl : K.length ≤ 1048576 := by omega
        go_wp2_with fail
        refine Hkc.out.mono ?_
        rintro e w7 ⟨KB, kb, rfl, hko, hb7⟩
        have Hko := Lib.hid (hko.ilg (by unfold maxLen; omega))
        have Hco7 := Lib.hid (Hco2.out.below hb7)
        have Hap7 := Lib.hid (Hap.out.trans (Apart.of_below (S := fun j => j = gL) hb7))
        have HwL := Lib.hid (show gL < wr.heap.size by have := HgL.out.2; have := H46.out; have := Hap.out.size; omega)
        have Hw7 := Lib.hid hb7.size
        obtain ⟨w3, hw3⟩ : ∃ x, x = wr := ⟨_, rfl⟩
        subst hw3
        clear hko hb7 Hkc Hco2 Hap p0 d0 f0 f1 f2 f3
        go_wp2_with fail
        go_loopw [48] (fun x wr => ∃ j : Nat, j ≤ K.length ∧ x = .int .i64 j ∧ Hid (OwnI wr w2.heap.size (some ⟨gL, 0, none⟩) Cn.length (gI (unbs C2 (K.take j)))) ∧ Hid (Apart (fun j => j = gL) w7 wr)) (fun x _ => K.length - (intOf x).toNat)
        case atStart => exact ⟨0, Nat.zero_le _, rfl, Hco7, Lib.hid (Apart.refl _ _)⟩
        case round =>
          obtain ⟨j, hj, rfl, hco, hap⟩ := hrel
          have hap6 := Hap7.out.trans hap.out
          have htri : Blk wr gT 77 #[.slice (some ⟨gC, 0, none⟩) S.length S.length, .slice (some ⟨gL, 0, none⟩) Cn.length cc] := Htri6.out.apart hap6 (fun e => by
            obtain ⟨_, _, cs, hb⟩ := Hco6.out.lt_ (by have := HCl.out; omega)
            exact (Htri6.out.ne_ hb (by decide)) e)
          by_cases hjl : j < K.length
          · obtain ⟨ka, rfl, hkL, hkB, hkat⟩ := (Hko.out.keep (w' := wr) (fun p h1 h2 => World.cell?_of_block (hap.out.block p.block h2 (fun e => by have := HwL.out; omega)))).2 (by omega)
            have d0 := hkat j hjl
            have hin := Hkin.out K[j] (List.getElem_mem hjl)
            have htl : (K.take j).length ≤ j := by simp; omega
            obtain ⟨g, i, z, e0, hg1, hg2, hi, hiN, hz0, hzm, q0, fz, hnb⟩ := hco.out.unb (show (unbs C2 (K.take j)).length = Cn.length by rw [unbs_len]; exact hul.out) (hsm.out.unbs (K.take j)) (n := K[j]) (by have := HCl.out; omega)
            injection e0 with e0
            injection e0 with e0
            subst e0
            have Hn : Hid (OwnI (wr.setCell ⟨gL, i, none⟩ (.int .i64 (z - 1))) w2.heap.size (some ⟨gL, 0, none⟩) Cn.length (gI (unbs C2 (K.take (j + 1))))) := Lib.hid (by rw [unbs_snoc C2 hjl, hi]; exact hnb)
            rw [hi] at d0
            have Ha2 := Lib.hid (hap.out.setCell (p := ⟨gL, i, none⟩) rfl (.int .i64 (z - 1)))
            have p1 := htri.cel 1 (v := .slice (some ⟨gL, 0, none⟩) Cn.length cc) rfl
            have hzb : -3000000 ≤ z := by omega
            clear hkat hin hi hg1 hg2 hz0 hnb hco hap hap6 htri htl
            go_wp2
            go_roundw
            case rel => exact ⟨j + 1, by omega, by go_num, Hn, Ha2⟩
            case measure => simp [intOf]; omega
          · have Hn : Hid (OwnI wr w2.heap.size (some ⟨gL, 0, none⟩) Cn.length (gI (unbs Cn (kidsG S G (k + 1))))) := Lib.hid (by
              have e : j = K.length := by omega
              subst e
              have := hco.out
              rw [List.take_length] at this
              rw [Hks2.out, unbs_app, ← HC2.out]
              exact this)
            have Ha2 := Lib.hid hap6
            obtain rfl : j = K.length := by omega
            clear hco hap hap6 htri
            go_wp2
            go_roundw
            case rel => exact ⟨k + 1, by omega, by go_num, Hn, Ha2⟩
            case measure => simp [intOf]; omega
      · obtain rfl : k = G.length := by omega
        obtain ⟨w7, hw7⟩ : ∃ x, x = wr := ⟨_, rfl⟩
        subst hw7
        have HLF : Hid (leftL S (grayS S P) = C2) := Lib.hid (by unfold leftL; rw [← HCn.out, ← HKG.out, HC2.out])
        have HKP2 := Lib.hid (HKP.out C2)
        rw [HLF.out] at Hcf
        have HKr7 := Lib.hid hKr
        have Htri7 := Lib.hid htri
        have Hset7 := Lib.hid hset
        have HKq7 := Lib.hid (HKq6.out.apart hap.out (fun e => by have := Hrl.out.2; have := HgL.out.1; omega))
        have Hcol7 := Lib.hid (Hcol6.out.apart hap.out (fun e => by
          obtain ⟨_, _, cs, hb⟩ := Hco6.out.lt_ (by have := HCl.out; omega)
          exact (Hcol6.out.ne_ hb (by decide)) e))
        have H27 := Lib.hid hw26
        have Hco7 := hco
        have H47 := Lib.hid (Nat.le_trans H46.out hap.out.size)
        obtain ⟨i0, hi, hz0, hz1, hz2⟩ := info_parts infoI
        clear hKr htri hset hap hco hw26 Hks HKr6 Htri6 Hset6 HKq6 Hcol6 H26 Hco6 H46 hsm hul HC2
        go_wp2_with fail
        go_loopw [11, 63] (fun v x wr => ∃ k : Nat, k ≤ G.length ∧ x = .int .i64 k ∧ Hid (IRow wr w7.heap.size v (keptG G C2 k)) ∧ Hid (Below w7.heap.size w7 wr)) (fun _ x _ => G.length - (intOf x).toNat)
        case atStart => exact ⟨0, Nat.zero_le _, rfl, Lib.hid (IRow.nil _ _), Lib.hid (Below.refl _ _)⟩
        case round =>
          obtain ⟨k, hk, rfl, hrow, hbl⟩ := hrel
          obtain ⟨KA, kcp, rfl, hkc⟩ := hrow.out.form
          have hkle := keptG_le G C2 k
          have hws := hbl.out.size
          have htri := Htri7.out.below hbl.out Htri7.out.lt
          by_cases hlt : k < G.length
          · obtain ⟨ga, rfl, _, hgb, hgat⟩ := ((Hset7.out.below hbl.out).il_).2 (by omega)
            have d0 := hgat k hlt
            have hin := HGin.out k hlt
            have Hky := Lib.hid (fun h => keptG_yes (LF := C2) hlt h)
            have Hkn := Lib.hid (fun h => keptG_no (LF := C2) hlt h)
            obtain ⟨n, hn⟩ : ∃ n : Nat, G[k] = (n : Int) := ⟨G[k].toNat, by omega⟩
            rw [hn, Int.toNat_natCast] at Hky Hkn
            rw [hn] at d0
            have hnC : n < Cn.length := by have := HCl.out; omega
            have q0 := (Hco7.out.below hbl.out).cell_ hnC
            have t1 := htri.cel 1 (v := .slice (some ⟨gL, 0, none⟩) Cn.length cc) rfl
            obtain ⟨z, hz⟩ : ∃ z, z = gI C2 n := ⟨_, rfl⟩
            rw [← hz] at q0 Hky Hkn
            clear hgat hin hn hz htri
            by_cases hz0' : 0 < z
            · have Hn := Lib.hid (Hky.out hz0')
              have Hcell := Lib.hid (cell_one_new wr (.int .i64 (n : Int)) 3)
              have HO := Lib.hid (hrow.out.alloc (.cells #[.int .i64 (n : Int)] 3))
              have Hkle := Lib.hid hkle
              clear Hky Hkn hkle
              go_wp2_with (at_builtin; refine wpList_append_own _ rfl (.tmp 73) (.tmp 75) 23 rfl w7.heap.size 3 i0 _ 1 8 Try.underlying23 hi hz0 hz1 hz2 rfl (by omega) _ _ _ rfl HO.out ⟨wr.heap.size, 0, none⟩ 1 1 [.int .i64 (n : Int)] rfl rfl Hcell.out (by simp [Value.oneCell']) (by have := Hkle.out; unfold maxLen; omega) (by have := Hkle.out; omega) (by simp; omega) ?_; intro v' w4' hown' hgrow _)
              have hbn : Below w7.heap.size w7 w4' := HO.out.grown (hbl.out.alloc hws _) (by simp; omega) hgrow
              have Hnew := Lib.hid (IRow.snoc hown')
              have Hbn := Lib.hid hbn
              clear hown' hgrow hbn HO Hcell
              go_roundw
              case rel => exact ⟨k + 1, by omega, by go_num, by rw [Hn.out]; exact Hnew, Hbn⟩
              case measure => simp [intOf]; omega
            · have Hn := Lib.hid (Hkn.out hz0')
              clear Hky Hkn hkle
              go_wp2
              go_roundw
              case rel => exact ⟨k + 1, by omega, by go_num, by rw [Hn.out]; exact hrow, hbl⟩
              case measure => simp [intOf]; omega
          · obtain rfl : k = G.length := by omega
            obtain ⟨w8, hw8⟩ : ∃ x, x = wr := ⟨_, rfl⟩
            subst hw8
            have hFin : ∀ x ∈ keptG G C2 G.length, 0 ≤ x ∧ x < (S.length : Int) := fun x hx => by rw [HKP2.out] at hx; exact keptI_mem hx
            have HF := Lib.hid (hrow.out.own.ilg (by unfold maxLen; omega))
            have hF16 : (keptG G C2 G.length).length ≤ 16 := by omega
            obtain ⟨F2, hF2⟩ : ∃ f, f = keptG G C2 G.length := ⟨_, rfl⟩
            rw [← hF2] at hFin HF hF16 HKP2
            rw [← HKP2.out] at Hcf
            rw [← hF2]
            have Hb28 := Lib.hid (H27.out.trans (hbl.out.mono H27.out.size))
            have HKr8 := Lib.hid (HKr7.out.below hbl.out HKr7.out.lt)
            have Htri8 := Lib.hid htri
            have Hcol8 := Lib.hid (Hcol7.out.below hbl.out Hcol7.out.lt)
            have HKq8 := Lib.hid (HKq7.out.below hbl.out HKq7.out.lt)
            have Hco8 := Lib.hid (Hco7.out.below hbl.out)
            have HFin := Lib.hid hFin
            have Hre2 := Lib.hid (fun x => reachable_c S F2 A KA c kcp 0 w2.heap.size w7.heap.size w8.heap.size (.slice LA ln lc) (.slice A1 Q.length c1) (.slice A2 P.length c2) rfl rfl rfl (w8.drewN x) Hsl.out hS16 HS.out Hb28.out.size (Nat.le_refl _) ((HSl.out.below Hb28.out).keep (w' := w8.drewN x) fun _ _ _ => rfl) (HF.out.keep (w' := w8.drewN x) fun _ _ _ => rfl) (by omega) HFin.out)
            obtain ⟨K2, hK2⟩ : ∃ q, q = reachL S F2 := ⟨_, rfl⟩
            have hK2l : K2.length ≤ S.length := by rw [hK2]; exact reachL_bd _ _
            have HK2in := Lib.hid (show InR S.length K2 by rw [hK2]; exact reachL_in _ _)
            rw [← hK2] at Hre2 Hcf
            have HgC8 := Lib.hid (show gC < w8.heap.size by have := Hgc4.out; have := H47.out; omega)
            clear hF2 hFin hrow hkle htri hK2 HKr7 Htri7 Hcol7 HKq7 Hco7 Hset7 HKP HKP2 HKG
            have k0 := HKr8.out.cel 0 (v := .slice A S.length c) rfl
            have k1 := HKr8.out.cel 1 (v := .slice LA ln lc) rfl
            have k2 := HKr8.out.cel 2 (v := .slice A1 Q.length c1) rfl
            have k3 := HKr8.out.cel 3 (v := .slice A2 P.length c2) rfl
            have t0 := Htri8.out.cel 0 (v := .slice (some ⟨gC, 0, none⟩) S.length S.length) rfl
            have t1 := Htri8.out.cel 1 (v := .slice (some ⟨gL, 0, none⟩) Cn.length cc) rfl
            go_upto_region 21 with fail
            go_cut [5] (fun p wx => p = .pointer (some ⟨gT, 0, none⟩) ∧ Hid (Blk wx gC 82 (vi (paintL col1 K2 2)).toArray) ∧ Hid (Blk wx gT 77 #[.slice (some ⟨gC, 0, none⟩) S.length S.length, .slice (some ⟨gL, 0, none⟩) Cn.length cc]) ∧ Hid (Blk wx (w.heap.size + 1) 77 #[.slice none 0 0, .slice none 0 0]) ∧ Hid (OwnI wx w2.heap.size (some ⟨gL, 0, none⟩) Cn.length (gI C2)) ∧ Hid (Below w2.heap.size w2 wx))
            case first =>
              go_region_with (first
                | (go_at_call 77; refine (Hre2.out 1).mono ?_; rintro e w9 ⟨v, rfl, hs, hb9⟩; obtain ⟨SA2, sc2, rfl⟩ := hs.form; have Htri9 := Lib.hid (Blk.below (Htri8.out.drewN 1) hb9 Htri8.out.lt); have t0 := Htri9.out.cel 0 (v := .slice (some ⟨gC, 0, none⟩) S.length S.length) rfl; have t1 := Htri9.out.cel 1 (v := .slice (some ⟨gL, 0, none⟩) Cn.length cc) rfl; have Hcol9 := Lib.hid (Blk.below (Hcol8.out.drewN 1) hb9 Hcol8.out.lt); have Hb89 := Lib.hid hb9; have Hp2 := Lib.hid (paint_c col1 K2 S.length 2 (some ⟨gL, 0, none⟩) SA2 Cn.length cc sc2 w8.heap.size w9.heap.size gC w9 (Nat.le_refl _) (by omega) Hc1l.out hs.il_ (.inl HgC8.out) HK2in.out Hcol9.out); clear hs hb9 Hre2)
                | (go_at_call 83; refine Hp2.out.mono ?_; rintro e w10 ⟨⟨ev, rfl⟩, hcol10, ha10⟩; have Hcol10 := Lib.hid hcol10; have Ha10 := Lib.hid ha10; clear hcol10 ha10 Hp2))
              all_goals
                try go_wp2_with fail
                go_meet
                case rel =>
                  refine ⟨rfl, Hcol10, Lib.hid (Htri9.out.apart Ha10.out (Htri9.out.ne_ Hcol9.out (by decide))), Lib.hid ((Blk.below (HKq8.out.drewN 1) Hb89.out HKq8.out.lt).apart Ha10.out (fun e => by have := Hrl.out.2; have := hgc.out; omega)), Lib.hid (OwnI.apart_ (OwnI.below (w := w8.drewN 1) Hco8.out Hb89.out) Hcol9.out (by decide) Ha10.out), Lib.hid ?_⟩
                  have h29 : Below w2.heap.size w2 w9 := (show Below w2.heap.size w2 (w8.drewN 1) from blw_drewN Hb28.out 1).trans (Hb89.out.mono Hb28.out.size)
                  exact h29.trans (Ha10.out.below h29.size (fun j hj e => by have := hgc.out; omega))
            case rest =>
              obtain ⟨rfl, hcolA, htriA, hqA, hcoA, hbA⟩ := hcut
              obtain ⟨w9, hw9⟩ : ∃ x, x = wc := ⟨_, rfl⟩
              subst hw9
              obtain ⟨col2, hc2⟩ : ∃ x, x = paintL col1 K2 2 := ⟨_, rfl⟩
              rw [← hc2] at hcolA Hcf
              have Hc2l := Lib.hid (show col2.length = S.length by rw [hc2, paintL_len]; exact Hc1l.out)
              clear hc2 Hre2 HK2in k0 k1 k2 k3 t0 t1 HKr8 Htri8 Hcol8 HKq8 Hco8 HF HFin
              have t0 := htriA.out.cel 0 (v := (.slice (some ⟨gC, 0, none⟩) S.length S.length)) rfl
              have Hcz : Hid (Blk w9 gC 82 (vi (jdg col2 0)).toArray) := Lib.hid (by
                have e : jdg col2 0 = col2 := by simp [jdg]
                rw [e]; exact hcolA.out)
              go_wp2_with fail
              go_loopw [86] (fun x wr => ∃ k : Nat, k ≤ S.length ∧ x = .int .i64 k ∧ Hid (Blk wr gC 82 (vi (jdg col2 k)).toArray) ∧ Hid (Apart (fun j => j = gC) w9 wr)) (fun x _ => S.length - (intOf x).toNat)
              case atStart => exact ⟨0, Nat.zero_le _, rfl, Hcz, Lib.hid (Apart.refl _ _)⟩
              case round =>
                obtain ⟨k, hk, rfl, hcol, hap⟩ := hrel
                have htri := htriA.out.apart hap.out (htriA.out.ne_ hcolA.out (by decide))
                by_cases hlt : k < S.length
                · have hk2 : k < col2.length := by have := Hc2l.out; omega
                  have q0 : wr.cell? ⟨gC, k, none⟩ = some (.int .i64 col2[k]) := by
                    rw [hcol.out.cell]
                    have : (vi (jdg col2 k))[k]? = some (.int .i64 col2[k]) := by rw [vi_get, List.getElem?_eq_getElem (by rw [jdg_len]; exact hk2), jdg_at hk2]; rfl
                    simpa using this
                  have f0 := hcol.out.frozen k
                  have Hn : Hid (Blk (wr.setCell ⟨gC, k, none⟩ (.int .i64 (judge col2[k]))) gC 82 (vi (jdg col2 (k + 1))).toArray) := Lib.hid (by
                    have h1 := hcol.out.set_ k (.int .i64 (judge col2[k]))
                    rw [vi_set, jdg_set hk2] at h1
                    exact h1)
                  have Ha2 := Lib.hid (hap.out.setCell (p := ⟨gC, k, none⟩) rfl (.int .i64 (judge col2[k])))
                  have Hj := Lib.hid (fun x => judged_c col2[k] (wr.drewN x))
                  obtain ⟨z, hz⟩ : ∃ z, z = col2[k] := ⟨_, rfl⟩
                  rw [← hz] at q0 Hn Ha2 Hj
                  obtain ⟨zj, hzj⟩ : ∃ z', z' = judge z := ⟨_, rfl⟩
                  rw [← hzj] at Hn Ha2 Hj
                  have t0 := htri.cel 0 (v := (.slice (some ⟨gC, 0, none⟩) S.length S.length)) rfl
                  clear hz hzj hk2 hcol hap htri
                  go_upto_region 25 with fail
                  go_region_with (go_at_call 85; refine (Hj.out 1).mono ?_; rintro e w' ⟨rfl, rfl⟩)
                  all_goals
                    try go_wp2
                    go_roundw
                    case rel => exact ⟨k + 1, by omega, by go_num, Lib.hid Hn.out, Lib.hid (by first | exact Ha2.out | exact Ha2.out.drew | exact ⟨Ha2.out.os, Ha2.out.tape, Ha2.out.output, Ha2.out.size, Ha2.out.block⟩)⟩
                    case measure => simp [intOf]; omega
                · obtain rfl : k = S.length := by omega
                  have hcF : Blk wr gC 82 (vi (colF S P)).toArray := by
                    have e := Hcf.out
                    rw [← jdg_all, Hc2l.out] at e
                    rw [← e]; exact hcol.out
                  have hq := hqA.out.apart hap.out (fun e => by have := Hrl.out.2; have := hgc.out; omega)
                  have hco := hcoA.out.apart_ hcolA.out (by decide) hap.out
                  have hbw := Hb2.out.trans ((hbA.out.trans (hap.out.below hbA.out.size (fun j hj e => by have := hgc.out; omega))).mono Hb2.out.size)
                  have z0 := hq.cel 0 (v := .slice none 0 0) rfl
                  have z1 := hq.cel 1 (v := .slice none 0 0) rfl
                  have y0 := hq.frozen 0
                  have y1 := hq.frozen 1
                  have t0 := htri.cel 0 (v := (.slice (some ⟨gC, 0, none⟩) S.length S.length)) rfl
                  have t1 := htri.cel 1 (v := (.slice (some ⟨gL, 0, none⟩) Cn.length cc)) rfl
                  have Hres : Hid (TriQ w S P (.returned (.agg #[(.slice (some ⟨gC, 0, none⟩) S.length S.length), (.slice (some ⟨gL, 0, none⟩) Cn.length cc)])) ((wr.setCell ⟨w.heap.size + 1, 0, none⟩ (.slice (some ⟨gC, 0, none⟩) S.length S.length)).setCell ⟨w.heap.size + 1, 1, none⟩ (.slice (some ⟨gL, 0, none⟩) Cn.length cc))) := Lib.hid (by
                    refine ⟨gC, some ⟨gL, 0, none⟩, cc, by rw [HCl.out], ?_, by have := hgc.out; have := Hb2.out.size; omega, ?_, (hbw.setCell (p := ⟨w.heap.size + 1, 0, none⟩) (by simp) _).setCell (p := ⟨w.heap.size + 1, 1, none⟩) (by simp) _⟩
                    · exact (hcF.far (p := ⟨w.heap.size + 1, 0, none⟩) (by have := Hrl.out.2; have := hgc.out; simp; omega) _).far (p := ⟨w.heap.size + 1, 1, none⟩) (by have := Hrl.out.2; have := hgc.out; simp; omega) _
                    · rw [HLF.out]
                      exact (((hco.far hq (by decide) 0 (.slice (some ⟨gC, 0, none⟩) S.length S.length)).far (hq.set_ 0 (.slice (some ⟨gC, 0, none⟩) S.length S.length)) (by decide) 1 (.slice (some ⟨gL, 0, none⟩) Cn.length cc)).lo_le Hb2.out.size).len_ HCl.out)
                  clear hcF hq hco hbw htri hcol hap hqA hcoA hbA hcolA htriA Hcz Hcf HLF
                  go_wp2
                  exact bodyPost_ret (v := .agg #[(.slice (some ⟨gC, 0, none⟩) S.length S.length), (.slice (some ⟨gL, 0, none⟩) Cn.length cc)]) (by simp [results, Try.results49, go_sem, z0, z1]) rfl Hres.out
end Go.Proofs.Ytiofabnicdlceaa
