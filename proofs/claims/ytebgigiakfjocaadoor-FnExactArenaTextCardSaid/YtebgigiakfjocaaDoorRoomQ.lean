/-
  The program's room: what is queued, who is purple.
-/
import Derived.Test.YtebgigiakfjocaaDoorRoomS
import Derived.Test.YtebgigiakfjocaaDoorSetAdd
namespace Go.Proofs.YtebgigiakfjocaaDoor
open Go.RowKit
set_option linter.unusedVariables false
set_option linter.unusedSimpArgs false

def liveN (S : List Sl) (n : Nat) : Bool := match S[n]? with | some s => s.live | none => false
/-- live ones among the first k -/
def liveTo (S : List Sl) (k : Nat) : List Int := ((List.range k).filter (liveN S)).map fun n : Nat => (n : Int)
theorem liveTo_mem {S : List Sl} {k : Nat} {x : Int} : x ∈ liveTo S k ↔ ∃ n : Nat, n < k ∧ liveN S n = true ∧ (n : Int) = x := by
  unfold liveTo
  rw [List.mem_map]
  constructor
  · rintro ⟨n, hn, e⟩
    rw [List.mem_filter, List.mem_range] at hn
    exact ⟨n, hn.1, hn.2, e⟩
  · rintro ⟨n, hn, hl, e⟩
    exact ⟨n, List.mem_filter.2 ⟨List.mem_range.2 hn, hl⟩, e⟩
theorem liveTo_lt {S : List Sl} {k : Nat} {x : Int} (h : x ∈ liveTo S k) : 0 ≤ x ∧ x < k := by
  obtain ⟨n, hn, _, rfl⟩ := liveTo_mem.1 h
  omega
theorem liveTo_zero (S : List Sl) : liveTo S 0 = [] := rfl
theorem liveTo_yes {S : List Sl} {k : Nat} (hk : k < S.length) (h : S[k].live = true) : liveTo S (k + 1) = liveTo S k ++ [(k : Int)] := by
  unfold liveTo
  rw [List.range_succ, List.filter_append, List.map_append]
  have : liveN S k = true := by unfold liveN; rw [List.getElem?_eq_getElem hk]; exact h
  simp [this]
theorem liveTo_no {S : List Sl} {k : Nat} (hk : k < S.length) (h : S[k].live = false) : liveTo S (k + 1) = liveTo S k := by
  unfold liveTo
  rw [List.range_succ, List.filter_append, List.map_append]
  have : liveN S k = false := by unfold liveN; rw [List.getElem?_eq_getElem hk]; exact h
  simp [this]
theorem liveTo_ins {S : List Sl} {k : Nat} (hk : k < S.length) (h : S[k].live = true) : insI (liveTo S k) k = liveTo S (k + 1) := by
  rw [liveTo_yes hk h]
  exact insI_end _ _ fun y hy => (liveTo_lt hy).2
theorem liveTo_sorted (S : List Sl) : ∀ k, (liveTo S k).Pairwise (· < ·) := by
  intro k
  unfold liveTo
  rw [List.pairwise_map]
  exact (List.Pairwise.filter _ List.pairwise_lt_range).imp fun h => by omega
theorem liveTo_len (S : List Sl) (k : Nat) : (liveTo S k).length ≤ k := by
  unfold liveTo
  rw [List.length_map]
  exact Nat.le_trans (List.length_filter_le _ _) (by simp)
theorem liveAt_mem (S : List Sl) (x : Int) : x ∈ liveTo S S.length ↔ liveAt S x = true := by
  rw [liveTo_mem]
  unfold liveAt slotAt
  constructor
  · rintro ⟨n, hn, hl, rfl⟩
    rw [if_pos (by omega), show ((n : Int)).toNat = n by omega]
    exact hl
  · intro h
    by_cases hx : 0 ≤ x ∧ x < S.length
    · rw [if_pos hx] at h
      exact ⟨x.toNat, by omega, h, by omega⟩
    · rw [if_neg hx] at h
      cases h
theorem hasLive (S : List Sl) (x : Int) : hasI (liveTo S S.length) x = liveAt S x := by
  rw [Bool.eq_iff_iff, hasI_mem, liveAt_mem]
theorem liveAt_in {S : List Sl} {x : Int} (h : liveAt S x = true) : 0 ≤ x ∧ x < S.length := liveTo_lt ((liveAt_mem S x).2 h)

section
variable (S : List Sl) (A0 : Option Addr) (c0 lo : Nat) (lv : Value) (w : World)

set_option maxRecDepth 100000 in
set_option maxHeartbeats 4000000 in
theorem queueOk_c (v3 : Value) (h3 : v3.cells = #[v3]) (Q : List Int) (A1 : Option Addr) (c1 L B : Nat) (hB : B ≤ w.heap.size) (hlv : SetV w lo lv (liveTo S S.length)) (hS : S.length ≤ 1048576) (hQ : IL w L B A1 Q) :
    Calls Tryd.prog 79 #[.agg #[.slice A0 S.length c0, lv, .slice A1 Q.length c1, v3]] w fun e w' => e = .returned (.bool (decide (Q.length ≤ 500) && Q.all (liveAt S))) ∧ Below w.heap.size w w' := by
  have hm := hQ.1
  unfold maxLen at hm
  obtain ⟨LA, lc, hlf⟩ := hlv.form
  have hl1 : lv.cells = #[lv] := by rw [hlf]; rfl
  have KA := Blk.new w 82 #[.slice A0 S.length c0, lv, .slice A1 Q.length c1, v3]
  have hbW := blw1 w (.cells #[.slice A0 S.length c0, lv, .slice A1 Q.length c1, v3] 82)
  by_cases hq5 : 500 < (Q.length : Int)
  · have E := Lib.hid (show (decide (Q.length ≤ 500) && Q.all (liveAt S)) = false by rw [decide_eq_false (by omega)]; rfl)
    clear KA hlv hQ hlf
    go_enter Tryd.func79, Tryd.ntmps79
    go_wp2
    go_ret
    exact ⟨by rw [E.out]; rfl, hbW⟩
  have hq5' : (Q.length : Int) ≤ 500 := by omega
  have HKA := Lib.hid KA
  have HbW := Lib.hid hbW
  have HQ := Lib.hid hQ
  have Hlv := Lib.hid hlv
  clear KA hbW hQ hlv hlf hq5
  go_enter Tryd.func79, Tryd.ntmps79
  go_wp2_with fail
  generalize hW : w.alloc (.cells #[.slice A0 S.length c0, lv, .slice A1 Q.length c1, v3] 82) = W
  rw [hW] at HKA HbW
  clear hW
  go_loopw [12] (fun i wr => ∃ k : Nat, k ≤ Q.length ∧ i = .int .i64 k ∧ (Q.take k).all (liveAt S) = true ∧ Below w.heap.size w wr ∧ Blk wr w.heap.size 82 #[.slice A0 S.length c0, lv, .slice A1 Q.length c1, v3]) (fun i _ => Q.length - (intOf i).toNat)
  case atStart => exact ⟨0, Nat.zero_le _, rfl, by simp, HbW.out, HKA.out⟩
  case round =>
    obtain ⟨k, hk, rfl, hall, hbi, KPi⟩ := hrel
    have Hall := Lib.hid hall
    clear hall HbW HKA
    by_cases hlt : k < Q.length
    · obtain ⟨ad, rfl, _, hbk, hat⟩ := HQ.out.2 (by omega)
      have hck := (hbi.cell (by rw [block_of_add]; omega)).trans (hat k hlt)
      obtain ⟨x, hx⟩ : ∃ x, x = Q[k] := ⟨_, rfl⟩
      rw [← hx] at hck
      have r1 := KPi.cel 1 (v := lv) rfl
      have hh := setHas_c (liveTo S S.length) lv lo x wr (Nat.le_trans (liveTo_len _ _) hS) (liveTo_sorted _ _) (Hlv.out.below hbi)
      rw [hasLive] at hh
      have Hx := Lib.hid hx
      have Hbi := Lib.hid hbi
      have HKP := Lib.hid KPi
      clear hx hat hbi KPi
      cases hla : liveAt S x
      · have E := Lib.hid (show (decide (Q.length ≤ 500) && Q.all (liveAt S)) = false by rw [show Q.all (liveAt S) = false from all_not hlt (by rw [← Hx.out]; exact hla), Bool.and_false])
        rw [hla] at hh
        have Hh := Lib.hid hh
        clear hh hla
        go_wp2_with (go_at_call 102; refine Hh.out.mono ?_; rintro e w' ⟨rfl, rfl⟩)
        go_ret
        exact ⟨by rw [E.out]; rfl, Hbi.out⟩
      · have Hok := Lib.hid (show liveAt S Q[k] = true by rw [← Hx.out]; exact hla)
        rw [hla] at hh
        have Hh := Lib.hid hh
        clear hh hla
        go_wp2_with (go_at_call 102; refine Hh.out.mono ?_; rintro e w' ⟨rfl, rfl⟩)
        go_roundw
        case rel => exact ⟨k + 1, by omega, by go_num, all_next Hall.out hlt Hok.out, Hbi.out, HKP.out⟩
        case measure => simp [intOf]; omega
    · have E := Lib.hid (show (decide (Q.length ≤ 500) && Q.all (liveAt S)) = true by
        have h1 := Hall.out
        rw [show k = Q.length by omega, List.take_length] at h1
        rw [decide_eq_true (by omega), h1]; rfl)
      go_wp2
      go_ret
      exact ⟨by rw [E.out]; rfl, hbi⟩
end

/-- who was seen so far -/
def seenL (P : List Int) (k : Nat) : List Int := (P.take k).foldl insI []
theorem foldl_insI : ∀ (P l : List Int), l.Pairwise (· < ·) → (P.foldl insI l).Pairwise (· < ·) ∧ ∀ y, y ∈ P.foldl insI l ↔ y ∈ l ∨ y ∈ P
  | [], l, h => ⟨h, fun y => by show y ∈ l ↔ y ∈ l ∨ y ∈ []; simp⟩
  | x :: r, l, h => by
    obtain ⟨a, b⟩ := foldl_insI r (insI l x) (sorted_insI l x h)
    refine ⟨a, fun y => ?_⟩
    rw [List.foldl_cons, b y, mem_insI, List.mem_cons]
    refine ⟨fun h => ?_, fun h => ?_⟩
    · rcases h with (h | h) | h
      · exact .inr (.inl h)
      · exact .inl h
      · exact .inr (.inr h)
    · rcases h with h | h | h
      · exact .inl (.inr h)
      · exact .inl (.inl h)
      · exact .inr h
theorem seenL_sorted (P : List Int) (k : Nat) : (seenL P k).Pairwise (· < ·) := (foldl_insI _ [] List.Pairwise.nil).1
theorem seenL_mem (P : List Int) (k : Nat) (y : Int) : y ∈ seenL P k ↔ y ∈ P.take k := by
  unfold seenL
  rw [(foldl_insI (P.take k) [] List.Pairwise.nil).2 y]
  simp
theorem seenL_succ {P : List Int} {k : Nat} (h : k < P.length) : seenL P (k + 1) = insI (seenL P k) P[k] := by
  unfold seenL
  rw [List.take_succ_eq_append_getElem h, List.foldl_append]
  rfl
theorem foldl_insI_len : ∀ (P l : List Int), (P.foldl insI l).length ≤ l.length + P.length
  | [], l => Nat.le_refl _
  | x :: r, l => by
    have h1 := foldl_insI_len r (insI l x)
    have h2 := insI_len l x
    simp only [List.foldl_cons, List.length_cons]
    omega
theorem seenL_len (P : List Int) (k : Nat) : (seenL P k).length ≤ k := by
  have := foldl_insI_len (P.take k) []
  unfold seenL
  simp only [List.length_nil, List.length_take] at this
  omega
theorem hasSeen (P : List Int) (k : Nat) (x : Int) : hasI (seenL P k) x = (P.take k).contains x := by
  rw [Bool.eq_iff_iff, hasI_mem, seenL_mem, List.contains_iff_mem]

section
variable (S : List Sl) (A0 : Option Addr) (c0 lo : Nat) (lv : Value) (w : World)

set_option maxRecDepth 100000 in
set_option maxHeartbeats 4000000 in
theorem purpleOk_c (v2 : Value) (h2 : v2.cells = #[v2]) (P : List Int) (A2 : Option Addr) (c2 L B : Nat) (hB : B ≤ w.heap.size) (hlv : SetV w lo lv (liveTo S S.length)) (hS : S.length ≤ 1048576) (hP : IL w L B A2 P) (hPl : P.length ≤ 1048576) :
    Calls Tryd.prog 80 #[.agg #[.slice A0 S.length c0, lv, v2, .slice A2 P.length c2]] w fun e w' => e = .returned (.bool ((List.range P.length).all (purAt S P))) ∧ Below w.heap.size w w' := by
  have hm := hP.1
  unfold maxLen at hm
  obtain ⟨LA, lc, hlf⟩ := hlv.form
  have hl1 : lv.cells = #[lv] := by rw [hlf]; rfl
  have KA : Blk ((w.alloc (.cells #[.slice A0 S.length c0, lv, v2, .slice A2 P.length c2] 82)).alloc (.cells #[.slice none 0 0] 80)) w.heap.size 82 #[.slice A0 S.length c0, lv, v2, .slice A2 P.length c2] := (Blk.new w 82 #[.slice A0 S.length c0, lv, v2, .slice A2 P.length c2]).alloc _
  have KB : Blk ((w.alloc (.cells #[.slice A0 S.length c0, lv, v2, .slice A2 P.length c2] 82)).alloc (.cells #[.slice none 0 0] 80)) (w.heap.size + 1) 80 #[.slice none 0 0] := by
    have := Blk.new (w.alloc (.cells #[.slice A0 S.length c0, lv, v2, .slice A2 P.length c2] 82)) 80 #[.slice none 0 0]
    simpa using this
  have hbW := blw2 w (.cells #[.slice A0 S.length c0, lv, v2, .slice A2 P.length c2] 82) (.cells #[.slice none 0 0] 80)
  have HKA := Lib.hid KA
  have HKB := Lib.hid KB
  have HbW := Lib.hid hbW
  have HP := Lib.hid hP
  have Hlv := Lib.hid hlv
  clear KA KB hbW hP hlv hlf
  go_enter Tryd.func80, Tryd.ntmps80
  go_wp2_with fail
  generalize hW : (w.alloc (.cells #[.slice A0 S.length c0, lv, v2, .slice A2 P.length c2] 82)).alloc (.cells #[.slice none 0 0] 80) = W
  rw [hW] at HKA HKB HbW
  clear hW
  go_loopw [9] (fun i wr => ∃ (k : Nat) (sv : Value), k ≤ P.length ∧ i = .int .i64 k ∧ (List.range k).all (purAt S P) = true ∧ Below w.heap.size w wr ∧ Blk wr w.heap.size 82 #[.slice A0 S.length c0, lv, v2, .slice A2 P.length c2] ∧ Blk wr (w.heap.size + 1) 80 #[sv] ∧ SetV wr (w.heap.size + 2) sv (seenL P k)) (fun i _ => P.length - (intOf i).toNat)
  case atStart => exact ⟨0, .slice none 0 0, Nat.zero_le _, rfl, by simp, HbW.out, HKA.out, HKB.out, SetV.nil _ _⟩
  case round =>
    obtain ⟨k, sv, hk, rfl, hall, hbi, KPi, KSi, hsv⟩ := hrel
    have Hall := Lib.hid hall
    clear hall HbW HKA HKB
    by_cases hlt : k < P.length
    · obtain ⟨ad, rfl, _, hbk, hat⟩ := HP.out.2 (by omega)
      have hck := (hbi.cell (by rw [block_of_add]; omega)).trans (hat k hlt)
      obtain ⟨x, hx⟩ : ∃ x, x = P[k] := ⟨_, rfl⟩
      rw [← hx] at hck
      have r1 := KPi.cel 1 (v := lv) rfl
      have hh := setHas_c (liveTo S S.length) lv lo x wr (Nat.le_trans (liveTo_len _ _) hS) (liveTo_sorted _ _) (Hlv.out.below hbi)
      rw [hasLive] at hh
      have hpu : purAt S P k = (liveAt S x && !hasI (seenL P k) x) := by rw [purAt_eq hlt, ← hx, hasSeen]
      have hadd := setAdd_c (seenL P k) sv (w.heap.size + 2) x wr (w.heap.size + 1) 0 80 #[sv] (by have := seenL_len P k; omega) (seenL_sorted P k) hsv (by have := KSi.lt; omega) KSi rfl (by decide)
      have Hx := Lib.hid hx
      have Hpu := Lib.hid hpu
      have Hbi := Lib.hid hbi
      have HKP := Lib.hid KPi
      have HKS := Lib.hid KSi
      have Hsv := Lib.hid hsv
      have hsz := KSi.lt
      clear hx hat hbi KPi hpu hsv KSi
      cases hla : liveAt S x
      · have E := Lib.hid (show (List.range P.length).all (purAt S P) = false from range_not hlt (by rw [Hpu.out, hla]; rfl))
        rw [hla] at hh
        have Hh := Lib.hid hh
        clear hh hla hadd
        go_wp2_with (go_at_call 102; refine Hh.out.mono ?_; rintro e w' ⟨rfl, rfl⟩)
        go_ret
        exact ⟨by rw [E.out]; rfl, Hbi.out⟩
      rw [hla] at hh
      have Hla := Lib.hid hla
      have Hh := Lib.hid hh
      have Hadd := Lib.hid hadd
      clear hh hla hadd
      go_wp2_with (go_at_call 102; refine Hh.out.mono ?_; rintro e w' ⟨rfl, rfl⟩)
      refine Hadd.out.mono ?_
      rintro e w2 ⟨rfl, sv', hsv', hKS', hap⟩
      rw [show insI (seenL P k) x = seenL P (k + 1) by rw [seenL_succ hlt, ← Hx.out]] at hsv'
      have hnot : ∀ j, j < w.heap.size + 1 → ¬ (j = w.heap.size + 1 ∨ At sv j) := fun j hj h => by
        rcases h with h | h
        · omega
        · have := (Hsv.out.at_lt h).1
          omega
      have hbw2 : Below (w.heap.size + 1) wr w2 := hap.below (by omega) hnot
      have hb2 := Hbi.out.trans (hbw2.mono (Nat.le_succ _))
      have HKP2 := Lib.hid (HKP.out.below hbw2 (Nat.lt_succ_self _))
      have Hb2 := Lib.hid hb2
      have Hsv' := Lib.hid hsv'
      have HKS' := Lib.hid hKS'
      clear hnot hbw2 hb2 hsv' hKS' hap Hadd Hh r1 hck
      cases hse : hasI (seenL P k) x
      · have Hok := Lib.hid (show purAt S P k = true by rw [Hpu.out, Hla.out, hse]; rfl)
        clear hse
        go_wp2
        go_roundw
        case rel => exact ⟨k + 1, sv', by omega, by go_num, range_next Hall.out Hok.out, Hb2.out, HKP2.out, HKS'.out, Hsv'.out⟩
        case measure => simp [intOf]; omega
      · have E := Lib.hid (show (List.range P.length).all (purAt S P) = false from range_not hlt (by rw [Hpu.out, hse]; simp))
        clear hse
        go_wp2
        go_ret
        exact ⟨by rw [E.out]; rfl, Hb2.out⟩
    · have E := Lib.hid (show (List.range P.length).all (purAt S P) = true by
        have h1 := Hall.out
        rwa [show k = P.length by omega] at h1)
      clear hsv
      go_wp2
      go_ret
      exact ⟨by rw [E.out]; rfl, hbi⟩
end
end Go.Proofs.YtebgigiakfjocaaDoor
