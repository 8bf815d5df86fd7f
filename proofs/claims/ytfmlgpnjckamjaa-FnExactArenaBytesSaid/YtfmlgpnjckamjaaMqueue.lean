/-
  The program's room: queue and purple ones.
-/
import Derived.Test.YtfmlgpnjckamjaaMroom
import Derived.Test.YtfmlgpnjckamjaaMset
import Derived.Maps.AppendAt
import Derived.Deep.AppendLies
namespace Go.Proofs.Ytfmlgpnjckamjaa
open Go.RowKit
set_option linter.unusedVariables false
set_option linter.unusedSimpArgs false

def liveN (S : List Sl) (n : Nat) : Bool := match S[n]? with | some s => s.live | none => false
/-- live ones among the first k -/
def liveTo (S : List Sl) (k : Nat) : List Int := ((List.range k).filter (liveN S)).map fun n : Nat => (n : Int)
theorem liveTo_mem {S : List Sl} {k : Nat} {x : Int} : x ∈ liveTo S k ↔ ∃ n : Nat, n < k ∧ liveN S n = true ∧ (n : Int) = x := by
  unfold liveTo
  rw [List.mem_map]
  constructor
  · rintro ⟨n, hn, e⟩
    rw [List.mem_filter, List.mem_range] at hn
    exact ⟨n, hn.1, hn.2, e⟩
  · rintro ⟨n, hn, hl, e⟩
    exact ⟨n, List.mem_filter.2 ⟨List.mem_range.2 hn, hl⟩, e⟩
theorem liveTo_lt {S : List Sl} {k : Nat} {x : Int} (h : x ∈ liveTo S k) : 0 ≤ x ∧ x < k := by
  obtain ⟨n, hn, _, rfl⟩ := liveTo_mem.1 h
  omega
theorem liveTo_zero (S : List Sl) : liveTo S 0 = [] := rfl
theorem liveTo_yes {S : List Sl} {k : Nat} (hk : k < S.length) (h : S[k].live = true) : liveTo S (k + 1) = liveTo S k ++ [(k : Int)] := by
  unfold liveTo
  rw [List.range_succ, List.filter_append, List.map_append]
  have : liveN S k = true := by unfold liveN; rw [List.getElem?_eq_getElem hk]; exact h
  simp [this]
theorem liveTo_no {S : List Sl} {k : Nat} (hk : k < S.length) (h : S[k].live = false) : liveTo S (k + 1) = liveTo S k := by
  unfold liveTo
  rw [List.range_succ, List.filter_append, List.map_append]
  have : liveN S k = false := by unfold liveN; rw [List.getElem?_eq_getElem hk]; exact h
  simp [this]
theorem liveTo_ins {S : List Sl} {k : Nat} (hk : k < S.length) (h : S[k].live = true) : insI (liveTo S k) k = liveTo S (k + 1) := by
  rw [liveTo_yes hk h]
  exact insI_end _ _ fun y hy => (liveTo_lt hy).2
theorem liveTo_sorted (S : List Sl) : ∀ k, (liveTo S k).Pairwise (· < ·) := by
  intro k
  unfold liveTo
  rw [List.pairwise_map]
  exact (List.Pairwise.filter _ List.pairwise_lt_range).imp fun h => by omega
theorem liveTo_len (S : List Sl) (k : Nat) : (liveTo S k).length ≤ k := by
  unfold liveTo
  rw [List.length_map]
  exact Nat.le_trans (List.length_filter_le _ _) (by simp)
theorem liveAt_mem (S : List Sl) (x : Int) : x ∈ liveTo S S.length ↔ liveAt S x = true := by
  rw [liveTo_mem]
  unfold liveAt slotAt
  constructor
  · rintro ⟨n, hn, hl, rfl⟩
    rw [if_pos (by omega), show ((n : Int)).toNat = n by omega]
    exact hl
  · intro h
    by_cases hx : 0 ≤ x ∧ x < S.length
    · rw [if_pos hx] at h
      exact ⟨x.toNat, by omega, h, by omega⟩
    · rw [if_neg hx] at h
      cases h
theorem hasLive (S : List Sl) (x : Int) : hasI (liveTo S S.length) x = liveAt S x := by
  rw [Bool.eq_iff_iff, hasI_mem, liveAt_mem]
theorem liveAt_in {S : List Sl} {x : Int} (h : liveAt S x = true) : 0 ≤ x ∧ x < S.length := liveTo_lt ((liveAt_mem S x).2 h)

section
variable (S : List Sl) (A0 : Option Addr) (c0 lo : Nat) (lv : Value) (w : World)

set_option maxRecDepth 100000 in
set_option maxHeartbeats 4000000 in
theorem queueOk_c (v3 : Value) (h3 : v3.cells = #[v3]) (Q : List Int) (A1 : Option Addr) (c1 L B : Nat) (hB : B ≤ w.heap.size) (hlv : SetV w lo lv (liveTo S S.length)) (hS : S.length ≤ 1050000) (hQ : IL w L B A1 Q) :
    Calls Try.prog 99 #[.agg #[.slice A0 S.length c0, lv, .slice A1 Q.length c1, v3]] w fun e w' => e = .returned (.bool (decide (Q.length ≤ 500) && Q.all (liveAt S))) ∧ Below w.heap.size w w' := by
  have hm := hQ.1
  unfold maxLen at hm
  obtain ⟨LA, lc, hlf⟩ := hlv.form
  have hl1 : lv.cells = #[lv] := by rw [hlf]; rfl
  have KA := Blk.new w 100 #[.slice A0 S.length c0, lv, .slice A1 Q.length c1, v3]
  have hbW := blw1 w (.cells #[.slice A0 S.length c0, lv, .slice A1 Q.length c1, v3] 100)
  by_cases hq5 : 500 < (Q.length : Int)
  · have E := Lib.hid (show (decide (Q.length ≤ 500) && Q.all (liveAt S)) = false by rw [decide_eq_false (by omega)]; rfl)
    clear KA hlv hQ hlf
    go_enter Try.func99, Try.ntmps99
    go_wp2
    go_ret
    exact ⟨by rw [E.out]; rfl, hbW⟩
  have hq5' : (Q.length : Int) ≤ 500 := by omega
  have HKA := Lib.hid KA
  have HbW := Lib.hid hbW
  have HQ := Lib.hid hQ
  have Hlv := Lib.hid hlv
  clear KA hbW hQ hlv hlf hq5
  go_enter Try.func99, Try.ntmps99
  go_wp2_with fail
  generalize hW : w.alloc (.cells #[.slice A0 S.length c0, lv, .slice A1 Q.length c1, v3] 100) = W
  rw [hW] at HKA HbW
  clear hW
  go_loopw [12] (fun i wr => ∃ k : Nat, k ≤ Q.length ∧ i = .int .i64 k ∧ (Q.take k).all (liveAt S) = true ∧ Below w.heap.size w wr ∧ Blk wr w.heap.size 100 #[.slice A0 S.length c0, lv, .slice A1 Q.length c1, v3]) (fun i _ => Q.length - (intOf i).toNat)
  case atStart => exact ⟨0, Nat.zero_le _, rfl, by simp, HbW.out, HKA.out⟩
  case round =>
    obtain ⟨k, hk, rfl, hall, hbi, KPi⟩ := hrel
    have Hall := Lib.hid hall
    clear hall HbW HKA
    by_cases hlt : k < Q.length
    · obtain ⟨ad, rfl, _, hbk, hat⟩ := HQ.out.2 (by omega)
      have hck := (hbi.cell (by rw [block_of_add]; omega)).trans (hat k hlt)
      obtain ⟨x, hx⟩ : ∃ x, x = Q[k] := ⟨_, rfl⟩
      rw [← hx] at hck
      have r1 := KPi.cel 1 (v := lv) rfl
      have hh := setHas_c (liveTo S S.length) lv lo x wr (Nat.le_trans (liveTo_len _ _) hS) (liveTo_sorted _ _) (Hlv.out.below hbi)
      rw [hasLive] at hh
      have Hx := Lib.hid hx
      have Hbi := Lib.hid hbi
      have HKP := Lib.hid KPi
      clear hx hat hbi KPi
      cases hla : liveAt S x
      · have E := Lib.hid (show (decide (Q.length ≤ 500) && Q.all (liveAt S)) = false by rw [show Q.all (liveAt S) = false from all_not hlt (by rw [← Hx.out]; exact hla), Bool.and_false])
        rw [hla] at hh
        have Hh := Lib.hid hh
        clear hh hla
        go_wp2_with (go_at_call 129; refine Hh.out.mono ?_; rintro e w' ⟨rfl, rfl⟩)
        go_ret
        exact ⟨by rw [E.out]; rfl, Hbi.out⟩
      · have Hok := Lib.hid (show liveAt S Q[k] = true by rw [← Hx.out]; exact hla)
        rw [hla] at hh
        have Hh := Lib.hid hh
        clear hh hla
        go_wp2_with (go_at_call 129; refine Hh.out.mono ?_; rintro e w' ⟨rfl, rfl⟩)
        go_roundw
        case rel => exact ⟨k + 1, by omega, by go_num, all_next Hall.out hlt Hok.out, Hbi.out, HKP.out⟩
        case measure => simp [intOf]; omega
    · have E := Lib.hid (show (decide (Q.length ≤ 500) && Q.all (liveAt S)) = true by
        have h1 := Hall.out
        rw [show k = Q.length by omega, List.take_length] at h1
        rw [decide_eq_true (by omega), h1]; rfl)
      go_wp2
      go_ret
      exact ⟨by rw [E.out]; rfl, hbi⟩
end

/-- who was seen so far -/
def seenL (P : List Int) (k : Nat) : List Int := (P.take k).foldl insI []
theorem foldl_insI : ∀ (P l : List Int), l.Pairwise (· < ·) → (P.foldl insI l).Pairwise (· < ·) ∧ ∀ y, y ∈ P.foldl insI l ↔ y ∈ l ∨ y ∈ P
  | [], l, h => ⟨h, fun y => by show y ∈ l ↔ y ∈ l ∨ y ∈ []; simp⟩
  | x :: r, l, h => by
    obtain ⟨a, b⟩ := foldl_insI r (insI l x) (sorted_insI l x h)
    refine ⟨a, fun y => ?_⟩
    rw [List.foldl_cons, b y, mem_insI, List.mem_cons]
    refine ⟨fun h => ?_, fun h => ?_⟩
    · rcases h with (h | h) | h
      · exact .inr (.inl h)
      · exact .inl h
      · exact .inr (.inr h)
    · rcases h with h | h | h
      · exact .inl (.inr h)
      · exact .inl (.inl h)
      · exact .inr h
theorem seenL_sorted (P : List Int) (k : Nat) : (seenL P k).Pairwise (· < ·) := (foldl_insI _ [] List.Pairwise.nil).1
theorem seenL_mem (P : List Int) (k : Nat) (y : Int) : y ∈ seenL P k ↔ y ∈ P.take k := by
  unfold seenL
  rw [(foldl_insI (P.take k) [] List.Pairwise.nil).2 y]
  simp
theorem seenL_succ {P : List Int} {k : Nat} (h : k < P.length) : seenL P (k + 1) = insI (seenL P k) P[k] := by
  unfold seenL
  rw [List.take_succ_eq_append_getElem h, List.foldl_append]
  rfl
theorem foldl_insI_len : ∀ (P l : List Int), (P.foldl insI l).length ≤ l.length + P.length
  | [], l => Nat.le_refl _
  | x :: r, l => by
    have h1 := foldl_insI_len r (insI l x)
    have h2 := insI_len l x
    simp only [List.foldl_cons, List.length_cons]
    omega
theorem seenL_len (P : List Int) (k : Nat) : (seenL P k).length ≤ k := by
  have := foldl_insI_len (P.take k) []
  unfold seenL
  simp only [List.length_nil, List.length_take] at this
  omega
theorem hasSeen (P : List Int) (k : Nat) (x : Int) : hasI (seenL P k) x = (P.take k).contains x := by
  rw [Bool.eq_iff_iff, hasI_mem, seenL_mem, List.contains_iff_mem]

section
variable (S : List Sl) (A0 : Option Addr) (c0 lo : Nat) (lv : Value) (w : World)

set_option maxRecDepth 100000 in
set_option maxHeartbeats 4000000 in
theorem purpleOk_c (v2 : Value) (h2 : v2.cells = #[v2]) (P : List Int) (A2 : Option Addr) (c2 L B : Nat) (hB : B ≤ w.heap.size) (hlv : SetV w lo lv (liveTo S S.length)) (hS : S.length ≤ 1050000) (hP : IL w L B A2 P) (hPl : P.length ≤ 1050000) :
    Calls Try.prog 100 #[.agg #[.slice A0 S.length c0, lv, v2, .slice A2 P.length c2]] w fun e w' => e = .returned (.bool ((List.range P.length).all (purAt S P))) ∧ Below w.heap.size w w' := by
  have hm := hP.1
  unfold maxLen at hm
  obtain ⟨LA, lc, hlf⟩ := hlv.form
  have hl1 : lv.cells = #[lv] := by rw [hlf]; rfl
  have KA : Blk ((w.alloc (.cells #[.slice A0 S.length c0, lv, v2, .slice A2 P.length c2] 100)).alloc (.cells #[.slice none 0 0] 98)) w.heap.size 100 #[.slice A0 S.length c0, lv, v2, .slice A2 P.length c2] := (Blk.new w 100 #[.slice A0 S.length c0, lv, v2, .slice A2 P.length c2]).alloc _
  have KB : Blk ((w.alloc (.cells #[.slice A0 S.length c0, lv, v2, .slice A2 P.length c2] 100)).alloc (.cells #[.slice none 0 0] 98)) (w.heap.size + 1) 98 #[.slice none 0 0] := by
    have := Blk.new (w.alloc (.cells #[.slice A0 S.length c0, lv, v2, .slice A2 P.length c2] 100)) 98 #[.slice none 0 0]
    simpa using this
  have hbW := blw2 w (.cells #[.slice A0 S.length c0, lv, v2, .slice A2 P.length c2] 100) (.cells #[.slice none 0 0] 98)
  have HKA := Lib.hid KA
  have HKB := Lib.hid KB
  have HbW := Lib.hid hbW
  have HP := Lib.hid hP
  have Hlv := Lib.hid hlv
  clear KA KB hbW hP hlv hlf
  go_enter Try.func100, Try.ntmps100
  go_wp2_with fail
  generalize hW : (w.alloc (.cells #[.slice A0 S.length c0, lv, v2, .slice A2 P.length c2] 100)).alloc (.cells #[.slice none 0 0] 98) = W
  rw [hW] at HKA HKB HbW
  clear hW
  go_loopw [9] (fun i wr => ∃ (k : Nat) (sv : Value), k ≤ P.length ∧ i = .int .i64 k ∧ (List.range k).all (purAt S P) = true ∧ Below w.heap.size w wr ∧ Blk wr w.heap.size 100 #[.slice A0 S.length c0, lv, v2, .slice A2 P.length c2] ∧ Blk wr (w.heap.size + 1) 98 #[sv] ∧ SetV wr (w.heap.size + 2) sv (seenL P k)) (fun i _ => P.length - (intOf i).toNat)
  case atStart => exact ⟨0, .slice none 0 0, Nat.zero_le _, rfl, by simp, HbW.out, HKA.out, HKB.out, SetV.nil _ _⟩
  case round =>
    obtain ⟨k, sv, hk, rfl, hall, hbi, KPi, KSi, hsv⟩ := hrel
    have Hall := Lib.hid hall
    clear hall HbW HKA HKB
    by_cases hlt : k < P.length
    · obtain ⟨ad, rfl, _, hbk, hat⟩ := HP.out.2 (by omega)
      have hck := (hbi.cell (by rw [block_of_add]; omega)).trans (hat k hlt)
      obtain ⟨x, hx⟩ : ∃ x, x = P[k] := ⟨_, rfl⟩
      rw [← hx] at hck
      have r1 := KPi.cel 1 (v := lv) rfl
      have hh := setHas_c (liveTo S S.length) lv lo x wr (Nat.le_trans (liveTo_len _ _) hS) (liveTo_sorted _ _) (Hlv.out.below hbi)
      rw [hasLive] at hh
      have hpu : purAt S P k = (liveAt S x && !hasI (seenL P k) x) := by rw [purAt_eq hlt, ← hx, hasSeen]
      have hadd := setAdd_c (seenL P k) sv (w.heap.size + 2) x wr (w.heap.size + 1) 0 98 #[sv] (by have := seenL_len P k; omega) (seenL_sorted P k) hsv (by have := KSi.lt; omega) KSi rfl (by decide)
      have Hx := Lib.hid hx
      have Hpu := Lib.hid hpu
      have Hbi := Lib.hid hbi
      have HKP := Lib.hid KPi
      have HKS := Lib.hid KSi
      have Hsv := Lib.hid hsv
      have hsz := KSi.lt
      clear hx hat hbi KPi hpu hsv KSi
      cases hla : liveAt S x
      · have E := Lib.hid (show (List.range P.length).all (purAt S P) = false from range_not hlt (by rw [Hpu.out, hla]; rfl))
        rw [hla] at hh
        have Hh := Lib.hid hh
        clear hh hla hadd
        go_wp2_with (go_at_call 129; refine Hh.out.mono ?_; rintro e w' ⟨rfl, rfl⟩)
        go_ret
        exact ⟨by rw [E.out]; rfl, Hbi.out⟩
      rw [hla] at hh
      have Hla := Lib.hid hla
      have Hh := Lib.hid hh
      have Hadd := Lib.hid hadd
      clear hh hla hadd
      go_wp2_with (go_at_call 129; refine Hh.out.mono ?_; rintro e w' ⟨rfl, rfl⟩)
      refine Hadd.out.mono ?_
      rintro e w2 ⟨rfl, sv', hsv', hKS', hap⟩
      rw [show insI (seenL P k) x = seenL P (k + 1) by rw [seenL_succ hlt, ← Hx.out]] at hsv'
      have hnot : ∀ j, j < w.heap.size + 1 → ¬ (j = w.heap.size + 1 ∨ At sv j) := fun j hj h => by
        rcases h with h | h
        · omega
        · have := (Hsv.out.at_lt h).1
          omega
      have hbw2 : Below (w.heap.size + 1) wr w2 := hap.below (by omega) hnot
      have hb2 := Hbi.out.trans (hbw2.mono (Nat.le_succ _))
      have HKP2 := Lib.hid (HKP.out.below hbw2 (Nat.lt_succ_self _))
      have Hb2 := Lib.hid hb2
      have Hsv' := Lib.hid hsv'
      have HKS' := Lib.hid hKS'
      clear hnot hbw2 hb2 hsv' hKS' hap Hadd Hh r1 hck
      cases hse : hasI (seenL P k) x
      · have Hok := Lib.hid (show purAt S P k = true by rw [Hpu.out, Hla.out, hse]; rfl)
        clear hse
        go_wp2
        go_roundw
        case rel => exact ⟨k + 1, sv', by omega, by go_num, range_next Hall.out Hok.out, Hb2.out, HKP2.out, HKS'.out, Hsv'.out⟩
        case measure => simp [intOf]; omega
      · have E := Lib.hid (show (List.range P.length).all (purAt S P) = false from range_not hlt (by rw [Hpu.out, hse]; simp))
        clear hse
        go_wp2
        go_ret
        exact ⟨by rw [E.out]; rfl, Hb2.out⟩
    · have E := Lib.hid (show (List.range P.length).all (purAt S P) = true by
        have h1 := Hall.out
        rwa [show k = P.length by omega] at h1)
      clear hsv
      go_wp2
      go_ret
      exact ⟨by rw [E.out]; rfl, hbi⟩
end
end Go.Proofs.Ytfmlgpnjckamjaa

namespace Go.Proofs.Ytfmlgpnjckamjaa
open Go.RowKit
set_option linter.unusedVariables false
set_option linter.unusedSimpArgs false

theorem sizeOk2_c (x : Int) (w : World) : Calls Try.prog 95 #[.int .i64 x] w fun e w' => e = .returned (.bool (decide (1 ≤ x) && decide (x ≤ 16))) ∧ w = w' := by
  by_cases h : 1 ≤ x
  · rw [decide_eq_true h, Bool.true_and]
    go_enter Try.func95, Try.ntmps95
    go_wp2
    go_ret
    exact ⟨rfl, rfl⟩
  · have h' := decide_eq_false h
    rw [h', Bool.false_and]
    go_enter Try.func95, Try.ntmps95
    go_wp2
    go_ret
    exact ⟨rfl, rfl⟩

set_option maxRecDepth 100000 in
set_option maxHeartbeats 1000000 in
theorem slotOf_c (lv : Bool) (gn ct : Int) (FA : Option Addr) (n fc : Nat) (w : World) :
    Calls Try.prog 96 #[.agg #[.bool lv, .int .i64 gn, .int .i64 ct, .slice FA n fc]] w fun e w' => e = .returned (.agg #[.bool lv, .int .i64 gn, .int .i64 ct, .slice FA n fc]) ∧ Below w.heap.size w w' := by
  go_enter Try.func96, Try.ntmps96
  go_wp2
  exact bodyPost_ret (v := .agg #[.bool lv, .int .i64 gn, .int .i64 ct, .slice FA n fc]) (by simp [results, Try.results96, go_sem]) rfl ⟨rfl, by first | exact (((blw2 _ _ _).setCell (by simp) _).setCell (by simp) _).setCell (by simp) _ | exact blw2 _ _ _ | exact ((((blw2 _ _ _).setCell (by simp) _).setCell (by simp) _).setCell (by simp) _).setCell (by simp) _⟩

/-- an append whose run is known, as one step of a region that draws its order -/
theorem step_append_known {P : Program} {ops : Array Oper} {o : Oper} {a : Act} {w : World} {K : Act → World → Prop} {Q : Exit → Act → World → Prop} {E : Prop} (hgd : o.guard = none) (s x : Operand) (t tn : TypeId)
    (ho : o.op = Op.call { callee := Callee.builtin Builtin.append, args := #[s, x], argTypes := #[t, tn] }) (vs vx : Value) (hs : a.eval s = vs) (hx : a.eval x = vx) {v' : Value} {w' : World}
    (hrun : (Builtin.append_ #[t, tn] o.type #[vs, vx]).run P w = .ok v' w') (h : K (a.put o.dst v') w') :
    if Region.wanted o (yielded ops a.tmps) = true then Oper.wp P o a w K Q else E := by
  rw [if_pos (show Region.wanted o (yielded ops a.tmps) = true by simp [Region.wanted, hgd])]
  exact Lib.wp_append_run w s x t tn ho vs vx hs hx v' w' hrun h

theorem infoRS : (Try.prog.info? 129).map (fun i => (i.zero, i.size, i.bytes)) = some (some (.agg #[.bool false, .int .i64 0, .int .i64 0, .slice none 0 0]), 4, 48) := by kernel_rfl

/-- a row of slots that grows -/
def SRow (w : World) (lo : Nat) (V : Value → Value → Value → Value → Sl → Prop) (A : Option Addr) (n c : Nat) (S : List Sl) : Prop :=
  n ≤ S.length ∧ ((A = none ∧ n = 0 ∧ c = 0) ∨ ∃ (g : Nat) (cs : Array Value), A = some ⟨g, 0, none⟩ ∧ lo ≤ g ∧ Blk w g 129 cs ∧ cs.size = c * 4 ∧ n ≤ c ∧ c ≤ maxLen ∧ RowP V cs S n)
theorem SRow.apart {X : Nat → Prop} {w w' : World} {lo : Nat} {V : Value → Value → Value → Value → Sl → Prop} {A : Option Addr} {n c : Nat} {S : List Sl} (h : SRow w lo V A n c S) (ha : Apart X w w') (hn : ∀ k, At (.slice A n c) k → ¬ X k) : SRow w' lo V A n c S := by
  refine ⟨h.1, ?_⟩
  rcases h.2 with h | ⟨g, cs, rfl, hg, hb, h⟩
  · exact .inl h
  · exact .inr ⟨g, cs, rfl, hg, hb.apart ha (hn g ⟨_, _, _, rfl, rfl⟩), h⟩
theorem SRow.at_lt {w : World} {lo : Nat} {V : Value → Value → Value → Value → Sl → Prop} {A : Option Addr} {n c : Nat} {S : List Sl} (h : SRow w lo V A n c S) {k : Nat} (hk : At (.slice A n c) k) : lo ≤ k ∧ k < w.heap.size ∧ ∃ cs, Blk w k 129 cs := by
  rcases h.2 with ⟨rfl, _⟩ | ⟨g, cs, rfl, hg, hb, _⟩
  · exact hk.nil.elim
  · rw [hk.some_]
    exact ⟨hg, hb.lt, cs, hb⟩
theorem SRow.read {w : World} {lo : Nat} {V : Value → Value → Value → Value → Sl → Prop} {A : Option Addr} {n c : Nat} {S : List Sl} (h : SRow w lo V A n c S) (hn : n = S.length) (hm : S.length ≤ maxLen) : Row4 V w lo w.heap.size A S := by
  rcases h.2 with ⟨rfl, h0, _⟩ | ⟨g, cs, rfl, hg, hb, hs, hc, hcm, hp⟩
  · have : S = [] := List.eq_nil_of_length_eq_zero (by omega)
    subst this
    exact Row4.none_ _ _ _ _ _
  · rw [hn] at hp
    exact hp.row hm hb hg

theorem RowP.more_ {V : Value → Value → Value → Value → Sl → Prop} {cs : Array Value} {l : List Sl} {k : Nat} (h : RowP V cs l k) (hk : k < l.length) (hcs : (k + 1) * 4 ≤ cs.size) {u0 u1 u2 u3 : Value} (hv : V u0 u1 u2 u3 l[k]) :
    RowP V (pt4 cs (k * 4) u0 u1 u2 u3) l (k + 1) := by
  intro i hi hik
  by_cases e : i = k
  · subst e
    obtain ⟨a0, a1, a2, a3⟩ := pt4_at (cs := cs) (k := i * 4) (a := u0) (b := u1) (c := u2) (d := u3) (by omega)
    exact ⟨u0, u1, u2, u3, a0, a1, a2, a3, hv⟩
  · obtain ⟨x0, x1, x2, x3, c0, c1, c2, c3, hx⟩ := h i hi (by omega)
    refine ⟨x0, x1, x2, x3, ?_, ?_, ?_, ?_, hx⟩
    · rw [pt4_ne (by omega)]; exact c0
    · rw [pt4_ne (by omega)]; exact c1
    · rw [pt4_ne (by omega)]; exact c2
    · rw [pt4_ne (by omega)]; exact c3
theorem RowP.ext_ {V : Value → Value → Value → Value → Sl → Prop} {cs cs' : Array Value} {l : List Sl} {k : Nat} (h : RowP V cs l k) (he : ∀ j, j < k * 4 → cs'[j]? = cs[j]?) : RowP V cs' l k := fun i hi hk => by
  obtain ⟨x0, x1, x2, x3, c0, c1, c2, c3, hx⟩ := h i hi hk
  exact ⟨x0, x1, x2, x3, (he _ (by omega)).trans c0, (he _ (by omega)).trans c1, (he _ (by omega)).trans c2, (he _ (by omega)).trans c3, hx⟩

theorem rowApp (w : World) (lo : Nat) (V : Value → Value → Value → Value → Sl → Prop) (A : Option Addr) (n c : Nat) (S : List Sl) (gx : Nat) (u0 u1 u2 u3 : Value) (hlo : lo ≤ w.heap.size) (hn16 : n ≤ 1050000) (h : SRow w lo V A n c S) (hk : n < S.length) (hv : V u0 u1 u2 u3 S[n])
    (hx : Blk w gx 129 #[u0, u1, u2, u3]) (h1 : ∀ u ∈ [u0, u1, u2, u3], u.oneCell' = true) :
    ∃ A' c' w', (∀ ty, (Builtin.append_ #[97, 97] ty #[.slice A n c, .slice (some ⟨gx, 0, none⟩) 1 1]).run Try.prog w = .ok (.slice A' (n + 1) c') w') ∧ SRow w' lo V A' (n + 1) c' S ∧ Apart (At (.slice A n c)) w w' := by
  obtain ⟨i0, hi, hz0, hz1, hz2⟩ := info_parts infoRS
  have hsrc : Src Try.prog i0.size 97 (.slice (some ⟨gx, 0, none⟩) 1 1) 1 [u0, u1, u2, u3] w := by
    rw [hz1]
    refine Src.ofSlice w Try.underlying97 ⟨gx, 0, none⟩ 1 1 [u0, u1, u2, u3] (by simp) (fun j u hj => ?_) h1
    rw [add_zero_, hx.cell]
    match j, hj with
    | 0, hj => simpa using hj
    | 1, hj => simpa using hj
    | 2, hj => simpa using hj
    | 3, hj => simpa using hj
  have hgrow : ∀ (olds : List Value), (Builtin.firstCells i0.size n (.slice A n c)).run Try.prog w.drew = .ok olds.toArray w.drew → olds.length = n * 4 → c < n + 1 → n ≤ c →
      (∀ cs' : Array Value, (∀ j, j < n * 4 → cs'[j]? = olds[j]?) → RowP V cs' S n) → ∃ A' c' w', (∀ ty, (Builtin.append_ #[97, 97] ty #[.slice A n c, .slice (some ⟨gx, 0, none⟩) 1 1]).run Try.prog w = .ok (.slice A' (n + 1) c') w') ∧ SRow w' lo V A' (n + 1) c' S ∧ Apart (At (.slice A n c)) w w' := by
    intro olds hold hol hr hnc hrow
    have hrun : ∀ ty, (Builtin.append_ #[97, 97] ty #[.slice A n c, .slice (some ⟨gx, 0, none⟩) 1 1]).run Try.prog w = _ := fun ty =>
      run_append_grow_src w 97 97 ty 129 i0 _ Try.underlying97 hi hz0 A n c olds hold _ 1 [u0, u1, u2, u3] hsrc hr (by omega) (by rw [hz2]; exact growslice_fits hr (by omega))
    have hge := grownCap_ge w (n + 1) c 129
    have hle := grownCap_le_maxLen w (n + 1) c 129 (by unfold maxLen; omega)
    refine ⟨_, _, _, hrun, ⟨hk, .inr ⟨w.heap.size, _, rfl, hlo, heap_alloc_new w.drew _, ?_, hge, hle, ?_⟩⟩, ((Apart.refl _ w).drew).alloc _⟩
    · simp [size_zeroCells, Value.cells, hol]; omega
    · have hA : ∀ j, j < (n + 1) * 4 → ((olds ++ [u0, u1, u2, u3]).toArray ++ Builtin.zeroCells (Value.agg #[.bool false, .int .i64 0, .int .i64 0, .slice none 0 0]).cells (grownCap w (n + 1) c 129 - (n + 1)))[j]? = (olds ++ [u0, u1, u2, u3])[j]? := fun j hj => by
        rw [Array.getElem?_append_left (by simp [hol]; omega), List.getElem?_toArray]
      intro i hi' hik
      by_cases e : i = n
      · subst e
        refine ⟨u0, u1, u2, u3, ?_, ?_, ?_, ?_, hv⟩
        · rw [hA _ (by omega), List.getElem?_append_right (by omega)]; simp [hol]
        · rw [hA _ (by omega), List.getElem?_append_right (by omega)]; simp [hol]
        · rw [hA _ (by omega), List.getElem?_append_right (by omega)]; simp [hol]
        · rw [hA _ (by omega), List.getElem?_append_right (by omega)]; simp [hol]
      · exact hrow _ (fun j hj => by rw [hA _ (by omega), List.getElem?_append_left (by omega)]) i hi' (by omega)
  rcases h.2 with ⟨rfl, rfl, rfl⟩ | ⟨g, cs, rfl, hg, hb, hs, hc, hcm, hp⟩
  · exact hgrow [] (run_firstCells_none w.drew i0.size 0 0 0) rfl (by omega) (by omega) (fun cs' _ i _ hik => absurd hik (by omega))
  · by_cases hr : n + 1 ≤ c
    · have hrun : ∀ ty, (Builtin.append_ #[97, 97] ty #[.slice (some ⟨g, 0, none⟩) n c, .slice (some ⟨gx, 0, none⟩) 1 1]).run Try.prog w = _ := fun ty =>
        run_append_room_src w 97 97 ty 129 i0 Try.underlying97 hi g 0 n c _ 1 [u0, u1, u2, u3] hsrc hr
          (fun j hj => by rw [hb.cell, Array.getElem?_eq_getElem (by rw [hz1]; simp at hj; omega)]; rfl) (fun j _ => hb.frozen _)
      refine ⟨_, _, _, hrun, ⟨hk, .inr ⟨g, pt4 cs (n * 4) u0 u1 u2 u3, rfl, hg, ?_, by rw [pt4_size]; exact hs, hr, hcm, hp.more_ hk (by omega) hv⟩⟩, ?_⟩
      · have := hb.pt4 (n * 4) u0 u1 u2 u3
        rw [hz1, Nat.zero_add]
        exact this
      · have hA : At (.slice (some ⟨g, 0, none⟩) n c) g := ⟨_, _, _, rfl, rfl⟩
        exact ((((Apart.refl _ w).setCell hA _).setCell hA _).setCell hA _).setCell hA _
    · refine hgrow (cs.toList.take (n * 4)) ?_ (by simp; omega) (by omega) hc (fun cs' he => hp.ext_ fun j hj => ?_)
      · rw [hz1]
        refine run_firstCells_some w.drew 4 n ⟨g, 0, none⟩ n c (cs.toList.take (n * 4)) (by simp; omega) (fun j v hj => ?_)
        rw [add_zero_]
        show w.cell? _ = _
        rw [hb.cell]
        rw [List.getElem?_take] at hj
        split at hj
        · rw [Array.getElem?_toList] at hj; exact hj
        · cases hj
      · rw [he j hj, List.getElem?_take_of_lt hj, Array.getElem?_toList]
end Go.Proofs.Ytfmlgpnjckamjaa
