/-
  A set of numbers: what is added to it.
-/
import Derived.Test.YtebgigiakfjocaaDoorSetIns2
namespace Go.Proofs.YtebgigiakfjocaaDoor
open Go.RowKit
set_option linter.unusedVariables false

/-- a list with x at its place -/
def insI : List Int → Int → List Int
  | [], x => [x]
  | a :: r, x => if x < a then x :: a :: r else if x = a then a :: r else a :: insI r x
theorem mem_insI : ∀ (l : List Int) (x y : Int), y ∈ insI l x ↔ y = x ∨ y ∈ l
  | [], x, y => by simp [insI]
  | a :: r, x, y => by
    unfold insI
    split
    · simp
    · split
      · rename_i h; subst h; simp
      · have := mem_insI r x y
        simp only [List.mem_cons, this]
        constructor <;> (intro h; rcases h with h | h | h <;> simp [h])
theorem sorted_insI : ∀ (l : List Int) (x : Int), l.Pairwise (· < ·) → (insI l x).Pairwise (· < ·)
  | [], x, _ => by simp [insI]
  | a :: r, x, h => by
    rw [List.pairwise_cons] at h
    unfold insI
    split
    · rename_i h1
      rw [List.pairwise_cons, List.pairwise_cons]
      exact ⟨fun y hy => by
        rcases List.mem_cons.1 hy with rfl | hy
        · exact h1
        · exact Int.lt_trans h1 (h.1 y hy), h⟩
    · split
      · rw [List.pairwise_cons]; exact h
      · rename_i h1 h2
        rw [List.pairwise_cons]
        refine ⟨fun y hy => ?_, sorted_insI r x h.2⟩
        rcases (mem_insI r x y).1 hy with rfl | hy
        · omega
        · exact h.1 y hy
theorem insI_len : ∀ (l : List Int) (x : Int), (insI l x).length ≤ l.length + 1
  | [], x => by simp [insI]
  | a :: r, x => by
    have := insI_len r x
    unfold insI
    split
    · simp
    · split <;> simp <;> omega
theorem hasI_mem (l : List Int) (x : Int) : hasI l x = true ↔ x ∈ l := by unfold hasI; rw [List.contains_iff_mem]
theorem hasI_not (l : List Int) (x : Int) : hasI l x = false ↔ x ∉ l := by rw [← hasI_mem]; simp
theorem insI_has : ∀ (l : List Int) (x : Int), l.Pairwise (· < ·) → x ∈ l → insI l x = l
  | [], x, _, h => by simp at h
  | a :: r, x, hs, h => by
    rw [List.pairwise_cons] at hs
    unfold insI
    rcases List.mem_cons.1 h with rfl | h
    · simp
    · have := hs.1 x h
      rw [if_neg (by omega), if_neg (by omega), insI_has r x hs.2 h]
theorem lowI_zero : ∀ (l : List Int) (x : Int), (∀ y ∈ l, x ≤ y) → lowI l x = 0
  | [], x, _ => rfl
  | a :: r, x, h => by
    unfold lowI
    rw [List.countP_cons_of_neg (by simpa using h a (by simp))]
    exact lowI_zero r x fun y hy => h y (by simp [hy])
theorem insI_at : ∀ (l : List Int) (x : Int), l.Pairwise (· < ·) → x ∉ l → insI l x = insAt l (lowI l x) x
  | [], x, _, _ => rfl
  | a :: r, x, hs, h => by
    rw [List.pairwise_cons] at hs
    rw [List.mem_cons] at h
    unfold insI
    by_cases h1 : x < a
    · rw [if_pos h1, lowI_zero (a :: r) x (fun y hy => by
        rcases List.mem_cons.1 hy with rfl | hy
        · omega
        · have := hs.1 y hy; omega)]
      rfl
    · rw [if_neg h1, if_neg (fun e => h (.inl e)), insI_at r x hs.2 (fun e => h (.inr e))]
      have : lowI (a :: r) x = lowI r x + 1 := by
        unfold lowI
        rw [List.countP_cons_of_pos (by
          have : ¬ x = a := fun e => h (.inl e)
          simp; omega)]
      rw [this]
      rfl
theorem insI_end (l : List Int) (x : Int) (h : ∀ y ∈ l, y < x) : insI l x = l ++ [x] := by
  induction l with
  | nil => rfl
  | cons a r ih =>
    have := h a (by simp)
    unfold insI
    rw [if_neg (by omega), if_neg (by omega), ih fun y hy => h y (by simp [hy])]
    rfl

theorem setIns_c (l : List Int) (lo : Nat) (x : Int) (w : World) (gx : Nat) (v : Value) (i : Nat) (hl : l.length ≤ 1048576) (hv : SetV w lo v l) (hlo : lo ≤ w.heap.size) (hx : Blk w gx 3 #[.int .i64 x]) (hne : ¬ At v gx) (hi : i ≤ l.length) :
    Calls Tryd.prog 99 #[v, .int .i64 i, .slice (some ⟨gx, 0, none⟩) 1 1] w (InsQ w lo v (insAt l i x)) := by
  rcases hv with ⟨rfl, rfl⟩ | ⟨g, cs, rfl, hg, hb, hlc, hcm, hat⟩
  · obtain rfl : i = 0 := by simpa using hi
    exact insNil_c lo x w gx hlo hx
  · have hgx : g ≠ gx := fun e => hne ⟨_, _, _, rfl, e⟩
    by_cases h : i = l.length
    · subst h
      by_cases hr : l.length + 1 ≤ cs.size
      · exact insEndRoom_c l lo x w gx g cs hl hg hb hr hcm hat hx hgx
      · exact insEndGrow_c l lo x w gx g cs hl hlo hb hlc (by omega) hat hx
    · by_cases hr : l.length + 1 ≤ cs.size
      · exact insShift_c l lo x w gx i (by omega) g cs hl hg hb hr hcm hat hx hgx
      · exact insGrow_c l lo x w gx i (by omega) g cs hl hlo hb hlc (by omega) hat hx

/-- what adding leaves: the set lies in a cell of block rB -/
def AddQ2 (w : World) (lo rB o : Nat) (T : TypeId) (cs : Array Value) (v : Value) (l : List Int) (x : Int) (e : Ending) (w' : World) : Prop :=
  e = .returned (.bool (!hasI l x)) ∧ ∃ v', SetV w' lo v' (insI l x) ∧ Blk w' rB T (cs.setIfInBounds o v') ∧ Apart (fun k => k = rB ∨ At v k) w w' ∧ Near w v v'

set_option maxRecDepth 100000 in
set_option maxHeartbeats 2000000 in
theorem setAdd2_c (l : List Int) (v : Value) (lo : Nat) (x : Int) (w : World) (rB o : Nat) (T : TypeId) (cs : Array Value) (hl : l.length ≤ 1048575) (hs : l.Pairwise (· < ·)) (hv : SetV w lo v l) (hlo : lo ≤ w.heap.size) (hB : Blk w rB T cs) (ho : cs[o]? = some v) (hT : T ≠ 3) :
    Calls Tryd.prog 77 #[.pointer (some ⟨rB, o, none⟩), .int .i64 x] w (AddQ2 w lo rB o T cs v l x) := by
  have hc := hB.cel o ho
  have hf := hB.frozen o
  have hlt := hB.lt
  have Hf := Lib.hid (find_c l v lo x w (by omega) hs hv)
  cases hh : hasI l x
  · have hnew := Blk.new w 3 #[.int .i64 x]
    have hat : ∀ k, At v k → k < w.heap.size ∧ k ≠ rB := fun k hk => by
      obtain ⟨_, h1, cs', h2⟩ := hv.at_lt hk
      exact ⟨h1, (hB.ne_ h2 hT).symm⟩
    have hins := setIns_c l lo x (w.alloc (.cells #[.int .i64 x] 3)) w.heap.size v (lowI l x) (by omega) (hv.below ((Below.refl _ _).alloc (Nat.le_refl _) _)) (by simp; omega) hnew (fun h => absurd (hat _ h).1 (Nat.lt_irrefl _)) (lowI_le l x)
    rw [← insI_at l x hs ((hasI_not l x).1 hh)] at hins
    have hB1 := hB.alloc (.cells #[.int .i64 x] 3)
    have Hat := Lib.hid hat
    have Hins := Lib.hid hins
    have HB1 := Lib.hid hB1
    have HB := Lib.hid hB
    rw [hh] at Hf
    have Hh := Lib.hid hh
    have Ho := Lib.hid ho
    have HT := Lib.hid hT
    obtain ⟨n, hn⟩ : ∃ n, n = lowI l x := ⟨_, rfl⟩
    rw [← hn] at Hf Hins
    clear hn hins hB1 hat hnew hh hv hs hB ho hT
    go_enter Tryd.func77, Tryd.ntmps77
    go_wp2_with fail
    refine Hf.out.mono ?_
    rintro e w' ⟨rfl, rfl⟩
    go_wp2_with fail
    refine Hins.out.mono ?_
    rintro e w1 ⟨v', rfl, hv', hap, hnr⟩
    have hnr2 : Near w v v' := fun k hk => (hnr k hk).imp id fun h => by rw [World.size_alloc] at h; omega
    obtain ⟨A', c', rfl⟩ := hv'.form
    obtain ⟨v', hvv⟩ : ∃ v', v' = Value.slice A' (insI l x).length c' := ⟨_, rfl⟩
    rw [← hvv] at hv' hnr2
    clear hnr
    have hrB1 : ¬ At v rB := fun h => (Hat.out rB h).2 rfl
    have hB2 := HB1.out.apart hap hrB1
    have hc2 : (w1.cell? ⟨rB, o, none⟩) = some v := hB2.cel o Ho.out
    have hf2 := hB2.frozen o
    have hap2 : Apart (fun k => k = rB ∨ At v k) w w1 := (((Apart.refl _ w).alloc _).mono (fun k _ h => h)).trans (hap.mono fun k _ h => .inr h)
    have hne' : ∀ k, At v' k → k ≠ rB := fun k hk e => by
      subst e
      obtain ⟨_, _, cs', h2⟩ := hv'.at_lt hk
      exact (hB2.ne_ h2 HT.out) rfl
    have hend : AddQ2 w lo rB o T cs v l x (.returned (.bool true)) (w1.setCell ⟨rB, o, none⟩ v') := by
      refine ⟨by rw [Hh.out]; rfl, v', ?_, hB2.set_ o v', hap2.setCell (.inl rfl) _, hnr2⟩
      exact hv'.apart ((Apart.refl (fun k => k = rB) w1).setCell rfl v') (fun k hk e => hne' k hk e)
    have Hend := Lib.hid hend
    rw [hvv] at Hend
    clear hvv hnr2 hc hf hap hap2 hne' hrB1 hB2 hv' hend Hins Hf
    go_wp2
    go_ret
    exact Hend.out
  · rw [hh] at Hf
    have hmem := (hasI_mem l x).1 hh
    have hend : AddQ2 w lo rB o T cs v l x (.returned (.bool false)) w := by
      refine ⟨by rw [hh]; rfl, v, by rw [insI_has l x hs hmem]; exact hv, ?_, Apart.refl _ _, fun k hk => .inl hk⟩
      rw [show cs.setIfInBounds o v = cs from ?_]
      · exact hB
      · apply Array.ext_getElem?
        intro j
        by_cases hj : o = j
        · subst hj
          rw [Array.getElem?_setIfInBounds_self_of_lt (by
            rcases Nat.lt_or_ge o cs.size with h | h
            · exact h
            · rw [Array.getElem?_eq_none h] at ho; cases ho), ho]
        · rw [Array.getElem?_setIfInBounds_ne hj]
    have Hend := Lib.hid hend
    obtain ⟨n, hn⟩ : ∃ n, n = lowI l x := ⟨_, rfl⟩
    rw [← hn] at Hf
    clear hn hend hh hmem hs hv hB ho hT
    go_enter Tryd.func77, Tryd.ntmps77
    go_wp2_with fail
    refine Hf.out.mono ?_
    rintro e w' ⟨rfl, rfl⟩
    go_wp2
    go_ret
    exact Hend.out

/-- what adding leaves: the set lies in a cell of block rB -/
def AddQ (w : World) (lo rB o : Nat) (T : TypeId) (cs : Array Value) (v : Value) (l : List Int) (x : Int) (e : Ending) (w' : World) : Prop :=
  e = .returned (.bool (!hasI l x)) ∧ ∃ v', SetV w' lo v' (insI l x) ∧ Blk w' rB T (cs.setIfInBounds o v') ∧ Apart (fun k => k = rB ∨ At v k) w w'
theorem setAdd_c (l : List Int) (v : Value) (lo : Nat) (x : Int) (w : World) (rB o : Nat) (T : TypeId) (cs : Array Value) (hl : l.length ≤ 1048575) (hs : l.Pairwise (· < ·)) (hv : SetV w lo v l) (hlo : lo ≤ w.heap.size) (hB : Blk w rB T cs) (ho : cs[o]? = some v) (hT : T ≠ 3) :
    Calls Tryd.prog 77 #[.pointer (some ⟨rB, o, none⟩), .int .i64 x] w (AddQ w lo rB o T cs v l x) :=
  (setAdd2_c l v lo x w rB o T cs hl hs hv hlo hB ho hT).mono fun e w' ⟨h1, v', h2, h3, h4, _⟩ => ⟨h1, v', h2, h3, h4⟩
end Go.Proofs.YtebgigiakfjocaaDoor
