/-
  Rows that grow.
-/
import Derived.Test.YtfmlgpnjckamjaaBase
import Derived.Laws.AppendOwn
import Derived.Laws.IdiomStrings
import Derived.Lib.FrozenHead2
import Derived.Deep.AppendSrc
import Derived.OwnWalkIn
import Derived.Test.YtfmlgpnjckamjaaBytes
import Derived.Test.YtfmlgpnjckamjaaMrow
import Derived.Test.YtfmlgpnjckamjaaMcopy
import Derived.Laws.BytesString
namespace Go.Proofs.Ytfmlgpnjckamjaa
open Go.RowKit
set_option linter.unusedVariables false
set_option linter.unusedSimpArgs false

/-- a block of cells none of which is frozen -/
def BlkT (w : World) (g : Nat) (t : TypeId) (cs : Array Value) : Prop := ∃ fz : Nat × Nat, w.heap[g]? = some (.cells cs t fz) ∧ (fz.2 = 0 ∨ cs.size ≤ fz.1)

section
variable {w w' : World} {g : Nat} {t : TypeId} {cs : Array Value}
theorem Blk.toT (h : Blk w g t cs) : BlkT w g t cs := ⟨(0, 0), h, Or.inl rfl⟩
theorem BlkT.lt (h : BlkT w g t cs) : g < w.heap.size := by
  obtain ⟨fz, h, -⟩ := h
  rcases Nat.lt_or_ge g w.heap.size with hlt | hge
  · exact hlt
  · rw [Array.getElem?_eq_none hge] at h; cases h
theorem BlkT.cell (h : BlkT w g t cs) (i : Nat) : w.cell? ⟨g, i, none⟩ = cs[i]? := by
  obtain ⟨fz, h, -⟩ := h
  exact cell_of_row w g i cs t fz h
theorem BlkT.frozen (h : BlkT w g t cs) {i : Nat} (hi : i < cs.size) : w.frozen? ⟨g, i, none⟩ = false := by
  obtain ⟨⟨lo, hi'⟩, h, hf⟩ := h
  simp only [World.frozen?, h, Bool.and_eq_false_iff, decide_eq_false_iff_not]
  rcases hf with hf | hf
  · right; simp only at hf; omega
  · left; simp only at hf; omega
theorem BlkT.below {B : Nat} (h : BlkT w g t cs) (hb : Below B w w') (hg : g < B) : BlkT w' g t cs := by
  obtain ⟨fz, h, hf⟩ := h
  exact ⟨fz, (hb.block g hg).trans h, hf⟩
theorem BlkT.same (h : BlkT w g t cs) (hb : w'.heap[g]? = w.heap[g]?) : BlkT w' g t cs := by
  obtain ⟨fz, h, hf⟩ := h
  exact ⟨fz, hb.trans h, hf⟩
theorem BlkT.set_ (h : BlkT w g t cs) (i : Nat) (u : Value) : BlkT (w.setCell ⟨g, i, none⟩ u) g t (cs.setIfInBounds i u) := by
  obtain ⟨fz, h, hf⟩ := h
  refine ⟨fz, ?_, by simpa using hf⟩
  simp [World.setCell, Array.getElem?_modify, h]
theorem BlkT.far (h : BlkT w g t cs) {p : Addr} (hp : g ≠ p.block) (u : Value) : BlkT (w.setCell p u) g t cs := h.same (Below.heap_setCell w p u g hp)
theorem BlkT.grown {row : Option Nat} (h : BlkT w g t cs) (hb : w.grownBy w' row) (hg : some g ≠ row) : BlkT w' g t cs := h.same (hb.block g h.lt hg)
theorem BlkT.ne_ {g' : Nat} {t' : TypeId} {cs' : Array Value} (h : BlkT w g t cs) (h' : BlkT w g' t' cs') (hne : t ≠ t') : g ≠ g' := by
  rintro rfl
  obtain ⟨_, h, -⟩ := h
  obtain ⟨_, h', -⟩ := h'
  rw [h] at h'
  injection h' with h'
  injection h' with _ ht
  exact hne ht
end

/-- a slice value that owns its row, of which no cell is frozen -/
def ownsT (w : World) (base : Nat) (e : TypeId) (size : Nat) (v : Value) (n : Nat) (xs : List Value) : Prop :=
  xs.length = n * size ∧ ((v = .slice none 0 0 ∧ n = 0) ∨
    ∃ g cap cur, v = .slice (some ⟨g, 0, none⟩) n cap ∧ base ≤ g ∧ BlkT w g e cur ∧ n ≤ cap ∧ cap ≤ maxLen ∧ cur.size = cap * size ∧ cur.toList.take (n * size) = xs)

section
variable {w w' : World} {base : Nat} {e : TypeId} {size : Nat} {v : Value} {n : Nat} {xs : List Value}
theorem ownsT_of (h : w.ownsRow base e size v n xs) : ownsT w base e size v n xs := by
  refine ⟨h.1, ?_⟩
  rcases h.2 with hn | ⟨g, cap, cur, hv, hb, hg, rest⟩
  · exact .inl hn
  · exact .inr ⟨g, cap, cur, hv, hb, Blk.toT hg, rest⟩
theorem ownsT_nil (w : World) (base : Nat) (e : TypeId) (size : Nat) : ownsT w base e size (.slice none 0 0) 0 [] := ⟨by simp, .inl ⟨rfl, rfl⟩⟩
theorem ownsT.lt (h : ownsT w base e size v n xs) : ∀ k, v.ownBlock = some k → base ≤ k ∧ k < w.heap.size := by
  intro k hk
  rcases h.2 with ⟨rfl, _⟩ | ⟨g, cap, cur, rfl, hb, hg, _⟩
  · simp [Value.ownBlock] at hk
  · simp [Value.ownBlock] at hk
    subst hk
    exact ⟨hb, hg.lt⟩
theorem ownsT.keep (h : ownsT w base e size v n xs) (hk : ∀ k, v.ownBlock = some k → w'.heap[k]? = w.heap[k]?) : ownsT w' base e size v n xs := by
  refine ⟨h.1, ?_⟩
  rcases h.2 with hn | ⟨g, cap, cur, rfl, hb, hg, rest⟩
  · exact .inl hn
  · exact .inr ⟨g, cap, cur, rfl, hb, hg.same (hk g (by simp [Value.ownBlock])), rest⟩
theorem ownsT.kept {row : Option Nat} (h : ownsT w base e size v n xs) (hg : w.grownBy w' row) (hne : v.ownBlock = none ∨ v.ownBlock ≠ row) : ownsT w' base e size v n xs :=
  h.keep fun k hk => hg.block k (h.lt k hk).2 (fun e => hne.elim (fun h0 => by rw [hk] at h0; cases h0) (fun h0 => h0 (hk.trans e)))
theorem ownsT.alloc (h : ownsT w base e size v n xs) (o : Obj) : ownsT (w.alloc o) base e size v n xs :=
  h.keep fun k hk => Below.heap_alloc w o k (h.lt k hk).2
theorem ownsT.cells (h : ownsT w base e size v n xs) {g : Nat} (hg : v.ownBlock = some g) : ∀ j u, xs[j]? = some u → w.cell? ((⟨g, 0, none⟩ : Addr).add j) = some u := by
  intro j u hu
  rcases h.2 with ⟨rfl, _⟩ | ⟨g', cap, cur, rfl, _, hgg, _, _, _, htake⟩
  · simp [Value.ownBlock] at hg
  · simp [Value.ownBlock] at hg
    subst hg
    have hadd : (⟨g', 0, none⟩ : Addr).add j = ⟨g', j, none⟩ := by unfold Addr.add; split <;> simp_all
    rw [hadd, hgg.cell]
    rw [← htake, List.getElem?_take] at hu
    split at hu
    · simpa using hu
    · cases hu
theorem ownsT.less {base' : Nat} (h : ownsT w base e size v n xs) (hb : base' ≤ base) : ownsT w base' e size v n xs := by
  refine ⟨h.1, ?_⟩
  rcases h.2 with hn | ⟨g, cap, cur, hv, hg, rest⟩
  · exact .inl hn
  · exact .inr ⟨g, cap, cur, hv, Nat.le_trans hb hg, rest⟩
theorem ownsT.reads {A : Option Addr} {c : Nat} (h : ownsT w base e size (.slice A n c) n xs) : Reads w w.heap.size size A n xs := by
  refine ⟨h.1, fun hn => ?_⟩
  rcases h.2 with ⟨hv, h0⟩ | ⟨g, cap, cur, hv, hb, hg, _⟩
  · omega
  · injection hv with hA
    subst hA
    exact ⟨_, rfl, hg.lt, h.cells (g := g) rfl⟩
end

theorem run_storeCells_T (P : Program) (g o : Nat) (t : TypeId) (fz : Nat × Nat) : ∀ (vs : List Value) (i : Nat) (cur : Array Value) (w : World), w.heap[g]? = some (.cells cur t fz) → (fz.2 = 0 ∨ cur.size ≤ fz.1) → o + i + vs.length ≤ cur.size → (∀ v ∈ vs, v.oneCell' = true) →
    (storeCells ⟨g, o, none⟩ vs i).run P w = .ok () (w.setRow g (cur.toList.take (o + i) ++ vs ++ cur.toList.drop (o + i + vs.length)).toArray)
  | [], i, cur, w, hg, _, _, _ => by
    simp only [storeCells, List.append_nil, List.length_nil, Nat.add_zero, List.take_append_drop, Array.toArray_toList]
    rw [setRow_self w g cur t fz hg]
    rfl
  | v :: rest, i, cur, w, hg, hfz, hl, h1 => by
    have hi : o + i < cur.size := by simp at hl; omega
    have hadd : (⟨g, o, none⟩ : Addr).add i = ⟨g, o + i, none⟩ := by unfold Addr.add; split <;> simp_all
    have hcell : w.cell? ⟨g, o + i, none⟩ = some cur[o + i] := by simp [World.cell?, hg, hi]
    have hfro : w.frozen? ⟨g, o + i, none⟩ = false := BlkT.frozen ⟨fz, hg, hfz⟩ hi
    have hst : (store ((⟨g, o, none⟩ : Addr).add i) v).run P w = .ok () (w.setRow g (cur.setIfInBounds (o + i) v)) := by
      rw [hadd, run_store P w _ v _ (h1 v (by simp)), hcell]
      simp [hfro, setCell_eq_setRow w g (o + i) cur t fz v hg]
    have ih := run_storeCells_T P g o t fz rest (i + 1) (cur.setIfInBounds (o + i) v) (w.setRow g (cur.setIfInBounds (o + i) v)) (setRow_heap w g cur _ t _ hg) (by simpa using hfz) (by simp at hl ⊢; omega) (fun x hx => h1 x (by simp [hx]))
    simp only [storeCells, Sem.run_bind, hst, Result.andThen_ok, ih, setRow_setRow]
    congr 3
    have e := list_seg_step cur.toList (o + i) v rest (by simp at hl ⊢; omega)
    simpa [Array.toList_setIfInBounds, Nat.add_assoc] using e

section
variable {P : Program} (w : World)

/-- append to such a row, of whatever is appended; where the row lies then -/
theorem run_append_T0 (base : Nat) (t tx ty e : TypeId) (i : TypeInfo) (z : Value) (size bytes : Nat) (ht : P.underlying t = some (.slice e)) (hi : P.info? e = some i) (hz : i.zero = some z)
    (hsize : i.size = size) (hby : i.bytes = bytes) (hzs : z.cells.size = size)
    (v : Value) (n : Nat) (xs : List Value) (hown : ownsT w base e size v n xs) (x : Value) (m : Nat) (news : List Value) (hs : Src P size tx x m news w)
    (h63 : n + m ≤ maxLen) (hbytes : (n + m) * bytes ≤ 140737488355328) (hbase : base ≤ w.heap.size) :
    ∃ v' w', (Builtin.append_ #[t, tx] ty #[v, x]).run P w = .ok v' w' ∧ ownsT w' base e size v' (n + m) (xs ++ news) ∧ w.grownBy w' v.ownBlock ∧
      (v' = .slice none 0 0 ↔ v = .slice none 0 0 ∧ m = 0) ∧ (v'.ownBlock = v.ownBlock ∨ v'.ownBlock = some w.heap.size) := by
  subst hsize
  subst hby
  have hlen : (xs ++ news).length = (n + m) * i.size := by rw [List.length_append, hown.1, hs.newsLen, Nat.add_mul]
  have hsmall : n + m ≤ 9223372036854775807 := by simp only [maxLen] at h63; omega
  have grow : ∀ (b : Option Addr) (old : Nat), (Builtin.firstCells i.size n (.slice b n old)).run P w.drew = .ok xs.toArray w.drew → old < n + m → ∃ v' w', (Builtin.append_ #[t, tx] ty #[.slice b n old, x]).run P w = .ok v' w' ∧ ownsT w' base e i.size v' (n + m) (xs ++ news) ∧ w.grownBy w' (Value.ownBlock (.slice b n old)) ∧ ¬ v' = .slice none 0 0 ∧ v'.ownBlock = some w.heap.size := by
    intro b old hold ho
    have hr := run_append_grow_src (P := P) w t tx ty e i z ht hi hz b n old xs hold x m news hs ho (by omega) (growslice_fits ho hbytes)
    have hge := grownCap_ge w (n + m) old e
    have hcm : grownCap w (n + m) old e ≤ maxLen := grownCap_le_maxLen w (n + m) old e h63
    refine ⟨_, _, hr, ⟨hlen, .inr ⟨w.heap.size, _, _, rfl, hbase, Blk.toT (heap_alloc_new w.drew _), hge, hcm, ?_, ?_⟩⟩, ⟨rfl, rfl, rfl, by simp, fun k hk _ => Below.heap_alloc w.drew _ k hk⟩, by simp, rfl⟩
    · simp only [Array.size_append, List.size_toArray, size_zeroCells, hzs, hlen, ← Nat.add_mul]
      congr 1
      omega
    · simp only [Array.toList_append]
      rw [← hlen]
      exact List.take_left
  rcases hown.2 with ⟨rfl, rfl⟩ | ⟨g, cap, cur, rfl, hbg, hg, hnc, hcm, hcs, htake⟩
  · have hx : xs = [] := List.eq_nil_of_length_eq_zero (by simpa using hown.1)
    subst hx
    by_cases hm : m = 0
    · subst hm
      have hn : news = [] := List.eq_nil_of_length_eq_zero (by simpa using hs.newsLen)
      subst hn
      refine ⟨.slice none 0 0, w, ?_, ownsT_nil w base e i.size, ⟨rfl, rfl, rfl, Nat.le_refl _, fun _ _ _ => rfl⟩, by simp, .inl rfl⟩
      rcases hs.kind with ⟨e', hk⟩ | hk <;> simp [Builtin.append_, run_underlying ht, run_underlying hk, sizeOf, typeInfo, hi, hs.len, hs.cells]
    · obtain ⟨v', w', h1, h2, h3, h4, h5⟩ := grow none 0 (by simpa using run_firstCells_none w.drew i.size 0 0 0) (by omega)
      exact ⟨v', w', h1, h2, h3, ⟨fun h => absurd h h4, fun h => absurd h.2 hm⟩, .inr h5⟩
  · by_cases hroom : n + m ≤ cap
    · obtain ⟨fz, hgf, hfz⟩ := hg
      have hfit : n * i.size + news.length ≤ cur.size := by rw [hs.newsLen, hcs, ← Nat.add_mul]; exact Nat.mul_le_mul_right _ hroom
      have hst := run_storeCells_T P g (n * i.size) e fz news 0 cur w hgf hfz (by simpa using hfit) hs.one
      simp only [Nat.add_zero] at hst
      have hr : (Builtin.append_ #[t, tx] ty #[.slice (some ⟨g, 0, none⟩) n cap, x]).run P w = .ok (.slice (some ⟨g, 0, none⟩) (n + m) cap) (w.setRow g (cur.toList.take (n * i.size) ++ news ++ cur.toList.drop (n * i.size + news.length)).toArray) := by
        rcases hs.kind with ⟨e', hk⟩ | hk <;> simp [Builtin.append_, run_underlying ht, run_underlying hk, sizeOf, typeInfo, hi, hs.len, hroom, hs.cells, Addr.add_lit, hst]
      have hsz : (cur.toList.take (n * i.size) ++ news ++ cur.toList.drop (n * i.size + news.length)).toArray.size = cur.size := by
        simp only [List.size_toArray, List.length_append, List.length_take, List.length_drop, Array.length_toList]
        omega
      refine ⟨_, _, hr, ⟨hlen, .inr ⟨g, cap, _, rfl, hbg, ⟨fz, setRow_heap w g cur _ e _ hgf, by rw [hsz]; exact hfz⟩, hroom, hcm, by rw [hsz]; exact hcs, ?_⟩⟩, ⟨rfl, rfl, rfl, by simp, fun k _ hk => setRow_other w g k _ (fun e => hk (by simp [Value.ownBlock, e]))⟩, by simp, .inl rfl⟩
      rw [htake, ← hlen]
      exact List.take_left
    · have holds : ∀ j u, xs[j]? = some u → w.cell? ((⟨g, 0, none⟩ : Addr).add j) = some u := hown.cells (g := g) rfl
      obtain ⟨v', w', h1, h2, h3, h4, h5⟩ := grow (some ⟨g, 0, none⟩) cap (run_firstCells_some (P := P) w.drew i.size n ⟨g, 0, none⟩ n cap xs hown.1 (fun j u hu => by simpa using holds j u hu)) (by omega)
      exact ⟨v', w', h1, h2, h3, ⟨fun h => absurd h h4, fun h => by simp at h⟩, .inr h5⟩

/-- append to such a row, of whatever is appended -/
theorem run_append_T (base : Nat) (t tx ty e : TypeId) (i : TypeInfo) (z : Value) (size bytes : Nat) (ht : P.underlying t = some (.slice e)) (hi : P.info? e = some i) (hz : i.zero = some z)
    (hsize : i.size = size) (hby : i.bytes = bytes) (hzs : z.cells.size = size)
    (v : Value) (n : Nat) (xs : List Value) (hown : ownsT w base e size v n xs) (x : Value) (m : Nat) (news : List Value) (hs : Src P size tx x m news w)
    (h63 : n + m ≤ maxLen) (hbytes : (n + m) * bytes ≤ 140737488355328) (hbase : base ≤ w.heap.size) :
    ∃ v' w', (Builtin.append_ #[t, tx] ty #[v, x]).run P w = .ok v' w' ∧ ownsT w' base e size v' (n + m) (xs ++ news) ∧ w.grownBy w' v.ownBlock ∧
      (v' = .slice none 0 0 ↔ v = .slice none 0 0 ∧ m = 0) := by
  obtain ⟨v', w', h1, h2, h3, h4, -⟩ := run_append_T0 w base t tx ty e i z size bytes ht hi hz hsize hby hzs v n xs hown x m news hs h63 hbytes hbase
  exact ⟨v', w', h1, h2, h3, h4⟩

/-- append to a row that no conversion made, of whatever is appended -/
theorem run_append_S (base : Nat) (t tx ty e : TypeId) (i : TypeInfo) (z : Value) (size bytes : Nat) (ht : P.underlying t = some (.slice e)) (hi : P.info? e = some i) (hz : i.zero = some z)
    (hsize : i.size = size) (hby : i.bytes = bytes) (hzs : z.cells.size = size)
    (v : Value) (n : Nat) (xs : List Value) (hown : w.ownsRow base e size v n xs) (x : Value) (m : Nat) (news : List Value) (hs : Src P size tx x m news w)
    (h63 : n + m ≤ maxLen) (hbytes : (n + m) * bytes ≤ 140737488355328) (hbase : base ≤ w.heap.size) :
    ∃ v' w', (Builtin.append_ #[t, tx] ty #[v, x]).run P w = .ok v' w' ∧ w'.ownsRow base e size v' (n + m) (xs ++ news) ∧ w.grownBy w' v.ownBlock ∧
      (v' = .slice none 0 0 ↔ v = .slice none 0 0 ∧ m = 0) := by
  subst hsize
  subst hby
  have hlen : (xs ++ news).length = (n + m) * i.size := by rw [List.length_append, hown.1, hs.newsLen, Nat.add_mul]
  have hsmall : n + m ≤ 9223372036854775807 := by simp only [maxLen] at h63; omega
  have grow : ∀ (b : Option Addr) (old : Nat), (Builtin.firstCells i.size n (.slice b n old)).run P w.drew = .ok xs.toArray w.drew → old < n + m → ∃ v' w', (Builtin.append_ #[t, tx] ty #[.slice b n old, x]).run P w = .ok v' w' ∧ w'.ownsRow base e i.size v' (n + m) (xs ++ news) ∧ w.grownBy w' (Value.ownBlock (.slice b n old)) ∧ ¬ v' = .slice none 0 0 := by
    intro b old hold ho
    have hr := run_append_grow_src (P := P) w t tx ty e i z ht hi hz b n old xs hold x m news hs ho (by omega) (growslice_fits ho hbytes)
    have hge := grownCap_ge w (n + m) old e
    have hcm : grownCap w (n + m) old e ≤ maxLen := grownCap_le_maxLen w (n + m) old e h63
    refine ⟨_, _, hr, ⟨hlen, .inr ⟨w.heap.size, _, _, rfl, hbase, heap_alloc_new w.drew _, hge, hcm, ?_, ?_⟩⟩, ⟨rfl, rfl, rfl, by simp, fun k hk _ => Below.heap_alloc w.drew _ k hk⟩, by simp⟩
    · simp only [Array.size_append, List.size_toArray, size_zeroCells, hzs, hlen, ← Nat.add_mul]
      congr 1
      omega
    · simp only [Array.toList_append]
      rw [← hlen]
      exact List.take_left
  rcases hown.2 with ⟨rfl, rfl⟩ | ⟨g, cap, cur, rfl, hbg, hg, hnc, hcm, hcs, htake⟩
  · have hx : xs = [] := List.eq_nil_of_length_eq_zero (by simpa using hown.1)
    subst hx
    by_cases hm : m = 0
    · subst hm
      have hn : news = [] := List.eq_nil_of_length_eq_zero (by simpa using hs.newsLen)
      subst hn
      refine ⟨.slice none 0 0, w, ?_, World.ownsRow_nil w base e i.size, ⟨rfl, rfl, rfl, Nat.le_refl _, fun _ _ _ => rfl⟩, by simp⟩
      rcases hs.kind with ⟨e', hk⟩ | hk <;> simp [Builtin.append_, run_underlying ht, run_underlying hk, sizeOf, typeInfo, hi, hs.len, hs.cells]
    · obtain ⟨v', w', h1, h2, h3, h4⟩ := grow none 0 (by simpa using run_firstCells_none w.drew i.size 0 0 0) (by omega)
      exact ⟨v', w', h1, h2, h3, ⟨fun h => absurd h h4, fun h => absurd h.2 hm⟩⟩
  · by_cases hroom : n + m ≤ cap
    · have hfit : n * i.size + news.length ≤ cur.size := by rw [hs.newsLen, hcs, ← Nat.add_mul]; exact Nat.mul_le_mul_right _ hroom
      have hst := run_storeCells_T P g (n * i.size) e (0, 0) news 0 cur w hg (Or.inl rfl) (by simpa using hfit) hs.one
      simp only [Nat.add_zero] at hst
      have hr : (Builtin.append_ #[t, tx] ty #[.slice (some ⟨g, 0, none⟩) n cap, x]).run P w = .ok (.slice (some ⟨g, 0, none⟩) (n + m) cap) (w.setRow g (cur.toList.take (n * i.size) ++ news ++ cur.toList.drop (n * i.size + news.length)).toArray) := by
        rcases hs.kind with ⟨e', hk⟩ | hk <;> simp [Builtin.append_, run_underlying ht, run_underlying hk, sizeOf, typeInfo, hi, hs.len, hroom, hs.cells, Addr.add_lit, hst]
      have hsz : (cur.toList.take (n * i.size) ++ news ++ cur.toList.drop (n * i.size + news.length)).toArray.size = cur.size := by
        simp only [List.size_toArray, List.length_append, List.length_take, List.length_drop, Array.length_toList]
        omega
      refine ⟨_, _, hr, ⟨hlen, .inr ⟨g, cap, _, rfl, hbg, setRow_heap w g cur _ e _ hg, hroom, hcm, by rw [hsz]; exact hcs, ?_⟩⟩, ⟨rfl, rfl, rfl, by simp, fun k _ hk => setRow_other w g k _ (fun e => hk (by simp [Value.ownBlock, e]))⟩, by simp⟩
      rw [htake, ← hlen]
      exact List.take_left
    · have holds : ∀ j u, xs[j]? = some u → w.cell? ((⟨g, 0, none⟩ : Addr).add j) = some u := hown.cells (g := g) rfl
      obtain ⟨v', w', h1, h2, h3, h4⟩ := grow (some ⟨g, 0, none⟩) cap (run_firstCells_some (P := P) w.drew i.size n ⟨g, 0, none⟩ n cap xs hown.1 (fun j u hu => by simpa using holds j u hu)) (by omega)
      exact ⟨v', w', h1, h2, h3, ⟨fun h => absurd h h4, fun h => by simp at h⟩⟩

theorem wp_append_T {o : Oper} {a : Act} {K : Act → World → Prop} {Q : Exit → Act → World → Prop} (s x : Operand) (t tx : TypeId)
    (ho : o.op = .call { callee := .builtin .append, args := #[s, x], argTypes := #[t, tx] })
    (base : Nat) (e : TypeId) (i : TypeInfo) (z : Value) (size bytes : Nat) (ht : P.underlying t = some (.slice e)) (hi : P.info? e = some i) (hz : i.zero = some z)
    (hsize : i.size = size) (hby : i.bytes = bytes) (hzs : z.cells.size = size)
    (v : Value) (n : Nat) (xs : List Value) (hs : a.eval s = v) (hown : ownsT w base e size v n xs) (vx : Value) (m : Nat) (news : List Value) (hx : a.eval x = vx) (hS : Src P size tx vx m news w)
    (h63 : n + m ≤ maxLen) (hbytes : (n + m) * bytes ≤ 140737488355328) (hbase : base ≤ w.heap.size)
    (h : ∀ v' w', ownsT w' base e size v' (n + m) (xs ++ news) → w.grownBy w' v.ownBlock → (v' = .slice none 0 0 ↔ v = .slice none 0 0 ∧ m = 0) → K (a.put o.dst v') w') : o.wp P a w K Q := by
  obtain ⟨v', w', hr, h2, h3, h4⟩ := run_append_T (P := P) w base t tx o.type e i z size bytes ht hi hz hsize hby hzs v n xs hown vx m news hS h63 hbytes hbase
  unfold Oper.wp execOp
  simp only [ho, resolve, invoke, builtin, Sem.run_bind, Sem.run_pure, Result.andThen_ok, List.map_toArray, List.map_cons, List.map_nil, hs, hx, hr]
  exact h v' w' h2 h3 h4

theorem wpList_append_T {ops : Array Oper} {rest : List Oper} {o : Oper} {a : Act} {Q : Exit → Act → World → Prop} (hgd : o.guard = none) (s x : Operand) (t tx : TypeId)
    (ho : o.op = .call { callee := .builtin .append, args := #[s, x], argTypes := #[t, tx] })
    (base : Nat) (e : TypeId) (i : TypeInfo) (z : Value) (size bytes : Nat) (ht : P.underlying t = some (.slice e)) (hi : P.info? e = some i) (hz : i.zero = some z)
    (hsize : i.size = size) (hby : i.bytes = bytes) (hzs : z.cells.size = size)
    (v : Value) (n : Nat) (xs : List Value) (hs : a.eval s = v) (hown : ownsT w base e size v n xs) (vx : Value) (m : Nat) (news : List Value) (hx : a.eval x = vx) (hS : Src P size tx vx m news w)
    (h63 : n + m ≤ maxLen) (hbytes : (n + m) * bytes ≤ 140737488355328) (hbase : base ≤ w.heap.size)
    (h : ∀ v' w', ownsT w' base e size v' (n + m) (xs ++ news) → w.grownBy w' v.ownBlock → (v' = .slice none 0 0 ↔ v = .slice none 0 0 ∧ m = 0) → wpList P ops Q rest (a.put o.dst v') w') : wpList P ops Q (o :: rest) a w :=
  wpList_plain hgd fun _ hK => wp_append_T w s x t tx ho base e i z size bytes ht hi hz hsize hby hzs v n xs hs hown vx m news hx hS h63 hbytes hbase fun v' w' h2 h3 h4 => hK _ _ (h v' w' h2 h3 h4)

theorem wpListIn_append_T {F : Fence} {n' : Nat} {ops : Array Oper} {rest : List Oper} {o : Oper} {a : Act} {Q : Exit → Act → World → Prop} (hgd : o.guard = none) (s x : Operand) (t tx : TypeId)
    (ho : o.op = .call { callee := .builtin .append, args := #[s, x], argTypes := #[t, tx] })
    (base : Nat) (e : TypeId) (i : TypeInfo) (z : Value) (size bytes : Nat) (ht : P.underlying t = some (.slice e)) (hi : P.info? e = some i) (hz : i.zero = some z)
    (hsize : i.size = size) (hby : i.bytes = bytes) (hzs : z.cells.size = size)
    (v : Value) (n : Nat) (xs : List Value) (hs : a.eval s = v) (hown : ownsT w base e size v n xs) (vx : Value) (m : Nat) (news : List Value) (hx : a.eval x = vx) (hS : Src P size tx vx m news w)
    (h63 : n + m ≤ maxLen) (hbytes : (n + m) * bytes ≤ 140737488355328) (hbase : base ≤ w.heap.size)
    (h : ∀ v' w', ownsT w' base e size v' (n + m) (xs ++ news) → w.grownBy w' v.ownBlock → (v' = .slice none 0 0 ↔ v = .slice none 0 0 ∧ m = 0) → wpListIn F n' P ops Q rest (a.put o.dst v') w') : wpListIn F n' P ops Q (o :: rest) a w := by
  refine wpListIn_plain hgd fun K hK => ?_
  obtain ⟨v', w', hr, h2, h3, h4⟩ := run_append_T (P := P) w base t tx o.type e i z size bytes ht hi hz hsize hby hzs v n xs hown vx m news hS h63 hbytes hbase
  unfold Oper.wpIn
  refine ⟨?_, ?_⟩
  · simp [Oper.about, ho, resolve, Target.leads, Sem.run_pure]
  · rw [Oper.semAt_plain F _ _ (by rw [ho]; intro c hc'; cases hc')]
    simp [execOp, ho, resolve, invoke, builtin, hs, hx, hr, Result.andThen]
    exact hK _ _ (h v' w' h2 h3 h4)

/-- what a conversion of a string to bytes makes is such a row -/
theorem run_convert_T (src dst e : TypeId) (s : ByteArray) (hs : P.underlying src = some .string) (hd : P.underlying dst = some (.slice e)) (he : P.underlying e = some (.int .u8)) (h63 : s.size ≤ maxLen) (base : Nat) (hbase : base ≤ w.heap.size) :
    ∃ v' w', (convert src dst (.string s)).run P w = .ok v' w' ∧ ownsT w' base e 1 v' s.size (byteCells s) ∧ w.grownBy w' none ∧ ∃ c, v' = .slice (some ⟨w.heap.size, 0, none⟩) s.size c := by
  have hge := grownCap_ge w s.size 0 e
  have hcm := grownCap_le_maxLen w s.size 0 e h63
  have hbs : (bytesRow s (grownCap w s.size 0 e)).size = grownCap w s.size 0 e := by
    unfold bytesRow
    simp only [Array.size_append, Array.size_map, Array.size_replicate]
    show s.size + _ = _
    omega
  refine ⟨_, _, run_bytes_of_string w src dst e s hs hd he, ⟨by rw [byteCells_length, Nat.mul_one], .inr ⟨w.heap.size, _, bytesRow s (grownCap w s.size 0 e), rfl, hbase, ⟨_, heap_alloc_new w.drew _, .inr (Nat.le_refl _)⟩, hge, hcm, by rw [hbs, Nat.mul_one], ?_⟩⟩, ⟨rfl, rfl, rfl, by simp, fun k hk _ => Below.heap_alloc w.drew _ k hk⟩, _, rfl⟩
  unfold bytesRow byteCells
  rw [Array.toList_append, Nat.mul_one, Array.toList_map]
  have : s.size = (s.data.toList.map fun b => Value.int .u8 b.toNat).length := by rw [List.length_map, Array.length_toList]; rfl
  rw [this]
  exact List.take_left
end
end Go.Proofs.Ytfmlgpnjckamjaa

namespace Go.Proofs.Ytfmlgpnjckamjaa
open Go.RowKit
set_option linter.unusedVariables false
set_option linter.unusedSimpArgs false
namespace AppI
theorem infoInt : (Try.prog.info? 3).map (fun i => (i.zero, i.size, i.bytes)) = some (some (.int .i64 0), 1, 8) := by kernel_rfl
theorem parts {o : Option TypeInfo} {z : Option Value} {s b : Nat} (h : o.map (fun i => (i.zero, i.size, i.bytes)) = some (z, s, b)) : ∃ i, o = some i ∧ i.zero = z ∧ i.size = s ∧ i.bytes = b := by
  cases o with
  | none => cases h
  | some i => simp at h; exact ⟨i, rfl, h.1, h.2.1, h.2.2⟩
theorem src_blk {w : World} {g : Nat} {x : Int} (hK : Blk w g 3 #[.int .i64 x]) : Src Try.prog 1 23 (.slice (some ⟨g, 0, none⟩) 1 1) 1 [.int .i64 x] w := by
  refine Src.ofSlice _ Try.underlying23 _ 1 1 _ rfl (fun j u hu => ?_) (fun u hu => ?_)
  · match j, hu with
    | 0, hu =>
      simp at hu
      subst hu
      exact hK.cel 0 rfl
    | j + 1, hu => simp at hu
  · simp at hu
    subst hu
    rfl
/-- the run, what it keeps and where the row lies now -/
theorem run_int {w : World} {lo g : Nat} {v : Value} {l : List Int} {x : Int} (ty : TypeId) (hown : IRow w lo v l) (hK : Blk w g 3 #[.int .i64 x]) (hlen : l.length ≤ 10000000) (hlo : lo ≤ w.heap.size) :
    ∃ A c w', (Builtin.append_ #[23, 23] ty #[v, .slice (some ⟨g, 0, none⟩) 1 1]).run Try.prog w = .ok (.slice A (l ++ [x]).length c) w' ∧ IRow w' lo (.slice A (l ++ [x]).length c) (l ++ [x]) ∧ w.grownBy w' v.ownBlock ∧
      ((.slice A (l ++ [x]).length c : Value).ownBlock = v.ownBlock ∨ (.slice A (l ++ [x]).length c : Value).ownBlock = some w.heap.size) := by
  obtain ⟨i0, hi, hz0, hz1, hz2⟩ := parts infoInt
  obtain ⟨v', w', h1, h2, h3, -⟩ := run_append_S (P := Try.prog) w lo 23 23 ty 3 i0 _ 1 8 Try.underlying23 hi hz0 hz1 hz2 rfl v _ _ hown _ 1 _ (src_blk hK) (by unfold maxLen; omega) (by omega) hlo
  obtain ⟨v2, w2, k1, -, -, -, k5⟩ := run_append_T0 (P := Try.prog) w lo 23 23 ty 3 i0 _ 1 8 Try.underlying23 hi hz0 hz1 hz2 rfl v _ _ (ownsT_of hown) _ 1 _ (src_blk hK) (by unfold maxLen; omega) (by omega) hlo
  obtain ⟨rfl, rfl⟩ : v' = v2 ∧ w' = w2 := by
    have e := h1.symm.trans k1
    injection e with e1 e2
    exact ⟨e1, e2⟩
  have hO : IRow w' lo v' (l ++ [x]) := IRow.snoc h2
  obtain ⟨A, c, rfl, -⟩ := hO.form
  exact ⟨A, c, w', h1, hO, h3, k5⟩
section
variable {w : World} {lo : Nat} {v : Value} {l : List Int} {o : Oper} {a : Act} {K : Act → World → Prop} {Q : Exit → Act → World → Prop}
theorem wp_intK {g : Nat} {x : Int} (s0 y : Operand) (ho : o.op = .call { callee := .builtin .append, args := #[s0, y], argTypes := #[23, 23] })
    (hown : IRow w lo v l) (hK : Blk w g 3 #[.int .i64 x]) (hlen : l.length ≤ 10000000) (hlo : lo ≤ w.heap.size) (hs : a.eval s0 = v) (hx : a.eval y = .slice (some ⟨g, 0, none⟩) 1 1)
    (h : ∀ A c w', IRow w' lo (.slice A (l ++ [x]).length c) (l ++ [x]) → w.grownBy w' v.ownBlock → ((.slice A (l ++ [x]).length c : Value).ownBlock = v.ownBlock ∨ (.slice A (l ++ [x]).length c : Value).ownBlock = some w.heap.size) → K (a.put o.dst (.slice A (l ++ [x]).length c)) w') : o.wp Try.prog a w K Q := by
  obtain ⟨A, c, w', hrun, hO, hg, hn⟩ := run_int o.type hown hK hlen hlo
  unfold Oper.wp execOp
  simp only [ho, resolve, invoke, builtin, Sem.run_bind, Sem.run_pure, Result.andThen_ok, List.map_toArray, List.map_cons, List.map_nil, hs, hx, hrun]
  exact h A c w' hO hg hn
end
end AppI
end Go.Proofs.Ytfmlgpnjckamjaa

namespace Go.Proofs.Ytfmlgpnjckamjaa
open Go.RowKit
set_option linter.unusedVariables false
namespace ArnM

/-- a row of numbers of one's own: its cells in block g, room behind them, its block in s .. e -/
def BkJ (w : World) (s e : Nat) (A : Option Addr) (d g : Nat) (l : List Int) : Prop :=
  BkI w s A g l ∧ IRow w s (.slice A l.length d) l ∧ (∀ b, (.slice A l.length d : Value).ownBlock = some b → s ≤ b ∧ b < e) ∧ (0 < l.length → (.slice A l.length d : Value).ownBlock = some g)
theorem BkJ.toI {w : World} {s e d g : Nat} {A : Option Addr} {l : List Int} (h : BkJ w s e A d g l) : BkI w s A g l := h.1
theorem BkJ.row {w : World} {s e d g : Nat} {A : Option Addr} {l : List Int} (h : BkJ w s e A d g l) : IRow w s (.slice A l.length d) l := h.2.1
theorem BkJ.lt {w : World} {s e d g : Nat} {A : Option Addr} {l : List Int} (h : BkJ w s e A d g l) (h0 : 0 < l.length) : s ≤ g ∧ g < e := h.2.2.1 g (h.2.2.2 h0)
/-- from slices.Clone of numbers -/
theorem BkJ.of {w : World} {s : Nat} {v : Value} {l : List Int} (h : IRow w s v l) : ∃ A d g, v = .slice A l.length d ∧ BkJ w s w.heap.size A d g l := by
  obtain ⟨A, d, g, rfl, hi, hg⟩ := BkI.of h
  refine ⟨A, d, g, rfl, hi, h, fun b hb => ⟨(h.at_ hb).1, (h.at_ hb).2.1⟩, fun h0 => ?_⟩
  obtain ⟨e, -⟩ := hi h0
  subst e
  rfl
theorem BkJ.lo_le {w : World} {s s' e d g : Nat} {A : Option Addr} {l : List Int} (h : BkJ w s e A d g l) (hs : s' ≤ s) : BkJ w s' e A d g l :=
  ⟨h.1.lo_le hs, h.2.1.lo_le hs, fun b hb => ⟨Nat.le_trans hs (h.2.2.1 b hb).1, (h.2.2.1 b hb).2⟩, h.2.2.2⟩
theorem BkJ.hi_le {w : World} {s e e' d g : Nat} {A : Option Addr} {l : List Int} (h : BkJ w s e A d g l) (he : e ≤ e') : BkJ w s e' A d g l :=
  ⟨h.1, h.2.1, fun b hb => ⟨(h.2.2.1 b hb).1, Nat.lt_of_lt_of_le (h.2.2.1 b hb).2 he⟩, h.2.2.2⟩
theorem BkJ.below {w w' : World} {s e d g : Nat} {A : Option Addr} {l : List Int} (h : BkJ w s e A d g l) (hb : Below w.heap.size w w') : BkJ w' s e A d g l :=
  ⟨h.1.below hb, h.2.1.below hb, h.2.2⟩
theorem BkJ.far {w : World} {s e d g gb : Nat} {A : Option Addr} {l : List Int} {t : TypeId} {bs : Array Value} (h : BkJ w s e A d g l) (hb : Blk w gb t bs) (hne : t ≠ 3) (i : Nat) (v : Value) : BkJ (w.setCell ⟨gb, i, none⟩ v) s e A d g l := by
  refine ⟨h.1.far hb hne i v, h.2.1.keep fun b hbb => ?_, h.2.2⟩
  obtain ⟨-, -, cs, hK⟩ := h.2.1.at_ hbb
  exact (hK.far (p := ⟨gb, i, none⟩) (hK.ne_ hb (Ne.symm hne)) v).trans hK.symm
/-- two rows of different stretches lie in different blocks -/
theorem BkJ.unlike {w : World} {s e s' e' d g d' g' : Nat} {A A' : Option Addr} {l l' : List Int} (h : BkJ w s e A d g l) (h' : BkJ w s' e' A' d' g' l') (hh : e ≤ s') :
    ∀ b, (.slice A l.length d : Value).ownBlock = some b → (.slice A' l'.length d' : Value).ownBlock ≠ some b := fun b hb hb' => by
  have := (h.2.2.1 b hb).2
  have := (h'.2.2.1 b hb').1
  omega
/-- what grows one row leaves the other be -/
theorem BkJ.grown {w w' : World} {s e s' e' d g d' g' : Nat} {A A' : Option Addr} {l l' : List Int} (h : BkJ w s e A d g l) (h' : BkJ w s' e' A' d' g' l') (hh : e ≤ s' ∨ e' ≤ s) (hg : w.grownBy w' (.slice A' l'.length d' : Value).ownBlock) : BkJ w' s e A d g l := by
  have hne : ∀ b, (.slice A l.length d : Value).ownBlock = some b → (.slice A' l'.length d' : Value).ownBlock ≠ some b := fun b hb hb' => by
    have h1 := h.2.2.1 b hb
    have h2 := h'.2.2.1 b hb'
    omega
  have hk : ∀ b, (.slice A l.length d : Value).ownBlock = some b → w'.heap[b]? = w.heap[b]? := fun b hb => hg.block b (h.2.1.at_ hb).2.1 (fun e1 => hne b hb e1.symm)
  refine ⟨fun h0 => ?_, h.2.1.keep hk, h.2.2⟩
  obtain ⟨e1, hl, cs, hK, hv⟩ := h.1 h0
  exact ⟨e1, hl, cs, (hk g (h.2.2.2 h0)).trans hK, hv⟩
/-- what is written into other blocks leaves it be -/
theorem BkJ.apart {X : Nat → Prop} {w w' : World} {s e d g : Nat} {A : Option Addr} {l : List Int} (h : BkJ w s e A d g l) (ha : Apart X w w') (hn : ∀ b, s ≤ b → b < e → ¬ X b) : BkJ w' s e A d g l :=
  ⟨h.1.apart ha (fun h0 => hn g (h.lt h0).1 (h.lt h0).2), h.2.1.keep fun b hb => ha.block b (h.2.1.at_ hb).2.1 (hn b (h.2.2.1 b hb).1 (h.2.2.1 b hb).2), h.2.2⟩
end ArnM
end Go.Proofs.Ytfmlgpnjckamjaa

namespace Go.Proofs.Ytfmlgpnjckamjaa
open Go.RowKit
set_option linter.unusedVariables false
set_option linter.unusedSimpArgs false
namespace ArnG

section
variable {P : Program} {w w' : World} {base : Nat} {e : TypeId} {size : Nat} {v : Value} {n : Nat} {xs : List Value}
theorem own_keep (h : w.ownsRow base e size v n xs) (hk : ∀ k, v.ownBlock = some k → w'.heap[k]? = w.heap[k]?) : w'.ownsRow base e size v n xs := by
  refine ⟨h.1, ?_⟩
  rcases h.2 with hn | ⟨g, cap, cur, hv, hb, hg, rest⟩
  · exact .inl hn
  · exact .inr ⟨g, cap, cur, hv, hb, (hk g (by rw [hv]; rfl)).trans hg, rest⟩
theorem own_below (h : w.ownsRow base e size v n xs) (hb : Below w.heap.size w w') : w'.ownsRow base e size v n xs := own_keep h fun k hk => hb.block k (h.lt k hk).2
theorem own_lo (h : w.ownsRow base e size v n xs) {lo : Nat} (hl : lo ≤ base) : w.ownsRow lo e size v n xs := by
  refine ⟨h.1, ?_⟩
  rcases h.2 with hn | ⟨g, cap, cur, hv, hb, hg⟩
  · exact .inl hn
  · exact .inr ⟨g, cap, cur, hv, Nat.le_trans hl hb, hg⟩
theorem own_blk (h : w.ownsRow base e size v n xs) {g : Nat} (hg : v.ownBlock = some g) : ∃ cs, Blk w g e cs := by
  rcases h.2 with ⟨hv, _⟩ | ⟨g', cap, cur, hv, _, hh, _⟩
  · subst hv; cases hg
  · subst hv
    have : g' = g := by simpa [Value.ownBlock] using hg
    subst this
    exact ⟨cur, hh⟩
theorem own_ne {g : Nat} {t : TypeId} {cs : Array Value} (h : w.ownsRow base e size v n xs) (hK : Blk w g t cs) (ht : t ≠ e) : v.ownBlock ≠ some g := fun hg => by
  obtain ⟨cs', h1⟩ := own_blk h hg
  exact Blk.ne_ hK h1 ht rfl
theorem own_form (h : w.ownsRow base e size v n xs) : ∃ A c, v = .slice A n c ∧ n ≤ c := by
  rcases h.2 with ⟨hv, h0⟩ | ⟨g', cap, cur, hv, _, _, h1, _⟩
  · exact ⟨none, 0, by rw [h0]; exact hv, by omega⟩
  · exact ⟨_, _, hv, h1⟩
/-- a block of another kind, where the row grows -/
theorem own_grown {g : Nat} {t : TypeId} {cs : Array Value} (h : w.ownsRow base e size v n xs) (hK : Blk w g t cs) (ht : t ≠ e) (hg : w.grownBy w' v.ownBlock) : Blk w' g t cs := hK.grown hg (fun e1 => own_ne h hK ht e1.symm)
theorem run_grow (w : World) (base : Nat) (t tx ty e : TypeId) (i : TypeInfo) (z : Value) (size bytes : Nat) (ht : P.underlying t = some (.slice e)) (hi : P.info? e = some i) (hz : i.zero = some z)
    (hsize : i.size = size) (hby : i.bytes = bytes) (hzs : z.cells.size = size)
    (v : Value) (n : Nat) (xs : List Value) (hown : w.ownsRow base e size v n xs) (x : Value) (m : Nat) (news : List Value) (hs : Src P size tx x m news w)
    (h63 : n + m ≤ maxLen) (hbytes : (n + m) * bytes ≤ 140737488355328) (hbase : base ≤ w.heap.size) :
    ∃ v' w', (Builtin.append_ #[t, tx] ty #[v, x]).run P w = .ok v' w' ∧ w'.ownsRow base e size v' (n + m) (xs ++ news) ∧ w.grownBy w' v.ownBlock ∧
      (v'.ownBlock = v.ownBlock ∨ v'.ownBlock = some w.heap.size) := by
  obtain ⟨v', w', h1, h2, h3, -⟩ := run_append_S (P := P) w base t tx ty e i z size bytes ht hi hz hsize hby hzs v n xs hown x m news hs h63 hbytes hbase
  obtain ⟨v2, w2, k1, -, -, -, k5⟩ := run_append_T0 (P := P) w base t tx ty e i z size bytes ht hi hz hsize hby hzs v n xs (ownsT_of hown) x m news hs h63 hbytes hbase
  obtain ⟨rfl, rfl⟩ : v' = v2 ∧ w' = w2 := by
    have e := h1.symm.trans k1
    injection e with e1 e2
    exact ⟨e1, e2⟩
  exact ⟨v', w', h1, h2, h3, k5⟩
theorem wp_grow {w : World} {o : Oper} {a : Act} {K : Act → World → Prop} {Q : Exit → Act → World → Prop} (s y : Operand) (t tx : TypeId)
    (ho : o.op = .call { callee := .builtin .append, args := #[s, y], argTypes := #[t, tx] })
    (base : Nat) (e : TypeId) (i : TypeInfo) (z : Value) (size bytes : Nat) (ht : P.underlying t = some (.slice e)) (hi : P.info? e = some i) (hz : i.zero = some z)
    (hsize : i.size = size) (hby : i.bytes = bytes) (hzs : z.cells.size = size)
    (v : Value) (n : Nat) (xs : List Value) (hown : w.ownsRow base e size v n xs) (x : Value) (m : Nat) (news : List Value) (hsrc : Src P size tx x m news w)
    (h63 : n + m ≤ maxLen) (hbytes : (n + m) * bytes ≤ 140737488355328) (hbase : base ≤ w.heap.size) (hs : a.eval s = v) (hx : a.eval y = x)
    (h : ∀ v' w', w'.ownsRow base e size v' (n + m) (xs ++ news) → w.grownBy w' v.ownBlock → (v'.ownBlock = v.ownBlock ∨ v'.ownBlock = some w.heap.size) → K (a.put o.dst v') w') : o.wp P a w K Q := by
  obtain ⟨v', w', hr, h2, h3, h4⟩ := run_grow (P := P) w base t tx o.type e i z size bytes ht hi hz hsize hby hzs v n xs hown x m news hsrc h63 hbytes hbase
  unfold Oper.wp execOp
  simp only [ho, resolve, invoke, builtin, Sem.run_bind, Sem.run_pure, Result.andThen_ok, List.map_toArray, List.map_cons, List.map_nil, hs, hx, hr]
  exact h v' w' h2 h3 h4
theorem wpList_grow {w : World} {ops : Array Oper} {rest : List Oper} {o : Oper} {a : Act} {Q : Exit → Act → World → Prop} (hgd : o.guard = none) (s y : Operand) (t tx : TypeId)
    (ho : o.op = .call { callee := .builtin .append, args := #[s, y], argTypes := #[t, tx] })
    (base : Nat) (e : TypeId) (i : TypeInfo) (z : Value) (size bytes : Nat) (ht : P.underlying t = some (.slice e)) (hi : P.info? e = some i) (hz : i.zero = some z)
    (hsize : i.size = size) (hby : i.bytes = bytes) (hzs : z.cells.size = size)
    (v : Value) (n : Nat) (xs : List Value) (hown : w.ownsRow base e size v n xs) (x : Value) (m : Nat) (news : List Value) (hsrc : Src P size tx x m news w)
    (h63 : n + m ≤ maxLen) (hbytes : (n + m) * bytes ≤ 140737488355328) (hbase : base ≤ w.heap.size) (hs : a.eval s = v) (hx : a.eval y = x)
    (h : ∀ v' w', w'.ownsRow base e size v' (n + m) (xs ++ news) → w.grownBy w' v.ownBlock → (v'.ownBlock = v.ownBlock ∨ v'.ownBlock = some w.heap.size) → wpList P ops Q rest (a.put o.dst v') w') : wpList P ops Q (o :: rest) a w :=
  wpList_plain hgd fun _ hK => wp_grow s y t tx ho base e i z size bytes ht hi hz hsize hby hzs v n xs hown x m news hsrc h63 hbytes hbase hs hx fun v' w' h2 h3 h4 => hK _ _ (h v' w' h2 h3 h4)
end
end ArnG
end Go.Proofs.Ytfmlgpnjckamjaa

namespace Go.Proofs.Ytfmlgpnjckamjaa
open Go.RowKit
set_option linter.unusedVariables false
set_option linter.unusedSimpArgs false
namespace ArnG
open ArnM

/-- the bytes of a row of one's own, told by their block -/
theorem bkB_of {w : World} {s : Nat} {v : Value} {l : List UInt8} (h : w.ownsRow s 5 1 v l.length (vb l)) : ∃ A c g, v = .slice A l.length c ∧ BkB w s A g l ∧ (0 < l.length → g < w.heap.size ∧ v.ownBlock = some g) := by
  rcases h.2 with ⟨hv, h0⟩ | ⟨g, cap, cur, hv, hlo, hh, h1, h2, h3, h4⟩
  · exact ⟨none, 0, 0, by rw [h0]; exact hv, fun hn => by omega, fun hn => by omega⟩
  · refine ⟨_, _, g, hv, fun hn => ⟨rfl, hlo, cur, hh, fun j hj => ?_⟩, fun _ => ⟨Blk.lt hh, by rw [hv]; rfl⟩⟩
    exact own_take h4 (by omega) (by rw [vb_get, List.getElem?_eq_getElem hj]; rfl)
/-- the cells of a field, of a slot -/
def fdCs (f : Fd) (A : Option Addr) (c : Nat) : List Value := [.slice A f.name.length c, .int .i64 f.k, .int .i64 f.n, .int .i64 f.g]
def slCs (s : Sl) (A : Option Addr) (c : Nat) : List Value := [.bool s.live, .int .i64 s.gen, .int .i64 s.count, .slice A s.fs.length c]
/-- fields: a row of theirs, each name in a block of its own -/
structure FRow (w : World) (s : Nat) (v : Value) (l : List Fd) (nb : Nat → Nat) : Prop where
  row : ∃ xs, w.ownsRow s 92 4 v l.length xs ∧ ∀ i (h : i < l.length), FdAt w s xs.toArray i (nb i) l[i]
  lt : ∀ i (h : i < l.length), 0 < l[i].name.length → s ≤ nb i ∧ nb i < w.heap.size
  one : ∀ i j (hi : i < l.length) (hj : j < l.length), i ≠ j → 0 < l[i].name.length → 0 < l[j].name.length → nb i ≠ nb j
theorem FRow.nil (w : World) (s : Nat) (nb : Nat → Nat) : FRow w s (.slice none 0 0) [] nb := ⟨⟨[], World.ownsRow_nil _ _ _ _, fun i h => absurd h (by simp)⟩, fun i h => absurd h (by simp), fun i j h => absurd h (by simp)⟩
theorem FRow.form {w : World} {s : Nat} {v : Value} {l : List Fd} {nb : Nat → Nat} (h : FRow w s v l nb) : ∃ A c, v = .slice A l.length c ∧ l.length ≤ c := by
  obtain ⟨xs, h1, -⟩ := h.row
  exact own_form h1
theorem FRow.below {w w' : World} {s : Nat} {v : Value} {l : List Fd} {nb : Nat → Nat} (h : FRow w s v l nb) (hb : Below w.heap.size w w') : FRow w' s v l nb := by
  obtain ⟨xs, h1, h2⟩ := h.row
  exact ⟨⟨xs, own_below h1 hb, fun i hi => (h2 i hi).apart (S := fun _ => False) (Apart.of_below hb) (fun _ h => h)⟩, fun i hi h0 => ⟨(h.lt i hi h0).1, Nat.lt_of_lt_of_le (h.lt i hi h0).2 hb.size⟩, h.one⟩
/-- one field more -/
theorem FRow.snoc {w w' : World} {s : Nat} {v v' : Value} {l : List Fd} {nb : Nat → Nat} (h : FRow w s v l nb) {f : Fd} {A : Option Addr} {c b : Nat} (hN : BkB w s A b f.name) (hb : 0 < f.name.length → s ≤ b ∧ b < w.heap.size ∧ ∀ i (hi : i < l.length), 0 < l[i].name.length → nb i ≠ b)
    (hrow : ∀ xs, w.ownsRow s 92 4 v l.length xs → (∀ i (hi : i < l.length), FdAt w s xs.toArray i (nb i) l[i]) → w'.ownsRow s 92 4 v' (l.length + 1) (xs ++ fdCs f A c)) (hg : w.grownBy w' v.ownBlock) :
    FRow w' s v' (l ++ [f]) (fun i => if i < l.length then nb i else b) := by
  obtain ⟨xs, h1, h2⟩ := h.row
  have hxl : xs.length = l.length * 4 := h1.1
  have hR := hrow xs h1 h2
  have hkeep : ∀ {e : List UInt8} {B : Option Addr} {k : Nat}, BkB w s B k e → BkB w' s B k e := fun {e B k} hk h0 => by
    obtain ⟨e1, e2, tc, e3, e4⟩ := hk h0
    exact ⟨e1, e2, tc, own_grown h1 e3 (by decide) hg, e4⟩
  refine ⟨⟨_, by rw [List.length_append]; exact hR, fun i hi => ?_⟩, fun i hi h0 => ?_, fun i j hi hj hij ti tj => ?_⟩
  · rw [List.length_append, List.length_singleton] at hi
    rcases Nat.lt_or_ge i l.length with hlt | hge
    · rw [if_pos hlt]
      rw [List.getElem_append_left hlt]
      obtain ⟨A', c', e0, eN, e1, e2, e3⟩ := h2 i hlt
      have hx : ∀ j u, xs.toArray[j]? = some u → ((xs ++ fdCs f A c).toArray)[j]? = some u := fun j u hj => by
        rw [List.getElem?_toArray] at hj ⊢
        rw [List.getElem?_append_left (List.getElem?_eq_some_iff.1 hj).1]
        exact hj
      exact ⟨A', c', hx _ _ e0, hkeep eN, hx _ _ e1, hx _ _ e2, hx _ _ e3⟩
    · obtain rfl : i = l.length := by omega
      rw [if_neg (by omega)]
      rw [List.getElem_append_right (Nat.le_refl _)]
      simp only [Nat.sub_self, List.getElem_cons_zero]
      have hx : ∀ j, ((xs ++ fdCs f A c).toArray)[l.length * 4 + j]? = (fdCs f A c)[j]? := fun j => by
        rw [List.getElem?_toArray, List.getElem?_append_right (by omega), hxl, Nat.add_sub_cancel_left]
      exact ⟨A, c, hx 0, hkeep hN, hx 1, hx 2, hx 3⟩
  · rw [List.length_append, List.length_singleton] at hi
    rcases Nat.lt_or_ge i l.length with hlt | hge
    · rw [if_pos hlt]
      rw [List.getElem_append_left hlt] at h0
      exact ⟨(h.lt i hlt h0).1, Nat.lt_of_lt_of_le (h.lt i hlt h0).2 hg.size⟩
    · obtain rfl : i = l.length := by omega
      rw [if_neg (by omega)]
      simp at h0
      exact ⟨(hb h0).1, Nat.lt_of_lt_of_le (hb h0).2.1 hg.size⟩
  · rw [List.length_append, List.length_singleton] at hi hj
    rcases Nat.lt_or_ge i l.length with hi' | hi'
    · rw [if_pos hi']
      rw [List.getElem_append_left hi'] at ti
      rcases Nat.lt_or_ge j l.length with hj' | hj'
      · rw [if_pos hj']
        rw [List.getElem_append_left hj'] at tj
        exact h.one i j hi' hj' hij ti tj
      · obtain rfl : j = l.length := by omega
        rw [if_neg (by omega)]
        simp at tj
        exact (hb tj).2.2 i hi' ti
    · obtain rfl : i = l.length := by omega
      rw [if_neg (by omega)]
      simp at ti
      rw [if_pos (by omega)]
      rw [List.getElem_append_left (show j < l.length by omega)] at tj
      exact Ne.symm ((hb ti).2.2 j (by omega) tj)
/-- the row when it is done -/
theorem FRow.own {w : World} {s : Nat} {v : Value} {l : List Fd} {nb : Nat → Nat} (h : FRow w s v l nb) : ∃ A c g, v = .slice A l.length c ∧ OwnFs w s A l g nb ∧ ∀ (x : Sl), x.fs = l → ∀ b, blOf x g nb b → s ≤ b ∧ b < w.heap.size := by
  obtain ⟨xs, h1, h2⟩ := h.row
  rcases h1.2 with ⟨hv, h0⟩ | ⟨g, cap, cur, hv, hlo, hh, i1, i2, i3, i4⟩
  · refine ⟨none, 0, 0, by rw [h0]; exact hv, ⟨fun hn => by omega, h.one, fun i hi => by omega⟩, fun x hx b hb => ?_⟩
    rcases hb with ⟨hp, -⟩ | ⟨i, hi, -, -⟩
    · rw [hx] at hp; omega
    · rw [hx] at hi; omega
  · have hat : ∀ i (hi : i < l.length), FdAt w s cur i (nb i) l[i] := fun i hi => by
      obtain ⟨A', c', e0, eN, e1, e2, e3⟩ := h2 i hi
      rw [List.getElem?_toArray] at e0 e1 e2 e3
      exact ⟨A', c', own_take i4 (by omega) e0, eN, own_take i4 (by omega) e1, own_take i4 (by omega) e2, own_take i4 (by omega) e3⟩
    refine ⟨_, _, g, hv, ⟨fun hn => ⟨rfl, hlo, cur, hh, hat⟩, h.one, fun i hi hn e => ?_⟩, fun x hx b hb => ?_⟩
    · obtain ⟨A', c', -, eN, -⟩ := hat i hi
      obtain ⟨-, -, tc, hK, -⟩ := eN hn
      exact Blk.ne_ hK hh (by decide) e
    · rcases hb with ⟨hp, rfl⟩ | ⟨i, hi, hn, rfl⟩
      · exact ⟨hlo, Blk.lt hh⟩
      · subst hx
        exact h.lt i hi hn

/-- slots: a row of theirs, each with blocks of its own -/
structure SRowG (w : World) (lo : Nat) (v : Value) (l : List Sl) (fb : Nat → Nat) (nb : Nat → Nat → Nat) : Prop where
  row : ∃ xs, w.ownsRow lo 90 4 v l.length xs ∧ ∀ i (h : i < l.length), SlAt w lo xs.toArray i (fb i) (nb i) l[i]
  lt : ∀ i (h : i < l.length) b, blOf l[i] (fb i) (nb i) b → b < w.heap.size
  one : ∀ i j (hi : i < l.length) (hj : j < l.length), i ≠ j → ∀ b, blOf l[i] (fb i) (nb i) b → ¬ blOf l[j] (fb j) (nb j) b
theorem SRowG.nil (w : World) (lo : Nat) (fb : Nat → Nat) (nb : Nat → Nat → Nat) : SRowG w lo (.slice none 0 0) [] fb nb := ⟨⟨[], World.ownsRow_nil _ _ _ _, fun i h => absurd h (by simp)⟩, fun i h => absurd h (by simp), fun i j h => absurd h (by simp)⟩
theorem SRowG.form {w : World} {lo : Nat} {v : Value} {l : List Sl} {fb : Nat → Nat} {nb : Nat → Nat → Nat} (h : SRowG w lo v l fb nb) : ∃ A c, v = .slice A l.length c ∧ l.length ≤ c := by
  obtain ⟨xs, h1, -⟩ := h.row
  exact own_form h1
theorem SRowG.below {w w' : World} {lo : Nat} {v : Value} {l : List Sl} {fb : Nat → Nat} {nb : Nat → Nat → Nat} (h : SRowG w lo v l fb nb) (hb : Below w.heap.size w w') : SRowG w' lo v l fb nb := by
  obtain ⟨xs, h1, h2⟩ := h.row
  exact ⟨⟨xs, own_below h1 hb, fun i hi => (h2 i hi).apart (S := fun _ => False) (Apart.of_below hb) (fun _ _ h => h)⟩, fun i hi b h0 => Nat.lt_of_lt_of_le (h.lt i hi b h0) hb.size, h.one⟩
/-- the kinds of a slot's blocks -/
theorem slAt_kind {w : World} {lo i f : Nat} {nb : Nat → Nat} {cs : Array Value} {s : Sl} (h : SlAt w lo cs i f nb s) {b : Nat} (hb : blOf s f nb b) : ∃ t bs, Blk w b t bs ∧ (t = 92 ∨ t = 5) := by
  obtain ⟨-, -, -, A, c, -, hF⟩ := h
  rcases hb with ⟨h0, rfl⟩ | ⟨j, hj, h0, rfl⟩
  · obtain ⟨-, -, cf, hK, -⟩ := hF.row h0
    exact ⟨_, _, hK, .inl rfl⟩
  · obtain ⟨-, -, cf, -, hatf⟩ := hF.row (by omega)
    obtain ⟨NA, nc, -, hN, -⟩ := hatf j hj
    obtain ⟨-, -, tc, hK, -⟩ := hN h0
    exact ⟨_, _, hK, .inr rfl⟩
/-- one slot more, whose blocks lie from m on, all others' below -/
theorem SRowG.snoc {w w' : World} {lo m : Nat} {v v' : Value} {l : List Sl} {fb : Nat → Nat} {nb : Nat → Nat → Nat} (h : SRowG w lo v l fb nb) {s : Sl} {A : Option Addr} {c f : Nat} {nbs : Nat → Nat} (hF : OwnFs w lo A s.fs f nbs) (hold : ∀ i (hi : i < l.length) b, blOf l[i] (fb i) (nb i) b → b < m) (hnew : ∀ b, blOf s f nbs b → m ≤ b ∧ b < w.heap.size)
    (hrow : ∀ xs, w.ownsRow lo 90 4 v l.length xs → w'.ownsRow lo 90 4 v' (l.length + 1) (xs ++ slCs s A c)) (hg : w.grownBy w' v.ownBlock) :
    SRowG w' lo v' (l ++ [s]) (fun i => if i < l.length then fb i else f) (fun i => if i < l.length then nb i else nbs) := by
  obtain ⟨xs, h1, h2⟩ := h.row
  have hxl : xs.length = l.length * 4 := h1.1
  have hR := hrow xs h1
  have ha : Apart (fun b => v.ownBlock = some b) w w' := ⟨hg.os, hg.tape, hg.output, hg.size, fun k hk hn => hg.block k hk (fun e => hn e.symm)⟩
  have hnS : ∀ {i : Nat} {cs : Array Value} {f' : Nat} {nb' : Nat → Nat} {x : Sl}, SlAt w lo cs i f' nb' x → ∀ b, blOf x f' nb' b → ¬ v.ownBlock = some b := fun {i cs f' nb' x} hs b hb e => by
    obtain ⟨t, bs, hK, ht⟩ := slAt_kind hs hb
    rcases ht with rfl | rfl
    · exact own_ne h1 hK (by decide) e
    · exact own_ne h1 hK (by decide) e
  refine ⟨⟨_, by rw [List.length_append]; exact hR, fun i hi => ?_⟩, fun i hi b h0 => ?_, fun i j hi hj hij b ti tj => ?_⟩
  · rw [List.length_append, List.length_singleton] at hi
    rcases Nat.lt_or_ge i l.length with hlt | hge
    · rw [if_pos hlt, if_pos hlt]
      rw [List.getElem_append_left hlt]
      refine ((h2 i hlt).apart ha (hnS (h2 i hlt))).cells fun j hj => ?_
      rw [List.getElem?_toArray, List.getElem?_toArray, List.getElem?_append_left (by omega)]
    · obtain rfl : i = l.length := by omega
      rw [if_neg (by omega), if_neg (by omega)]
      rw [List.getElem_append_right (Nat.le_refl _)]
      simp only [Nat.sub_self, List.getElem_cons_zero]
      have hx : ∀ j, ((xs ++ slCs s A c).toArray)[l.length * 4 + j]? = (slCs s A c)[j]? := fun j => by
        rw [List.getElem?_toArray, List.getElem?_append_right (by omega), hxl, Nat.add_sub_cancel_left]
      refine ⟨hx 0, hx 1, hx 2, A, c, hx 3, hF.apart_ ha fun b hb => ?_⟩
      exact hnS (i := 0) (cs := #[.bool s.live, .int .i64 s.gen, .int .i64 s.count, .slice A s.fs.length c]) ⟨rfl, rfl, rfl, A, c, rfl, hF⟩ b hb
  · rw [List.length_append, List.length_singleton] at hi
    refine Nat.lt_of_lt_of_le ?_ hg.size
    rcases Nat.lt_or_ge i l.length with hlt | hge
    · rw [if_pos hlt, if_pos hlt, List.getElem_append_left hlt] at h0
      exact h.lt i hlt b h0
    · obtain rfl : i = l.length := by omega
      rw [if_neg (by omega), if_neg (by omega), List.getElem_append_right (Nat.le_refl _)] at h0
      simp only [Nat.sub_self, List.getElem_cons_zero] at h0
      exact (hnew b h0).2
  · rw [List.length_append, List.length_singleton] at hi hj
    rcases Nat.lt_or_ge i l.length with hi' | hi'
    · rw [if_pos hi', if_pos hi', List.getElem_append_left hi'] at ti
      rcases Nat.lt_or_ge j l.length with hj' | hj'
      · rw [if_pos hj', if_pos hj', List.getElem_append_left hj'] at tj
        exact h.one i j hi' hj' hij b ti tj
      · obtain rfl : j = l.length := by omega
        rw [if_neg (by omega), if_neg (by omega), List.getElem_append_right (Nat.le_refl _)] at tj
        simp only [Nat.sub_self, List.getElem_cons_zero] at tj
        have := hold i hi' b ti
        have := (hnew b tj).1
        omega
    · obtain rfl : i = l.length := by omega
      rw [if_neg (by omega), if_neg (by omega), List.getElem_append_right (Nat.le_refl _)] at ti
      simp only [Nat.sub_self, List.getElem_cons_zero] at ti
      have hj' : j < l.length := by omega
      rw [if_pos hj', if_pos hj', List.getElem_append_left hj'] at tj
      have := hold j hj' b tj
      have := (hnew b ti).1
      omega
/-- the row when it is done -/
theorem SRowG.own {w : World} {lo : Nat} {v : Value} {l : List Sl} {fb : Nat → Nat} {nb : Nat → Nat → Nat} (h : SRowG w lo v l fb nb) : ∃ A c g, v = .slice A l.length c ∧ OwnSls w lo A l g fb nb ∧ (∀ b, bsOf l g fb nb b → b < w.heap.size ∧ ∃ t bs, Blk w b t bs ∧ (t = 90 ∨ t = 92 ∨ t = 5)) := by
  obtain ⟨xs, h1, h2⟩ := h.row
  rcases h1.2 with ⟨hv, h0⟩ | ⟨g, cap, cur, hv, hlo, hh, i1, i2, i3, i4⟩
  · refine ⟨none, 0, 0, by rw [h0]; exact hv, ⟨fun hn => by omega, h.one, fun i hi => by omega⟩, fun b hb => ?_⟩
    rcases hb with ⟨hp, -⟩ | ⟨i, hi, -⟩
    · omega
    · omega
  · have hat : ∀ i (hi : i < l.length), SlAt w lo cur i (fb i) (nb i) l[i] := fun i hi => by
      obtain ⟨e0, e1, e2, A', c', e3, eF⟩ := h2 i hi
      rw [List.getElem?_toArray] at e0 e1 e2 e3
      exact ⟨own_take i4 (by omega) e0, own_take i4 (by omega) e1, own_take i4 (by omega) e2, A', c', own_take i4 (by omega) e3, eF⟩
    refine ⟨_, _, g, hv, ⟨fun hn => ⟨rfl, hlo, cur, hh, hat⟩, h.one, fun i hi b hb e => ?_⟩, fun b hb => ?_⟩
    · obtain ⟨t, bs, hK, ht⟩ := slAt_kind (hat i hi) hb
      rcases ht with rfl | rfl
      · exact Blk.ne_ hK hh (by decide) e
      · exact Blk.ne_ hK hh (by decide) e
    · rcases hb with ⟨hp, rfl⟩ | ⟨i, hi, hb⟩
      · exact ⟨Blk.lt hh, _, _, hh, .inl rfl⟩
      · obtain ⟨t, bs, hK, ht⟩ := slAt_kind (hat i hi) hb
        exact ⟨h.lt i hi b hb, t, bs, hK, .inr ht⟩
end ArnG
end Go.Proofs.Ytfmlgpnjckamjaa

namespace Go.Proofs.Ytfmlgpnjckamjaa
open Go.RowKit
set_option linter.unusedVariables false
set_option linter.unusedSimpArgs false

/-- a row of bytes of the call's own, none of whose cells is frozen -/
def OwnT (w : World) (B : Nat) (v : Value) (l : List UInt8) : Prop := ownsT w B 5 1 v l.length (vb l)

section
variable {w w' : World} {B : Nat} {v : Value} {l r : List UInt8}
theorem OwnT.form (h : OwnT w B v l) : ∃ (A : Option Addr) (c : Nat), v = .slice A l.length c ∧ RB w w.heap.size A l := by
  have h' := h
  unfold OwnT at h'
  rcases h'.2 with ⟨rfl, hx⟩ | ⟨g, cap, cur, rfl, hB, hg, hr⟩
  · have : l = [] := List.eq_nil_of_length_eq_zero hx
    subst this
    exact ⟨none, 0, rfl, Reads.none_⟩
  · exact ⟨_, _, rfl, ownsT.reads h⟩
theorem OwnT.nil (w : World) (B : Nat) : OwnT w B (.slice none 0 0) [] := ownsT_nil _ _ _ _
theorem OwnT.less {B' : Nat} (h : OwnT w B v l) (hB : B' ≤ B) : OwnT w B' v l := ownsT.less h hB
theorem OwnT.keep {B' : Nat} (h : OwnT w B v l) (hb : Below B' w w') (hB : w.heap.size ≤ B') : OwnT w' B v l :=
  ownsT.keep h fun k hk => hb.block k (by have := (ownsT.lt h k hk).2; omega)
theorem OwnT.below (h : OwnT w B v l) (hb : Below w.heap.size w w') : OwnT w' B v l := h.keep hb (Nat.le_refl _)
theorem OwnT.alloc (h : OwnT w B v l) (o : Obj) : OwnT (w.alloc o) B v l := ownsT.alloc h o
theorem OwnT.drewN (h : OwnT w B v l) (n : Nat) : OwnT (w.drewN n) B v l := h
theorem OwnT.block {g : Nat} (h : OwnT w B v l) (hg : v.ownBlock = some g) : B ≤ g ∧ g < w.heap.size := ownsT.lt h g hg
/-- a block of another type is none of the row's -/
theorem OwnT.ne {g : Nat} {t : TypeId} {cs : Array Value} (h : OwnT w B v l) (hK : Blk w g t cs) (hne : t ≠ 5) : v.ownBlock ≠ some g := by
  intro hk
  rcases h.2 with ⟨rfl, _⟩ | ⟨g', cap, cur, rfl, _, hg, _⟩
  · simp [Value.ownBlock] at hk
  · have : g' = g := by simpa [Value.ownBlock] using hk
    subst this
    exact hg.ne_ hK.toT (Ne.symm hne) rfl

theorem OwnT.far {g : Nat} {t : TypeId} {cs : Array Value} (h : OwnT w B v l) (hK : Blk w g t cs) (hne : t ≠ 5) (i : Nat) (u : Value) : OwnT (w.setCell ⟨g, i, none⟩ u) B v l :=
  ownsT.keep h fun k hk => Below.heap_setCell w ⟨g, i, none⟩ u k (fun e => h.ne hK hne (hk.trans (congrArg some e)))
theorem vb_app (l r : List UInt8) : vb (l ++ r) = vb l ++ vb r := by simp [vb]
/-- bytes as what is appended -/
theorem src_rb {P : Program} {tx e' : TypeId} (hk : P.underlying tx = some (.slice e')) {A : Option Addr} (c : Nat) (h : RB w B A l) : Src P 1 tx (.slice A l.length c) l.length (vb l) w := by
  cases A with
  | none =>
    have : l = [] := by
      rcases Nat.eq_zero_or_pos l.length with hl | hl
      · exact List.eq_nil_of_length_eq_zero hl
      · obtain ⟨ad, e, _⟩ := h.2 hl; cases e
    subst this
    exact Src.ofNil w hk c
  | some ad =>
    refine Src.ofSlice w hk ad l.length c (vb l) (by simp [vb]) (fun j u hu => ?_) (fun u hu => ?_)
    · have hl : 0 < l.length := by
        have := (List.getElem?_eq_some_iff.1 hu).1
        simp [vb] at this
        omega
      obtain ⟨ad', e, _, hc⟩ := h.2 hl
      cases e
      exact hc j u hu
    · obtain ⟨b, _, rfl⟩ := List.mem_map.1 hu
      rfl
/-- one byte in a block of its own -/
theorem src_one {P : Program} {tx e' : TypeId} (hk : P.underlying tx = some (.slice e')) (x : Int) (t : TypeId) : Src P 1 tx (.slice (some ⟨w.heap.size, 0, none⟩) 1 1) 1 [.int .u8 x] (w.alloc (.cells #[.int .u8 x] t)) := by
  refine Src.ofSlice _ hk _ 1 1 _ rfl (fun j u hu => ?_) (fun u hu => ?_)
  · match j, hu with
    | 0, hu =>
      simp at hu
      subst hu
      simp [Addr.add]
    | j + 1, hu => simp at hu
  · simp at hu
    subst hu
    rfl
theorem byteCells_vb (s : ByteArray) : byteCells s = vb s.data.toList := rfl
theorem ba_len (s : ByteArray) : s.data.toList.length = s.size := by rw [Array.length_toList]; rfl

section
variable {ops : Array Oper} {rest : List Oper} {o : Oper} {a : Act} {K : Act → World → Prop} {Q : Exit → Act → World → Prop}
/-- an append of bytes, in a statement that draws -/
theorem wp_appT (s x : Operand) (ho : o.op = .call { callee := .builtin .append, args := #[s, x], argTypes := #[27, 27] })
    (hs : a.eval s = v) (hown : OwnT w B v l) {A : Option Addr} {c B' : Nat} (hx : a.eval x = .slice A r.length c) (hr : RB w B' A r)
    (hlen : l.length + r.length ≤ 140737488355328) (hbase : B ≤ w.heap.size)
    (h : ∀ v' w', OwnT w' B v' (l ++ r) → w.grownBy w' v.ownBlock → K (a.put o.dst v') w') : o.wp Try.prog a w K Q := by
  obtain ⟨i0, hi, hz0, hz1, hz2⟩ := info_parts infoU8
  refine wp_append_T w s x 27 27 ho B 5 i0 _ 1 1 Try.underlying27 hi hz0 hz1 hz2 rfl v _ _ hs hown _ r.length (vb r) hx (src_rb Try.underlying27 c hr) (by unfold maxLen; omega) (by omega) hbase ?_
  intro v' w' h1 h2 _
  exact h v' w' (by unfold OwnT; rw [List.length_append, vb_app]; exact h1) h2
theorem wpList_appT (hgd : o.guard = none) (s x : Operand) (ho : o.op = .call { callee := .builtin .append, args := #[s, x], argTypes := #[27, 27] })
    (hs : a.eval s = v) (hown : OwnT w B v l) {A : Option Addr} {c B' : Nat} (hx : a.eval x = .slice A r.length c) (hr : RB w B' A r)
    (hlen : l.length + r.length ≤ 140737488355328) (hbase : B ≤ w.heap.size)
    (h : ∀ v' w', OwnT w' B v' (l ++ r) → w.grownBy w' v.ownBlock → wpList Try.prog ops Q rest (a.put o.dst v') w') : wpList Try.prog ops Q (o :: rest) a w :=
  wpList_plain hgd fun _ hK => wp_appT s x ho hs hown hx hr hlen hbase fun v' w' h1 h2 => hK _ _ (h v' w' h1 h2)
end
end
/-- a string's bytes, converted: a row of the call's own -/
theorem convT (w : World) (s : ByteArray) (h63 : s.size ≤ maxLen) :
    ∃ A c w', (Go.convert 9 27 (.string s)).run Try.prog w = .ok (.slice A s.data.toList.length c) w' ∧ OwnT w' w.heap.size (.slice A s.data.toList.length c) s.data.toList ∧ Below w.heap.size w w' := by
  obtain ⟨v, w', h1, h2, h3, c, rfl⟩ := run_convert_T (P := Try.prog) w 9 27 5 s Try.underlying9 Try.underlying27 Try.underlying5 h63 w.heap.size (Nat.le_refl _)
  refine ⟨_, c, w', by rw [ba_len]; exact h1, ?_, (Below.refl _ _).grown h3 (Nat.le_refl _) (fun k hk => by cases hk)⟩
  unfold OwnT
  rw [ba_len]
  exact h2
theorem run_convert_RT {P : Program} {w : World} {B : Nat} {A : Option Addr} {l : List UInt8} (h : RB w B A l) (src e dst c : Nat) (hs : P.underlying src = some (.slice e)) (he : P.underlying e = some (.int .u8)) (hd : P.underlying dst = some .string) :
    (Go.convert src dst (Value.slice A l.length c)).run P w = .ok (.string ⟨l.toArray⟩) w := by
  rw [run_convert_bytes_string w src dst e A l.length c hs he hd]
  rcases A with _ | ad
  · have : l = [] := by
      rcases Nat.eq_zero_or_pos l.length with h0 | h0
      · exact List.eq_nil_of_length_eq_zero h0
      · obtain ⟨ad, e, _⟩ := h.at_ h0
        cases e
    subst this
    simp [Conv.bytesToString]
    rfl
  · have hl := run_loadCells_list (P := P) w ad (vb l) (fun j v hj => by
      have hj' : j < l.length := by
        rcases Nat.lt_or_ge j l.length with h1 | h1
        · exact h1
        · rw [List.getElem?_eq_none (by rw [vb_len]; exact h1)] at hj
          cases hj
      obtain ⟨ad', e, _, hc⟩ := h.2 (by omega)
      cases e
      exact hc j v hj)
    have hm : (vb l) = (l.map fun b => (b.toNat : Int)).map (Value.int .u8) := by simp [vb]
    rw [vb_len, hm] at hl
    rw [run_bytesToString w ad l.length c _ hl, foldl_push_bytes]
    congr 2
    show ByteArray.mk _ = ByteArray.mk _
    congr 1
    apply Array.ext'
    rw [Array.toList_append, List.map_map]
    show [] ++ List.map _ l = l
    rw [List.nil_append]
    conv => rhs; rw [← List.map_id l]
    apply List.map_congr_left
    intro b _
    simp
/-- a row of bytes, converted to a string -/
theorem convT_back {w : World} {B : Nat} {A : Option Addr} {l : List UInt8} (h : RB w B A l) (c : Nat) : (Go.convert 27 9 (.slice A l.length c)).run Try.prog w = .ok (.string ⟨l.toArray⟩) w :=
  run_convert_RT h 27 5 9 c Try.underlying27 Try.underlying5 Try.underlying9
end Go.Proofs.Ytfmlgpnjckamjaa
