/-
  Rows of bytes of a call's own, whatever made them (a conversion of a string too): what they read as, appends to them.
-/
import Derived.Test.YtebgigiakfjocaaDoorRowT
import Derived.Test.YtebgigiakfjocaaDoorBytes
import Derived.Laws.BytesString
namespace Go.Proofs.YtebgigiakfjocaaDoor
open Go.RowKit
set_option linter.unusedVariables false
set_option linter.unusedSimpArgs false

/-- a row of bytes of the call's own, none of whose cells is frozen -/
def OwnT (w : World) (B : Nat) (v : Value) (l : List UInt8) : Prop := ownsT w B 5 1 v l.length (vb l)

section
variable {w w' : World} {B : Nat} {v : Value} {l r : List UInt8}
theorem OwnT.form (h : OwnT w B v l) : ∃ (A : Option Addr) (c : Nat), v = .slice A l.length c ∧ RB w w.heap.size A l := by
  have h' := h
  unfold OwnT at h'
  rcases h'.2 with ⟨rfl, hx⟩ | ⟨g, cap, cur, rfl, hB, hg, hr⟩
  · have : l = [] := List.eq_nil_of_length_eq_zero hx
    subst this
    exact ⟨none, 0, rfl, Reads.none_⟩
  · exact ⟨_, _, rfl, ownsT.reads h⟩
theorem OwnT.nil (w : World) (B : Nat) : OwnT w B (.slice none 0 0) [] := ownsT_nil _ _ _ _
theorem OwnT.less {B' : Nat} (h : OwnT w B v l) (hB : B' ≤ B) : OwnT w B' v l := ownsT.less h hB
theorem OwnT.keep {B' : Nat} (h : OwnT w B v l) (hb : Below B' w w') (hB : w.heap.size ≤ B') : OwnT w' B v l :=
  ownsT.keep h fun k hk => hb.block k (by have := (ownsT.lt h k hk).2; omega)
theorem OwnT.below (h : OwnT w B v l) (hb : Below w.heap.size w w') : OwnT w' B v l := h.keep hb (Nat.le_refl _)
theorem OwnT.alloc (h : OwnT w B v l) (o : Obj) : OwnT (w.alloc o) B v l := ownsT.alloc h o
theorem OwnT.drewN (h : OwnT w B v l) (n : Nat) : OwnT (w.drewN n) B v l := h
theorem OwnT.block {g : Nat} (h : OwnT w B v l) (hg : v.ownBlock = some g) : B ≤ g ∧ g < w.heap.size := ownsT.lt h g hg
/-- a block of another type is none of the row's -/
theorem OwnT.ne {g : Nat} {t : TypeId} {cs : Array Value} (h : OwnT w B v l) (hK : Blk w g t cs) (hne : t ≠ 5) : v.ownBlock ≠ some g := by
  intro hk
  rcases h.2 with ⟨rfl, _⟩ | ⟨g', cap, cur, rfl, _, hg, _⟩
  · simp [Value.ownBlock] at hk
  · have : g' = g := by simpa [Value.ownBlock] using hk
    subst this
    exact hg.ne_ hK.toT (Ne.symm hne) rfl

theorem OwnT.far {g : Nat} {t : TypeId} {cs : Array Value} (h : OwnT w B v l) (hK : Blk w g t cs) (hne : t ≠ 5) (i : Nat) (u : Value) : OwnT (w.setCell ⟨g, i, none⟩ u) B v l :=
  ownsT.keep h fun k hk => Below.heap_setCell w ⟨g, i, none⟩ u k (fun e => h.ne hK hne (hk.trans (congrArg some e)))
theorem vb_app (l r : List UInt8) : vb (l ++ r) = vb l ++ vb r := by simp [vb]
/-- bytes as what is appended -/
theorem src_rb {P : Program} {tx e' : TypeId} (hk : P.underlying tx = some (.slice e')) {A : Option Addr} (c : Nat) (h : RB w B A l) : Src P 1 tx (.slice A l.length c) l.length (vb l) w := by
  cases A with
  | none =>
    have : l = [] := by
      rcases Nat.eq_zero_or_pos l.length with hl | hl
      · exact List.eq_nil_of_length_eq_zero hl
      · obtain ⟨ad, e, _⟩ := h.2 hl; cases e
    subst this
    exact Src.ofNil w hk c
  | some ad =>
    refine Src.ofSlice w hk ad l.length c (vb l) (by simp [vb]) (fun j u hu => ?_) (fun u hu => ?_)
    · have hl : 0 < l.length := by
        have := (List.getElem?_eq_some_iff.1 hu).1
        simp [vb] at this
        omega
      obtain ⟨ad', e, _, hc⟩ := h.2 hl
      cases e
      exact hc j u hu
    · obtain ⟨b, _, rfl⟩ := List.mem_map.1 hu
      rfl
/-- one byte in a block of its own -/
theorem src_one {P : Program} {tx e' : TypeId} (hk : P.underlying tx = some (.slice e')) (x : Int) (t : TypeId) : Src P 1 tx (.slice (some ⟨w.heap.size, 0, none⟩) 1 1) 1 [.int .u8 x] (w.alloc (.cells #[.int .u8 x] t)) := by
  refine Src.ofSlice _ hk _ 1 1 _ rfl (fun j u hu => ?_) (fun u hu => ?_)
  · match j, hu with
    | 0, hu =>
      simp at hu
      subst hu
      simp [Addr.add]
    | j + 1, hu => simp at hu
  · simp at hu
    subst hu
    rfl
theorem byteCells_vb (s : ByteArray) : byteCells s = vb s.data.toList := rfl
theorem ba_len (s : ByteArray) : s.data.toList.length = s.size := by rw [Array.length_toList]; rfl

section
variable {ops : Array Oper} {rest : List Oper} {o : Oper} {a : Act} {K : Act → World → Prop} {Q : Exit → Act → World → Prop}
/-- an append of bytes, in a statement that draws -/
theorem wp_appT (s x : Operand) (ho : o.op = .call { callee := .builtin .append, args := #[s, x], argTypes := #[27, 27] })
    (hs : a.eval s = v) (hown : OwnT w B v l) {A : Option Addr} {c B' : Nat} (hx : a.eval x = .slice A r.length c) (hr : RB w B' A r)
    (hlen : l.length + r.length ≤ 140737488355328) (hbase : B ≤ w.heap.size)
    (h : ∀ v' w', OwnT w' B v' (l ++ r) → w.grownBy w' v.ownBlock → K (a.put o.dst v') w') : o.wp Tryd.prog a w K Q := by
  obtain ⟨i0, hi, hz0, hz1, hz2⟩ := info_parts infoU8
  refine wp_append_T w s x 27 27 ho B 5 i0 _ 1 1 Tryd.underlying27 hi hz0 hz1 hz2 rfl v _ _ hs hown _ r.length (vb r) hx (src_rb Tryd.underlying27 c hr) (by unfold maxLen; omega) (by omega) hbase ?_
  intro v' w' h1 h2 _
  exact h v' w' (by unfold OwnT; rw [List.length_append, vb_app]; exact h1) h2
theorem wpList_appT (hgd : o.guard = none) (s x : Operand) (ho : o.op = .call { callee := .builtin .append, args := #[s, x], argTypes := #[27, 27] })
    (hs : a.eval s = v) (hown : OwnT w B v l) {A : Option Addr} {c B' : Nat} (hx : a.eval x = .slice A r.length c) (hr : RB w B' A r)
    (hlen : l.length + r.length ≤ 140737488355328) (hbase : B ≤ w.heap.size)
    (h : ∀ v' w', OwnT w' B v' (l ++ r) → w.grownBy w' v.ownBlock → wpList Tryd.prog ops Q rest (a.put o.dst v') w') : wpList Tryd.prog ops Q (o :: rest) a w :=
  wpList_plain hgd fun _ hK => wp_appT s x ho hs hown hx hr hlen hbase fun v' w' h1 h2 => hK _ _ (h v' w' h1 h2)
end
end
/-- a string's bytes, converted: a row of the call's own -/
theorem convT (w : World) (s : ByteArray) (h63 : s.size ≤ maxLen) :
    ∃ A c w', (Go.convert 9 27 (.string s)).run Tryd.prog w = .ok (.slice A s.data.toList.length c) w' ∧ OwnT w' w.heap.size (.slice A s.data.toList.length c) s.data.toList ∧ Below w.heap.size w w' := by
  obtain ⟨v, w', h1, h2, h3, c, rfl⟩ := run_convert_T (P := Tryd.prog) w 9 27 5 s Tryd.underlying9 Tryd.underlying27 Tryd.underlying5 h63 w.heap.size (Nat.le_refl _)
  refine ⟨_, c, w', by rw [ba_len]; exact h1, ?_, (Below.refl _ _).grown h3 (Nat.le_refl _) (fun k hk => by cases hk)⟩
  unfold OwnT
  rw [ba_len]
  exact h2
theorem run_convert_RT {P : Program} {w : World} {B : Nat} {A : Option Addr} {l : List UInt8} (h : RB w B A l) (src e dst c : Nat) (hs : P.underlying src = some (.slice e)) (he : P.underlying e = some (.int .u8)) (hd : P.underlying dst = some .string) :
    (Go.convert src dst (Value.slice A l.length c)).run P w = .ok (.string ⟨l.toArray⟩) w := by
  rw [run_convert_bytes_string w src dst e A l.length c hs he hd]
  rcases A with _ | ad
  · have : l = [] := by
      rcases Nat.eq_zero_or_pos l.length with h0 | h0
      · exact List.eq_nil_of_length_eq_zero h0
      · obtain ⟨ad, e, _⟩ := h.at_ h0
        cases e
    subst this
    simp [Conv.bytesToString]
    rfl
  · have hl := run_loadCells_list (P := P) w ad (vb l) (fun j v hj => by
      have hj' : j < l.length := by
        rcases Nat.lt_or_ge j l.length with h1 | h1
        · exact h1
        · rw [List.getElem?_eq_none (by rw [vb_len]; exact h1)] at hj
          cases hj
      obtain ⟨ad', e, _, hc⟩ := h.2 (by omega)
      cases e
      exact hc j v hj)
    have hm : (vb l) = (l.map fun b => (b.toNat : Int)).map (Value.int .u8) := by simp [vb]
    rw [vb_len, hm] at hl
    rw [run_bytesToString w ad l.length c _ hl, foldl_push_bytes]
    congr 2
    show ByteArray.mk _ = ByteArray.mk _
    congr 1
    apply Array.ext'
    rw [Array.toList_append, List.map_map]
    show [] ++ List.map _ l = l
    rw [List.nil_append]
    conv => rhs; rw [← List.map_id l]
    apply List.map_congr_left
    intro b _
    simp
/-- a row of bytes, converted to a string -/
theorem convT_back {w : World} {B : Nat} {A : Option Addr} {l : List UInt8} (h : RB w B A l) (c : Nat) : (Go.convert 27 9 (.slice A l.length c)).run Tryd.prog w = .ok (.string ⟨l.toArray⟩) w :=
  run_convert_RT h 27 5 9 c Tryd.underlying27 Tryd.underlying5 Tryd.underlying9
end Go.Proofs.YtebgigiakfjocaaDoor
