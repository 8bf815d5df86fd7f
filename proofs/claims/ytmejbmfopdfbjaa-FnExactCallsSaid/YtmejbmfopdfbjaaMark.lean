/-
  Marks that are written all over a program's copy: whatever is written, it stays a program of the same shape.
-/
import Derived.Test.YtmejbmfopdfbjaaVisit
namespace Go.Proofs.Ytmejbmfopdfbjaa
open Go.RowKit Go.Shelf
set_option linter.unusedVariables false

/-- a cell's number has been overwritten, or nothing -/
def MkC (a b : Option Value) : Prop := b = a ∨ (∃ x y : Int, a = some (.int .i64 x) ∧ b = some (.int .i64 y)) ∨ (∃ x y : UInt8, a = some (.int .u8 x.toNat) ∧ b = some (.int .u8 y.toNat))
theorem MkC.trans {a b c : Option Value} (h : MkC a b) (k : MkC b c) : MkC a c := by
  rcases h with rfl | ⟨x, y, rfl, rfl⟩ | ⟨x, y, rfl, rfl⟩
  · exact k
  · rcases k with rfl | ⟨x', y', e, rfl⟩ | ⟨x', y', e, rfl⟩
    · exact .inr (.inl ⟨x, y, rfl, rfl⟩)
    · exact .inr (.inl ⟨x, y', rfl, rfl⟩)
    · injection e with e; injection e with e _; cases e
  · rcases k with rfl | ⟨x', y', e, rfl⟩ | ⟨x', y', e, rfl⟩
    · exact .inr (.inr ⟨x, y, rfl, rfl⟩)
    · injection e with e; injection e with e _; cases e
    · exact .inr (.inr ⟨x, y', rfl, rfl⟩)
theorem MkC.slice {a b : Option Value} {A : Option Addr} {n c : Nat} (h : MkC a b) (ha : a = some (.slice A n c)) : b = some (.slice A n c) := by
  rcases h with rfl | ⟨x, y, rfl, rfl⟩ | ⟨x, y, rfl, rfl⟩
  · exact ha
  · cases ha
  · cases ha
theorem MkC.i64 {a b : Option Value} {x : Int} (h : MkC a b) (ha : a = some (.int .i64 x)) : ∃ y, b = some (.int .i64 y) := by
  rcases h with rfl | ⟨x', y, rfl, rfl⟩ | ⟨x', y, rfl, rfl⟩
  · exact ⟨x, ha⟩
  · exact ⟨y, rfl⟩
  · injection ha with e; injection e with e _; cases e
theorem MkC.u8 {a b : Option Value} {x : UInt8} (h : MkC a b) (ha : a = some (.int .u8 x.toNat)) : ∃ y : UInt8, b = some (.int .u8 y.toNat) := by
  rcases h with rfl | ⟨x', y, rfl, rfl⟩ | ⟨x', y, rfl, rfl⟩
  · exact ⟨x, ha⟩
  · injection ha with e; injection e with e _; cases e
  · exact ⟨y, rfl⟩

/-- marks in the blocks from L to B, and nowhere else -/
structure Mk (L B : Nat) (w w' : World) : Prop where
  os : w'.os = w.os
  tape : w'.tape = w.tape
  output : w'.output = w.output
  size : w'.heap.size = w.heap.size
  block : ∀ k, (k < L ∨ B ≤ k) → w'.heap[k]? = w.heap[k]?
  frozen : ∀ p, w'.frozen? p = w.frozen? p
  cell : ∀ p, MkC (w.cell? p) (w'.cell? p)
/-- no block from L to B is frozen -/
def Thaw (L B : Nat) (w : World) : Prop := ∀ k, L ≤ k → k < B → ∃ cs t, w.heap[k]? = some (.cells cs t)
section
variable {L B : Nat} {w w' w2 : World}
theorem Mk.refl (L B : Nat) (w : World) : Mk L B w w := ⟨rfl, rfl, rfl, rfl, fun _ _ => rfl, fun _ => rfl, fun _ => .inl rfl⟩
theorem Mk.trans (h : Mk L B w w') (k : Mk L B w' w2) : Mk L B w w2 :=
  ⟨k.os.trans h.os, k.tape.trans h.tape, k.output.trans h.output, k.size.trans h.size, fun i hi => (k.block i hi).trans (h.block i hi), fun p => (k.frozen p).trans (h.frozen p), fun p => (h.cell p).trans (k.cell p)⟩
theorem Mk.below (h : Mk L B w w') : Below L w w' := ⟨h.os, h.tape, h.output, by rw [h.size]; exact Nat.le_refl _, fun k hk => h.block k (.inl hk)⟩
theorem cell_set {p : Addr} {x v : Value} (h : w.cell? p = some x) (q : Addr) : (w.setCell p v).cell? q = w.cell? q ∨ ((w.setCell p v).cell? q = some v ∧ w.cell? q = some x) := by
  unfold World.cell? at h
  cases hb : w.heap[p.block]? with
  | none => rw [hb] at h; cases h
  | some o =>
    rw [hb] at h
    cases o with
    | cells c t fz =>
      simp only at h
      cases hs : p.spot with
      | some sp => rw [hs] at h; cases h
      | none =>
        rw [hs] at h
        simp only [Option.isSome_none, Bool.false_eq_true, if_false] at h
        by_cases hq : q.block = p.block
        · have e : (w.setCell p v).heap[q.block]? = some (.cells (c.setIfInBounds p.off v) t fz) := by
            unfold World.setCell
            rw [hq, Array.getElem?_modify, hb]
            simp [hs]
          unfold World.cell?
          rw [e, hq, hb]
          cases hsq : q.spot with
          | some sp => left; rfl
          | none =>
            simp only [Option.isSome_none, Bool.false_eq_true, if_false]
            by_cases ho : q.off = p.off
            · right
              rw [ho]
              have hlt : p.off < c.size := (Array.getElem?_eq_some_iff.1 h).1
              exact ⟨by simp [hlt], h⟩
            · left
              rw [Array.getElem?_setIfInBounds, if_neg (fun e => ho e.symm)]
        · left
          exact World.cell?_of_block (Below.heap_setCell w p v q.block hq)
    | _ => cases h
theorem frozen_set (p : Addr) (v : Value) (q : Addr) : (w.setCell p v).frozen? q = w.frozen? q := by
  unfold World.frozen?
  by_cases hq : q.block = p.block
  · unfold World.setCell
    rw [hq]
    simp only [Array.getElem?_modify]
    cases hb : w.heap[p.block]? with
    | none => simp
    | some o => cases o <;> simp
  · rw [Below.heap_setCell w p v q.block hq]
theorem Mk.set_ {p : Addr} {x v : Value} (hL : L ≤ p.block) (hB : p.block < B) (h : w.cell? p = some x) (hk : MkC (some x) (some v)) : Mk L B w (w.setCell p v) :=
  ⟨rfl, rfl, rfl, by rw [World.size_setCell], fun k hk' => Below.heap_setCell w p v k (by omega), fun q => frozen_set p v q, fun q => by
    rcases cell_set (v := v) h q with e | ⟨e1, e2⟩
    · exact .inl e
    · rw [e1, e2]; exact hk⟩
theorem thaw_frozen (h : Thaw L B w) {p : Addr} (hL : L ≤ p.block) (hB : p.block < B) : w.frozen? p = false := by
  obtain ⟨cs, t, e⟩ := h p.block hL hB
  unfold World.frozen?
  rw [e]
  simp
theorem Thaw.set_ (h : Thaw L B w) (p : Addr) (v : Value) : Thaw L B (w.setCell p v) := fun k hk hB => by
  obtain ⟨cs, t, e⟩ := h k hk hB
  by_cases hp : p.block = k
  · subst hp
    refine ⟨(if p.spot.isSome then cs else cs.setIfInBounds p.off v), t, ?_⟩
    unfold World.setCell
    rw [Array.getElem?_modify]
    simp [e]
  · exact ⟨cs, t, (Below.heap_setCell w p v k (fun e => hp e.symm)).trans e⟩
end

/-- bytes that have been marked are bytes, as many -/
theorem RBL.mk_ {L B : Nat} {w w' : World} {A : Option Addr} {l : List UInt8} (h : RBL w L B A l) (hm : Mk L B w w') : ∃ l' : List UInt8, l'.length = l.length ∧ RBL w' L B A l' := by
  by_cases hn : 0 < l.length
  · obtain ⟨ad, eA, hb, hc⟩ := h.1.2 hn
    obtain ⟨ad', eA', hL⟩ := h.2 hn
    have each : ∀ k, k < l.length → ∃ y : UInt8, w'.cell? (ad.add k) = some (.int .u8 y.toNat) := fun k hk => by
      have h1 := hc k (.int .u8 l[k].toNat) (by rw [vb_get, List.getElem?_eq_getElem hk]; rfl)
      exact (hm.cell (ad.add k)).u8 h1
    let f : Fin l.length → UInt8 := fun i => Classical.choose (each i.1 i.2)
    have hfl : (List.ofFn f).length = l.length := by simp
    refine ⟨List.ofFn f, hfl, ⟨by rw [vb_len, Nat.mul_one], fun _ => ⟨ad, eA, hb, fun k u hu => ?_⟩⟩, fun _ => ⟨ad', eA', hL⟩⟩
    have hk : k < l.length := by rw [← hfl, ← vb_len]; exact (List.getElem?_eq_some_iff.1 hu).1
    rw [vb_get, List.getElem?_eq_getElem (by rw [hfl]; exact hk)] at hu
    have e : (List.ofFn f)[k]'(by rw [hfl]; exact hk) = f ⟨k, hk⟩ := by simp
    rw [e] at hu
    injection hu with hu
    rw [← hu]
    exact Classical.choose_spec (each k hk)
  · have h0 : l = [] := by cases l with | nil => rfl | cons x r => simp at hn
    subst h0
    exact ⟨[], rfl, ⟨h.1.1, fun hp => by simp at hp⟩, h.2⟩

-- how many marks
mutual
def mkEx : Ex → Nat
  | .mk _ _ name args => 2 + name.length + mkExs args
def mkExs : List Ex → Nat
  | [] => 0
  | e :: r => mkEx e + mkExs r
end
theorem mkEx_mk (k n : Int) (name : List UInt8) (args : List Ex) : mkEx (.mk k n name args) = 2 + name.length + mkExs args := by rw [mkEx]
theorem mkExs_step : ∀ {l : List Ex} {k : Nat} (hk : k < l.length), mkExs (l.take (k + 1)) = mkExs (l.take k) + mkEx l[k]
  | [], k, hk => by simp at hk
  | e :: r, 0, hk => by simp [mkExs]
  | e :: r, k + 1, hk => by
    have := mkExs_step (l := r) (k := k) (by simpa using hk)
    simp only [List.take_succ_cons, mkExs, List.getElem_cons_succ]
    omega
theorem mkExs_sum : ∀ (l : List Ex), mkExs l = (l.map mkEx).sum
  | [] => by simp [mkExs]
  | e :: r => by rw [mkExs, mkExs_sum r]; simp
theorem mkExs_eq {l l' : List Ex} (hl : l'.length = l.length) (h : ∀ i (hi : i < l.length) (hi' : i < l'.length), mkEx l'[i] = mkEx l[i]) : mkExs l' = mkExs l := by
  rw [mkExs_sum, mkExs_sum]
  congr 1
  refine List.ext_getElem (by simp [hl]) fun i h1 h2 => ?_
  simp only [List.length_map] at h1 h2
  simpa using h i h2 h1

def MarkedE (L B : Nat) (w w' : World) (e : Ex) : Prop := ∀ v0 v1 v2 v3, ExV w L B v0 v1 v2 v3 e → ∀ k' n' : Int, ∃ e', ExV w' L B (.int .i64 k') (.int .i64 n') v2 v3 e' ∧ mkEx e' = mkEx e
theorem ExL.marked_of {L B : Nat} {w w' : World} {A : Option Addr} {l : List Ex} (hm : Mk L B w w') (ih : ∀ e ∈ l, MarkedE L B w w' e) (h : ExL w L B A l) : ∃ l' : List Ex, l'.length = l.length ∧ ExL w' L B A l' ∧ ∀ i (hi : i < l.length) (hi' : i < l'.length), mkEx l'[i] = mkEx l[i] := by
  by_cases hn : 0 < l.length
  · obtain ⟨ad, eA, hL, hb, hs⟩ := h.2 hn
    have each : ∀ i, i < l.length → ∃ e' : Ex, ∃ (hi : i < l.length), (∃ v0 v1 v2 v3, At4 w' (ad.add (i * 4)) v0 v1 v2 v3 ∧ ExV w' L B v0 v1 v2 v3 e') ∧ mkEx e' = mkEx l[i] := fun i hi => by
      obtain ⟨v0, v1, v2, v3, ⟨c0, c1, c2, c3⟩, hv⟩ := hs i hi
      have hv' := hv
      obtain ⟨xk, xn, xA, xa, xc, xA', xa', xc', rfl, rfl, rfl, rfl⟩ := hv.shape
      obtain ⟨y0, d0⟩ := (hm.cell _).i64 c0
      obtain ⟨y1, d1⟩ := (hm.cell _).i64 c1
      have d2 := (hm.cell _).slice c2
      have d3 := (hm.cell _).slice c3
      obtain ⟨e', he', hme⟩ := ih l[i] (List.getElem_mem hi) _ _ _ _ hv' y0 y1
      exact ⟨e', hi, ⟨_, _, _, _, ⟨d0, d1, d2, d3⟩, he'⟩, hme⟩
    let f : Fin l.length → Ex := fun i => Classical.choose (each i.1 i.2)
    have hfl : (List.ofFn f).length = l.length := by simp
    have hget : ∀ i (hi : i < l.length) (hi' : i < (List.ofFn f).length), (List.ofFn f)[i] = f ⟨i, hi⟩ := fun i hi hi' => by simp
    refine ⟨List.ofFn f, hfl, ⟨by rw [hfl]; exact h.1, fun _ => ⟨ad, eA, hL, hb, fun i hi' => ?_⟩⟩, fun i hi hi' => ?_⟩
    · have hi : i < l.length := by rw [← hfl]; exact hi'
      rw [hget i hi hi']
      obtain ⟨_, h1, _⟩ := Classical.choose_spec (each i hi)
      exact h1
    · rw [hget i hi hi']
      obtain ⟨_, _, h2⟩ := Classical.choose_spec (each i hi)
      exact h2
  · have h0 : l = [] := by cases l with | nil => rfl | cons x r => simp at hn
    subst h0
    exact ⟨[], rfl, ⟨h.1, fun hp => by simp at hp⟩, fun i hi => by simp at hi⟩
theorem ExV.marked {L B : Nat} {w w' : World} (hm : Mk L B w w') (e : Ex) : MarkedE L B w w' e := by
  refine Ex.ind (P := MarkedE L B w w') ?_ e
  intro k n name args ih v0 v1 v2 v3 h k' n'
  obtain ⟨A, c, A', c', rfl, rfl, rfl, rfl, hR, hmn, hx⟩ := h.open_
  obtain ⟨nm, hnl, hR'⟩ := hR.mk_ hm
  obtain ⟨ar, hal, hx', hsame⟩ := ExL.marked_of hm ih hx
  refine ⟨.mk k' n' nm ar, ?_, ?_⟩
  · rw [← hnl, ← hal]
    exact ExV.mk_ hR' (by rw [hnl]; exact hmn) hx'
  · rw [mkEx_mk, mkEx_mk, hnl, mkExs_eq hal hsame]
theorem ExL.marked {L B : Nat} {w w' : World} {A : Option Addr} {l : List Ex} (hm : Mk L B w w') (h : ExL w L B A l) : ∃ l' : List Ex, l'.length = l.length ∧ ExL w' L B A l' ∧ ∀ i (hi : i < l.length) (hi' : i < l'.length), mkEx l'[i] = mkEx l[i] :=
  ExL.marked_of hm (fun e _ => ExV.marked hm e) h

mutual
def mkSt : St → Nat
  | .mk _ name e f body els => 1 + name.length + mkEx e + mkEx f + mkSts body + mkSts els
def mkSts : List St → Nat
  | [] => 0
  | s :: r => mkSt s + mkSts r
end
theorem mkSt_mk (k : Int) (name : List UInt8) (e f : Ex) (body els : List St) : mkSt (.mk k name e f body els) = 1 + name.length + mkEx e + mkEx f + mkSts body + mkSts els := by rw [mkSt]
theorem mkSts_step : ∀ {l : List St} {k : Nat} (hk : k < l.length), mkSts (l.take (k + 1)) = mkSts (l.take k) + mkSt l[k]
  | [], k, hk => by simp at hk
  | e :: r, 0, hk => by simp [mkSts]
  | e :: r, k + 1, hk => by
    have := mkSts_step (l := r) (k := k) (by simpa using hk)
    simp only [List.take_succ_cons, mkSts, List.getElem_cons_succ]
    omega
theorem mkSts_sum : ∀ (l : List St), mkSts l = (l.map mkSt).sum
  | [] => by simp [mkSts]
  | e :: r => by rw [mkSts, mkSts_sum r]; simp
theorem mkSts_eq {l l' : List St} (hl : l'.length = l.length) (h : ∀ i (hi : i < l.length) (hi' : i < l'.length), mkSt l'[i] = mkSt l[i]) : mkSts l' = mkSts l := by
  rw [mkSts_sum, mkSts_sum]
  congr 1
  refine List.ext_getElem (by simp [hl]) fun i h1 h2 => ?_
  simp only [List.length_map] at h1 h2
  simpa using h i h2 h1

def MarkedS (L B : Nat) (w w' : World) (s : St) : Prop := ∀ (a0 a2 a3 a6 a7 : Int) (x1 x4 x5 x8 x9 x10 x11 : Value), StV w L B [.int .i64 a0, x1, .int .i64 a2, .int .i64 a3, x4, x5, .int .i64 a6, .int .i64 a7, x8, x9, x10, x11] s →
  ∀ y0 y2 y3 y6 y7 : Int, ∃ s', StV w' L B [.int .i64 y0, x1, .int .i64 y2, .int .i64 y3, x4, x5, .int .i64 y6, .int .i64 y7, x8, x9, x10, x11] s' ∧ mkSt s' = mkSt s
theorem StL.marked_of {L B : Nat} {w w' : World} {A : Option Addr} {l : List St} (hm : Mk L B w w') (ih : ∀ e ∈ l, MarkedS L B w w' e) (h : StL w L B A l) : ∃ l' : List St, l'.length = l.length ∧ StL w' L B A l' ∧ ∀ i (hi : i < l.length) (hi' : i < l'.length), mkSt l'[i] = mkSt l[i] := by
  by_cases hn : 0 < l.length
  · obtain ⟨ad, eA, hL, hb, hs⟩ := h.2 hn
    have each : ∀ i, i < l.length → ∃ e' : St, ∃ (hi : i < l.length), (∃ vs, AtN w' (ad.add (i * 12)) vs ∧ StV w' L B vs e') ∧ mkSt e' = mkSt l[i] := fun i hi => by
      obtain ⟨vs, hcells, hv⟩ := hs i hi
      have hv' := hv
      obtain ⟨kk, name, e, f, body, els, hle⟩ : ∃ kk name e f body els, l[i] = .mk kk name e f body els := by cases l[i]; exact ⟨_, _, _, _, _, _, rfl⟩
      rw [hle] at hv
      obtain ⟨sA, sc, e0, e1, e2, e3, f0, f1, f2, f3, A1, c1, A2, c2, rfl, hR, hmn, he, hf, hb1, hb2⟩ := hv.open_
      obtain ⟨xk, xn, xA, xa, xc, xA', xa', xc', rfl, rfl, rfl, rfl⟩ := he.shape
      obtain ⟨yk, yn, yA, ya, yc, yA', ya', yc', rfl, rfl, rfl, rfl⟩ := hf.shape
      obtain ⟨y0, d0⟩ := (hm.cell _).i64 (hcells 0 _ rfl)
      have d1 := (hm.cell _).slice (hcells 1 _ rfl)
      obtain ⟨y2, d2⟩ := (hm.cell _).i64 (hcells 2 _ rfl)
      obtain ⟨y3, d3⟩ := (hm.cell _).i64 (hcells 3 _ rfl)
      have d4 := (hm.cell _).slice (hcells 4 _ rfl)
      have d5 := (hm.cell _).slice (hcells 5 _ rfl)
      obtain ⟨y6, d6⟩ := (hm.cell _).i64 (hcells 6 _ rfl)
      obtain ⟨y7, d7⟩ := (hm.cell _).i64 (hcells 7 _ rfl)
      have d8 := (hm.cell _).slice (hcells 8 _ rfl)
      have d9 := (hm.cell _).slice (hcells 9 _ rfl)
      have d10 := (hm.cell _).slice (hcells 10 _ rfl)
      have d11 := (hm.cell _).slice (hcells 11 _ rfl)
      obtain ⟨e', he', hme⟩ := ih l[i] (List.getElem_mem hi) _ _ _ _ _ _ _ _ _ _ _ _ hv' y0 y2 y3 y6 y7
      refine ⟨e', hi, ⟨_, fun j v hj => ?_, he'⟩, hme⟩
      match j, hj with
      | 0, hj => injection hj with hj; rw [← hj]; exact d0
      | 1, hj => injection hj with hj; rw [← hj]; exact d1
      | 2, hj => injection hj with hj; rw [← hj]; exact d2
      | 3, hj => injection hj with hj; rw [← hj]; exact d3
      | 4, hj => injection hj with hj; rw [← hj]; exact d4
      | 5, hj => injection hj with hj; rw [← hj]; exact d5
      | 6, hj => injection hj with hj; rw [← hj]; exact d6
      | 7, hj => injection hj with hj; rw [← hj]; exact d7
      | 8, hj => injection hj with hj; rw [← hj]; exact d8
      | 9, hj => injection hj with hj; rw [← hj]; exact d9
      | 10, hj => injection hj with hj; rw [← hj]; exact d10
      | 11, hj => injection hj with hj; rw [← hj]; exact d11
      | j + 12, hj => simp at hj
    let f : Fin l.length → St := fun i => Classical.choose (each i.1 i.2)
    have hfl : (List.ofFn f).length = l.length := by simp
    have hget : ∀ i (hi : i < l.length) (hi' : i < (List.ofFn f).length), (List.ofFn f)[i] = f ⟨i, hi⟩ := fun i hi hi' => by simp
    refine ⟨List.ofFn f, hfl, ⟨by rw [hfl]; exact h.1, fun _ => ⟨ad, eA, hL, hb, fun i hi' => ?_⟩⟩, fun i hi hi' => ?_⟩
    · have hi : i < l.length := by rw [← hfl]; exact hi'
      rw [hget i hi hi']
      obtain ⟨_, h1, _⟩ := Classical.choose_spec (each i hi)
      exact h1
    · rw [hget i hi hi']
      obtain ⟨_, _, h2⟩ := Classical.choose_spec (each i hi)
      exact h2
  · have h0 : l = [] := by cases l with | nil => rfl | cons x r => simp at hn
    subst h0
    exact ⟨[], rfl, ⟨h.1, fun hp => by simp at hp⟩, fun i hi => by simp at hi⟩
theorem StV.marked {L B : Nat} {w w' : World} (hm : Mk L B w w') (s : St) : MarkedS L B w w' s := by
  refine St.ind (P := MarkedS L B w w') ?_ s
  intro k name e f body els ih1 ih2 a0 a2 a3 a6 a7 x1 x4 x5 x8 x9 x10 x11 h y0 y2 y3 y6 y7
  obtain ⟨sA, sc, e0, e1, e2, e3, f0, f1, f2, f3, A1, c1, A2, c2, hvs, hR, hmn, he, hf, hb1, hb2⟩ := h.open_
  simp only [List.cons.injEq, and_true] at hvs
  obtain ⟨_, rfl, rfl, rfl, rfl, rfl, rfl, rfl, rfl, rfl, rfl, rfl⟩ := hvs
  obtain ⟨nm, hnl, hR'⟩ := hR.mk_ hm
  obtain ⟨e', he', hme⟩ := ExV.marked hm e _ _ _ _ he y2 y3
  obtain ⟨f', hf', hmf⟩ := ExV.marked hm f _ _ _ _ hf y6 y7
  obtain ⟨bd, hbl, hb1', hs1⟩ := StL.marked_of hm ih1 hb1
  obtain ⟨el, hel, hb2', hs2⟩ := StL.marked_of hm ih2 hb2
  refine ⟨.mk y0 nm e' f' bd el, ?_, ?_⟩
  · rw [← hnl, ← hbl, ← hel]
    exact StV.mk_ hR' (by rw [hnl]; exact hmn) he' hf' hb1' hb2'
  · rw [mkSt_mk, mkSt_mk, hnl, hme, hmf, mkSts_eq hbl hs1, mkSts_eq hel hs2]
theorem StL.marked {L B : Nat} {w w' : World} {A : Option Addr} {l : List St} (hm : Mk L B w w') (h : StL w L B A l) : ∃ l' : List St, l'.length = l.length ∧ StL w' L B A l' ∧ ∀ i (hi : i < l.length) (hi' : i < l'.length), mkSt l'[i] = mkSt l[i] :=
  StL.marked_of hm (fun e _ => StV.marked hm e) h
end Go.Proofs.Ytmejbmfopdfbjaa
