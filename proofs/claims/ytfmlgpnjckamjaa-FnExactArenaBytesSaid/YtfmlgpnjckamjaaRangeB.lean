/-
  A range over a function (rows of bytes may be frozen): the loop's body is told a fact of what it is handed in the world of the round; whatever lay before the loop, but for the caller's own blocks, lies on.
-/
import Derived.RangeFuncNested
import Derived.RangeFuncBound
import Derived.RangeFuncCalls
import Derived.RangeFuncLeaves
import Derived.Shelf.Abstract
import Derived.Shelf.RegionOpen
import Derived.OwnWalkIn
import Derived.TacticsInMore
import Derived.LoopNIn
import Derived.LoopIn
import Derived.Test.YtfmlgpnjckamjaaLitT
namespace Go.Proofs.Ytfmlgpnjckamjaa
open Go.RowKit Go.Shelf
namespace RgB
set_option linter.unusedVariables false

/-- a block of cells of the body's own kinds: rows that grow, and what lies in them -/
def Tag (T : TypeId → Prop) (o : Option Obj) : Prop := ∃ cs t fz, o = some (.cells cs t fz) ∧ T t

/-- a row of numbers -/
def Pro (o : Option Obj) : Prop := ∃ cs fz, o = some (.cells cs 3 fz)

/-- blocks below n and from b on lie as they lay, but for the body's own kinds; so do rows of numbers -/
structure KB (n b : Nat) (T : TypeId → Prop) (A B : World) : Prop where
  os : B.os = A.os
  tape : B.tape = A.tape
  output : B.output = A.output
  size : A.heap.size ≤ B.heap.size
  block : ∀ k, k < A.heap.size → (k < n ∨ (b ≤ k ∧ ¬ Tag T A.heap[k]?) ∨ Pro A.heap[k]?) → B.heap[k]? = A.heap[k]?

/-- what an iterator does between rounds: all below s lies on, and the body's own kinds everywhere -/
structure Ext (s : Nat) (T : TypeId → Prop) (A B : World) : Prop where
  os : B.os = A.os
  tape : B.tape = A.tape
  output : B.output = A.output
  size : A.heap.size ≤ B.heap.size
  block : ∀ k, (k < s ∨ Tag T A.heap[k]?) → B.heap[k]? = A.heap[k]?
section
variable {n b b' s s' : Nat} {T : TypeId → Prop} {A B C : World}
theorem KB.refl (n b : Nat) (T : TypeId → Prop) (A : World) : KB n b T A A := ⟨rfl, rfl, rfl, Nat.le_refl _, fun _ _ _ => rfl⟩
theorem KB.trans (h : KB n b T A B) (k : KB n b T B C) : KB n b T A C :=
  ⟨k.os.trans h.os, k.tape.trans h.tape, k.output.trans h.output, Nat.le_trans h.size k.size, fun i hi hc => by
    have e := h.block i hi hc
    refine (k.block i (Nat.lt_of_lt_of_le hi h.size) ?_).trans e
    rw [e]; exact hc⟩
theorem KB.of (h : Below A.heap.size A B) (n b : Nat) (T : TypeId → Prop) : KB n b T A B := ⟨h.os, h.tape, h.output, h.size, fun k hk _ => h.block k hk⟩
theorem KB.mono (h : KB n b T A B) (hb : b ≤ b') : KB n b' T A B := ⟨h.os, h.tape, h.output, h.size, fun k hk hc => h.block k hk (by rcases hc with hc | hc | hc <;> first | exact .inl hc | exact .inr (.inl ⟨by omega, hc.2⟩) | exact .inr (.inr hc))⟩
theorem KB.below (h : KB n b T A B) (hn : n ≤ A.heap.size) : Below n A B := ⟨h.os, h.tape, h.output, h.size, fun k hk => h.block k (by omega) (.inl hk)⟩
theorem KB.set_ (h : KB n b T A B) {p : Addr} (hp : n ≤ p.block) (hp' : p.block < b ∨ A.heap.size ≤ p.block) (hq : ¬ Pro A.heap[p.block]?) (u : Value) : KB n b T A (B.setCell p u) :=
  ⟨h.os, h.tape, h.output, by rw [World.size_setCell]; exact h.size, fun k hk hc => (Below.heap_setCell B p u k (by
    rcases hc with hc | hc | hc
    · omega
    · omega
    · rintro rfl; exact hq hc)).trans (h.block k hk hc)⟩
theorem KB.alloc (h : KB n b T A B) (o : Obj) : KB n b T A (B.alloc o) := h.trans (KB.of ((Below.refl _ B).alloc (Nat.le_refl _) o) n b T)
theorem KB.drew (h : KB n b T A B) : KB n b T A B.drew := ⟨h.os, h.tape, h.output, h.size, h.block⟩
theorem no_tag {i : Nat} {t : TypeId} {cs : Array Value} (h : Blk A i t cs) (ht : ¬ T t) : ¬ Tag T A.heap[i]? := by
  rintro ⟨cs', t', fz', e, ht'⟩
  have h' : A.heap[i]? = some (.cells cs t) := h
  rw [h'] at e
  injection e with e
  injection e with _ e _
  exact ht (e ▸ ht')
theorem Blk.kb {i : Nat} {t : TypeId} {cs : Array Value} (h : Blk A i t cs) (hk : KB n b T A B) (hi : i < n ∨ (b ≤ i ∧ ¬ T t)) : Blk B i t cs :=
  (hk.block i h.lt (by rcases hi with hi | hi <;> first | exact .inl hi | exact .inr (.inl ⟨hi.1, no_tag h hi.2⟩))).trans h
theorem Blk.pro {i : Nat} {cs : Array Value} (h : Blk A i 3 cs) (hk : KB n b T A B) : Blk B i 3 cs := (hk.block i h.lt (.inr (.inr ⟨cs, _, h⟩))).trans h
theorem no_pro {i : Nat} {t : TypeId} {cs : Array Value} (h : Blk A i t cs) (ht : t ≠ 3) : ¬ Pro A.heap[i]? := by
  rintro ⟨cs', fz', e⟩
  have h' : A.heap[i]? = some (.cells cs t) := h
  rw [h'] at e
  injection e with e
  injection e with _ e _
  exact ht e
theorem Ext.refl (s : Nat) (T : TypeId → Prop) (A : World) : Ext s T A A := ⟨rfl, rfl, rfl, Nat.le_refl _, fun _ _ => rfl⟩
theorem Tag.lt {i : Nat} (h : Tag T A.heap[i]?) : i < A.heap.size := by
  obtain ⟨cs, t, fz, e, _⟩ := h
  exact (Array.getElem?_eq_some_iff.1 e).1
theorem Ext.of (h : Below A.heap.size A B) (hs : s ≤ A.heap.size) : Ext s T A B := ⟨h.os, h.tape, h.output, h.size, fun k hc => h.block k (by rcases hc with hc | hc <;> first | exact by omega | exact hc.lt)⟩
theorem Ext.mono (h : Ext s T A B) (hs : s' ≤ s) : Ext s' T A B := ⟨h.os, h.tape, h.output, h.size, fun k hc => h.block k (by rcases hc with hc | hc <;> first | exact .inl (by omega) | exact .inr hc)⟩
theorem Ext.below (h : Ext s T A B) : Below s A B := ⟨h.os, h.tape, h.output, h.size, fun k hk => h.block k (.inl hk)⟩
theorem Ext.trans (h : Ext s T A B) (k : Ext s T B C) : Ext s T A C :=
  ⟨k.os.trans h.os, k.tape.trans h.tape, k.output.trans h.output, Nat.le_trans h.size k.size, fun i hc => by
    have e := h.block i hc
    refine (k.block i ?_).trans e
    rw [e]; exact hc⟩
theorem Ext.put {l : Nat} {o : Obj} (hl : s ≤ l) (ho : ¬ Tag T A.heap[l]?) : Ext s T A (A.putObj l o) :=
  ⟨rfl, rfl, rfl, by simp, fun k hc => World.putObj_heap_other (by
    rintro rfl
    rcases hc with hc | hc
    · omega
    · exact ho hc)⟩
theorem Ext.put_loop {l : Nat} {o : Obj} {L : Loop} (hl : s ≤ l) (ho : A.heap[l]? = some (.loop L)) : Ext s T A (A.putObj l o) :=
  Ext.put hl (by rintro ⟨cs, t, fz, e, _⟩; rw [ho] at e; cases e)
theorem Ext.put_def {l : Nat} {o : Obj} {L : Option (List Deferred)} (hl : s ≤ l) (ho : A.heap[l]? = some (.deferred L)) : Ext s T A (A.putObj l o) :=
  Ext.put hl (by rintro ⟨cs, t, fz, e, _⟩; rw [ho] at e; cases e)
theorem loop_tag {l : Nat} {L : Loop} (ho : A.heap[l]? = some (.loop L)) : ¬ Tag T A.heap[l]? := by rintro ⟨cs, t, fz, e, _⟩; rw [ho] at e; cases e
theorem def_tag {l : Nat} {L : Option (List Deferred)} (ho : A.heap[l]? = some (.deferred L)) : ¬ Tag T A.heap[l]? := by rintro ⟨cs, t, fz, e, _⟩; rw [ho] at e; cases e
end

/-- a property of worlds that hangs on what lies below s, and on the body's own kinds, alone -/
def Stays {β : Type} (s : Nat) (T : TypeId → Prop) (J : β → World → Prop) : Prop := ∀ x A B, J x A → Ext s T A B → J x B

/-- an iterator: it hands on what is good, to whatever body keeps what it must; all, or a beginning -/
def SeqG {α : Type} (P : Program) (g : Nat) (lb : Array Value) (encs : α → Array Value) (n b : Nat) (T : TypeId → Prop) (Good : α → World → Prop) (S Sp : List α → Prop) (w : World) : Prop :=
  ∀ (l m : Nat) (J Jx : List α → World → Prop) (W : World), Below w.heap.size w W → b ≤ W.heap.size → Stays W.heap.size T J → Stays W.heap.size T Jx →
    (∀ m pre x A, J pre A → Sp (pre ++ [x]) → Good x A → YieldAt Fence.wide m P l (encs x) A fun e B => (e = .returned (.bool true) ∧ J (pre ++ [x]) B ∧ KB n b T A B) ∨ (e = .returned (.bool false) ∧ Jx (pre ++ [x]) B ∧ KB n b T A B)) →
    J [] W → CallsIn Fence.wide m P g (#[.func (.yield l) #[] #[]] ++ lb) W fun e B => (∃ v, e = .returned v) ∧ ((∃ xs, S xs ∧ J xs B) ∨ (∃ pre, Sp pre ∧ Jx pre B))

/-- what a body owes at its ways out -/
def bodyOwes {α : Type} (n b : Nat) (T : TypeId → Prop) (I : List α → World → Prop) (Ix : Code → List α → World → Prop) (xs : List α) (W : World) : Exit → Act → World → Prop
  | .normal, _, B => KB n b T W B ∧ I xs B
  | .ret, _, B => KB n b T W B ∧ Ix .ret xs B
  | .exit id, _, B => KB n b T W B ∧ Ix (.exit id) xs B
  | .goto t, _, B => KB n b T W B ∧ Ix (.goto t) xs B
  | .panic _, _, _ => False
  | .outgrown, _, _ => False

theorem below_putObj {s l : Nat} {W : World} (o : Obj) (h : s ≤ l) : Below s W (W.putObj l o) :=
  ⟨rfl, rfl, rfl, by simp, fun k hk => World.putObj_heap_other (by omega)⟩
theorem loop_pro {W : World} {l : Nat} {L : Loop} (ho : W.heap[l]? = some (.loop L)) : ¬ Pro W.heap[l]? := by rintro ⟨cs, fz, e⟩; rw [ho] at e; cases e
theorem kb_putObj {n b l : Nat} {T : TypeId → Prop} {W : World} (o : Obj) (h : n ≤ l) (h' : l < b) (hq : ¬ Pro W.heap[l]?) : KB n b T W (W.putObj l o) :=
  ⟨rfl, rfl, rfl, by simp, fun k hk hc => World.putObj_heap_other (by
    rcases hc with hc | hc | hc
    · omega
    · omega
    · rintro rfl; exact hq hc)⟩

theorem range_good {α : Type} {P : Program} {m : Nat} {g : Operand} {ps : Array Tmp} {assign body : Code} {Q : Exit → Act → World → Prop} {a : Act} {w : World}
    {gf : Nat} {lb : Array Value} (hg : a.eval g = .func (.func gf) #[] lb) (eg : ∀ args w, (callFunc gf args).run P w = .ok (.enter gf args) w)
    {encs : α → Array Value} {n : Nat} {T : TypeId → Prop} {Good : α → World → Prop} {S Sp : List α → Prop} (hn : n ≤ w.heap.size) (hseq : SeqG P gf lb encs n (w.heap.size + 2) T Good S Sp w) (hps : ∀ x, (encs x).size = ps.size)
    (I : List α → World → Prop) (Ix : Code → List α → World → Prop) (hI : Stays w.heap.size T I) (hIx : ∀ c, Stays w.heap.size T (Ix c)) (h0 : I [] w)
    (hround : ∀ (l m : Nat) (pre : List α) (x : α) (W : World) (K : Act → World → Prop), w.heap.size + 2 ≤ W.heap.size → I pre W → Sp (pre ++ [x]) → Good x W →
      (∀ (a' : Act) (A : World), Below W.heap.size W A → (∀ B, Ext w.heap.size T A B → B.heap.size = A.heap.size → (∀ k, k ≠ w.heap.size + 1 → B.heap[k]? = A.heap[k]?) → body.wpIn (Fence.wide.inRound l) m P (bodyOwes n w.heap.size T I Ix (pre ++ [x]) B) a' B) → K a' A) →
      assign.wpIn (Fence.wide.inRound l) m P (Exit.then K (fun _ _ _ => False)) { tmps := (ps.zip (encs x)).foldl (fun t (p, v) => t.setIfInBounds p v) a.tmps, defers := [] } W)
    (hdone : ∀ (D : Nat) (xs : List α) (W : World), w.heap.size ≤ D → S xs → I xs W → W.heap[D]? = some (.deferred (some [])) → Q .normal { a with defers := { target := .collected D, args := #[] } :: a.defers } W)
    (hstop : ∀ (D : Nat) (c : Code) (pre : List α) (W : World), w.heap.size ≤ D → Sp pre → Ix c pre W → W.heap[D]? = some (.deferred (some [])) → c.wpIn Fence.wide m P Q { a with defers := { target := .collected D, args := #[] } :: a.defers } W) :
    (Code.rangeFunc g ps assign body).wpIn Fence.wide m P Q a w := by
  refine wpIn_rangeFunc fun fn hfn => ?_
  let rc : LoopState → Option Code → Loop := fun st pe => { state := st, pending := pe, fn := fn, tmps := a.tmps, params := ps, assign := assign, body := body, defers := w.heap.size }
  obtain ⟨V, hV⟩ : ∃ V, (w.alloc (.deferred (some []))).alloc (.loop (rc .ready none)) = V := ⟨_, rfl⟩
  have hVs : V.heap.size = w.heap.size + 2 := by rw [← hV]; simp
  have hVl : V.heap[w.heap.size + 1]? = some (.loop (rc .ready none)) := by
    have := World.alloc_heap_new (w.alloc (.deferred (some []))) (.loop (rc .ready none))
    rw [World.size_alloc] at this
    rw [← hV]; exact this
  have hVd : V.heap[w.heap.size]? = some (.deferred (some [])) := by
    rw [← hV]; exact (Below.heap_alloc _ _ _ (by simp)).trans (World.alloc_heap_new w _)
  have hVb : Below w.heap.size w V := by
    rw [← hV]; exact ((Below.refl _ w).alloc (Nat.le_refl _) _).alloc (by simp) _
  refine ⟨w.heap.size + 1, [{ target := .collected w.heap.size, args := #[] }], V, { target := .fn (.func gf) lb, args := #[.func (.yield (w.heap.size + 1)) #[] #[]] }, V, gf,
    #[.func (.yield (w.heap.size + 1)) #[] #[]] ++ lb, V, by rw [← hV]; exact run_enterLoop_outer _ _ _ _ _, ?_, fun _ _ => trivial, by simp [invoke, go_sem, eg], fun h => by simp [Fence.wide] at h, ?_⟩
  · simp only [resolve, hg]
    simp [go_sem]
  have keep : ∀ {A B : World} {st : LoopState} {pe : Option Code}, (A.heap[w.heap.size + 1]? = some (.loop (rc st pe)) ∧ A.heap[w.heap.size]? = some (.deferred (some []))) → Below V.heap.size A B →
      (B.heap[w.heap.size + 1]? = some (.loop (rc st pe)) ∧ B.heap[w.heap.size]? = some (.deferred (some []))) := fun h hb =>
    ⟨(hb.block _ (by omega)).trans h.1, (hb.block _ (by omega)).trans h.2⟩
  refine (hseq (w.heap.size + 1) (m - 1) (fun pre W => I pre W ∧ W.heap[w.heap.size + 1]? = some (.loop (rc .ready none)) ∧ W.heap[w.heap.size]? = some (.deferred (some [])))
    (fun pre W => ∃ c, Ix c pre W ∧ W.heap[w.heap.size + 1]? = some (.loop (rc .done (some c))) ∧ W.heap[w.heap.size]? = some (.deferred (some []))) V hVb (by omega)
    (fun x A B h hb => ⟨hI x A B h.1 (hb.mono (by omega)), keep h.2 hb.below⟩)
    (fun x A B h hb => by obtain ⟨c, h1, h2⟩ := h; exact ⟨c, hIx c x A B h1 (hb.mono (by omega)), keep h2 hb.below⟩)
    ?_ ⟨hI _ _ _ h0 (Ext.of hVb (Nat.le_refl _)), hVl, hVd⟩).mono ?_
  · -- a round
    rintro m' pre x A ⟨hi, hl, hd⟩ hsp hgx
    have hlt : w.heap.size + 1 < A.heap.size := (Array.getElem?_eq_some_iff.1 hl).1
    refine ⟨fn, _, assign, body, run_yield hl (hps x), roundIn_of_wpIn hfn (hround _ _ pre x A _ (by omega) hi hsp hgx ?_)⟩
    intro a' A' hbA hbody
    have hl' : A'.heap[w.heap.size + 1]? = some (.loop (rc .ready none)) := (hbA.block _ hlt).trans hl
    have hd' : A'.heap[w.heap.size]? = some (.deferred (some [])) := (hbA.block _ (by omega)).trans hd
    have hlt' : w.heap.size + 1 < A'.heap.size := Nat.lt_of_lt_of_le hlt hbA.size
    refine ⟨_, run_beginRound hl' rfl, wpIn_mono (hbody _ (Ext.put_loop (by omega) hl') (by simp) (fun k hk => World.putObj_heap_other hk)) ?_⟩
    have hl2 : (A'.putObj (w.heap.size + 1) (.loop { rc .ready none with state := .busy })).heap[w.heap.size + 1]? = some (.loop (rc .busy none)) := World.putObj_heap_same hlt'
    have hd2 : (A'.putObj (w.heap.size + 1) (.loop { rc .ready none with state := .busy })).heap[w.heap.size]? = some (.deferred (some [])) := (World.putObj_heap_other (by omega)).trans hd'
    have hk2 : KB n (w.heap.size + 2) T A (A'.putObj (w.heap.size + 1) (.loop { rc .ready none with state := .busy })) := (KB.of hbA n _ T).trans (kb_putObj _ (by omega) (by omega) (loop_pro hl'))
    have fin : ∀ (jump : Option Code) (C : World), KB n w.heap.size T (A'.putObj (w.heap.size + 1) (.loop { rc .ready none with state := .busy })) C →
        (Instr.endRound (w.heap.size + 1) jump).run P C = .ok (.bool jump.isNone) (C.putObj (w.heap.size + 1) (.loop (rc (if jump.isNone then .ready else .done) jump))) ∧
        (C.putObj (w.heap.size + 1) (.loop (rc (if jump.isNone then .ready else .done) jump))).heap[w.heap.size + 1]? = some (.loop (rc (if jump.isNone then .ready else .done) jump)) ∧
        (C.putObj (w.heap.size + 1) (.loop (rc (if jump.isNone then .ready else .done) jump))).heap[w.heap.size]? = some (.deferred (some [])) ∧
        KB n (w.heap.size + 2) T A (C.putObj (w.heap.size + 1) (.loop (rc (if jump.isNone then .ready else .done) jump))) ∧
        Ext w.heap.size T C (C.putObj (w.heap.size + 1) (.loop (rc (if jump.isNone then .ready else .done) jump))) := fun jump C hC => by
      have h1 : C.heap[w.heap.size + 1]? = some (.loop (rc .busy none)) := (hC.block _ (by simp; omega) (.inr (.inl ⟨by omega, loop_tag hl2⟩))).trans hl2
      have h2 : C.heap[w.heap.size]? = some (.deferred (some [])) := (hC.block _ (by simp; omega) (.inr (.inl ⟨Nat.le_refl _, def_tag hd2⟩))).trans hd2
      refine ⟨?_, ?_, ?_, ?_, Ext.put_loop (by omega) h1⟩
      · exact run_endRound jump h1
      · exact World.putObj_heap_same (Array.getElem?_eq_some_iff.1 h1).1
      · exact (World.putObj_heap_other (by omega)).trans h2
      · exact (hk2.trans (hC.mono (by omega))).trans (kb_putObj _ (by omega) (by omega) (loop_pro h1))
    rintro e a3 C hp
    cases e with
    | normal =>
      obtain ⟨hC, hi3⟩ := hp
      obtain ⟨r1, r2, r3, r4, r5⟩ := fin none C hC
      exact ⟨_, _, r1, .inl ⟨rfl, ⟨hI _ _ _ hi3 r5, r2, r3⟩, r4⟩⟩
    | ret =>
      obtain ⟨hC, hi3⟩ := hp
      obtain ⟨r1, r2, r3, r4, r5⟩ := fin (some .ret) C hC
      exact ⟨_, _, r1, .inr ⟨rfl, ⟨_, hIx _ _ _ _ hi3 r5, r2, r3⟩, r4⟩⟩
    | exit id =>
      obtain ⟨hC, hi3⟩ := hp
      obtain ⟨r1, r2, r3, r4, r5⟩ := fin (some (.exit id)) C hC
      exact ⟨_, _, r1, .inr ⟨rfl, ⟨_, hIx _ _ _ _ hi3 r5, r2, r3⟩, r4⟩⟩
    | goto t =>
      obtain ⟨hC, hi3⟩ := hp
      obtain ⟨r1, r2, r3, r4, r5⟩ := fin (some (.goto t)) C hC
      exact ⟨_, _, r1, .inr ⟨rfl, ⟨_, hIx _ _ _ _ hi3 r5, r2, r3⟩, r4⟩⟩
    | panic c => exact hp.elim
    | outgrown => exact hp.elim
  · -- behind the iterator
    rintro e B ⟨⟨v, rfl⟩, (⟨xs, hS, hi, hl, hd⟩ | ⟨pre, hS, c, hi, hl, hd⟩)⟩
    · exact ⟨none, _, run_endLoop hl (by simp [rc]), hdone _ xs _ (Nat.le_refl _) hS (hI _ _ _ hi (Ext.put_loop (by omega) hl)) ((World.putObj_heap_other (by omega)).trans hd)⟩
    · exact ⟨some c, _, run_endLoop hl (by simp [rc]), hstop _ c pre _ (Nat.le_refl _) hS (hIx c _ _ _ hi (Ext.put_loop (by omega) hl)) ((World.putObj_heap_other (by omega)).trans hd)⟩
end RgB
end Go.Proofs.Ytfmlgpnjckamjaa
