/-
  A range over a function whose iterator looks at a block of its own between the rounds: the body lets that block lie, too.
-/
import Derived.Test.YtmejbmfopdfbjaaRange
namespace Go.Proofs.Ytmejbmfopdfbjaa
open Go.RowKit Go.Shelf
set_option linter.unusedVariables false

/-- blocks below n, block p, and those from b on lie as they lay, but for the body's own kinds -/
structure KP (p n b : Nat) (T : TypeId → Prop) (A B : World) : Prop where
  os : B.os = A.os
  tape : B.tape = A.tape
  output : B.output = A.output
  size : A.heap.size ≤ B.heap.size
  block : ∀ k, k < A.heap.size → (k < n ∨ k = p ∨ (b ≤ k ∧ ¬ Tag T A.heap[k]?)) → B.heap[k]? = A.heap[k]?
section
variable {p n b b' s : Nat} {T : TypeId → Prop} {A B C : World}
theorem KP.refl (p n b : Nat) (T : TypeId → Prop) (A : World) : KP p n b T A A := ⟨rfl, rfl, rfl, Nat.le_refl _, fun _ _ _ => rfl⟩
theorem KP.trans (h : KP p n b T A B) (k : KP p n b T B C) : KP p n b T A C :=
  ⟨k.os.trans h.os, k.tape.trans h.tape, k.output.trans h.output, Nat.le_trans h.size k.size, fun i hi hc => by
    have e := h.block i hi hc
    refine (k.block i (Nat.lt_of_lt_of_le hi h.size) ?_).trans e
    rw [e]; exact hc⟩
theorem KP.of (h : Below A.heap.size A B) (p n b : Nat) (T : TypeId → Prop) : KP p n b T A B := ⟨h.os, h.tape, h.output, h.size, fun k hk _ => h.block k hk⟩
theorem KP.mono (h : KP p n b T A B) (hb : b ≤ b') : KP p n b' T A B := ⟨h.os, h.tape, h.output, h.size, fun k hk hc => h.block k hk (by rcases hc with hc | hc | hc <;> first | exact .inl hc | exact .inr (.inl hc) | exact .inr (.inr ⟨by omega, hc.2⟩))⟩
theorem KP.below (h : KP p n b T A B) (hn : n ≤ A.heap.size) : Below n A B := ⟨h.os, h.tape, h.output, h.size, fun k hk => h.block k (by omega) (.inl hk)⟩
theorem KP.set_ (h : KP p n b T A B) {q : Addr} (hq : n ≤ q.block) (hqp : q.block ≠ p) (hq' : q.block < b ∨ A.heap.size ≤ q.block) (u : Value) : KP p n b T A (B.setCell q u) :=
  ⟨h.os, h.tape, h.output, by rw [World.size_setCell]; exact h.size, fun k hk hc => (Below.heap_setCell B q u k (by rcases hc with hc | hc | hc <;> omega)).trans (h.block k hk hc)⟩
theorem KP.alloc (h : KP p n b T A B) (o : Obj) : KP p n b T A (B.alloc o) := h.trans (KP.of ((Below.refl _ B).alloc (Nat.le_refl _) o) p n b T)
theorem KP.drewN (h : KP p n b T A B) (m : Nat) : KP p n b T A (B.drewN m) := ⟨h.os, h.tape, h.output, h.size, h.block⟩
theorem Blk.kp {t : TypeId} {cs : Array Value} (h : Blk A p t cs) (hk : KP p n b T A B) : Blk B p t cs := (hk.block p h.lt (.inr (.inl rfl))).trans h
end
theorem kp_putObj {p n b l : Nat} {T : TypeId → Prop} {W : World} (o : Obj) (h : n ≤ l) (hp : p < l) (h' : l < b) : KP p n b T W (W.putObj l o) :=
  ⟨rfl, rfl, rfl, by simp, fun k hk hc => World.putObj_heap_other (by rcases hc with hc | hc | hc <;> omega)⟩

/-- an iterator that leans on a block of its own: it hands on what is good, to whatever body keeps what it must; all, or a beginning -/
def SeqP {α : Type} (P : Program) (g : Nat) (lb : Array Value) (encs : α → Array Value) (p n b : Nat) (T : TypeId → Prop) (Good : α → World → Prop) (S Sp : List α → Prop) (w : World) : Prop :=
  ∀ (l m : Nat) (J Jx : List α → World → Prop) (W : World), Below w.heap.size w W → b ≤ W.heap.size → Stays W.heap.size T J → Stays W.heap.size T Jx →
    (∀ m pre x A, J pre A → Sp (pre ++ [x]) → Good x A → YieldAt Fence.wide m P l (encs x) A fun e B => (e = .returned (.bool true) ∧ J (pre ++ [x]) B ∧ KP p n b T A B) ∨ (e = .returned (.bool false) ∧ Jx (pre ++ [x]) B ∧ KP p n b T A B)) →
    J [] W → CallsIn Fence.wide m P g (#[.func (.yield l) #[] #[]] ++ lb) W fun e B => (∃ v, e = .returned v) ∧ ((∃ xs, S xs ∧ J xs B) ∨ (∃ pre, Sp pre ∧ Jx pre B))

/-- what a body owes at its ways out -/
def owesP {α : Type} (p n b : Nat) (T : TypeId → Prop) (I : List α → World → Prop) (Ix : Code → List α → World → Prop) (xs : List α) (W : World) : Exit → Act → World → Prop
  | .normal, _, B => KP p n b T W B ∧ I xs B
  | .ret, _, B => KP p n b T W B ∧ Ix .ret xs B
  | .exit id, _, B => KP p n b T W B ∧ Ix (.exit id) xs B
  | .goto t, _, B => KP p n b T W B ∧ Ix (.goto t) xs B
  | .panic _, _, _ => False
  | .outgrown, _, _ => False

theorem range_goodP {α : Type} {P : Program} {m : Nat} {g : Operand} {ps : Array Tmp} {assign body : Code} {Q : Exit → Act → World → Prop} {a : Act} {w : World}
    {gf : Nat} {lb : Array Value} (hg : a.eval g = .func (.func gf) #[] lb) (eg : ∀ args w, (callFunc gf args).run P w = .ok (.enter gf args) w)
    {encs : α → Array Value} {p n : Nat} {T : TypeId → Prop} {Good : α → World → Prop} {S Sp : List α → Prop} (hn : n ≤ w.heap.size) (hpl : p < w.heap.size) (hseq : SeqP P gf lb encs p n (w.heap.size + 2) T Good S Sp w) (hps : ∀ x, (encs x).size = ps.size)
    (I : List α → World → Prop) (Ix : Code → List α → World → Prop) (hI : Stays w.heap.size T I) (hIx : ∀ c, Stays w.heap.size T (Ix c)) (h0 : I [] w)
    (hround : ∀ (l m : Nat) (pre : List α) (x : α) (W : World) (K : Act → World → Prop), w.heap.size + 2 ≤ W.heap.size → I pre W → Sp (pre ++ [x]) → Good x W →
      (∀ (a' : Act) (A : World), Below W.heap.size W A → (∀ B, Ext w.heap.size T A B → B.heap.size = A.heap.size → (∀ k, k ≠ w.heap.size + 1 → B.heap[k]? = A.heap[k]?) → body.wpIn (Fence.wide.inRound l) m P (owesP p n w.heap.size T I Ix (pre ++ [x]) B) a' B) → K a' A) →
      assign.wpIn (Fence.wide.inRound l) m P (Exit.then K (fun _ _ _ => False)) { tmps := (ps.zip (encs x)).foldl (fun t (p, v) => t.setIfInBounds p v) a.tmps, defers := [] } W)
    (hdone : ∀ (D : Nat) (xs : List α) (W : World), w.heap.size ≤ D → S xs → I xs W → W.heap[D]? = some (.deferred (some [])) → Q .normal { a with defers := { target := .collected D, args := #[] } :: a.defers } W)
    (hstop : ∀ (D : Nat) (c : Code) (pre : List α) (W : World), w.heap.size ≤ D → Sp pre → Ix c pre W → W.heap[D]? = some (.deferred (some [])) → c.wpIn Fence.wide m P Q { a with defers := { target := .collected D, args := #[] } :: a.defers } W) :
    (Code.rangeFunc g ps assign body).wpIn Fence.wide m P Q a w := by
  refine wpIn_rangeFunc fun fn hfn => ?_
  let rc : LoopState → Option Code → Loop := fun st pe => { state := st, pending := pe, fn := fn, tmps := a.tmps, params := ps, assign := assign, body := body, defers := w.heap.size }
  obtain ⟨V, hV⟩ : ∃ V, (w.alloc (.deferred (some []))).alloc (.loop (rc .ready none)) = V := ⟨_, rfl⟩
  have hVs : V.heap.size = w.heap.size + 2 := by rw [← hV]; simp
  have hVl : V.heap[w.heap.size + 1]? = some (.loop (rc .ready none)) := by
    have := World.alloc_heap_new (w.alloc (.deferred (some []))) (.loop (rc .ready none))
    rw [World.size_alloc] at this
    rw [← hV]; exact this
  have hVd : V.heap[w.heap.size]? = some (.deferred (some [])) := by
    rw [← hV]; exact (Below.heap_alloc _ _ _ (by simp)).trans (World.alloc_heap_new w _)
  have hVb : Below w.heap.size w V := by
    rw [← hV]; exact ((Below.refl _ w).alloc (Nat.le_refl _) _).alloc (by simp) _
  refine ⟨w.heap.size + 1, [{ target := .collected w.heap.size, args := #[] }], V, { target := .fn (.func gf) lb, args := #[.func (.yield (w.heap.size + 1)) #[] #[]] }, V, gf,
    #[.func (.yield (w.heap.size + 1)) #[] #[]] ++ lb, V, by rw [← hV]; exact run_enterLoop_outer _ _ _ _ _, ?_, fun _ _ => trivial, by simp [invoke, go_sem, eg], fun h => by simp [Fence.wide] at h, ?_⟩
  · simp only [resolve, hg]
    simp [go_sem]
  have keep : ∀ {A B : World} {st : LoopState} {pe : Option Code}, (A.heap[w.heap.size + 1]? = some (.loop (rc st pe)) ∧ A.heap[w.heap.size]? = some (.deferred (some []))) → Below V.heap.size A B →
      (B.heap[w.heap.size + 1]? = some (.loop (rc st pe)) ∧ B.heap[w.heap.size]? = some (.deferred (some []))) := fun h hb =>
    ⟨(hb.block _ (by omega)).trans h.1, (hb.block _ (by omega)).trans h.2⟩
  refine (hseq (w.heap.size + 1) (m - 1) (fun pre W => I pre W ∧ W.heap[w.heap.size + 1]? = some (.loop (rc .ready none)) ∧ W.heap[w.heap.size]? = some (.deferred (some [])))
    (fun pre W => ∃ c, Ix c pre W ∧ W.heap[w.heap.size + 1]? = some (.loop (rc .done (some c))) ∧ W.heap[w.heap.size]? = some (.deferred (some []))) V hVb (by omega)
    (fun x A B h hb => ⟨hI x A B h.1 (hb.mono (by omega)), keep h.2 hb.below⟩)
    (fun x A B h hb => by obtain ⟨c, h1, h2⟩ := h; exact ⟨c, hIx c x A B h1 (hb.mono (by omega)), keep h2 hb.below⟩)
    ?_ ⟨hI _ _ _ h0 (Ext.of hVb (Nat.le_refl _)), hVl, hVd⟩).mono ?_
  · -- a round
    rintro m' pre x A ⟨hi, hl, hd⟩ hsp hgx
    have hlt : w.heap.size + 1 < A.heap.size := (Array.getElem?_eq_some_iff.1 hl).1
    refine ⟨fn, _, assign, body, run_yield hl (hps x), roundIn_of_wpIn hfn (hround _ _ pre x A _ (by omega) hi hsp hgx ?_)⟩
    intro a' A' hbA hbody
    have hl' : A'.heap[w.heap.size + 1]? = some (.loop (rc .ready none)) := (hbA.block _ hlt).trans hl
    have hd' : A'.heap[w.heap.size]? = some (.deferred (some [])) := (hbA.block _ (by omega)).trans hd
    have hlt' : w.heap.size + 1 < A'.heap.size := Nat.lt_of_lt_of_le hlt hbA.size
    refine ⟨_, run_beginRound hl' rfl, wpIn_mono (hbody _ (Ext.put_loop (by omega) hl') (by simp) (fun k hk => World.putObj_heap_other hk)) ?_⟩
    have hl2 : (A'.putObj (w.heap.size + 1) (.loop { rc .ready none with state := .busy })).heap[w.heap.size + 1]? = some (.loop (rc .busy none)) := World.putObj_heap_same hlt'
    have hd2 : (A'.putObj (w.heap.size + 1) (.loop { rc .ready none with state := .busy })).heap[w.heap.size]? = some (.deferred (some [])) := (World.putObj_heap_other (by omega)).trans hd'
    have hk2 : KP p n (w.heap.size + 2) T A (A'.putObj (w.heap.size + 1) (.loop { rc .ready none with state := .busy })) := (KP.of hbA p n _ T).trans (kp_putObj _ (by omega) (by omega) (by omega))
    have fin : ∀ (jump : Option Code) (C : World), KP p n w.heap.size T (A'.putObj (w.heap.size + 1) (.loop { rc .ready none with state := .busy })) C →
        (Instr.endRound (w.heap.size + 1) jump).run P C = .ok (.bool jump.isNone) (C.putObj (w.heap.size + 1) (.loop (rc (if jump.isNone then .ready else .done) jump))) ∧
        (C.putObj (w.heap.size + 1) (.loop (rc (if jump.isNone then .ready else .done) jump))).heap[w.heap.size + 1]? = some (.loop (rc (if jump.isNone then .ready else .done) jump)) ∧
        (C.putObj (w.heap.size + 1) (.loop (rc (if jump.isNone then .ready else .done) jump))).heap[w.heap.size]? = some (.deferred (some [])) ∧
        KP p n (w.heap.size + 2) T A (C.putObj (w.heap.size + 1) (.loop (rc (if jump.isNone then .ready else .done) jump))) ∧
        Ext w.heap.size T C (C.putObj (w.heap.size + 1) (.loop (rc (if jump.isNone then .ready else .done) jump))) := fun jump C hC => by
      have h1 : C.heap[w.heap.size + 1]? = some (.loop (rc .busy none)) := (hC.block _ (by simp; omega) (.inr (.inr ⟨by omega, loop_tag hl2⟩))).trans hl2
      have h2 : C.heap[w.heap.size]? = some (.deferred (some [])) := (hC.block _ (by simp; omega) (.inr (.inr ⟨Nat.le_refl _, def_tag hd2⟩))).trans hd2
      refine ⟨?_, ?_, ?_, ?_, Ext.put_loop (by omega) h1⟩
      · exact run_endRound jump h1
      · exact World.putObj_heap_same (Array.getElem?_eq_some_iff.1 h1).1
      · exact (World.putObj_heap_other (by omega)).trans h2
      · exact (hk2.trans (hC.mono (by omega))).trans (kp_putObj _ (by omega) (by omega) (by omega))
    rintro e a3 C hp
    cases e with
    | normal =>
      obtain ⟨hC, hi3⟩ := hp
      obtain ⟨r1, r2, r3, r4, r5⟩ := fin none C hC
      exact ⟨_, _, r1, .inl ⟨rfl, ⟨hI _ _ _ hi3 r5, r2, r3⟩, r4⟩⟩
    | ret =>
      obtain ⟨hC, hi3⟩ := hp
      obtain ⟨r1, r2, r3, r4, r5⟩ := fin (some .ret) C hC
      exact ⟨_, _, r1, .inr ⟨rfl, ⟨_, hIx _ _ _ _ hi3 r5, r2, r3⟩, r4⟩⟩
    | exit id =>
      obtain ⟨hC, hi3⟩ := hp
      obtain ⟨r1, r2, r3, r4, r5⟩ := fin (some (.exit id)) C hC
      exact ⟨_, _, r1, .inr ⟨rfl, ⟨_, hIx _ _ _ _ hi3 r5, r2, r3⟩, r4⟩⟩
    | goto t =>
      obtain ⟨hC, hi3⟩ := hp
      obtain ⟨r1, r2, r3, r4, r5⟩ := fin (some (.goto t)) C hC
      exact ⟨_, _, r1, .inr ⟨rfl, ⟨_, hIx _ _ _ _ hi3 r5, r2, r3⟩, r4⟩⟩
    | panic c => exact hp.elim
    | outgrown => exact hp.elim
  · -- behind the iterator
    rintro e B ⟨⟨v, rfl⟩, (⟨xs, hS, hi, hl, hd⟩ | ⟨pre, hS, c, hi, hl, hd⟩)⟩
    · exact ⟨none, _, run_endLoop hl (by simp [rc]), hdone _ xs _ (Nat.le_refl _) hS (hI _ _ _ hi (Ext.put_loop (by omega) hl)) ((World.putObj_heap_other (by omega)).trans hd)⟩
    · exact ⟨some c, _, run_endLoop hl (by simp [rc]), hstop _ c pre _ (Nat.le_refl _) hS (hIx c _ _ _ hi (Ext.put_loop (by omega) hl)) ((World.putObj_heap_other (by omega)).trans hd)⟩
end Go.Proofs.Ytmejbmfopdfbjaa
