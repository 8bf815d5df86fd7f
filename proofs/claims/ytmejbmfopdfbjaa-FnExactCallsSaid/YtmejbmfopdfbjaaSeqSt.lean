/-
  The program's iterator over statements; loops whose rounds leave marks on the frame.
-/
import Derived.Test.YtmejbmfopdfbjaaRange
import Derived.Test.YtmejbmfopdfbjaaVisitSt
namespace Go.Proofs.Ytmejbmfopdfbjaa
open Go.RowKit Go.Shelf
set_option linter.unusedVariables false

/-- marks of loops that are over, none twice, in blocks from lo on -/
def Marks (lo : Nat) : List Deferred → World → Prop
  | [], _ => True
  | d :: ds, Z => (∃ D, d = { target := .collected D, args := #[] } ∧ lo ≤ D ∧ Z.heap[D]? = some (.deferred (some [])) ∧ ∀ d' ∈ ds, d' ≠ d) ∧ Marks lo ds Z
theorem Marks.mem {lo : Nat} : ∀ {ds : List Deferred} {Z : World}, Marks lo ds Z → ∀ d ∈ ds, ∃ D, d = { target := .collected D, args := #[] } ∧ lo ≤ D ∧ Z.heap[D]? = some (.deferred (some []))
  | [], _, _, d, h => by simp at h
  | x :: r, Z, hm, d, h => by
    obtain ⟨⟨D, e, hl, hD, _⟩, hr⟩ := hm
    rcases List.mem_cons.1 h with h1 | h1
    · rw [h1]; exact ⟨D, e, hl, hD⟩
    · exact hr.mem d h1
theorem Marks.keep {lo : Nat} : ∀ {ds : List Deferred} {Z Z' : World}, Marks lo ds Z → (∀ D, { target := .collected D, args := #[] } ∈ ds → Z.heap[D]? = some (.deferred (some [])) → Z'.heap[D]? = Z.heap[D]?) → Marks lo ds Z'
  | [], _, _, _, _ => trivial
  | d :: ds, Z, Z', ⟨⟨D, e, hl, hD, hd⟩, hr⟩, h => by
    subst e
    exact ⟨⟨D, rfl, hl, (h D (by simp) hD).trans hD, hd⟩, hr.keep fun D' hm hD' => h D' (by simp [hm]) hD'⟩
theorem Marks.below {lo s : Nat} {ds : List Deferred} {Z Z' : World} (h : Marks lo ds Z) (hs : Z.heap.size ≤ s ∨ ∀ D, { target := .collected D, args := #[] } ∈ ds → D < s) (hb : Below s Z Z') : Marks lo ds Z' :=
  h.keep fun D hm hD => by
    rcases hs with hs | hs
    · exact hb.block D (by have := (Array.getElem?_eq_some_iff.1 hD).1; omega)
    · exact hb.block D (hs D hm)
theorem Marks.cons {lo D : Nat} {ds : List Deferred} {Z : World} (h : Marks lo ds Z) (hl : lo ≤ D) (hD : Z.heap[D]? = some (.deferred (some []))) (hn : ∀ D', { target := .collected D', args := #[] } ∈ ds → D' ≠ D) : Marks lo ({ target := .collected D, args := #[] } :: ds) Z :=
  ⟨⟨D, rfl, hl, hD, fun d' hd' e => by subst e; exact hn D hd' rfl⟩, h⟩

theorem leaves_marks {F : Fence} {n : Nat} {P : Program} {fn : Func} {tmps : Array Value} {R : Ending → World → Prop} {lo : Nat} : ∀ (ds : List Deferred) (Z : World), Marks lo ds Z →
    (∀ Z', Below lo Z Z' → LeavesInM F n P fn tmps R [] .returning Z') → LeavesInM F n P fn tmps R ds .returning Z
  | [], Z, _, h => h Z (Below.refl _ _)
  | d :: ds, Z, ⟨⟨D, e, hl, hD, hd⟩, hm⟩, h => by
    subst e
    refine ⟨by simp, .inl ⟨D, _, rfl, run_takeDeferred hD, leaves_marks ds _ ?_ fun Z' hb => h Z' ((below_putObj _ hl).trans hb)⟩⟩
    exact hm.keep fun D' hm' hD' => World.putObj_heap_other (fun e => hd _ hm' (by rw [e]))

theorem loop_inv {F : Fence} {n : Nat} {P : Program} {Q : Exit → Act → World → Prop} {c : Code} (Inv : Nat → Act → World → Prop)
    (hstep : ∀ k a w, Inv k a w → c.wpIn F n P (Exit.then (fun a' w' => ∃ k', k' < k ∧ Inv k' a' w') Q) a w) (k : Nat) (a : Act) (w : World) (h : Inv k a w) : (Code.loop c).wpIn F n P Q a w := by
  have key : ∀ m k a w, k < m → Inv k a w → Code.roundsIn F n P c Q m a w := by
    intro m
    induction m with
    | zero => intro k a w hk _; omega
    | succ m ih =>
      intro k a w hk hi
      rw [roundsIn_succ]
      refine wpIn_mono (hstep k a w hi) ?_
      intro e a' w' hq
      cases e with
      | normal =>
        obtain ⟨k', hk', hi'⟩ := hq
        exact ih k' a' w' (by omega) hi'
      | _ => exact hq
  exact wpIn_loop_rounds (k + 1) (key (k + 1) k a w (by omega) h)
end Go.Proofs.Ytmejbmfopdfbjaa

namespace Go.Proofs.Ytmejbmfopdfbjaa
open Go.RowKit Go.Shelf
set_option linter.unusedVariables false
attribute [local go_sem] Oper.semAt_some

set_option maxHeartbeats 2000000 in
/-- 'statementsIn(l)' hands back a function that hands on all statements of l. -/
theorem statementsIn1_seq (ls : List St) (d n b Bl : Nat) (T : TypeId → Prop) (hT : NoT T) (A : Option Addr) (cp : Nat) (w : World) (hG : stsGood ls d = true) (hn : n ≤ w.heap.size) (hBl : Bl < w.heap.size) (hc : w.cell? ⟨Bl, 0, none⟩ = some (.slice A ls.length cp)) (h : StL w 0 n A ls) :
    SeqG Try.prog 89 #[.pointer (some ⟨Bl, 0, none⟩)] svEnc n b T (svGood n) (fun xs => xs.map SV.s = flatSts ls) (fun xs => xs.map SV.s <+: flatSts ls) w := by
  intro l m J Jx W hW hb hJ hJx hY h0
  have hcW : W.cell? ⟨Bl, 0, none⟩ = some (.slice A ls.length cp) := (hW.cell (p := ⟨Bl, 0, none⟩) hBl).trans hc
  have hp := visSts_c ls d l (m - 1) n b W.heap.size T (flatSts ls) J Jx hT hG hJ hY [] A cp W (Nat.le_refl _) (Nat.le_trans hn hW.size) hb (h.below (hW.mono hn)) (by simp) h0
  have Hp := Lib.hid hp
  clear hp h hY
  refine callsIn_of_wp Try.func89 rfl trivial ?_ rfl
  simp only [Try.ntmps89, List.size_toArray, List.length_cons, List.length_nil, Nat.reduceAdd, Nat.reduceSub, Array.replicate_succ, Array.replicate_zero, List.push_toArray, List.append_toArray, List.nil_append, List.cons_append]
  gi_wp2_with fail
  refine ⟨trivial, fun hd => by simp [Fence.wide] at hd, ?_⟩
  gi_at_call 90
  refine Hp.out.mono ?_
  rintro r W1 (⟨rfl, xs, hxs, hJ1, _⟩ | ⟨rfl, xs, hxs, hx1, _⟩)
  · gi_wp2
    go_end0
    exact ⟨⟨_, rfl⟩, .inl ⟨xs, hxs, by simpa using hJ1⟩⟩
  · gi_wp2
    go_end0
    exact ⟨⟨_, rfl⟩, .inr ⟨xs, hxs, by simpa using hx1⟩⟩

theorem statementsIn_c (A : Option Addr) (a c : Nat) (w : World) :
    Calls Try.prog 59 #[.slice A a c] w fun e w' => e = .returned (.func (.func 89) #[] #[.pointer (some ⟨w.heap.size, 0, none⟩)]) ∧ w' = w.alloc (.cells #[.slice A a c] 29) := by
  go_enter Try.func59, Try.ntmps59
  go_wp2
  go_ret
  exact ⟨rfl, rfl⟩
theorem expressionsIn_c (A : Option Addr) (a c : Nat) (w : World) :
    Calls Try.prog 37 #[.slice A a c] w fun e w' => e = .returned (.func (.func 58) #[] #[.pointer (some ⟨w.heap.size, 0, none⟩)]) ∧ w' = w.alloc (.cells #[.slice A a c] 29) := by
  go_enter Try.func37, Try.ntmps37
  go_wp2
  go_ret
  exact ⟨rfl, rfl⟩
end Go.Proofs.Ytmejbmfopdfbjaa
