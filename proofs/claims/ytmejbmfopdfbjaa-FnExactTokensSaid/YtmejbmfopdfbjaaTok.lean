/-
  Tokens in memory: what a slice of tokens reads as; the laws' own helpers over it (size, copy, likeness).
-/
import Derived.Test.YtmejbmfopdfbjaaBytes
import Derived.IntWalk
namespace Go.Proofs.Ytmejbmfopdfbjaa
open Go.RowKit

structure Tok where
  kind : Int
  pos : Int
  n : Int
  text : List UInt8

/-- the four cells of a token from ad on -/
def TokAt (w : World) (B : Nat) (ad : Addr) (t : Tok) : Prop :=
  ∃ (A : Option Addr) (c : Nat), w.cell? ad = some (.int .i64 t.kind) ∧ w.cell? ⟨ad.block, ad.off + 1, none⟩ = some (.int .i64 t.pos) ∧ w.cell? ⟨ad.block, ad.off + 2, none⟩ = some (.int .i64 t.n) ∧ w.cell? ⟨ad.block, ad.off + 3, none⟩ = some (.slice A t.text.length c) ∧ RB w B A t.text ∧ t.text.length ≤ maxLen

def RT (w : World) (B : Nat) (A : Option Addr) (ts : List Tok) : Prop :=
  0 < ts.length → ∃ ad, A = some ad ∧ ad.block < B ∧ ∀ i (h : i < ts.length), TokAt w B (ad.add (i * 4)) ts[i]

section
variable {w w' : World} {B B' : Nat} {A : Option Addr} {ts : List Tok}
theorem TokAt.keep {ad : Addr} {t : Tok} (hb : ad.block < B) (h : TokAt w B ad t) (hk : ∀ p : Addr, p.block < B → w'.cell? p = w.cell? p) : TokAt w' B ad t := by
  obtain ⟨A, c, h0, h1, h2, h3, h4, h5⟩ := h
  exact ⟨A, c, (hk _ hb).trans h0, (hk ⟨ad.block, ad.off + 1, none⟩ hb).trans h1, (hk ⟨ad.block, ad.off + 2, none⟩ hb).trans h2, (hk ⟨ad.block, ad.off + 3, none⟩ hb).trans h3, Reads.keep h4 hk, h5⟩
theorem RT.keep (h : RT w B A ts) (hk : ∀ p : Addr, p.block < B → w'.cell? p = w.cell? p) : RT w' B A ts := fun hn => by
  obtain ⟨ad, e, hb, hc⟩ := h hn
  exact ⟨ad, e, hb, fun i hi => (hc i hi).keep (by rw [block_of_add]; exact hb) hk⟩
theorem RT.more (h : RT w B A ts) (hB : B ≤ B') : RT w B' A ts := fun hn => by
  obtain ⟨ad, e, hb, hc⟩ := h hn
  refine ⟨ad, e, by omega, fun i hi => ?_⟩
  obtain ⟨A, c, h0, h1, h2, h3, h4, h5⟩ := hc i hi
  exact ⟨A, c, h0, h1, h2, h3, h4.more hB, h5⟩
theorem RT.below (h : RT w B A ts) (hb : Below B w w') : RT w' B A ts := h.keep fun _ hp => hb.cell hp
theorem RT.drewN (h : RT w B A ts) (k : Nat) : RT (w.drewN k) B A ts := h.keep fun _ _ => rfl
theorem RT.alloc (h : RT w B A ts) (hB : B ≤ w.heap.size) (o : Obj) : RT (w.alloc o) B A ts := h.keep fun p hp => World.cell?_alloc_lt w o p (by omega)
theorem RT.at_ {k : Nat} (h : RT w B A ts) (hk : k < ts.length) : ∃ ad, A = some ad ∧ ad.block < B ∧ TokAt w B (ad.add (k * 4)) ts[k] := by
  obtain ⟨ad, e, hb, hc⟩ := h (by omega)
  exact ⟨ad, e, hb, hc k hk⟩
end

def cntK (ts : List Tok) (kind : Int) : Nat := (ts.filter fun t => t.kind == kind).length

theorem cntK_le (ts : List Tok) (k : Int) : cntK ts k ≤ ts.length := List.length_filter_le _ _
theorem cntK_take_le (ts : List Tok) (m : Nat) (k : Int) : cntK (ts.take m) k ≤ ts.length := Nat.le_trans (cntK_le _ _) (by simp; omega)
theorem cntK_step {ts : List Tok} {m : Nat} {k : Int} {b : Bool} (hm : m < ts.length) (hb : (ts[m].kind == k) = b) : cntK (ts.take (m + 1)) k = cntK (ts.take m) k + if b then 1 else 0 := by
  unfold cntK
  rw [List.take_succ_eq_append_getElem hm, List.filter_append]
  cases b <;> simp [hb]

end Go.Proofs.Ytmejbmfopdfbjaa
