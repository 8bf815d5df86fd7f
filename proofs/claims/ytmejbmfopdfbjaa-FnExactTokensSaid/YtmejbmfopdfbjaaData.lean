/-
  Expressions, statements, functions in memory; forms in plain words.
-/
import Derived.Test.YtmejbmfopdfbjaaBytes
import Derived.IntWalk
import Derived.Test.YtmejbmfopdfbjaaWord
import Derived.Test.YtmejbmfopdfbjaaKept
namespace Go.Proofs.Ytmejbmfopdfbjaa
open Go.RowKit

inductive Ex where
  | mk (kind n : Int) (name : List UInt8) (args : List Ex)

mutual
theorem Ex.ind {P : Ex → Prop} (step : ∀ k n name args, (∀ e ∈ args, P e) → P (.mk k n name args)) : ∀ e : Ex, P e
  | .mk k n name args => step k n name args (Ex.inds step args)
theorem Ex.inds {P : Ex → Prop} (step : ∀ k n name args, (∀ e ∈ args, P e) → P (.mk k n name args)) : ∀ l : List Ex, ∀ e ∈ l, P e
  | [] => fun e h => absurd h (by simp)
  | x :: r => fun e h => by
    rcases List.mem_cons.1 h with h1 | h1
    · rw [h1]; exact Ex.ind step x
    · exact Ex.inds step r e h1
end

theorem Blk.cell_of {w : World} {g : Nat} {t : TypeId} {cs : Array Value} (h : Blk w g t cs) (i : Nat) {v : Value} (hv : cs[i]? = some v) : w.cell? ⟨g, i, none⟩ = some v := by rw [h.cell]; exact hv

/-- bytes that lie in blocks from L on -/
def RBL (w : World) (L B : Nat) (A : Option Addr) (l : List UInt8) : Prop := RB w B A l ∧ (0 < l.length → ∃ ad, A = some ad ∧ L ≤ ad.block)
theorem RBL.keep {w w' : World} {L B : Nat} {A : Option Addr} {l : List UInt8} (h : RBL w L B A l) (hk : ∀ p : Addr, L ≤ p.block → p.block < B → w'.cell? p = w.cell? p) : RBL w' L B A l := by
  refine ⟨⟨h.1.1, fun hn => ?_⟩, h.2⟩
  obtain ⟨ad, e, hb, hc⟩ := h.1.2 hn
  obtain ⟨ad', e', hL⟩ := h.2 hn
  rw [e] at e'
  cases e'
  exact ⟨ad, e, hb, fun j u hu => (hk _ (by rw [block_of_add]; exact hL) (by rw [block_of_add]; exact hb)).trans (hc j u hu)⟩
theorem RBL.more {w : World} {L B L' B' : Nat} {A : Option Addr} {l : List UInt8} (h : RBL w L B A l) (hL : L' ≤ L) (hB : B ≤ B') : RBL w L' B' A l :=
  ⟨h.1.more hB, fun hn => by obtain ⟨ad, e, hl⟩ := h.2 hn; exact ⟨ad, e, by omega⟩⟩

/-- four cells from p on -/
def At4 (w : World) (p : Addr) (v0 v1 v2 v3 : Value) : Prop :=
  w.cell? p = some v0 ∧ w.cell? ⟨p.block, p.off + 1, none⟩ = some v1 ∧ w.cell? ⟨p.block, p.off + 2, none⟩ = some v2 ∧ w.cell? ⟨p.block, p.off + 3, none⟩ = some v3
theorem At4.keep {w w' : World} {p : Addr} {v0 v1 v2 v3 : Value} (h : At4 w p v0 v1 v2 v3) (hk : ∀ q : Addr, q.block = p.block → w'.cell? q = w.cell? q) : At4 w' p v0 v1 v2 v3 :=
  ⟨(hk p rfl).trans h.1, (hk ⟨p.block, p.off + 1, none⟩ rfl).trans h.2.1, (hk ⟨p.block, p.off + 2, none⟩ rfl).trans h.2.2.1, (hk ⟨p.block, p.off + 3, none⟩ rfl).trans h.2.2.2⟩

mutual
def ExV (w : World) (L B : Nat) (v0 v1 v2 v3 : Value) : Ex → Prop
  | .mk k n name args => v0 = .int .i64 k ∧ v1 = .int .i64 n ∧ (∃ (A : Option Addr) (c : Nat), v2 = .slice A name.length c ∧ RBL w L B A name ∧ name.length ≤ maxLen) ∧
      ∃ (A' : Option Addr) (c' : Nat), v3 = .slice A' args.length c' ∧ args.length ≤ maxLen ∧ (0 < args.length → ∃ ad, A' = some ad ∧ L ≤ ad.block ∧ ad.block < B ∧ ExsV w L B ad 0 args)
def ExsV (w : World) (L B : Nat) (ad : Addr) : Nat → List Ex → Prop
  | _, [] => True
  | i, e :: r => (∃ v0 v1 v2 v3, At4 w (ad.add (i * 4)) v0 v1 v2 v3 ∧ ExV w L B v0 v1 v2 v3 e) ∧ ExsV w L B ad (i + 1) r
end

/-- a slice of expressions -/
def ExL (w : World) (L B : Nat) (A : Option Addr) (l : List Ex) : Prop :=
  l.length ≤ maxLen ∧ (0 < l.length → ∃ ad, A = some ad ∧ L ≤ ad.block ∧ ad.block < B ∧ ∀ k (h : k < l.length), ∃ v0 v1 v2 v3, At4 w (ad.add (k * 4)) v0 v1 v2 v3 ∧ ExV w L B v0 v1 v2 v3 l[k])

theorem ExsV.get {w : World} {L B : Nat} {ad : Addr} : ∀ {l : List Ex} {i : Nat}, ExsV w L B ad i l → ∀ k (h : k < l.length), ∃ v0 v1 v2 v3, At4 w (ad.add ((i + k) * 4)) v0 v1 v2 v3 ∧ ExV w L B v0 v1 v2 v3 l[k]
  | [], _, _, k, h => by simp at h
  | e :: r, i, h, 0, _ => by rw [ExsV] at h; exact h.1
  | e :: r, i, h, k + 1, hk => by
    rw [ExsV] at h
    have := ExsV.get h.2 k (by simpa using hk)
    rw [show i + (k + 1) = i + 1 + k by omega]
    simpa using this
theorem ExsV.of {w : World} {L B : Nat} {ad : Addr} : ∀ {l : List Ex} {i : Nat}, (∀ k (h : k < l.length), ∃ v0 v1 v2 v3, At4 w (ad.add ((i + k) * 4)) v0 v1 v2 v3 ∧ ExV w L B v0 v1 v2 v3 l[k]) → ExsV w L B ad i l
  | [], _, _ => by rw [ExsV]; trivial
  | e :: r, i, h => by
    rw [ExsV]
    refine ⟨h 0 (by simp), ExsV.of fun k hk => ?_⟩
    have := h (k + 1) (by simpa using hk)
    rw [show i + (k + 1) = i + 1 + k by omega] at this
    simpa using this

theorem ExV.open_ {w : World} {L B : Nat} {v0 v1 v2 v3 : Value} {k n : Int} {name : List UInt8} {args : List Ex} (h : ExV w L B v0 v1 v2 v3 (.mk k n name args)) :
    ∃ (A : Option Addr) (c : Nat) (A' : Option Addr) (c' : Nat), v0 = .int .i64 k ∧ v1 = .int .i64 n ∧ v2 = .slice A name.length c ∧ v3 = .slice A' args.length c' ∧ RBL w L B A name ∧ name.length ≤ maxLen ∧ ExL w L B A' args := by
  rw [ExV] at h
  obtain ⟨e0, e1, ⟨A, c, e2, hR, hm⟩, A', c', e3, hm', hx⟩ := h
  refine ⟨A, c, A', c', e0, e1, e2, e3, hR, hm, hm', fun hn => ?_⟩
  obtain ⟨ad, eA, hL, hB, hs⟩ := hx hn
  refine ⟨ad, eA, hL, hB, fun k hk => ?_⟩
  have := hs.get k hk
  rwa [Nat.zero_add] at this
theorem ExV.mk_ {w : World} {L B : Nat} {k n : Int} {name : List UInt8} {args : List Ex} {A A' : Option Addr} {c c' : Nat} (hR : RBL w L B A name) (hm : name.length ≤ maxLen) (hx : ExL w L B A' args) :
    ExV w L B (.int .i64 k) (.int .i64 n) (.slice A name.length c) (.slice A' args.length c') (.mk k n name args) := by
  rw [ExV]
  refine ⟨rfl, rfl, ⟨A, c, rfl, hR, hm⟩, A', c', rfl, hx.1, fun hn => ?_⟩
  obtain ⟨ad, eA, hL, hB, hs⟩ := hx.2 hn
  refine ⟨ad, eA, hL, hB, ExsV.of fun k hk => ?_⟩
  rw [Nat.zero_add]; exact hs k hk

theorem ExV.shape {w : World} {L B : Nat} {v0 v1 v2 v3 : Value} {e : Ex} (h : ExV w L B v0 v1 v2 v3 e) :
    ∃ (k n : Int) (A : Option Addr) (a c : Nat) (A' : Option Addr) (a' c' : Nat), v0 = .int .i64 k ∧ v1 = .int .i64 n ∧ v2 = .slice A a c ∧ v3 = .slice A' a' c' := by
  cases e with
  | mk k n name args =>
    obtain ⟨A, c, A', c', e0, e1, e2, e3, _⟩ := h.open_
    exact ⟨_, _, _, _, _, _, _, _, e0, e1, e2, e3⟩
theorem ExV.keep {w w' : World} {L B : Nat} (hk : ∀ p : Addr, L ≤ p.block → p.block < B → w'.cell? p = w.cell? p) (e : Ex) : ∀ v0 v1 v2 v3, ExV w L B v0 v1 v2 v3 e → ExV w' L B v0 v1 v2 v3 e := by
  refine Ex.ind (P := fun e => ∀ v0 v1 v2 v3, ExV w L B v0 v1 v2 v3 e → ExV w' L B v0 v1 v2 v3 e) ?_ e
  intro k n name args ih v0 v1 v2 v3 h
  obtain ⟨A, c, A', c', rfl, rfl, rfl, rfl, hR, hm, hx⟩ := h.open_
  refine ExV.mk_ (hR.keep hk) hm ⟨hx.1, fun hn => ?_⟩
  obtain ⟨ad, eA, hL, hB, hs⟩ := hx.2 hn
  refine ⟨ad, eA, hL, hB, fun j hj => ?_⟩
  obtain ⟨u0, u1, u2, u3, h4, hv⟩ := hs j hj
  exact ⟨u0, u1, u2, u3, h4.keep (fun q hq => hk q (by rw [hq, block_of_add]; exact hL) (by rw [hq, block_of_add]; exact hB)), ih _ (List.getElem_mem hj) _ _ _ _ hv⟩
theorem ExL.keep {w w' : World} {L B : Nat} {A : Option Addr} {l : List Ex} (h : ExL w L B A l) (hk : ∀ p : Addr, L ≤ p.block → p.block < B → w'.cell? p = w.cell? p) : ExL w' L B A l := by
  refine ⟨h.1, fun hn => ?_⟩
  obtain ⟨ad, eA, hL, hB, hs⟩ := h.2 hn
  refine ⟨ad, eA, hL, hB, fun j hj => ?_⟩
  obtain ⟨u0, u1, u2, u3, h4, hv⟩ := hs j hj
  exact ⟨u0, u1, u2, u3, h4.keep (fun q hq => hk q (by rw [hq, block_of_add]; exact hL) (by rw [hq, block_of_add]; exact hB)), ExV.keep hk _ _ _ _ _ hv⟩
theorem ExV.more {w : World} {L B L' B' : Nat} (hL : L' ≤ L) (hB : B ≤ B') (e : Ex) : ∀ v0 v1 v2 v3, ExV w L B v0 v1 v2 v3 e → ExV w L' B' v0 v1 v2 v3 e := by
  refine Ex.ind (P := fun e => ∀ v0 v1 v2 v3, ExV w L B v0 v1 v2 v3 e → ExV w L' B' v0 v1 v2 v3 e) ?_ e
  intro k n name args ih v0 v1 v2 v3 h
  obtain ⟨A, c, A', c', rfl, rfl, rfl, rfl, hR, hm, hx⟩ := h.open_
  refine ExV.mk_ (hR.more hL hB) hm ⟨hx.1, fun hn => ?_⟩
  obtain ⟨ad, eA, hL', hB', hs⟩ := hx.2 hn
  refine ⟨ad, eA, by omega, by omega, fun j hj => ?_⟩
  obtain ⟨u0, u1, u2, u3, h4, hv⟩ := hs j hj
  exact ⟨u0, u1, u2, u3, h4, ih _ (List.getElem_mem hj) _ _ _ _ hv⟩
theorem ExL.more {w : World} {L B L' B' : Nat} {A : Option Addr} {l : List Ex} (h : ExL w L B A l) (hL : L' ≤ L) (hB : B ≤ B') : ExL w L' B' A l := by
  refine ⟨h.1, fun hn => ?_⟩
  obtain ⟨ad, eA, hL', hB', hs⟩ := h.2 hn
  refine ⟨ad, eA, by omega, by omega, fun j hj => ?_⟩
  obtain ⟨u0, u1, u2, u3, h4, hv⟩ := hs j hj
  exact ⟨u0, u1, u2, u3, h4, ExV.more hL hB _ _ _ _ _ hv⟩
theorem ExV.below {w w' : World} {L B : Nat} {v0 v1 v2 v3 : Value} {e : Ex} (h : ExV w L B v0 v1 v2 v3 e) (hb : Below B w w') : ExV w' L B v0 v1 v2 v3 e := ExV.keep (fun _ _ hp => hb.cell hp) e _ _ _ _ h
theorem ExL.below {w w' : World} {L B : Nat} {A : Option Addr} {l : List Ex} (h : ExL w L B A l) (hb : Below B w w') : ExL w' L B A l := h.keep fun _ _ hp => hb.cell hp
theorem RBL.below {w w' : World} {L B : Nat} {A : Option Addr} {l : List UInt8} (h : RBL w L B A l) (hb : Below B w w') : RBL w' L B A l := h.keep fun _ _ hp => hb.cell hp

-- the laws' own size
mutual
def exSz : Ex → Nat
  | .mk _ _ name args => name.length + exsSz args
def exsSz : List Ex → Nat
  | [] => 0
  | e :: r => 1 + exSz e + exsSz r
end
theorem exsSz_step : ∀ {l : List Ex} {k : Nat} (hk : k < l.length), exsSz (l.take (k + 1)) = exsSz (l.take k) + 1 + exSz l[k]
  | [], k, hk => by simp at hk
  | e :: r, 0, hk => by simp [exsSz]
  | e :: r, k + 1, hk => by
    have := exsSz_step (l := r) (k := k) (by simpa using hk)
    simp only [List.take_succ_cons, exsSz, List.getElem_cons_succ]
    omega
theorem exsSz_get : ∀ {l : List Ex} {k : Nat} (hk : k < l.length), exSz l[k] + 1 ≤ exsSz l
  | [], k, hk => by simp at hk
  | e :: r, 0, hk => by simp [exsSz]; omega
  | e :: r, k + 1, hk => by
    have := exsSz_get (l := r) (k := k) (by simpa using hk)
    simp only [exsSz, List.getElem_cons_succ]
    omega
theorem exsSz_len : ∀ (l : List Ex), l.length ≤ exsSz l
  | [] => by simp
  | e :: r => by have := exsSz_len r; simp only [exsSz, List.length_cons]; omega
/-- the sizes of the first k -/
def exsIn (l : List Ex) (k : Nat) : Nat := ((l.take k).map exSz).sum
theorem exsIn_step {l : List Ex} {k : Nat} (hk : k < l.length) : exsIn l (k + 1) = exsIn l k + exSz l[k] := by
  unfold exsIn
  rw [List.take_succ_eq_append_getElem hk, List.map_append, List.sum_append]
  simp
theorem exsSz_all : ∀ (l : List Ex), exsSz l = l.length + exsIn l l.length
  | [] => by simp [exsSz, exsIn]
  | e :: r => by
    have h := exsSz_all r
    unfold exsIn at h ⊢
    rw [List.take_length] at h ⊢
    rw [exsSz, h, List.map_cons, List.sum_cons, List.length_cons]
    omega
theorem exSz_mk (k n : Int) (name : List UInt8) (args : List Ex) : exSz (.mk k n name args) = name.length + exsSz args := by rw [exSz]
end Go.Proofs.Ytmejbmfopdfbjaa

namespace Go.Proofs.Ytmejbmfopdfbjaa
open Go.RowKit

/-- what is left of a budget -/
def sub (left : Int) (n : Nat) : Int := if left - n < 0 then -1 else left - n
theorem sub_cases (left : Int) (n : Nat) : (left - n < 0 ∧ sub left n = -1) ∨ (0 ≤ left - n ∧ sub left n = left - n) := by
  unfold sub; by_cases h : left - n < 0
  · exact Or.inl ⟨h, if_pos h⟩
  · exact Or.inr ⟨by omega, if_neg h⟩

set_option maxHeartbeats 400000 in
theorem szByteS_c (A : Option Addr) (n c : Nat) (left : Int) (w : World) (hn : n ≤ 9223372036854775807) (h0 : 0 ≤ left) (h1 : left ≤ 1048576) :
    Calls Try.prog 29 #[.slice A n c, .int .i64 left] w fun e w' => e = .returned (.int .i64 (sub left n)) ∧ w = w' := by
  rcases sub_cases left n with ⟨hlt, he⟩ | ⟨hge, he⟩
  all_goals
    rw [he]
    clear he
    go_enter Try.func29, Try.ntmps29
    go_wp2
    go_ret
    exact ⟨rfl, rfl⟩

end Go.Proofs.Ytmejbmfopdfbjaa

namespace Go.Proofs.Ytmejbmfopdfbjaa
open Go.RowKit
set_option linter.unusedVariables false

inductive St where
  | mk (kind : Int) (name : List UInt8) (e f : Ex) (body els : List St)

mutual
theorem St.ind {P : St → Prop} (step : ∀ k name e f body els, (∀ s ∈ body, P s) → (∀ s ∈ els, P s) → P (.mk k name e f body els)) : ∀ s : St, P s
  | .mk k name e f body els => step k name e f body els (St.inds step body) (St.inds step els)
theorem St.inds {P : St → Prop} (step : ∀ k name e f body els, (∀ s ∈ body, P s) → (∀ s ∈ els, P s) → P (.mk k name e f body els)) : ∀ l : List St, ∀ s ∈ l, P s
  | [] => fun e h => absurd h (by simp)
  | x :: r => fun e h => by
    rcases List.mem_cons.1 h with h1 | h1
    · rw [h1]; exact St.ind step x
    · exact St.inds step r e h1
end

/-- cells from p on -/
def AtN (w : World) (p : Addr) (vs : List Value) : Prop := ∀ (j : Nat) (v : Value), vs[j]? = some v → w.cell? (if j = 0 then p else ⟨p.block, p.off + j, none⟩) = some v
theorem AtN.keep {w w' : World} {p : Addr} {vs : List Value} (h : AtN w p vs) (hk : ∀ q : Addr, q.block = p.block → w'.cell? q = w.cell? q) : AtN w' p vs := fun j v hv => by
  rw [hk _ (by split <;> rfl)]; exact h j v hv

mutual
def StV (w : World) (L B : Nat) (vs : List Value) : St → Prop
  | .mk k name e f body els => ∃ (A : Option Addr) (c : Nat) (e0 e1 e2 e3 f0 f1 f2 f3 : Value) (A1 : Option Addr) (c1 : Nat) (A2 : Option Addr) (c2 : Nat),
      vs = [.int .i64 k, .slice A name.length c, e0, e1, e2, e3, f0, f1, f2, f3, .slice A1 body.length c1, .slice A2 els.length c2] ∧ RBL w L B A name ∧ name.length ≤ maxLen ∧
      ExV w L B e0 e1 e2 e3 e ∧ ExV w L B f0 f1 f2 f3 f ∧ body.length ≤ maxLen ∧ els.length ≤ maxLen ∧
      (0 < body.length → ∃ ad, A1 = some ad ∧ L ≤ ad.block ∧ ad.block < B ∧ StsV w L B ad 0 body) ∧ (0 < els.length → ∃ ad, A2 = some ad ∧ L ≤ ad.block ∧ ad.block < B ∧ StsV w L B ad 0 els)
def StsV (w : World) (L B : Nat) (ad : Addr) : Nat → List St → Prop
  | _, [] => True
  | i, s :: r => (∃ vs, AtN w (ad.add (i * 12)) vs ∧ StV w L B vs s) ∧ StsV w L B ad (i + 1) r
end

def StL (w : World) (L B : Nat) (A : Option Addr) (l : List St) : Prop :=
  l.length ≤ maxLen ∧ (0 < l.length → ∃ ad, A = some ad ∧ L ≤ ad.block ∧ ad.block < B ∧ ∀ k (h : k < l.length), ∃ vs, AtN w (ad.add (k * 12)) vs ∧ StV w L B vs l[k])

theorem StsV.get {w : World} {L B : Nat} {ad : Addr} : ∀ {l : List St} {i : Nat}, StsV w L B ad i l → ∀ k (h : k < l.length), ∃ vs, AtN w (ad.add ((i + k) * 12)) vs ∧ StV w L B vs l[k]
  | [], _, _, k, h => by simp at h
  | e :: r, i, h, 0, _ => by rw [StsV] at h; exact h.1
  | e :: r, i, h, k + 1, hk => by
    rw [StsV] at h
    have := StsV.get h.2 k (by simpa using hk)
    rw [show i + (k + 1) = i + 1 + k by omega]
    simpa using this
theorem StsV.of {w : World} {L B : Nat} {ad : Addr} : ∀ {l : List St} {i : Nat}, (∀ k (h : k < l.length), ∃ vs, AtN w (ad.add ((i + k) * 12)) vs ∧ StV w L B vs l[k]) → StsV w L B ad i l
  | [], _, _ => by rw [StsV]; trivial
  | e :: r, i, h => by
    rw [StsV]
    refine ⟨h 0 (by simp), StsV.of fun k hk => ?_⟩
    have := h (k + 1) (by simpa using hk)
    rw [show i + (k + 1) = i + 1 + k by omega] at this
    simpa using this

theorem StV.open_ {w : World} {L B : Nat} {vs : List Value} {k : Int} {name : List UInt8} {e f : Ex} {body els : List St} (h : StV w L B vs (.mk k name e f body els)) :
    ∃ (A : Option Addr) (c : Nat) (e0 e1 e2 e3 f0 f1 f2 f3 : Value) (A1 : Option Addr) (c1 : Nat) (A2 : Option Addr) (c2 : Nat),
      vs = [.int .i64 k, .slice A name.length c, e0, e1, e2, e3, f0, f1, f2, f3, .slice A1 body.length c1, .slice A2 els.length c2] ∧ RBL w L B A name ∧ name.length ≤ maxLen ∧
      ExV w L B e0 e1 e2 e3 e ∧ ExV w L B f0 f1 f2 f3 f ∧ StL w L B A1 body ∧ StL w L B A2 els := by
  rw [StV] at h
  obtain ⟨A, c, e0, e1, e2, e3, f0, f1, f2, f3, A1, c1, A2, c2, hvs, hR, hm, he, hf, m1, m2, h1, h2⟩ := h
  refine ⟨A, c, e0, e1, e2, e3, f0, f1, f2, f3, A1, c1, A2, c2, hvs, hR, hm, he, hf, ⟨m1, fun hn => ?_⟩, ⟨m2, fun hn => ?_⟩⟩
  · obtain ⟨ad, eA, hL, hB, hs⟩ := h1 hn
    refine ⟨ad, eA, hL, hB, fun k hk => ?_⟩
    have := hs.get k hk
    rwa [Nat.zero_add] at this
  · obtain ⟨ad, eA, hL, hB, hs⟩ := h2 hn
    refine ⟨ad, eA, hL, hB, fun k hk => ?_⟩
    have := hs.get k hk
    rwa [Nat.zero_add] at this
theorem StV.mk_ {w : World} {L B : Nat} {k : Int} {name : List UInt8} {e f : Ex} {body els : List St} {A A1 A2 : Option Addr} {c c1 c2 : Nat} {e0 e1 e2 e3 f0 f1 f2 f3 : Value}
    (hR : RBL w L B A name) (hm : name.length ≤ maxLen) (he : ExV w L B e0 e1 e2 e3 e) (hf : ExV w L B f0 f1 f2 f3 f) (h1 : StL w L B A1 body) (h2 : StL w L B A2 els) :
    StV w L B [.int .i64 k, .slice A name.length c, e0, e1, e2, e3, f0, f1, f2, f3, .slice A1 body.length c1, .slice A2 els.length c2] (.mk k name e f body els) := by
  rw [StV]
  refine ⟨A, c, e0, e1, e2, e3, f0, f1, f2, f3, A1, c1, A2, c2, rfl, hR, hm, he, hf, h1.1, h2.1, fun hn => ?_, fun hn => ?_⟩
  · obtain ⟨ad, eA, hL, hB, hs⟩ := h1.2 hn
    refine ⟨ad, eA, hL, hB, StsV.of fun k hk => ?_⟩
    rw [Nat.zero_add]; exact hs k hk
  · obtain ⟨ad, eA, hL, hB, hs⟩ := h2.2 hn
    refine ⟨ad, eA, hL, hB, StsV.of fun k hk => ?_⟩
    rw [Nat.zero_add]; exact hs k hk

theorem StL.map {w w' : World} {L B L' B' : Nat} {A : Option Addr} {l : List St} (h : StL w L B A l) (hL : L' ≤ L) (hB : B ≤ B') (hk : ∀ p : Addr, L ≤ p.block → p.block < B → w'.cell? p = w.cell? p)
    (hs : ∀ s ∈ l, ∀ vs, StV w L B vs s → StV w' L' B' vs s) : StL w' L' B' A l := by
  refine ⟨h.1, fun hn => ?_⟩
  obtain ⟨ad, eA, hL1, hB1, hx⟩ := h.2 hn
  refine ⟨ad, eA, by omega, by omega, fun j hj => ?_⟩
  obtain ⟨vs, h4, hv⟩ := hx j hj
  exact ⟨vs, h4.keep (fun q hq => hk q (by rw [hq, block_of_add]; exact hL1) (by rw [hq, block_of_add]; exact hB1)), hs _ (List.getElem_mem hj) _ hv⟩
theorem StV.keep {w w' : World} {L B : Nat} (hk : ∀ p : Addr, L ≤ p.block → p.block < B → w'.cell? p = w.cell? p) (s : St) : ∀ vs, StV w L B vs s → StV w' L B vs s := by
  refine St.ind (P := fun s => ∀ vs, StV w L B vs s → StV w' L B vs s) ?_ s
  intro k name e f body els ih1 ih2 vs h
  obtain ⟨A, c, e0, e1, e2, e3, f0, f1, f2, f3, A1, c1, A2, c2, rfl, hR, hm, he, hf, h1, h2⟩ := h.open_
  exact StV.mk_ (hR.keep hk) hm (ExV.keep hk _ _ _ _ _ he) (ExV.keep hk _ _ _ _ _ hf) (h1.map (Nat.le_refl _) (Nat.le_refl _) hk ih1) (h2.map (Nat.le_refl _) (Nat.le_refl _) hk ih2)
theorem StL.keep {w w' : World} {L B : Nat} {A : Option Addr} {l : List St} (h : StL w L B A l) (hk : ∀ p : Addr, L ≤ p.block → p.block < B → w'.cell? p = w.cell? p) : StL w' L B A l :=
  h.map (Nat.le_refl _) (Nat.le_refl _) hk fun s _ vs hv => StV.keep hk s vs hv
theorem StV.more {w : World} {L B L' B' : Nat} (hL : L' ≤ L) (hB : B ≤ B') (s : St) : ∀ vs, StV w L B vs s → StV w L' B' vs s := by
  refine St.ind (P := fun s => ∀ vs, StV w L B vs s → StV w L' B' vs s) ?_ s
  intro k name e f body els ih1 ih2 vs h
  obtain ⟨A, c, e0, e1, e2, e3, f0, f1, f2, f3, A1, c1, A2, c2, rfl, hR, hm, he, hf, h1, h2⟩ := h.open_
  exact StV.mk_ (hR.more hL hB) hm (ExV.more hL hB _ _ _ _ _ he) (ExV.more hL hB _ _ _ _ _ hf) (h1.map hL hB (fun _ _ _ => rfl) ih1) (h2.map hL hB (fun _ _ _ => rfl) ih2)
theorem StL.more {w : World} {L B L' B' : Nat} {A : Option Addr} {l : List St} (h : StL w L B A l) (hL : L' ≤ L) (hB : B ≤ B') : StL w L' B' A l :=
  h.map hL hB (fun _ _ _ => rfl) fun s _ vs hv => StV.more hL hB s vs hv
theorem StV.below {w w' : World} {L B : Nat} {vs : List Value} {s : St} (h : StV w L B vs s) (hb : Below B w w') : StV w' L B vs s := StV.keep (fun _ _ hp => hb.cell hp) s _ h
theorem StL.below {w w' : World} {L B : Nat} {A : Option Addr} {l : List St} (h : StL w L B A l) (hb : Below B w w') : StL w' L B A l := h.keep fun _ _ hp => hb.cell hp
theorem StV.shape {w : World} {L B : Nat} {vs : List Value} {s : St} (h : StV w L B vs s) :
    ∃ (k : Int) (A : Option Addr) (a c : Nat) (k1 n1 : Int) (A1 : Option Addr) (a1 c1 : Nat) (A2 : Option Addr) (a2 c2 : Nat) (k3 n3 : Int) (A3 : Option Addr) (a3 c3 : Nat) (A4 : Option Addr) (a4 c4 : Nat) (A5 : Option Addr) (a5 c5 : Nat) (A6 : Option Addr) (a6 c6 : Nat),
      vs = [.int .i64 k, .slice A a c, .int .i64 k1, .int .i64 n1, .slice A1 a1 c1, .slice A2 a2 c2, .int .i64 k3, .int .i64 n3, .slice A3 a3 c3, .slice A4 a4 c4, .slice A5 a5 c5, .slice A6 a6 c6] := by
  cases s with
  | mk k name e f body els =>
    obtain ⟨A, c, e0, e1, e2, e3, f0, f1, f2, f3, A1, c1, A2, c2, rfl, _, _, he, hf, _⟩ := h.open_
    obtain ⟨x1, x2, x3, x4, x5, x6, x7, x8, rfl, rfl, rfl, rfl⟩ := he.shape
    obtain ⟨y1, y2, y3, y4, y5, y6, y7, y8, rfl, rfl, rfl, rfl⟩ := hf.shape
    exact ⟨_, _, _, _, _, _, _, _, _, _, _, _, _, _, _, _, _, _, _, _, _, _, _, _, _, _, rfl⟩

-- the laws' own size
mutual
def stSz : St → Nat
  | .mk _ name e f body els => name.length + exSz e + exSz f + stsSz body + stsSz els
def stsSz : List St → Nat
  | [] => 0
  | s :: r => 1 + stSz s + stsSz r
end
theorem stSz_mk (k : Int) (name : List UInt8) (e f : Ex) (body els : List St) : stSz (.mk k name e f body els) = name.length + exSz e + exSz f + stsSz body + stsSz els := by rw [stSz]
theorem stsSz_get : ∀ {l : List St} {k : Nat} (hk : k < l.length), stSz l[k] + 1 ≤ stsSz l
  | [], k, hk => by simp at hk
  | e :: r, 0, hk => by simp [stsSz]; omega
  | e :: r, k + 1, hk => by
    have := stsSz_get (l := r) (k := k) (by simpa using hk)
    simp only [stsSz, List.getElem_cons_succ]
    omega
theorem stsSz_len : ∀ (l : List St), l.length ≤ stsSz l
  | [] => by simp
  | e :: r => by have := stsSz_len r; simp only [stsSz, List.length_cons]; omega
def stsIn (l : List St) (k : Nat) : Nat := ((l.take k).map stSz).sum
theorem stsIn_step {l : List St} {k : Nat} (hk : k < l.length) : stsIn l (k + 1) = stsIn l k + stSz l[k] := by
  unfold stsIn
  rw [List.take_succ_eq_append_getElem hk, List.map_append, List.sum_append]
  simp
theorem stsSz_all : ∀ (l : List St), stsSz l = l.length + stsIn l l.length
  | [] => by simp [stsSz, stsIn]
  | e :: r => by
    have h := stsSz_all r
    unfold stsIn at h ⊢
    rw [List.take_length] at h ⊢
    rw [stsSz, h, List.map_cons, List.sum_cons, List.length_cons]
    omega
end Go.Proofs.Ytmejbmfopdfbjaa

namespace Go.Proofs.Ytmejbmfopdfbjaa
open Go.RowKit
set_option linter.unusedVariables false

/-- a slice of slices of bytes -/
def BsL (w : World) (L B : Nat) (A : Option Addr) (l : List (List UInt8)) : Prop :=
  l.length ≤ maxLen ∧ (0 < l.length → ∃ ad, A = some ad ∧ L ≤ ad.block ∧ ad.block < B ∧ ∀ k (h : k < l.length), ∃ (A' : Option Addr) (c : Nat), w.cell? (ad.add k) = some (.slice A' l[k].length c) ∧ RBL w L B A' l[k] ∧ l[k].length ≤ maxLen)
theorem BsL.keep {w w' : World} {L B : Nat} {A : Option Addr} {l : List (List UInt8)} (h : BsL w L B A l) (hk : ∀ p : Addr, L ≤ p.block → p.block < B → w'.cell? p = w.cell? p) : BsL w' L B A l := by
  refine ⟨h.1, fun hn => ?_⟩
  obtain ⟨ad, eA, hL, hB, hs⟩ := h.2 hn
  refine ⟨ad, eA, hL, hB, fun j hj => ?_⟩
  obtain ⟨A', c, h4, hR, hm⟩ := hs j hj
  exact ⟨A', c, (hk _ (by rw [block_of_add]; exact hL) (by rw [block_of_add]; exact hB)).trans h4, hR.keep hk, hm⟩
theorem BsL.more {w : World} {L B L' B' : Nat} {A : Option Addr} {l : List (List UInt8)} (h : BsL w L B A l) (hL : L' ≤ L) (hB : B ≤ B') : BsL w L' B' A l := by
  refine ⟨h.1, fun hn => ?_⟩
  obtain ⟨ad, eA, hL1, hB1, hs⟩ := h.2 hn
  refine ⟨ad, eA, by omega, by omega, fun j hj => ?_⟩
  obtain ⟨A', c, h4, hR, hm⟩ := hs j hj
  exact ⟨A', c, h4, hR.more hL hB, hm⟩
theorem BsL.below {w w' : World} {L B : Nat} {A : Option Addr} {l : List (List UInt8)} (h : BsL w L B A l) (hb : Below B w w') : BsL w' L B A l := h.keep fun _ _ hp => hb.cell hp

structure Fn where
  name : List UInt8
  params : List (List UInt8)
  body : List St

def FnV (w : World) (L B : Nat) (v0 v1 v2 : Value) (f : Fn) : Prop :=
  ∃ (A : Option Addr) (c : Nat) (A1 : Option Addr) (c1 : Nat) (A2 : Option Addr) (c2 : Nat), v0 = .slice A f.name.length c ∧ v1 = .slice A1 f.params.length c1 ∧ v2 = .slice A2 f.body.length c2 ∧
    RBL w L B A f.name ∧ f.name.length ≤ maxLen ∧ BsL w L B A1 f.params ∧ StL w L B A2 f.body ∧ f.params.length ≤ c1 ∧ c1 ≤ maxLen
theorem FnV.keep {w w' : World} {L B : Nat} {v0 v1 v2 : Value} {f : Fn} (h : FnV w L B v0 v1 v2 f) (hk : ∀ p : Addr, L ≤ p.block → p.block < B → w'.cell? p = w.cell? p) : FnV w' L B v0 v1 v2 f := by
  obtain ⟨A, c, A1, c1, A2, c2, e0, e1, e2, hR, hm, hp, hb, hcp⟩ := h
  exact ⟨A, c, A1, c1, A2, c2, e0, e1, e2, hR.keep hk, hm, hp.keep hk, hb.keep hk, hcp⟩
theorem FnV.more {w : World} {L B L' B' : Nat} {v0 v1 v2 : Value} {f : Fn} (h : FnV w L B v0 v1 v2 f) (hL : L' ≤ L) (hB : B ≤ B') : FnV w L' B' v0 v1 v2 f := by
  obtain ⟨A, c, A1, c1, A2, c2, e0, e1, e2, hR, hm, hp, hb, hcp⟩ := h
  exact ⟨A, c, A1, c1, A2, c2, e0, e1, e2, hR.more hL hB, hm, hp.more hL hB, hb.more hL hB, hcp⟩
theorem FnV.below {w w' : World} {L B : Nat} {v0 v1 v2 : Value} {f : Fn} (h : FnV w L B v0 v1 v2 f) (hb : Below B w w') : FnV w' L B v0 v1 v2 f := h.keep fun _ _ hp => hb.cell hp

def At3 (w : World) (p : Addr) (v0 v1 v2 : Value) : Prop :=
  w.cell? p = some v0 ∧ w.cell? ⟨p.block, p.off + 1, none⟩ = some v1 ∧ w.cell? ⟨p.block, p.off + 2, none⟩ = some v2
theorem At3.keep {w w' : World} {p : Addr} {v0 v1 v2 : Value} (h : At3 w p v0 v1 v2) (hk : ∀ q : Addr, q.block = p.block → w'.cell? q = w.cell? q) : At3 w' p v0 v1 v2 :=
  ⟨(hk p rfl).trans h.1, (hk ⟨p.block, p.off + 1, none⟩ rfl).trans h.2.1, (hk ⟨p.block, p.off + 2, none⟩ rfl).trans h.2.2⟩

/-- a slice of functions: a program -/
def FnL (w : World) (L B : Nat) (A : Option Addr) (l : List Fn) : Prop :=
  l.length ≤ maxLen ∧ (0 < l.length → ∃ ad, A = some ad ∧ L ≤ ad.block ∧ ad.block < B ∧ ∀ k (h : k < l.length), ∃ v0 v1 v2, At3 w (ad.add (k * 3)) v0 v1 v2 ∧ FnV w L B v0 v1 v2 l[k])
theorem FnL.keep {w w' : World} {L B : Nat} {A : Option Addr} {l : List Fn} (h : FnL w L B A l) (hk : ∀ p : Addr, L ≤ p.block → p.block < B → w'.cell? p = w.cell? p) : FnL w' L B A l := by
  refine ⟨h.1, fun hn => ?_⟩
  obtain ⟨ad, eA, hL, hB, hs⟩ := h.2 hn
  refine ⟨ad, eA, hL, hB, fun j hj => ?_⟩
  obtain ⟨v0, v1, v2, h3, hv⟩ := hs j hj
  exact ⟨v0, v1, v2, h3.keep (fun q hq => hk q (by rw [hq, block_of_add]; exact hL) (by rw [hq, block_of_add]; exact hB)), hv.keep hk⟩
theorem FnL.more {w : World} {L B L' B' : Nat} {A : Option Addr} {l : List Fn} (h : FnL w L B A l) (hL : L' ≤ L) (hB : B ≤ B') : FnL w L' B' A l := by
  refine ⟨h.1, fun hn => ?_⟩
  obtain ⟨ad, eA, hL1, hB1, hs⟩ := h.2 hn
  refine ⟨ad, eA, by omega, by omega, fun j hj => ?_⟩
  obtain ⟨v0, v1, v2, h3, hv⟩ := hs j hj
  exact ⟨v0, v1, v2, h3, hv.more hL hB⟩
theorem FnL.below {w w' : World} {L B : Nat} {A : Option Addr} {l : List Fn} (h : FnL w L B A l) (hb : Below B w w') : FnL w' L B A l := h.keep fun _ _ hp => hb.cell hp

-- the laws' own sizes
def bsIn (l : List (List UInt8)) (k : Nat) : Nat := ((l.take k).map List.length).sum
theorem bsIn_step {l : List (List UInt8)} {k : Nat} (hk : k < l.length) : bsIn l (k + 1) = bsIn l k + l[k].length := by
  unfold bsIn
  rw [List.take_succ_eq_append_getElem hk, List.map_append, List.sum_append]
  simp
theorem sum_get {α : Type} (f : α → Nat) : ∀ {l : List α} {k : Nat} (hk : k < l.length), f l[k] ≤ (l.map f).sum
  | [], k, hk => by simp at hk
  | e :: r, 0, hk => by simp
  | e :: r, k + 1, hk => by
    have := sum_get f (l := r) (k := k) (by simpa using hk)
    simp only [List.map_cons, List.sum_cons, List.getElem_cons_succ]
    omega
def bsSz (l : List (List UInt8)) : Nat := l.length + bsIn l l.length
theorem bsSz_get {l : List (List UInt8)} {k : Nat} (hk : k < l.length) : l[k].length ≤ bsSz l := by
  have := sum_get List.length hk
  unfold bsSz bsIn
  rw [List.take_length]; omega
def fnSz (f : Fn) : Nat := f.name.length + bsSz f.params + stsSz f.body
def fnsIn (l : List Fn) (k : Nat) : Nat := ((l.take k).map fnSz).sum
theorem fnsIn_step {l : List Fn} {k : Nat} (hk : k < l.length) : fnsIn l (k + 1) = fnsIn l k + fnSz l[k] := by
  unfold fnsIn
  rw [List.take_succ_eq_append_getElem hk, List.map_append, List.sum_append]
  simp
def fnsSz (l : List Fn) : Nat := l.length + fnsIn l l.length
theorem fnsSz_get {l : List Fn} {k : Nat} (hk : k < l.length) : fnSz l[k] ≤ fnsSz l := by
  have := sum_get fnSz hk
  unfold fnsSz fnsIn
  rw [List.take_length]; omega
end Go.Proofs.Ytmejbmfopdfbjaa

namespace Go.Proofs.Ytmejbmfopdfbjaa
open Go.RowKit
set_option linter.unusedVariables false

def nameOk (l : List UInt8) : Bool := wordOk l && !kept l
def isBin (n : Int) : Bool := n == 43 || n == 45 || n == 42 || n == 60 || n == 61

def exOk1 (k n : Int) (name : List UInt8) (na : Nat) : Bool :=
  if k = 0 ∨ k = 3 then n == 0 && name.length == 0 && na == 0
  else if k = 1 then decide (0 ≤ n) && decide (n ≤ 999999) && name.length == 0 && na == 0
  else if k = 2 then n == 0 && nameOk name && na == 0
  else if k = 4 then n == 0 && nameOk name && na == 1
  else if k = 5 then n == 0 && nameOk name && decide (na ≤ 3)
  else if k = 6 then isBin n && name.length == 0 && na == 2
  else if k = 7 ∨ k = 8 then n == 0 && name.length == 0 && na == 1
  else false
def exNone : Ex → Bool
  | .mk k n name args => k == 0 && n == 0 && name.length == 0 && args.length == 0
def stOk1 (k : Int) (name : List UInt8) (f : Ex) (nb ne : Nat) : Bool :=
  if k = 0 ∨ k = 1 then nameOk name && exNone f && nb == 0 && ne == 0
  else if k = 2 then nameOk name && nb == 0 && ne == 0
  else if k = 3 ∨ k = 4 ∨ k = 7 then name.length == 0 && exNone f && nb == 0 && ne == 0
  else if k = 5 then name.length == 0 && exNone f
  else if k = 6 then name.length == 0 && exNone f && ne == 0
  else false

mutual
def exN : Ex → Nat
  | .mk _ _ _ args => 1 + exsN args
def exsN : List Ex → Nat
  | [] => 0
  | e :: r => exN e + exsN r
end
mutual
def exGood : Ex → Nat → Bool
  | .mk k n name args, d => decide (d ≤ 7) && exOk1 k n name args.length && exsGood args (d + 1)
def exsGood : List Ex → Nat → Bool
  | [], _ => true
  | e :: r, d => exGood e d && exsGood r d
end
mutual
def exDeep : Ex → Nat → Nat
  | .mk _ _ _ args, d => max d (exsDeep args (d + 1))
def exsDeep : List Ex → Nat → Nat
  | [], _ => 0
  | e :: r, d => max (exDeep e d) (exsDeep r d)
end
theorem exN_mk (k n : Int) (name : List UInt8) (args : List Ex) : exN (.mk k n name args) = 1 + exsN args := by rw [exN]
theorem exGood_mk (k n : Int) (name : List UInt8) (args : List Ex) (d : Nat) : exGood (.mk k n name args) d = (decide (d ≤ 7) && exOk1 k n name args.length && exsGood args (d + 1)) := by rw [exGood]
theorem exDeep_mk (k n : Int) (name : List UInt8) (args : List Ex) (d : Nat) : exDeep (.mk k n name args) d = max d (exsDeep args (d + 1)) := by rw [exDeep]
theorem exN_pos (e : Ex) : 1 ≤ exN e := by cases e; rw [exN_mk]; omega
theorem exsN_step : ∀ {l : List Ex} {k : Nat} (hk : k < l.length), exsN (l.take (k + 1)) = exsN (l.take k) + exN l[k]
  | [], k, hk => by simp at hk
  | e :: r, 0, hk => by simp [exsN]
  | e :: r, k + 1, hk => by
    have := exsN_step (l := r) (k := k) (by simpa using hk)
    simp only [List.take_succ_cons, exsN, List.getElem_cons_succ]
    omega
theorem exsN_take : ∀ (l : List Ex) (k : Nat), exsN (l.take k) ≤ exsN l
  | [], k => by simp
  | e :: r, 0 => by simp [exsN]
  | e :: r, k + 1 => by have := exsN_take r k; simp only [List.take_succ_cons, exsN]; omega
theorem exsN_get {l : List Ex} {k : Nat} (hk : k < l.length) : exsN (l.take k) + exN l[k] ≤ exsN l := by rw [← exsN_step hk]; exact exsN_take _ _
theorem exsGood_step : ∀ {l : List Ex} {k d : Nat} (hk : k < l.length), exsGood (l.take (k + 1)) d = (exsGood (l.take k) d && exGood l[k] d)
  | [], k, _, hk => by simp at hk
  | e :: r, 0, d, hk => by simp [exsGood]
  | e :: r, k + 1, d, hk => by
    have := exsGood_step (l := r) (k := k) (d := d) (by simpa using hk)
    simp only [List.take_succ_cons, exsGood, List.getElem_cons_succ]
    rw [this, Bool.and_assoc]
theorem exsGood_get : ∀ {l : List Ex} {k d : Nat} (hk : k < l.length), exsGood l d = true → exGood l[k] d = true
  | [], k, _, hk, _ => by simp at hk
  | e :: r, 0, d, hk, h => by simp [exsGood] at h; exact h.1
  | e :: r, k + 1, d, hk, h => by
    simp [exsGood] at h
    have := exsGood_get (l := r) (k := k) (d := d) (by simpa using hk) h.2
    simpa using this
theorem exsDeep_step : ∀ {l : List Ex} {k d : Nat} (hk : k < l.length), exsDeep (l.take (k + 1)) d = max (exsDeep (l.take k) d) (exDeep l[k] d)
  | [], k, _, hk => by simp at hk
  | e :: r, 0, d, hk => by simp [exsDeep]
  | e :: r, k + 1, d, hk => by
    have := exsDeep_step (l := r) (k := k) (d := d) (by simpa using hk)
    simp only [List.take_succ_cons, exsDeep, List.getElem_cons_succ]
    rw [this, Nat.max_assoc]

mutual
def stN : St → Nat
  | .mk k _ e f body els => 1 + exN e + (if k = 2 then exN f else 0) + stsN body + stsN els
def stsN : List St → Nat
  | [] => 0
  | s :: r => stN s + stsN r
end
mutual
def stGood : St → Nat → Bool
  | .mk k name e f body els, d => decide (d ≤ 7) && stOk1 k name f body.length els.length && exGood e (d + 1) && (k != 2 || exGood f (d + 1)) && stsGood body (d + 1) && stsGood els (d + 1)
def stsGood : List St → Nat → Bool
  | [], _ => true
  | s :: r, d => stGood s d && stsGood r d
end
mutual
def stDeep : St → Nat → Nat
  | .mk k _ e f body els, d => max d (max (exDeep e (d + 1)) (max (if k = 2 then exDeep f (d + 1) else 0) (max (stsDeep body (d + 1)) (stsDeep els (d + 1)))))
def stsDeep : List St → Nat → Nat
  | [], _ => 0
  | s :: r, d => max (stDeep s d) (stsDeep r d)
end
section
variable (k : Int) (name : List UInt8) (e f : Ex) (body els : List St) (d : Nat)
theorem stN_mk : stN (.mk k name e f body els) = 1 + exN e + (if k = 2 then exN f else 0) + stsN body + stsN els := by rw [stN]
theorem stGood_mk : stGood (.mk k name e f body els) d = (decide (d ≤ 7) && stOk1 k name f body.length els.length && exGood e (d + 1) && (k != 2 || exGood f (d + 1)) && stsGood body (d + 1) && stsGood els (d + 1)) := by rw [stGood]
theorem stDeep_mk : stDeep (.mk k name e f body els) d = max d (max (exDeep e (d + 1)) (max (if k = 2 then exDeep f (d + 1) else 0) (max (stsDeep body (d + 1)) (stsDeep els (d + 1))))) := by rw [stDeep]
end
theorem stN_pos (s : St) : 1 ≤ stN s := by cases s; rw [stN_mk]; omega
theorem stsN_step : ∀ {l : List St} {k : Nat} (hk : k < l.length), stsN (l.take (k + 1)) = stsN (l.take k) + stN l[k]
  | [], k, hk => by simp at hk
  | e :: r, 0, hk => by simp [stsN]
  | e :: r, k + 1, hk => by
    have := stsN_step (l := r) (k := k) (by simpa using hk)
    simp only [List.take_succ_cons, stsN, List.getElem_cons_succ]
    omega
theorem stsN_take : ∀ (l : List St) (k : Nat), stsN (l.take k) ≤ stsN l
  | [], k => by simp
  | e :: r, 0 => by simp [stsN]
  | e :: r, k + 1 => by have := stsN_take r k; simp only [List.take_succ_cons, stsN]; omega
theorem stsN_get {l : List St} {k : Nat} (hk : k < l.length) : stsN (l.take k) + stN l[k] ≤ stsN l := by rw [← stsN_step hk]; exact stsN_take _ _
theorem stsGood_step : ∀ {l : List St} {k d : Nat} (hk : k < l.length), stsGood (l.take (k + 1)) d = (stsGood (l.take k) d && stGood l[k] d)
  | [], k, _, hk => by simp at hk
  | e :: r, 0, d, hk => by simp [stsGood]
  | e :: r, k + 1, d, hk => by
    have := stsGood_step (l := r) (k := k) (d := d) (by simpa using hk)
    simp only [List.take_succ_cons, stsGood, List.getElem_cons_succ]
    rw [this, Bool.and_assoc]
theorem stsGood_get : ∀ {l : List St} {k d : Nat} (hk : k < l.length), stsGood l d = true → stGood l[k] d = true
  | [], k, _, hk, _ => by simp at hk
  | e :: r, 0, d, hk, h => by simp [stsGood] at h; exact h.1
  | e :: r, k + 1, d, hk, h => by
    simp [stsGood] at h
    have := stsGood_get (l := r) (k := k) (d := d) (by simpa using hk) h.2
    simpa using this
theorem stsDeep_step : ∀ {l : List St} {k d : Nat} (hk : k < l.length), stsDeep (l.take (k + 1)) d = max (stsDeep (l.take k) d) (stDeep l[k] d)
  | [], k, _, hk => by simp at hk
  | e :: r, 0, d, hk => by simp [stsDeep]
  | e :: r, k + 1, d, hk => by
    have := stsDeep_step (l := r) (k := k) (d := d) (by simpa using hk)
    simp only [List.take_succ_cons, stsDeep, List.getElem_cons_succ]
    rw [this, Nat.max_assoc]

-- functions and programs
def headOk (f : Fn) : Bool := nameOk f.name && decide (f.params.length ≤ 3) && f.params.all nameOk
def fnsN (l : List Fn) : Nat := (l.map fun f => stsN f.body).sum
def fnsGood (l : List Fn) : Bool := l.all fun f => headOk f && stsGood f.body 2
def fnsDeep (l : List Fn) : Nat := (l.map fun f => stsDeep f.body 2).foldr max 0
def formOk (l : List Fn) : Bool := decide (1 ≤ l.length) && decide (l.length ≤ 4) && fnsGood l && decide (fnsN l ≤ 90)
theorem fnsN_step {l : List Fn} {k : Nat} (hk : k < l.length) : fnsN (l.take (k + 1)) = fnsN (l.take k) + stsN l[k].body := by
  unfold fnsN
  rw [List.take_succ_eq_append_getElem hk, List.map_append, List.sum_append]
  simp
theorem fnsN_take (l : List Fn) (k : Nat) : fnsN (l.take k) ≤ fnsN l := by
  conv => rhs; rw [← List.take_append_drop k l]
  unfold fnsN
  rw [List.map_append, List.sum_append]
  omega
theorem fnsGood_step {l : List Fn} {k : Nat} (hk : k < l.length) : fnsGood (l.take (k + 1)) = (fnsGood (l.take k) && (headOk l[k] && stsGood l[k].body 2)) := by
  unfold fnsGood
  rw [List.take_succ_eq_append_getElem hk, List.all_append]
  simp
theorem fnsGood_get {l : List Fn} {k : Nat} (hk : k < l.length) (h : fnsGood l = true) : headOk l[k] = true ∧ stsGood l[k].body 2 = true := by
  unfold fnsGood at h
  rw [List.all_eq_true] at h
  simpa using h l[k] (List.getElem_mem hk)
theorem foldr_max_app (a b : List Nat) : (a ++ b).foldr max 0 = max (a.foldr max 0) (b.foldr max 0) := by
  induction a with
  | nil => simp
  | cons x r ih => simp only [List.cons_append, List.foldr_cons, ih, Nat.max_assoc]
theorem fnsDeep_step {l : List Fn} {k : Nat} (hk : k < l.length) : fnsDeep (l.take (k + 1)) = max (fnsDeep (l.take k)) (stsDeep l[k].body 2) := by
  unfold fnsDeep
  rw [List.take_succ_eq_append_getElem hk, List.map_append, foldr_max_app]
  simp

/-- what lay is as it lay, but for block g -/
structure Past (g : Nat) (w w' : World) : Prop where
  os : w'.os = w.os
  tape : w'.tape = w.tape
  output : w'.output = w.output
  size : w.heap.size ≤ w'.heap.size
  block : ∀ k, k < w.heap.size → k ≠ g → w'.heap[k]? = w.heap[k]?
section
variable {g : Nat} {a b c w w' : World}
theorem Past.refl (g : Nat) (w : World) : Past g w w := ⟨rfl, rfl, rfl, Nat.le_refl _, fun _ _ _ => rfl⟩
theorem Past.trans (h : Past g a b) (k : Past g b c) : Past g a c :=
  ⟨k.os.trans h.os, k.tape.trans h.tape, k.output.trans h.output, Nat.le_trans h.size k.size, fun i hi hg => (k.block i (Nat.lt_of_lt_of_le hi h.size) hg).trans (h.block i hi hg)⟩
theorem Past.of (h : Below a.heap.size a b) (g : Nat) : Past g a b := ⟨h.os, h.tape, h.output, h.size, fun k hk _ => h.block k hk⟩
theorem Past.below {B : Nat} (h : Past g a b) (hB : B ≤ g) (hs : B ≤ a.heap.size) : Below B a b := ⟨h.os, h.tape, h.output, h.size, fun k hk => h.block k (by omega) (by omega)⟩
theorem Past.alloc (h : Past g a w) (o : Obj) : Past g a (w.alloc o) := h.trans (Past.of ((Below.refl _ w).alloc (Nat.le_refl _) o) g)
theorem Past.drew (h : Past g a w) : Past g a w.drew := ⟨h.os, h.tape, h.output, h.size, h.block⟩
theorem Past.set_ (h : Past g a w) {p : Addr} (hp : p.block = g ∨ a.heap.size ≤ p.block) (u : Value) : Past g a (w.setCell p u) :=
  ⟨h.os, h.tape, h.output, by rw [World.size_setCell]; exact h.size, fun k hk hg => (Below.heap_setCell w p u k (by omega)).trans (h.block k hk hg)⟩
theorem Blk.past {i : Nat} {t : TypeId} {cs : Array Value} (h : Blk w i t cs) (hp : Past g w w') (hg : i ≠ g) : Blk w' i t cs := (hp.block i h.lt hg).trans h
end
end Go.Proofs.Ytmejbmfopdfbjaa
