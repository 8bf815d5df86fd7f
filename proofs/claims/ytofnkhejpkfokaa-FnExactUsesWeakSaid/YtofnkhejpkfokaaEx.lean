/-
  Expressions in memory: what four cells, and a slice of expressions, read as.
-/
import Derived.Test.YtofnkhejpkfokaaBytes
import Derived.IntWalk
namespace Go.Proofs.Ytofnkhejpkfokaa
open Go.RowKit

inductive Ex where
  | mk (kind n : Int) (name : List UInt8) (args : List Ex)

mutual
theorem Ex.ind {P : Ex → Prop} (step : ∀ k n name args, (∀ e ∈ args, P e) → P (.mk k n name args)) : ∀ e : Ex, P e
  | .mk k n name args => step k n name args (Ex.inds step args)
theorem Ex.inds {P : Ex → Prop} (step : ∀ k n name args, (∀ e ∈ args, P e) → P (.mk k n name args)) : ∀ l : List Ex, ∀ e ∈ l, P e
  | [] => fun e h => absurd h (by simp)
  | x :: r => fun e h => by
    rcases List.mem_cons.1 h with h1 | h1
    · rw [h1]; exact Ex.ind step x
    · exact Ex.inds step r e h1
end

theorem Blk.cell_of {w : World} {g : Nat} {t : TypeId} {cs : Array Value} (h : Blk w g t cs) (i : Nat) {v : Value} (hv : cs[i]? = some v) : w.cell? ⟨g, i, none⟩ = some v := by rw [h.cell]; exact hv

/-- bytes that lie in blocks from L on -/
def RBL (w : World) (L B : Nat) (A : Option Addr) (l : List UInt8) : Prop := RB w B A l ∧ (0 < l.length → ∃ ad, A = some ad ∧ L ≤ ad.block)
theorem RBL.keep {w w' : World} {L B : Nat} {A : Option Addr} {l : List UInt8} (h : RBL w L B A l) (hk : ∀ p : Addr, L ≤ p.block → p.block < B → w'.cell? p = w.cell? p) : RBL w' L B A l := by
  refine ⟨⟨h.1.1, fun hn => ?_⟩, h.2⟩
  obtain ⟨ad, e, hb, hc⟩ := h.1.2 hn
  obtain ⟨ad', e', hL⟩ := h.2 hn
  rw [e] at e'
  cases e'
  exact ⟨ad, e, hb, fun j u hu => (hk _ (by rw [block_of_add]; exact hL) (by rw [block_of_add]; exact hb)).trans (hc j u hu)⟩
theorem RBL.more {w : World} {L B L' B' : Nat} {A : Option Addr} {l : List UInt8} (h : RBL w L B A l) (hL : L' ≤ L) (hB : B ≤ B') : RBL w L' B' A l :=
  ⟨h.1.more hB, fun hn => by obtain ⟨ad, e, hl⟩ := h.2 hn; exact ⟨ad, e, by omega⟩⟩

/-- four cells from p on -/
def At4 (w : World) (p : Addr) (v0 v1 v2 v3 : Value) : Prop :=
  w.cell? p = some v0 ∧ w.cell? ⟨p.block, p.off + 1, none⟩ = some v1 ∧ w.cell? ⟨p.block, p.off + 2, none⟩ = some v2 ∧ w.cell? ⟨p.block, p.off + 3, none⟩ = some v3
theorem At4.keep {w w' : World} {p : Addr} {v0 v1 v2 v3 : Value} (h : At4 w p v0 v1 v2 v3) (hk : ∀ q : Addr, q.block = p.block → w'.cell? q = w.cell? q) : At4 w' p v0 v1 v2 v3 :=
  ⟨(hk p rfl).trans h.1, (hk ⟨p.block, p.off + 1, none⟩ rfl).trans h.2.1, (hk ⟨p.block, p.off + 2, none⟩ rfl).trans h.2.2.1, (hk ⟨p.block, p.off + 3, none⟩ rfl).trans h.2.2.2⟩

mutual
def ExV (w : World) (L B : Nat) (v0 v1 v2 v3 : Value) : Ex → Prop
  | .mk k n name args => v0 = .int .i64 k ∧ v1 = .int .i64 n ∧ (∃ (A : Option Addr) (c : Nat), v2 = .slice A name.length c ∧ RBL w L B A name ∧ name.length ≤ maxLen) ∧
      ∃ (A' : Option Addr) (c' : Nat), v3 = .slice A' args.length c' ∧ args.length ≤ maxLen ∧ (0 < args.length → ∃ ad, A' = some ad ∧ L ≤ ad.block ∧ ad.block < B ∧ ExsV w L B ad 0 args)
def ExsV (w : World) (L B : Nat) (ad : Addr) : Nat → List Ex → Prop
  | _, [] => True
  | i, e :: r => (∃ v0 v1 v2 v3, At4 w (ad.add (i * 4)) v0 v1 v2 v3 ∧ ExV w L B v0 v1 v2 v3 e) ∧ ExsV w L B ad (i + 1) r
end

/-- a slice of expressions -/
def ExL (w : World) (L B : Nat) (A : Option Addr) (l : List Ex) : Prop :=
  l.length ≤ maxLen ∧ (0 < l.length → ∃ ad, A = some ad ∧ L ≤ ad.block ∧ ad.block < B ∧ ∀ k (h : k < l.length), ∃ v0 v1 v2 v3, At4 w (ad.add (k * 4)) v0 v1 v2 v3 ∧ ExV w L B v0 v1 v2 v3 l[k])

theorem ExsV.get {w : World} {L B : Nat} {ad : Addr} : ∀ {l : List Ex} {i : Nat}, ExsV w L B ad i l → ∀ k (h : k < l.length), ∃ v0 v1 v2 v3, At4 w (ad.add ((i + k) * 4)) v0 v1 v2 v3 ∧ ExV w L B v0 v1 v2 v3 l[k]
  | [], _, _, k, h => by simp at h
  | e :: r, i, h, 0, _ => by rw [ExsV] at h; exact h.1
  | e :: r, i, h, k + 1, hk => by
    rw [ExsV] at h
    have := ExsV.get h.2 k (by simpa using hk)
    rw [show i + (k + 1) = i + 1 + k by omega]
    simpa using this
theorem ExsV.of {w : World} {L B : Nat} {ad : Addr} : ∀ {l : List Ex} {i : Nat}, (∀ k (h : k < l.length), ∃ v0 v1 v2 v3, At4 w (ad.add ((i + k) * 4)) v0 v1 v2 v3 ∧ ExV w L B v0 v1 v2 v3 l[k]) → ExsV w L B ad i l
  | [], _, _ => by rw [ExsV]; trivial
  | e :: r, i, h => by
    rw [ExsV]
    refine ⟨h 0 (by simp), ExsV.of fun k hk => ?_⟩
    have := h (k + 1) (by simpa using hk)
    rw [show i + (k + 1) = i + 1 + k by omega] at this
    simpa using this

theorem ExV.open_ {w : World} {L B : Nat} {v0 v1 v2 v3 : Value} {k n : Int} {name : List UInt8} {args : List Ex} (h : ExV w L B v0 v1 v2 v3 (.mk k n name args)) :
    ∃ (A : Option Addr) (c : Nat) (A' : Option Addr) (c' : Nat), v0 = .int .i64 k ∧ v1 = .int .i64 n ∧ v2 = .slice A name.length c ∧ v3 = .slice A' args.length c' ∧ RBL w L B A name ∧ name.length ≤ maxLen ∧ ExL w L B A' args := by
  rw [ExV] at h
  obtain ⟨e0, e1, ⟨A, c, e2, hR, hm⟩, A', c', e3, hm', hx⟩ := h
  refine ⟨A, c, A', c', e0, e1, e2, e3, hR, hm, hm', fun hn => ?_⟩
  obtain ⟨ad, eA, hL, hB, hs⟩ := hx hn
  refine ⟨ad, eA, hL, hB, fun k hk => ?_⟩
  have := hs.get k hk
  rwa [Nat.zero_add] at this
theorem ExV.mk_ {w : World} {L B : Nat} {k n : Int} {name : List UInt8} {args : List Ex} {A A' : Option Addr} {c c' : Nat} (hR : RBL w L B A name) (hm : name.length ≤ maxLen) (hx : ExL w L B A' args) :
    ExV w L B (.int .i64 k) (.int .i64 n) (.slice A name.length c) (.slice A' args.length c') (.mk k n name args) := by
  rw [ExV]
  refine ⟨rfl, rfl, ⟨A, c, rfl, hR, hm⟩, A', c', rfl, hx.1, fun hn => ?_⟩
  obtain ⟨ad, eA, hL, hB, hs⟩ := hx.2 hn
  refine ⟨ad, eA, hL, hB, ExsV.of fun k hk => ?_⟩
  rw [Nat.zero_add]; exact hs k hk

theorem ExV.shape {w : World} {L B : Nat} {v0 v1 v2 v3 : Value} {e : Ex} (h : ExV w L B v0 v1 v2 v3 e) :
    ∃ (k n : Int) (A : Option Addr) (a c : Nat) (A' : Option Addr) (a' c' : Nat), v0 = .int .i64 k ∧ v1 = .int .i64 n ∧ v2 = .slice A a c ∧ v3 = .slice A' a' c' := by
  cases e with
  | mk k n name args =>
    obtain ⟨A, c, A', c', e0, e1, e2, e3, _⟩ := h.open_
    exact ⟨_, _, _, _, _, _, _, _, e0, e1, e2, e3⟩
theorem ExV.keep {w w' : World} {L B : Nat} (hk : ∀ p : Addr, L ≤ p.block → p.block < B → w'.cell? p = w.cell? p) (e : Ex) : ∀ v0 v1 v2 v3, ExV w L B v0 v1 v2 v3 e → ExV w' L B v0 v1 v2 v3 e := by
  refine Ex.ind (P := fun e => ∀ v0 v1 v2 v3, ExV w L B v0 v1 v2 v3 e → ExV w' L B v0 v1 v2 v3 e) ?_ e
  intro k n name args ih v0 v1 v2 v3 h
  obtain ⟨A, c, A', c', rfl, rfl, rfl, rfl, hR, hm, hx⟩ := h.open_
  refine ExV.mk_ (hR.keep hk) hm ⟨hx.1, fun hn => ?_⟩
  obtain ⟨ad, eA, hL, hB, hs⟩ := hx.2 hn
  refine ⟨ad, eA, hL, hB, fun j hj => ?_⟩
  obtain ⟨u0, u1, u2, u3, h4, hv⟩ := hs j hj
  exact ⟨u0, u1, u2, u3, h4.keep (fun q hq => hk q (by rw [hq, block_of_add]; exact hL) (by rw [hq, block_of_add]; exact hB)), ih _ (List.getElem_mem hj) _ _ _ _ hv⟩
theorem ExL.keep {w w' : World} {L B : Nat} {A : Option Addr} {l : List Ex} (h : ExL w L B A l) (hk : ∀ p : Addr, L ≤ p.block → p.block < B → w'.cell? p = w.cell? p) : ExL w' L B A l := by
  refine ⟨h.1, fun hn => ?_⟩
  obtain ⟨ad, eA, hL, hB, hs⟩ := h.2 hn
  refine ⟨ad, eA, hL, hB, fun j hj => ?_⟩
  obtain ⟨u0, u1, u2, u3, h4, hv⟩ := hs j hj
  exact ⟨u0, u1, u2, u3, h4.keep (fun q hq => hk q (by rw [hq, block_of_add]; exact hL) (by rw [hq, block_of_add]; exact hB)), ExV.keep hk _ _ _ _ _ hv⟩
theorem ExV.more {w : World} {L B L' B' : Nat} (hL : L' ≤ L) (hB : B ≤ B') (e : Ex) : ∀ v0 v1 v2 v3, ExV w L B v0 v1 v2 v3 e → ExV w L' B' v0 v1 v2 v3 e := by
  refine Ex.ind (P := fun e => ∀ v0 v1 v2 v3, ExV w L B v0 v1 v2 v3 e → ExV w L' B' v0 v1 v2 v3 e) ?_ e
  intro k n name args ih v0 v1 v2 v3 h
  obtain ⟨A, c, A', c', rfl, rfl, rfl, rfl, hR, hm, hx⟩ := h.open_
  refine ExV.mk_ (hR.more hL hB) hm ⟨hx.1, fun hn => ?_⟩
  obtain ⟨ad, eA, hL', hB', hs⟩ := hx.2 hn
  refine ⟨ad, eA, by omega, by omega, fun j hj => ?_⟩
  obtain ⟨u0, u1, u2, u3, h4, hv⟩ := hs j hj
  exact ⟨u0, u1, u2, u3, h4, ih _ (List.getElem_mem hj) _ _ _ _ hv⟩
theorem ExL.more {w : World} {L B L' B' : Nat} {A : Option Addr} {l : List Ex} (h : ExL w L B A l) (hL : L' ≤ L) (hB : B ≤ B') : ExL w L' B' A l := by
  refine ⟨h.1, fun hn => ?_⟩
  obtain ⟨ad, eA, hL', hB', hs⟩ := h.2 hn
  refine ⟨ad, eA, by omega, by omega, fun j hj => ?_⟩
  obtain ⟨u0, u1, u2, u3, h4, hv⟩ := hs j hj
  exact ⟨u0, u1, u2, u3, h4, ExV.more hL hB _ _ _ _ _ hv⟩
theorem ExV.below {w w' : World} {L B : Nat} {v0 v1 v2 v3 : Value} {e : Ex} (h : ExV w L B v0 v1 v2 v3 e) (hb : Below B w w') : ExV w' L B v0 v1 v2 v3 e := ExV.keep (fun _ _ hp => hb.cell hp) e _ _ _ _ h
theorem ExL.below {w w' : World} {L B : Nat} {A : Option Addr} {l : List Ex} (h : ExL w L B A l) (hb : Below B w w') : ExL w' L B A l := h.keep fun _ _ hp => hb.cell hp
theorem RBL.below {w w' : World} {L B : Nat} {A : Option Addr} {l : List UInt8} (h : RBL w L B A l) (hb : Below B w w') : RBL w' L B A l := h.keep fun _ _ hp => hb.cell hp

-- the laws' own size
mutual
def exSz : Ex → Nat
  | .mk _ _ name args => name.length + exsSz args
def exsSz : List Ex → Nat
  | [] => 0
  | e :: r => 1 + exSz e + exsSz r
end
theorem exsSz_step : ∀ {l : List Ex} {k : Nat} (hk : k < l.length), exsSz (l.take (k + 1)) = exsSz (l.take k) + 1 + exSz l[k]
  | [], k, hk => by simp at hk
  | e :: r, 0, hk => by simp [exsSz]
  | e :: r, k + 1, hk => by
    have := exsSz_step (l := r) (k := k) (by simpa using hk)
    simp only [List.take_succ_cons, exsSz, List.getElem_cons_succ]
    omega
theorem exsSz_get : ∀ {l : List Ex} {k : Nat} (hk : k < l.length), exSz l[k] + 1 ≤ exsSz l
  | [], k, hk => by simp at hk
  | e :: r, 0, hk => by simp [exsSz]; omega
  | e :: r, k + 1, hk => by
    have := exsSz_get (l := r) (k := k) (by simpa using hk)
    simp only [exsSz, List.getElem_cons_succ]
    omega
theorem exsSz_len : ∀ (l : List Ex), l.length ≤ exsSz l
  | [] => by simp
  | e :: r => by have := exsSz_len r; simp only [exsSz, List.length_cons]; omega
/-- the sizes of the first k -/
def exsIn (l : List Ex) (k : Nat) : Nat := ((l.take k).map exSz).sum
theorem exsIn_step {l : List Ex} {k : Nat} (hk : k < l.length) : exsIn l (k + 1) = exsIn l k + exSz l[k] := by
  unfold exsIn
  rw [List.take_succ_eq_append_getElem hk, List.map_append, List.sum_append]
  simp
theorem exsSz_all : ∀ (l : List Ex), exsSz l = l.length + exsIn l l.length
  | [] => by simp [exsSz, exsIn]
  | e :: r => by
    have h := exsSz_all r
    unfold exsIn at h ⊢
    rw [List.take_length] at h ⊢
    rw [exsSz, h, List.map_cons, List.sum_cons, List.length_cons]
    omega
theorem exSz_mk (k n : Int) (name : List UInt8) (args : List Ex) : exSz (.mk k n name args) = name.length + exsSz args := by rw [exSz]
end Go.Proofs.Ytofnkhejpkfokaa
