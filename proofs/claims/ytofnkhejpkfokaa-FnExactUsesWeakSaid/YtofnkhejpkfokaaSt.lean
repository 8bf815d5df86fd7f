/-
  Statements in memory: what twelve cells, and a slice of statements, read as.
-/
import Derived.Test.YtofnkhejpkfokaaEx
namespace Go.Proofs.Ytofnkhejpkfokaa
open Go.RowKit
set_option linter.unusedVariables false

inductive St where
  | mk (kind : Int) (name : List UInt8) (e f : Ex) (body els : List St)

mutual
theorem St.ind {P : St → Prop} (step : ∀ k name e f body els, (∀ s ∈ body, P s) → (∀ s ∈ els, P s) → P (.mk k name e f body els)) : ∀ s : St, P s
  | .mk k name e f body els => step k name e f body els (St.inds step body) (St.inds step els)
theorem St.inds {P : St → Prop} (step : ∀ k name e f body els, (∀ s ∈ body, P s) → (∀ s ∈ els, P s) → P (.mk k name e f body els)) : ∀ l : List St, ∀ s ∈ l, P s
  | [] => fun e h => absurd h (by simp)
  | x :: r => fun e h => by
    rcases List.mem_cons.1 h with h1 | h1
    · rw [h1]; exact St.ind step x
    · exact St.inds step r e h1
end

/-- cells from p on -/
def AtN (w : World) (p : Addr) (vs : List Value) : Prop := ∀ (j : Nat) (v : Value), vs[j]? = some v → w.cell? (if j = 0 then p else ⟨p.block, p.off + j, none⟩) = some v
theorem AtN.keep {w w' : World} {p : Addr} {vs : List Value} (h : AtN w p vs) (hk : ∀ q : Addr, q.block = p.block → w'.cell? q = w.cell? q) : AtN w' p vs := fun j v hv => by
  rw [hk _ (by split <;> rfl)]; exact h j v hv

mutual
def StV (w : World) (L B : Nat) (vs : List Value) : St → Prop
  | .mk k name e f body els => ∃ (A : Option Addr) (c : Nat) (e0 e1 e2 e3 f0 f1 f2 f3 : Value) (A1 : Option Addr) (c1 : Nat) (A2 : Option Addr) (c2 : Nat),
      vs = [.int .i64 k, .slice A name.length c, e0, e1, e2, e3, f0, f1, f2, f3, .slice A1 body.length c1, .slice A2 els.length c2] ∧ RBL w L B A name ∧ name.length ≤ maxLen ∧
      ExV w L B e0 e1 e2 e3 e ∧ ExV w L B f0 f1 f2 f3 f ∧ body.length ≤ maxLen ∧ els.length ≤ maxLen ∧
      (0 < body.length → ∃ ad, A1 = some ad ∧ L ≤ ad.block ∧ ad.block < B ∧ StsV w L B ad 0 body) ∧ (0 < els.length → ∃ ad, A2 = some ad ∧ L ≤ ad.block ∧ ad.block < B ∧ StsV w L B ad 0 els)
def StsV (w : World) (L B : Nat) (ad : Addr) : Nat → List St → Prop
  | _, [] => True
  | i, s :: r => (∃ vs, AtN w (ad.add (i * 12)) vs ∧ StV w L B vs s) ∧ StsV w L B ad (i + 1) r
end

def StL (w : World) (L B : Nat) (A : Option Addr) (l : List St) : Prop :=
  l.length ≤ maxLen ∧ (0 < l.length → ∃ ad, A = some ad ∧ L ≤ ad.block ∧ ad.block < B ∧ ∀ k (h : k < l.length), ∃ vs, AtN w (ad.add (k * 12)) vs ∧ StV w L B vs l[k])

theorem StsV.get {w : World} {L B : Nat} {ad : Addr} : ∀ {l : List St} {i : Nat}, StsV w L B ad i l → ∀ k (h : k < l.length), ∃ vs, AtN w (ad.add ((i + k) * 12)) vs ∧ StV w L B vs l[k]
  | [], _, _, k, h => by simp at h
  | e :: r, i, h, 0, _ => by rw [StsV] at h; exact h.1
  | e :: r, i, h, k + 1, hk => by
    rw [StsV] at h
    have := StsV.get h.2 k (by simpa using hk)
    rw [show i + (k + 1) = i + 1 + k by omega]
    simpa using this
theorem StsV.of {w : World} {L B : Nat} {ad : Addr} : ∀ {l : List St} {i : Nat}, (∀ k (h : k < l.length), ∃ vs, AtN w (ad.add ((i + k) * 12)) vs ∧ StV w L B vs l[k]) → StsV w L B ad i l
  | [], _, _ => by rw [StsV]; trivial
  | e :: r, i, h => by
    rw [StsV]
    refine ⟨h 0 (by simp), StsV.of fun k hk => ?_⟩
    have := h (k + 1) (by simpa using hk)
    rw [show i + (k + 1) = i + 1 + k by omega] at this
    simpa using this

theorem StV.open_ {w : World} {L B : Nat} {vs : List Value} {k : Int} {name : List UInt8} {e f : Ex} {body els : List St} (h : StV w L B vs (.mk k name e f body els)) :
    ∃ (A : Option Addr) (c : Nat) (e0 e1 e2 e3 f0 f1 f2 f3 : Value) (A1 : Option Addr) (c1 : Nat) (A2 : Option Addr) (c2 : Nat),
      vs = [.int .i64 k, .slice A name.length c, e0, e1, e2, e3, f0, f1, f2, f3, .slice A1 body.length c1, .slice A2 els.length c2] ∧ RBL w L B A name ∧ name.length ≤ maxLen ∧
      ExV w L B e0 e1 e2 e3 e ∧ ExV w L B f0 f1 f2 f3 f ∧ StL w L B A1 body ∧ StL w L B A2 els := by
  rw [StV] at h
  obtain ⟨A, c, e0, e1, e2, e3, f0, f1, f2, f3, A1, c1, A2, c2, hvs, hR, hm, he, hf, m1, m2, h1, h2⟩ := h
  refine ⟨A, c, e0, e1, e2, e3, f0, f1, f2, f3, A1, c1, A2, c2, hvs, hR, hm, he, hf, ⟨m1, fun hn => ?_⟩, ⟨m2, fun hn => ?_⟩⟩
  · obtain ⟨ad, eA, hL, hB, hs⟩ := h1 hn
    refine ⟨ad, eA, hL, hB, fun k hk => ?_⟩
    have := hs.get k hk
    rwa [Nat.zero_add] at this
  · obtain ⟨ad, eA, hL, hB, hs⟩ := h2 hn
    refine ⟨ad, eA, hL, hB, fun k hk => ?_⟩
    have := hs.get k hk
    rwa [Nat.zero_add] at this
theorem StV.mk_ {w : World} {L B : Nat} {k : Int} {name : List UInt8} {e f : Ex} {body els : List St} {A A1 A2 : Option Addr} {c c1 c2 : Nat} {e0 e1 e2 e3 f0 f1 f2 f3 : Value}
    (hR : RBL w L B A name) (hm : name.length ≤ maxLen) (he : ExV w L B e0 e1 e2 e3 e) (hf : ExV w L B f0 f1 f2 f3 f) (h1 : StL w L B A1 body) (h2 : StL w L B A2 els) :
    StV w L B [.int .i64 k, .slice A name.length c, e0, e1, e2, e3, f0, f1, f2, f3, .slice A1 body.length c1, .slice A2 els.length c2] (.mk k name e f body els) := by
  rw [StV]
  refine ⟨A, c, e0, e1, e2, e3, f0, f1, f2, f3, A1, c1, A2, c2, rfl, hR, hm, he, hf, h1.1, h2.1, fun hn => ?_, fun hn => ?_⟩
  · obtain ⟨ad, eA, hL, hB, hs⟩ := h1.2 hn
    refine ⟨ad, eA, hL, hB, StsV.of fun k hk => ?_⟩
    rw [Nat.zero_add]; exact hs k hk
  · obtain ⟨ad, eA, hL, hB, hs⟩ := h2.2 hn
    refine ⟨ad, eA, hL, hB, StsV.of fun k hk => ?_⟩
    rw [Nat.zero_add]; exact hs k hk

theorem StL.map {w w' : World} {L B L' B' : Nat} {A : Option Addr} {l : List St} (h : StL w L B A l) (hL : L' ≤ L) (hB : B ≤ B') (hk : ∀ p : Addr, L ≤ p.block → p.block < B → w'.cell? p = w.cell? p)
    (hs : ∀ s ∈ l, ∀ vs, StV w L B vs s → StV w' L' B' vs s) : StL w' L' B' A l := by
  refine ⟨h.1, fun hn => ?_⟩
  obtain ⟨ad, eA, hL1, hB1, hx⟩ := h.2 hn
  refine ⟨ad, eA, by omega, by omega, fun j hj => ?_⟩
  obtain ⟨vs, h4, hv⟩ := hx j hj
  exact ⟨vs, h4.keep (fun q hq => hk q (by rw [hq, block_of_add]; exact hL1) (by rw [hq, block_of_add]; exact hB1)), hs _ (List.getElem_mem hj) _ hv⟩
theorem StV.keep {w w' : World} {L B : Nat} (hk : ∀ p : Addr, L ≤ p.block → p.block < B → w'.cell? p = w.cell? p) (s : St) : ∀ vs, StV w L B vs s → StV w' L B vs s := by
  refine St.ind (P := fun s => ∀ vs, StV w L B vs s → StV w' L B vs s) ?_ s
  intro k name e f body els ih1 ih2 vs h
  obtain ⟨A, c, e0, e1, e2, e3, f0, f1, f2, f3, A1, c1, A2, c2, rfl, hR, hm, he, hf, h1, h2⟩ := h.open_
  exact StV.mk_ (hR.keep hk) hm (ExV.keep hk _ _ _ _ _ he) (ExV.keep hk _ _ _ _ _ hf) (h1.map (Nat.le_refl _) (Nat.le_refl _) hk ih1) (h2.map (Nat.le_refl _) (Nat.le_refl _) hk ih2)
theorem StL.keep {w w' : World} {L B : Nat} {A : Option Addr} {l : List St} (h : StL w L B A l) (hk : ∀ p : Addr, L ≤ p.block → p.block < B → w'.cell? p = w.cell? p) : StL w' L B A l :=
  h.map (Nat.le_refl _) (Nat.le_refl _) hk fun s _ vs hv => StV.keep hk s vs hv
theorem StV.more {w : World} {L B L' B' : Nat} (hL : L' ≤ L) (hB : B ≤ B') (s : St) : ∀ vs, StV w L B vs s → StV w L' B' vs s := by
  refine St.ind (P := fun s => ∀ vs, StV w L B vs s → StV w L' B' vs s) ?_ s
  intro k name e f body els ih1 ih2 vs h
  obtain ⟨A, c, e0, e1, e2, e3, f0, f1, f2, f3, A1, c1, A2, c2, rfl, hR, hm, he, hf, h1, h2⟩ := h.open_
  exact StV.mk_ (hR.more hL hB) hm (ExV.more hL hB _ _ _ _ _ he) (ExV.more hL hB _ _ _ _ _ hf) (h1.map hL hB (fun _ _ _ => rfl) ih1) (h2.map hL hB (fun _ _ _ => rfl) ih2)
theorem StL.more {w : World} {L B L' B' : Nat} {A : Option Addr} {l : List St} (h : StL w L B A l) (hL : L' ≤ L) (hB : B ≤ B') : StL w L' B' A l :=
  h.map hL hB (fun _ _ _ => rfl) fun s _ vs hv => StV.more hL hB s vs hv
theorem StV.below {w w' : World} {L B : Nat} {vs : List Value} {s : St} (h : StV w L B vs s) (hb : Below B w w') : StV w' L B vs s := StV.keep (fun _ _ hp => hb.cell hp) s _ h
theorem StL.below {w w' : World} {L B : Nat} {A : Option Addr} {l : List St} (h : StL w L B A l) (hb : Below B w w') : StL w' L B A l := h.keep fun _ _ hp => hb.cell hp
theorem StV.shape {w : World} {L B : Nat} {vs : List Value} {s : St} (h : StV w L B vs s) :
    ∃ (k : Int) (A : Option Addr) (a c : Nat) (k1 n1 : Int) (A1 : Option Addr) (a1 c1 : Nat) (A2 : Option Addr) (a2 c2 : Nat) (k3 n3 : Int) (A3 : Option Addr) (a3 c3 : Nat) (A4 : Option Addr) (a4 c4 : Nat) (A5 : Option Addr) (a5 c5 : Nat) (A6 : Option Addr) (a6 c6 : Nat),
      vs = [.int .i64 k, .slice A a c, .int .i64 k1, .int .i64 n1, .slice A1 a1 c1, .slice A2 a2 c2, .int .i64 k3, .int .i64 n3, .slice A3 a3 c3, .slice A4 a4 c4, .slice A5 a5 c5, .slice A6 a6 c6] := by
  cases s with
  | mk k name e f body els =>
    obtain ⟨A, c, e0, e1, e2, e3, f0, f1, f2, f3, A1, c1, A2, c2, rfl, _, _, he, hf, _⟩ := h.open_
    obtain ⟨x1, x2, x3, x4, x5, x6, x7, x8, rfl, rfl, rfl, rfl⟩ := he.shape
    obtain ⟨y1, y2, y3, y4, y5, y6, y7, y8, rfl, rfl, rfl, rfl⟩ := hf.shape
    exact ⟨_, _, _, _, _, _, _, _, _, _, _, _, _, _, _, _, _, _, _, _, _, _, _, _, _, _, rfl⟩

-- the laws' own size
mutual
def stSz : St → Nat
  | .mk _ name e f body els => name.length + exSz e + exSz f + stsSz body + stsSz els
def stsSz : List St → Nat
  | [] => 0
  | s :: r => 1 + stSz s + stsSz r
end
theorem stSz_mk (k : Int) (name : List UInt8) (e f : Ex) (body els : List St) : stSz (.mk k name e f body els) = name.length + exSz e + exSz f + stsSz body + stsSz els := by rw [stSz]
theorem stsSz_get : ∀ {l : List St} {k : Nat} (hk : k < l.length), stSz l[k] + 1 ≤ stsSz l
  | [], k, hk => by simp at hk
  | e :: r, 0, hk => by simp [stsSz]; omega
  | e :: r, k + 1, hk => by
    have := stsSz_get (l := r) (k := k) (by simpa using hk)
    simp only [stsSz, List.getElem_cons_succ]
    omega
theorem stsSz_len : ∀ (l : List St), l.length ≤ stsSz l
  | [] => by simp
  | e :: r => by have := stsSz_len r; simp only [stsSz, List.length_cons]; omega
def stsIn (l : List St) (k : Nat) : Nat := ((l.take k).map stSz).sum
theorem stsIn_step {l : List St} {k : Nat} (hk : k < l.length) : stsIn l (k + 1) = stsIn l k + stSz l[k] := by
  unfold stsIn
  rw [List.take_succ_eq_append_getElem hk, List.map_append, List.sum_append]
  simp
theorem stsSz_all : ∀ (l : List St), stsSz l = l.length + stsIn l l.length
  | [] => by simp [stsSz, stsIn]
  | e :: r => by
    have h := stsSz_all r
    unfold stsIn at h ⊢
    rw [List.take_length] at h ⊢
    rw [stsSz, h, List.map_cons, List.sum_cons, List.length_cons]
    omega
end Go.Proofs.Ytofnkhejpkfokaa
