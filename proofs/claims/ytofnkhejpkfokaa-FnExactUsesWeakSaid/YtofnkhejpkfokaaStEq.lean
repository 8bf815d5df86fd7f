/-
  The laws' own likeness of statements.
-/
import Derived.Test.YtofnkhejpkfokaaSt
import Derived.Test.YtofnkhejpkfokaaExEq
namespace Go.Proofs.Ytofnkhejpkfokaa
open Go.RowKit
set_option linter.unusedVariables false

def EqSt (s : St) : Prop := ∀ (vs us : List Value) (w : World) (L B L' B' : Nat), StV w L B vs s → StV w L' B' us s → B ≤ w.heap.size → B' ≤ w.heap.size → stSz s ≤ 1048576 →
  Calls Try.prog 111 #[.agg vs.toArray, .agg us.toArray] w fun r w' => r = .returned (.bool true) ∧ Below w.heap.size w w'

set_option maxRecDepth 100000 in
set_option maxHeartbeats 1000000 in
theorem eqStS_of (l : List St) (ih : ∀ s ∈ l, EqSt s) (A A' : Option Addr) (c c' L B L' B' : Nat) (w : World) (hB : B ≤ w.heap.size) (hB' : B' ≤ w.heap.size) (hl : stsSz l ≤ 1048576) (h : StL w L B A l) (h' : StL w L' B' A' l) :
    Calls Try.prog 81 #[.slice A l.length c, .slice A' l.length c'] w fun r w' => r = .returned (.bool true) ∧ Below w.heap.size w w' := by
  have hlen := stsSz_len l
  have Ih := Lib.hid ih
  clear ih
  go_enter Try.func81, Try.ntmps81
  go_wp2
  go_loopw [5] (fun i wr => ∃ (k : Nat), k ≤ l.length ∧ i = .int .i64 k ∧ Below w.heap.size w wr) (fun i _ => l.length - (intOf i).toNat)
  case atStart => exact ⟨0, Nat.zero_le _, rfl, Below.refl _ _⟩
  case round =>
    obtain ⟨k, hk, rfl, hbl⟩ := hrel
    by_cases hlt : k < l.length
    · obtain ⟨ad, rfl, _, hb, hat⟩ := (h.below (hbl.mono hB)).2 (by omega)
      obtain ⟨vs, hvs, hv⟩ := hat k hlt
      obtain ⟨ad', rfl, _, hb', hat'⟩ := (h'.below (hbl.mono hB')).2 (by omega)
      obtain ⟨us, hus, hu⟩ := hat' k hlt
      obtain ⟨x1, x2, x3, x4, x5, x6, x7, x8, x9, x10, x11, x12, x13, x14, x15, x16, x17, x18, x19, x20, x21, x22, x23, x24, x25, x26, rfl⟩ := hv.shape
      obtain ⟨y1, y2, y3, y4, y5, y6, y7, y8, y9, y10, y11, y12, y13, y14, y15, y16, y17, y18, y19, y20, y21, y22, y23, y24, y25, y26, rfl⟩ := hu.shape
      have c0 := hvs 0 _ rfl
      have c1 := hvs 1 _ rfl
      have c2 := hvs 2 _ rfl
      have c3 := hvs 3 _ rfl
      have c4 := hvs 4 _ rfl
      have c5 := hvs 5 _ rfl
      have c6 := hvs 6 _ rfl
      have c7 := hvs 7 _ rfl
      have c8 := hvs 8 _ rfl
      have c9 := hvs 9 _ rfl
      have c10 := hvs 10 _ rfl
      have c11 := hvs 11 _ rfl
      simp only [if_true, Nat.reduceEqDiff, if_false] at c0 c1 c2 c3 c4 c5 c6 c7 c8 c9 c10 c11
      clear hvs
      have d0 := hus 0 _ rfl
      have d1 := hus 1 _ rfl
      have d2 := hus 2 _ rfl
      have d3 := hus 3 _ rfl
      have d4 := hus 4 _ rfl
      have d5 := hus 5 _ rfl
      have d6 := hus 6 _ rfl
      have d7 := hus 7 _ rfl
      have d8 := hus 8 _ rfl
      have d9 := hus 9 _ rfl
      have d10 := hus 10 _ rfl
      have d11 := hus 11 _ rfl
      simp only [if_true, Nat.reduceEqDiff, if_false] at d0 d1 d2 d3 d4 d5 d6 d7 d8 d9 d10 d11
      clear hus
      have hsz1 := stsSz_get hlt
      have hc := Ih.out l[k] (List.getElem_mem hlt) _ _ wr.drew L B L' B' (StV.keep (w := wr) (w' := wr.drew) (fun _ _ _ => rfl) _ _ hv) (StV.keep (w := wr) (w' := wr.drew) (fun _ _ _ => rfl) _ _ hu) (Nat.le_trans hB hbl.size) (Nat.le_trans hB' hbl.size) (by omega)
      have Hc := Lib.hid hc
      clear hc hat hat'
      go_wp2
      go_still_tail 8, (by kernel_rfl)
      change wpList _ _ _ _ _ wr.drew
      go_wp2_with fail
      refine Hc.out.mono ?_
      rintro e w1 ⟨rfl, hb1⟩
      go_wp2
      go_roundw
      case rel => exact ⟨k + 1, by omega, by go_num, hbl.drew.trans (hb1.mono hbl.size)⟩
      case measure => simp [intOf]; omega
    · go_wp2
      go_ret
      exact ⟨rfl, hbl⟩


theorem ExV.drewN_ {w : World} {L B : Nat} {v0 v1 v2 v3 : Value} {e : Ex} (m : Nat) (h : ExV w L B v0 v1 v2 v3 e) : ExV (w.drewN m) L B v0 v1 v2 v3 e := ExV.keep (w := w) (w' := w.drewN m) (fun _ _ _ => rfl) _ _ _ _ _ h
theorem StL.drewN_ {w : World} {L B : Nat} {A : Option Addr} {l : List St} (m : Nat) (h : StL w L B A l) : StL (w.drewN m) L B A l := StL.keep (w := w) (w' := w.drewN m) h (fun _ _ _ => rfl)
theorem Blk.drewN_ {w : World} {g : Nat} {t : TypeId} {cs : Array Value} (m : Nat) (h : Blk w g t cs) : Blk (w.drewN m) g t cs := h
theorem ExV.same {w w' : World} {L B L' B' : Nat} {v0 v1 v2 v3 u0 u1 u2 u3 : Value} {e : Ex} (h : ExV w L B v0 v1 v2 v3 e) (h' : ExV w' L' B' u0 u1 u2 u3 e) :
    ∃ (k n : Int) (A A' D D' : Option Addr) (a c a' c' d d' : Nat), v0 = .int .i64 k ∧ v1 = .int .i64 n ∧ v2 = .slice A a c ∧ v3 = .slice A' a' c' ∧ u0 = .int .i64 k ∧ u1 = .int .i64 n ∧ u2 = .slice D a d ∧ u3 = .slice D' a' d' := by
  cases e with
  | mk k n name args =>
    obtain ⟨A, c, A', c', e0, e1, e2, e3, _⟩ := h.open_
    obtain ⟨D, d, D', d', f0, f1, f2, f3, _⟩ := h'.open_
    exact ⟨k, n, A, A', D, D', _, c, _, c', d, d', e0, e1, e2, e3, f0, f1, f2, f3⟩

set_option maxRecDepth 100000 in
set_option maxHeartbeats 4000000 in
theorem eqSt_c (s : St) : EqSt s := by
  refine St.ind (P := EqSt) ?_ s
  intro k name e f body els ih1 ih2 vs us w L B L' B' hv hu hB hB' hsz
  obtain ⟨pA, pc, e0, e1, e2, e3, f0, f1, f2, f3, pA5, pc5, pA6, pc6, rfl, hR, hm, he, hf, hb, hx⟩ := hv.open_
  obtain ⟨qA, qc, o0, o1, o2, o3, r0, r1, r2, r3, qA5, qc5, qA6, qc6, rfl, hR', _, he', hf', hb', hx'⟩ := hu.open_
  obtain ⟨ek, en, pA1, pA2, qA1, qA2, a1, pc1, a2, pc2, qc1, qc2, rfl, rfl, rfl, rfl, rfl, rfl, rfl, rfl⟩ := he.same he'
  obtain ⟨fk, fn, pA3, pA4, qA3, qA4, a3, pc3, a4, pc4, qc3, qc4, rfl, rfl, rfl, rfl, rfl, rfl, rfl, rfl⟩ := hf.same hf'
  rw [stSz_mk] at hsz
  have hb0 : Below w.heap.size w ((w.alloc (.cells #[.int .i64 k, .slice pA name.length pc, .int .i64 ek, .int .i64 en, .slice pA1 a1 pc1, .slice pA2 a2 pc2, .int .i64 fk, .int .i64 fn, .slice pA3 a3 pc3, .slice pA4 a4 pc4, .slice pA5 body.length pc5, .slice pA6 els.length pc6] 90)).alloc (.cells #[.int .i64 k, .slice qA name.length qc, .int .i64 ek, .int .i64 en, .slice qA1 a1 qc1, .slice qA2 a2 qc2, .int .i64 fk, .int .i64 fn, .slice qA3 a3 qc3, .slice qA4 a4 qc4, .slice qA5 body.length qc5, .slice qA6 els.length qc6] 90)) := ((Below.refl _ _).alloc (Nat.le_refl _) _).alloc (by simp) _
  have K1 : Blk ((w.alloc (.cells #[.int .i64 k, .slice pA name.length pc, .int .i64 ek, .int .i64 en, .slice pA1 a1 pc1, .slice pA2 a2 pc2, .int .i64 fk, .int .i64 fn, .slice pA3 a3 pc3, .slice pA4 a4 pc4, .slice pA5 body.length pc5, .slice pA6 els.length pc6] 90)).alloc (.cells #[.int .i64 k, .slice qA name.length qc, .int .i64 ek, .int .i64 en, .slice qA1 a1 qc1, .slice qA2 a2 qc2, .int .i64 fk, .int .i64 fn, .slice qA3 a3 qc3, .slice qA4 a4 qc4, .slice qA5 body.length qc5, .slice qA6 els.length qc6] 90)) w.heap.size 90 #[.int .i64 k, .slice pA name.length pc, .int .i64 ek, .int .i64 en, .slice pA1 a1 pc1, .slice pA2 a2 pc2, .int .i64 fk, .int .i64 fn, .slice pA3 a3 pc3, .slice pA4 a4 pc4, .slice pA5 body.length pc5, .slice pA6 els.length pc6] := (Blk.new w _ _).alloc _
  have K2 : Blk ((w.alloc (.cells #[.int .i64 k, .slice pA name.length pc, .int .i64 ek, .int .i64 en, .slice pA1 a1 pc1, .slice pA2 a2 pc2, .int .i64 fk, .int .i64 fn, .slice pA3 a3 pc3, .slice pA4 a4 pc4, .slice pA5 body.length pc5, .slice pA6 els.length pc6] 90)).alloc (.cells #[.int .i64 k, .slice qA name.length qc, .int .i64 ek, .int .i64 en, .slice qA1 a1 qc1, .slice qA2 a2 qc2, .int .i64 fk, .int .i64 fn, .slice qA3 a3 qc3, .slice qA4 a4 qc4, .slice qA5 body.length qc5, .slice qA6 els.length qc6] 90)) (w.heap.size + 1) 90 #[.int .i64 k, .slice qA name.length qc, .int .i64 ek, .int .i64 en, .slice qA1 a1 qc1, .slice qA2 a2 qc2, .int .i64 fk, .int .i64 fn, .slice qA3 a3 qc3, .slice qA4 a4 qc4, .slice qA5 body.length qc5, .slice qA6 els.length qc6] := by
    have := Blk.new (w.alloc (.cells #[.int .i64 k, .slice pA name.length pc, .int .i64 ek, .int .i64 en, .slice pA1 a1 pc1, .slice pA2 a2 pc2, .int .i64 fk, .int .i64 fn, .slice pA3 a3 pc3, .slice pA4 a4 pc4, .slice pA5 body.length pc5, .slice pA6 els.length pc6] 90)) 90 #[.int .i64 k, .slice qA name.length qc, .int .i64 ek, .int .i64 en, .slice qA1 a1 qc1, .slice qA2 a2 qc2, .int .i64 fk, .int .i64 fn, .slice qA3 a3 qc3, .slice qA4 a4 qc4, .slice qA5 body.length qc5, .slice qA6 els.length qc6]
    simpa using this
  have hR0 := (hR.below (hb0.mono hB)).1
  have hS0 := (hR'.below (hb0.mono hB')).1
  have x1 := he.below (hb0.mono hB)
  have y1 := he'.below (hb0.mono hB')
  have x2 := hf.below (hb0.mono hB)
  have y2 := hf'.below (hb0.mono hB')
  have x3 := hb.below (hb0.mono hB)
  have y3 := hb'.below (hb0.mono hB')
  have x4 := hx.below (hb0.mono hB)
  have y4 := hx'.below (hb0.mono hB')
  have I1 := Lib.hid ih1
  have I2 := Lib.hid ih2
  have hw0 := hb0.size
  have HK1 := Lib.hid K1
  have HK2 := Lib.hid K2
  clear ih1 ih2 hv hu hR hR' he he' hf hf' hb hb' hx hx' K1 K2
  go_enter Try.func111, Try.ntmps111
  go_wp2_with fail
  refine (eqByteS_c name pA qA pc qc B B' _ (by omega) hR0 hS0).mono ?_
  rintro e' w1 ⟨rfl, m, rfl⟩
  have b1 := below_drewN hb0 m
  go_wp2_with fail
  refine (eqEx_c e _ _ _ _ _ _ _ _ _ L B L' B' (ExV.drewN_ m x1) (ExV.drewN_ m y1) (by simp; omega) (by simp; omega) (by omega)).mono ?_
  rintro e' w2 ⟨rfl, hc2⟩
  have b2 := b1.trans (hc2.mono b1.size)
  have K12 := (Blk.drewN_ m HK1.out).below hc2 (Blk.drewN_ m HK1.out).lt
  have K22 := (Blk.drewN_ m HK2.out).below hc2 (Blk.drewN_ m HK2.out).lt
  have h12 := ExV.below (ExV.drewN_ m x2) (hc2.mono (by simp; omega))
  have h22 := ExV.below (ExV.drewN_ m y2) (hc2.mono (by simp; omega))
  have h32 := (StL.drewN_ m x3).below (hc2.mono (by simp; omega))
  have h42 := (StL.drewN_ m y3).below (hc2.mono (by simp; omega))
  have h52 := (StL.drewN_ m x4).below (hc2.mono (by simp; omega))
  have h62 := (StL.drewN_ m y4).below (hc2.mono (by simp; omega))
  have s2 := b2.size
  have p6 := K12.cell_of 6 rfl
  have q6 := K22.cell_of 6 rfl
  have p7 := K12.cell_of 7 rfl
  have q7 := K22.cell_of 7 rfl
  have p8 := K12.cell_of 8 rfl
  have q8 := K22.cell_of 8 rfl
  have p9 := K12.cell_of 9 rfl
  have q9 := K22.cell_of 9 rfl
  clear hc2 x1 y1 x2 y2 x3 y3 x4 y4 hR0 hS0
  go_wp2_with fail
  refine (eqEx_c f _ _ _ _ _ _ _ _ w2 L B L' B' h12 h22 (by omega) (by omega) (by omega)).mono ?_
  rintro e' w3 ⟨rfl, hc3⟩
  have b3 := b2.trans (hc3.mono b2.size)
  have K13 := K12.below hc3 K12.lt
  have K23 := K22.below hc3 K22.lt
  have h33 := h32.below (hc3.mono (by omega))
  have h43 := h42.below (hc3.mono (by omega))
  have h53 := h52.below (hc3.mono (by omega))
  have h63 := h62.below (hc3.mono (by omega))
  have s3 := b3.size
  have p10 := K13.cell_of 10 rfl
  have q10 := K23.cell_of 10 rfl
  clear hc3 h12 h22 h32 h42 h52 h62
  go_wp2_with fail
  refine (eqStS_of body I1.out pA5 qA5 pc5 qc5 L B L' B' w3 (by omega) (by omega) (by omega) h33 h43).mono ?_
  rintro e' w4 ⟨rfl, hc4⟩
  have b4 := b3.trans (hc4.mono b3.size)
  have K14 := K13.below hc4 K13.lt
  have K24 := K23.below hc4 K23.lt
  have h54 := h53.below (hc4.mono (by omega))
  have h64 := h63.below (hc4.mono (by omega))
  have s4 := b4.size
  have p11 := K14.cell_of 11 rfl
  have q11 := K24.cell_of 11 rfl
  clear hc4 h33 h43 h53 h63 p10 q10
  go_wp2_with fail
  refine (eqStS_of els I2.out pA6 qA6 pc6 qc6 L B L' B' w4 (by omega) (by omega) (by omega) h54 h64).mono ?_
  rintro e' w5 ⟨rfl, hc5⟩
  go_wp2
  go_ret
  exact ⟨rfl, b4.trans (hc5.mono b4.size)⟩
theorem eqStS_c (l : List St) (A A' : Option Addr) (c c' L B L' B' : Nat) (w : World) (hB : B ≤ w.heap.size) (hB' : B' ≤ w.heap.size) (hl : stsSz l ≤ 1048576) (h : StL w L B A l) (h' : StL w L' B' A' l) :
    Calls Try.prog 81 #[.slice A l.length c, .slice A' l.length c'] w fun r w' => r = .returned (.bool true) ∧ Below w.heap.size w w' :=
  eqStS_of l (fun s _ => eqSt_c s) A A' c c' L B L' B' w hB hB' hl h h'
end Go.Proofs.Ytofnkhejpkfokaa
