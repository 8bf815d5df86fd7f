/-
  GetField: what it tells; the model's l5get and GetField.
-/
import Derived.Test.YtmjpcgainoflbaaOkAt
import Derived.Test.YtmjpcgainoflbaaVals
namespace Go.Proofs.Ytmjpcgainoflbaa
open Go.RowKit
set_option linter.unusedVariables false
set_option linter.unusedSimpArgs false

def getAt (fs : List Fd) (b : List UInt8) : Vl := match fs.find? (fun f => f.name == b) with | some f => ⟨f.k, f.n, f.g⟩ | none => ⟨0, 0, 0⟩
theorem getAt_hit : ∀ {fs : List Fd} {b : List UInt8} {k : Nat} (hk : k < fs.length) (_ : ∀ j (hj : j < fs.length), j < k → (fs[j].name == b) = false) (_ : (fs[k].name == b) = true), getAt fs b = ⟨fs[k].k, fs[k].n, fs[k].g⟩
  | x :: r, b, 0, hk, hno, hy => by
    have hy' : (x.name == b) = true := hy
    unfold getAt
    rw [List.find?_cons_of_pos (p := fun f : Fd => f.name == b) hy']
    rfl
  | x :: r, b, k + 1, hk, hno, hy => by
    have h0 : (x.name == b) = false := hno 0 (by simp) (by omega)
    have ih := getAt_hit (fs := r) (b := b) (k := k) (by simpa using hk) (fun j hj h => hno (j + 1) (by simpa using hj) (by omega)) hy
    unfold getAt at ih ⊢
    rw [List.find?_cons_of_neg (p := fun f : Fd => f.name == b) (by simpa using h0)]
    exact ih
theorem getAt_none {fs : List Fd} {b : List UInt8} (h : ∀ j (hj : j < fs.length), (fs[j].name == b) = false) : getAt fs b = ⟨0, 0, 0⟩ := by
  unfold getAt
  rw [List.find?_eq_none.2 (fun x hx => by
    obtain ⟨i, hi, rfl⟩ := List.mem_iff_getElem.1 hx
    simpa using h i hi)]
def getOk (a : Ar) (k n g : Int) (b : List UInt8) : Bool := arOk a && valOk a.slots k n g && k == 2 && wordOk b
def getV (a : Ar) (n : Int) (b : List UInt8) : Vl := match slotAt a.slots n with | some s => getAt s.fs b | none => ⟨0, 0, 0⟩
def getA (a : Ar) (k n g : Int) (b : List UInt8) : Vl := if getOk a k n g b = true then getV a n b else ⟨0, 0, 0⟩
theorem getV_at {a : Ar} {m : Nat} (h : m < a.slots.length) (b : List UInt8) : getV a m b = getAt a.slots[m].fs b := by
  unfold getV
  have : slotAt a.slots (m : Int) = some a.slots[m] := by
    unfold slotAt
    rw [if_pos (by omega), Int.toNat_natCast, List.getElem?_eq_getElem h]
  rw [this]

set_option maxRecDepth 100000 in
set_option maxHeartbeats 4000000 in
theorem l5get_c (S : List Sl) (A0 A1 A2 : Option Addr) (c0 q1 c1 q2 c2 : Nat) (m : Nat) (k g : Int) (b : List UInt8) (NA : Option Addr) (nc L B BN : Nat) (w : World) (hB : B ≤ w.heap.size) (hBN : BN ≤ w.heap.size) (hsz : slsSz S ≤ 1048576) (hm : m < S.length) (h : SlL w L B A0 S) (hn : RB w BN NA b) :
    Calls Try.prog 53 #[.agg #[.slice A0 S.length c0, .slice A1 q1 c1, .slice A2 q2 c2], .agg #[.int .i64 k, .int .i64 m, .int .i64 g], .slice NA b.length nc] w fun e w' => e = .returned (.agg #[.int .i64 (getAt S[m].fs b).k, .int .i64 (getAt S[m].fs b).n, .int .i64 (getAt S[m].fs b).g]) ∧ Below w.heap.size w w' := by
  have hSl : S.length ≤ 1048576 := by unfold slsSz at hsz; omega
  have hfl : S[m].fs.length ≤ 1048576 := by
    have h1 := sum_get slSz hm
    have h2 : S[m].fs.length ≤ slSz S[m] := by unfold slSz fsSz; omega
    unfold slsSz at hsz
    omega
  have HS := Lib.hid h
  have HN := Lib.hid hn
  have hbw : Below w.heap.size w (((w.alloc (.cells #[.slice A0 S.length c0, .slice A1 q1 c1, .slice A2 q2 c2] 35)).alloc (.cells #[.int .i64 k, .int .i64 m, .int .i64 g] 30)).alloc (.cells #[.int .i64 0, .int .i64 0, .int .i64 0] 30)) :=
    (((Below.refl _ _).alloc (Nat.le_refl _) _).alloc (by simp) _).alloc (by simp; omega) _
  have Hbw := Lib.hid hbw
  clear h hn hbw hsz
  go_enter Try.func53, Try.ntmps53
  obtain ⟨ad, rfl, _, hbk, hat⟩ := (HS.out.below (Hbw.out.mono hB)).2 (by omega)
  obtain ⟨x0, x1, x2, x3, ⟨d0, d1, d2, d3⟩, rfl, rfl, rfl, FA, fc, rfl, hF⟩ := hat m hm
  have HF := Lib.hid hF
  obtain ⟨fs, hfs⟩ : ∃ f, f = S[m].fs := ⟨_, rfl⟩
  rw [← hfs] at d3 HF hfl
  rw [← hfs]
  clear hat hF hfs d0 d1 d2
  have HNW := Lib.hid (HN.out.below (Hbw.out.mono hBN))
  go_wp2_with fail
  generalize hW : ((w.alloc (.cells #[.slice (some ad) S.length c0, .slice A1 q1 c1, .slice A2 q2 c2] 35)).alloc (.cells #[.int .i64 k, .int .i64 m, .int .i64 g] 30)).alloc (.cells #[.int .i64 0, .int .i64 0, .int .i64 0] 30) = W
  rw [hW] at HF HNW Hbw
  have HKR : Hid (Blk W (w.heap.size + 1 + 1) 30 #[.int .i64 0, .int .i64 0, .int .i64 0]) := Lib.hid (by
    rw [← hW]
    have := Blk.new ((w.alloc (.cells #[.slice (some ad) S.length c0, .slice A1 q1 c1, .slice A2 q2 c2] 35)).alloc (.cells #[.int .i64 k, .int .i64 m, .int .i64 g] 30)) 30 #[.int .i64 0, .int .i64 0, .int .i64 0]
    simpa using this)
  clear hW
  go_loopw [8] (fun i wr => ∃ j : Nat, j ≤ fs.length ∧ i = .int .i64 j ∧ (∃ d, wr = W.drewN d) ∧ Hid (∀ x (hx : x < fs.length), x < j → (fs[x].name == b) = false)) (fun i _ => fs.length - (intOf i).toNat)
  case atStart => exact ⟨0, Nat.zero_le _, rfl, ⟨0, rfl⟩, Lib.hid (fun x hx h => by omega)⟩
  case round =>
    obtain ⟨j, hj, rfl, ⟨d, rfl⟩, hall⟩ := hrel
    by_cases hlt : j < fs.length
    · obtain ⟨fd, rfl, _, hfb, hfat⟩ := HF.out.2 (by omega)
      obtain ⟨y0, y1, y2, y3, ⟨f0, f1, f2, f3⟩, NF, nfc, rfl, hnf, -, rfl, rfl, rfl⟩ := hfat j hlt
      have hcv := fun d => convert_RB (P := Try.prog) (hnf.1.drewN d) 28 5 9 nfc Try.underlying28 Try.underlying5 Try.underlying9
      have hcv' := fun d => convert_RB (P := Try.prog) (HNW.out.drewN d) 28 5 9 nc Try.underlying28 Try.underlying5 Try.underlying9
      have Hhit := Lib.hid (fun hy => getAt_hit (b := b) hlt hall.out hy)
      have Hnx : Hid ((fs[j].name == b) = false → ∀ x (hx : x < fs.length), x < j + 1 → (fs[x].name == b) = false) := Lib.hid (fun e x hx h => by
        by_cases ex : x = j
        · subst ex; exact e
        · exact hall.out x hx (by omega))
      obtain ⟨⟨nm, fk, fn, fg⟩, hf⟩ : ∃ f, f = fs[j] := ⟨_, rfl⟩
      rw [← hf] at f0 f1 f2 f3 hcv Hhit Hnx
      dsimp only at f0 f1 f2 f3 hcv Hhit Hnx
      clear hfat hf hnf hall
      cases hs : (nm == b)
      · have Hs := Lib.hid (Hnx.out hs)
        clear Hhit Hnx
        go_wp2_with fail
        go_quiet (fail)
        go_wp2
        go_roundw
        case rel => exact ⟨j + 1, by omega, by go_num, ⟨d + nq, by first | rfl | exact World.drewN_drewN _ _ _⟩, Hs⟩
        case measure => simp [intOf]; omega
      · have Hs := Lib.hid (Hhit.out hs)
        clear Hhit Hnx
        have z0 := HKR.out.cel 0 (v := .int .i64 0) rfl
        have z1 := HKR.out.cel 1 (v := .int .i64 0) rfl
        have z2 := HKR.out.cel 2 (v := .int .i64 0) rfl
        have y0 := HKR.out.frozen 0
        have y1 := HKR.out.frozen 1
        have y2 := HKR.out.frozen 2
        go_wp2_with fail
        go_quiet (fail)
        go_wp2
        refine bodyPost_ret (v := .agg #[.int .i64 fk, .int .i64 fn, .int .i64 fg]) (by simp [results, Try.results53, go_sem, z0, z1, z2]) rfl ⟨by rw [Hs.out], ?_⟩
        have hbd : Below w.heap.size w (W.drewN (d + nq)) := ⟨Hbw.out.os, Hbw.out.tape, Hbw.out.output, Hbw.out.size, Hbw.out.block⟩
        exact ((hbd.setCell (p := ⟨w.heap.size + 1 + 1, 0, none⟩) (by simp; omega) _).setCell (p := ⟨w.heap.size + 1 + 1, 1, none⟩) (by simp; omega) _).setCell (p := ⟨w.heap.size + 1 + 1, 2, none⟩) (by simp; omega) _
    · have Hr := Lib.hid (getAt_none (fun x hx => hall.out x hx (by omega)))
      clear hall
      have z0 := HKR.out.cel 0 (v := .int .i64 0) rfl
      have z1 := HKR.out.cel 1 (v := .int .i64 0) rfl
      have z2 := HKR.out.cel 2 (v := .int .i64 0) rfl
      have y0 := HKR.out.frozen 0
      have y1 := HKR.out.frozen 1
      have y2 := HKR.out.frozen 2
      go_wp2
      refine bodyPost_ret (v := .agg #[.int .i64 0, .int .i64 0, .int .i64 0]) (by simp [results, Try.results53, go_sem, z0, z1, z2]) rfl ⟨by rw [Hr.out], ?_⟩
      have hbd : Below w.heap.size w (W.drewN d) := ⟨Hbw.out.os, Hbw.out.tape, Hbw.out.output, Hbw.out.size, Hbw.out.block⟩
      exact ((hbd.setCell (p := ⟨w.heap.size + 1 + 1, 0, none⟩) (by simp; omega) _).setCell (p := ⟨w.heap.size + 1 + 1, 1, none⟩) (by simp; omega) _).setCell (p := ⟨w.heap.size + 1 + 1, 2, none⟩) (by simp; omega) _

section
variable (a : Ar) (A0 A1 A2 : Option Addr) (c0 c1 c2 L B : Nat) (w : World)

set_option maxRecDepth 100000 in
set_option maxHeartbeats 4000000 in
theorem specGetField_c (k n g : Int) (b : List UInt8) (NA : Option Addr) (nc BN : Nat) (hB : B ≤ w.heap.size) (hBN : BN ≤ w.heap.size) (h : ArL w L B A0 A1 A2 a) (hsz : arSz a ≤ 1048576) (hc : a.purple.length ≤ c2) (hn : RB w BN NA b) (hbl : b.length ≤ 1048576) :
    Calls Try.prog 11 #[.agg #[.slice A0 a.slots.length c0, .slice A1 a.queue.length c1, .slice A2 a.purple.length c2], .agg #[.int .i64 k, .int .i64 n, .int .i64 g], .slice NA b.length nc] w fun e w' => e = .returned (.tuple #[.agg #[.int .i64 (getA a k n g b).k, .int .i64 (getA a k n g b).n, .int .i64 (getA a k n g b).g], .bool (getOk a k n g b)]) ∧ Below w.heap.size w w' := by
  have hbw : Below w.heap.size w (((w.alloc (.cells #[.slice A0 a.slots.length c0, .slice A1 a.queue.length c1, .slice A2 a.purple.length c2] 35)).alloc (.cells #[.int .i64 k, .int .i64 n, .int .i64 g] 30)).alloc (.cells #[.int .i64 0, .int .i64 0, .int .i64 0] 30)) :=
    (((Below.refl _ _).alloc (Nat.le_refl _) _).alloc (by simp) _).alloc (by simp; omega) _
  have HR := Lib.hid (okAt a A0 A1 A2 c0 c1 c2 L B w _ h hsz hc (hbw.mono hB) (Nat.le_trans hB hbw.size))
  have HKA := Lib.hid (((Blk.new w 35 #[.slice A0 a.slots.length c0, .slice A1 a.queue.length c1, .slice A2 a.purple.length c2]).alloc (.cells #[.int .i64 k, .int .i64 n, .int .i64 g] 30)).alloc (.cells #[.int .i64 0, .int .i64 0, .int .i64 0] 30))
  have HKV := Lib.hid (((Blk.new (w.alloc (.cells #[.slice A0 a.slots.length c0, .slice A1 a.queue.length c1, .slice A2 a.purple.length c2] 35)) 30 #[.int .i64 k, .int .i64 n, .int .i64 g])).alloc (.cells #[.int .i64 0, .int .i64 0, .int .i64 0] 30))
  have HKR := Lib.hid (Blk.new ((w.alloc (.cells #[.slice A0 a.slots.length c0, .slice A1 a.queue.length c1, .slice A2 a.purple.length c2] 35)).alloc (.cells #[.int .i64 k, .int .i64 n, .int .i64 g] 30)) 30 #[.int .i64 0, .int .i64 0, .int .i64 0])
  rw [World.size_alloc] at HKV
  rw [World.size_alloc, World.size_alloc] at HKR
  have HbW := Lib.hid hbw
  have H := Lib.hid h
  have HN := Lib.hid hn
  have Hsz := Lib.hid hsz
  clear h hsz hbw hn
  go_enter Try.func11, Try.ntmps11
  go_wp2_with fail
  refine HR.out.mono ?_
  rintro e w1 ⟨rfl, hb⟩
  have hb1 := HbW.out.trans (hb.mono HbW.out.size)
  have KA1 := HKA.out.below hb HKA.out.lt
  have KV1 := HKV.out.below hb HKV.out.lt
  have KR1 := HKR.out.below hb HKR.out.lt
  have Hb := Lib.hid hb1
  have HA1 := Lib.hid KA1
  have HV1 := Lib.hid KV1
  have HR1 := Lib.hid KR1
  have z0 := KR1.cel 0 (v := .int .i64 0) rfl
  have z1 := KR1.cel 1 (v := .int .i64 0) rfl
  have z2 := KR1.cel 2 (v := .int .i64 0) rfl
  have y0 := KR1.frozen 0
  have y1 := KR1.frozen 1
  have y2 := KR1.frozen 2
  have Hno : Hid (getOk a k n g b = false → getA a k n g b = ⟨0, 0, 0⟩) := Lib.hid (fun e => by unfold getA; rw [e]; rfl)
  cases hok : arOk a
  · have E := Lib.hid (show getOk a k n g b = false by unfold getOk; rw [hok]; rfl)
    have E2 := Lib.hid (Hno.out E.out)
    clear hb HbW HR hb1 KA1 KV1 KR1 HKA HKV HKR hok
    go_wp2
    refine bodyPost_ret (v := .tuple #[.agg #[.int .i64 0, .int .i64 0, .int .i64 0], .bool false]) (by simp [results, Try.results11, go_sem, z0, z1, z2]) rfl ⟨by rw [E2.out, E.out], ?_⟩
    exact ((Hb.out.setCell (p := ⟨w.heap.size + 1 + 1, 0, none⟩) (by simp; omega) _).setCell (p := ⟨w.heap.size + 1 + 1, 1, none⟩) (by simp; omega) _).setCell (p := ⟨w.heap.size + 1 + 1, 2, none⟩) (by simp; omega) _
  · have p0 := KA1.cel 0 rfl
    have p1 := KA1.cel 1 rfl
    have p2 := KA1.cel 2 rfl
    have r0 := KV1.cel 0 rfl
    have r1 := KV1.cel 1 rfl
    have r2 := KV1.cel 2 rfl
    have Hl := Lib.hid (l4val_c a.slots A0 c0 L B (.slice A1 a.queue.length c1) (.slice A2 a.purple.length c2) k n g rfl rfl w1 (Nat.le_trans hB hb1.size) (H.out.1.below (hb1.mono hB)))
    have Hok := Lib.hid hok
    clear hb HbW HR hb1 KA1 KV1 KR1 HKA HKV HKR hok z0 z1 z2 y0 y1 y2
    go_wp2_with fail
    refine Hl.out.mono ?_
    rintro e w2 ⟨rfl, hb⟩
    have hb2 := Hb.out.trans (hb.mono Hb.out.size)
    have KA2 := HA1.out.below hb HA1.out.lt
    have KV2 := HV1.out.below hb HV1.out.lt
    have KR2 := HR1.out.below hb HR1.out.lt
    have Hb2 := Lib.hid hb2
    have HA2 := Lib.hid KA2
    have HV2 := Lib.hid KV2
    have HR2 := Lib.hid KR2
    clear p0 p1 p2 r0 r1 r2
    have z0 := KR2.cel 0 (v := .int .i64 0) rfl
    have z1 := KR2.cel 1 (v := .int .i64 0) rfl
    have z2 := KR2.cel 2 (v := .int .i64 0) rfl
    have y0 := KR2.frozen 0
    have y1 := KR2.frozen 1
    have y2 := KR2.frozen 2
    have p0 := KA2.cel 0 rfl
    have p1 := KA2.cel 1 rfl
    have p2 := KA2.cel 2 rfl
    have r0 := KV2.cel 0 rfl
    have r1 := KV2.cel 1 rfl
    have r2 := KV2.cel 2 rfl
    have HN2 := Lib.hid (HN.out.below (hb2.mono hBN))
    clear hb hb2 KA2 KV2 KR2 HA1 HV1 HR1 Hb Hl
    cases hvo : valOk a.slots k n g
    · have E := Lib.hid (show getOk a k n g b = false by unfold getOk; rw [hvo]; simp)
      have E2 := Lib.hid (Hno.out E.out)
      clear hvo
      go_wp2
      refine bodyPost_ret (v := .tuple #[.agg #[.int .i64 0, .int .i64 0, .int .i64 0], .bool false]) (by simp [results, Try.results11, go_sem, z0, z1, z2]) rfl ⟨by rw [E2.out, E.out], ?_⟩
      exact ((Hb2.out.setCell (p := ⟨w.heap.size + 1 + 1, 0, none⟩) (by simp; omega) _).setCell (p := ⟨w.heap.size + 1 + 1, 1, none⟩) (by simp; omega) _).setCell (p := ⟨w.heap.size + 1 + 1, 2, none⟩) (by simp; omega) _
    by_cases hk : k = 2
    case neg =>
      have E := Lib.hid (show getOk a k n g b = false by unfold getOk; rw [beq_eq_false_iff_ne.2 hk]; simp)
      have E2 := Lib.hid (Hno.out E.out)
      clear hvo
      go_wp2
      refine bodyPost_ret (v := .tuple #[.agg #[.int .i64 0, .int .i64 0, .int .i64 0], .bool false]) (by simp [results, Try.results11, go_sem, z0, z1, z2]) rfl ⟨by rw [E2.out, E.out], ?_⟩
      exact ((Hb2.out.setCell (p := ⟨w.heap.size + 1 + 1, 0, none⟩) (by simp; omega) _).setCell (p := ⟨w.heap.size + 1 + 1, 1, none⟩) (by simp; omega) _).setCell (p := ⟨w.heap.size + 1 + 1, 2, none⟩) (by simp; omega) _
    subst hk
    have Hvo := Lib.hid hvo
    have Hw := Lib.hid (specWordOk_c b NA nc BN w2 (by omega) HN2.out)
    clear hvo
    go_wp2_with fail
    refine Hw.out.mono ?_
    rintro e w3 ⟨rfl, rfl⟩
    cases hwo : wordOk b
    · have E := Lib.hid (show getOk a 2 n g b = false by unfold getOk; rw [hwo]; simp)
      have E2 := Lib.hid (Hno.out E.out)
      clear hwo Hw
      go_wp2
      refine bodyPost_ret (v := .tuple #[.agg #[.int .i64 0, .int .i64 0, .int .i64 0], .bool false]) (by simp [results, Try.results11, go_sem, z0, z1, z2]) rfl ⟨by rw [E2.out, E.out], ?_⟩
      exact ((Hb2.out.setCell (p := ⟨w.heap.size + 1 + 1, 0, none⟩) (by simp; omega) _).setCell (p := ⟨w.heap.size + 1 + 1, 1, none⟩) (by simp; omega) _).setCell (p := ⟨w.heap.size + 1 + 1, 2, none⟩) (by simp; omega) _
    obtain ⟨m, hm, rfl⟩ : ∃ m : Nat, m < a.slots.length ∧ n = m := by
      have h2 := Hvo.out
      unfold valOk at h2
      simp only [show ¬ (2 : Int) = 0 by decide, show ¬ (2 : Int) = 1 by decide, if_false, if_true] at h2
      rcases slotAt_cases a.slots n with ⟨e, _⟩ | ⟨m, hm, rfl, _⟩
      · rw [e] at h2; cases h2
      · exact ⟨m, hm, rfl⟩
    have E := Lib.hid (show getOk a 2 m g b = true by unfold getOk; rw [Hok.out, Hvo.out, hwo]; rfl)
    have E2 := Lib.hid (show getA a 2 m g b = getAt a.slots[m].fs b by unfold getA; rw [E.out, if_pos rfl, getV_at hm])
    have Hg := Lib.hid (l5get_c a.slots A0 A1 A2 c0 a.queue.length c1 a.purple.length c2 m 2 g b NA nc L B BN w2 (Nat.le_trans hB Hb2.out.size) (Nat.le_trans hBN Hb2.out.size) (by have := Hsz.out; unfold arSz at this; omega) hm (H.out.1.below (Hb2.out.mono hB)) HN2.out)
    obtain ⟨⟨gk, gn, gg⟩, hgt⟩ : ∃ x, getAt a.slots[m].fs b = x := ⟨_, rfl⟩
    rw [hgt] at E2 Hg
    dsimp only at Hg
    clear hwo hgt Hw Hvo Hok Hno z0 z1 z2 y0 y1 y2
    go_wp2_with fail
    refine Hg.out.mono ?_
    rintro e w4 ⟨rfl, hb⟩
    have KR4 := HR2.out.below hb HR2.out.lt
    have Hb4 := Lib.hid (Hb2.out.trans (hb.mono Hb2.out.size))
    have z0 := KR4.cel 0 (v := .int .i64 0) rfl
    have z1 := KR4.cel 1 (v := .int .i64 0) rfl
    have z2 := KR4.cel 2 (v := .int .i64 0) rfl
    have y0 := KR4.frozen 0
    have y1 := KR4.frozen 1
    have y2 := KR4.frozen 2
    clear hb Hg KR4
    go_wp2
    refine bodyPost_ret (v := .tuple #[.agg #[.int .i64 gk, .int .i64 gn, .int .i64 gg], .bool true]) (by simp [results, Try.results11, go_sem, z0, z1, z2]) rfl ⟨by rw [E2.out, E.out], ?_⟩
    exact ((Hb4.out.setCell (p := ⟨w.heap.size + 1 + 1, 0, none⟩) (by simp; omega) _).setCell (p := ⟨w.heap.size + 1 + 1, 1, none⟩) (by simp; omega) _).setCell (p := ⟨w.heap.size + 1 + 1, 2, none⟩) (by simp; omega) _
end
end Go.Proofs.Ytmjpcgainoflbaa
