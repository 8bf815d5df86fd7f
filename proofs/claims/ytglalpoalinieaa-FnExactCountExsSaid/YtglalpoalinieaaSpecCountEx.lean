/-
  The model's CountExs.
-/
import Derived.Test.YtglalpoalinieaaSpecProgOk
import Derived.Test.YtglalpoalinieaaImplCountEx
import Derived.Deep.RegionHeld3
namespace Go.Proofs.Ytglalpoalinieaa
open Go.RowKit Go.Shelf
set_option linter.unusedVariables false

theorem wrapC {x : Int} (h0 : -9223372036854775808 ≤ x) (h1 : x ≤ 9223372036854775807) : IntKind.i64.wrap x = x := IntWalk.i64_in _ (by omega)
def cex (kind : Int) (e : Ex) : Nat := (flatEx e).countP fun s => exK s == kind
def cexs (kind : Int) (l : List Ex) : Nat := (flatExs l).countP fun s => exK s == kind
theorem cex_mk (kind k n : Int) (name : List UInt8) (args : List Ex) : cex kind (.mk k n name args) = (if k == kind then 1 else 0) + cexs kind args := by
  unfold cex cexs
  rw [flatEx_mk, List.countP_cons]
  have : exK (Ex.mk k n name args) = k := rfl
  rw [this]; omega
theorem cexs_step (kind : Int) {l : List Ex} {j : Nat} (hj : j < l.length) : cexs kind (l.take (j + 1)) = cexs kind (l.take j) + cex kind l[j] := by
  unfold cex cexs
  rw [flatExs_step hj, List.countP_append]
theorem cex_le (kind : Int) (e : Ex) : cex kind e ≤ exSz e + 1 := Nat.le_trans List.countP_le_length (flatEx_len e)
theorem cexs_le (kind : Int) (l : List Ex) : cexs kind l ≤ exsSz l := Nat.le_trans List.countP_le_length (flatExs_len l)
theorem cexs_take (kind : Int) (l : List Ex) (j : Nat) : cexs kind (l.take j) ≤ cexs kind l := by
  unfold cexs
  exact (flatExs_pre l j).sublist.countP_le

def CeE (e : Ex) : Prop := ∀ (v0 v1 v2 v3 : Value) (kind : Int) (L B : Nat) (w : World), ExV w L B v0 v1 v2 v3 e → B ≤ w.heap.size → exSz e ≤ 1048576 →
  Calls Try.prog 90 #[.agg #[v0, v1, v2, v3], .int .i64 kind] w fun r w' => r = .returned (.int .i64 (cex kind e : Nat)) ∧ Below w.heap.size w w'

set_option maxRecDepth 100000 in
set_option maxHeartbeats 4000000 in
theorem countEx_of (k n : Int) (name : List UInt8) (args : List Ex) (ih : ∀ e ∈ args, CeE e) : CeE (.mk k n name args) := by
  intro v0 v1 v2 v3 kind L B w h hB hsz
  obtain ⟨A, c, A', c', rfl, rfl, rfl, rfl, hR, hm, hx⟩ := h.open_
  have hn := hx.1
  unfold maxLen at hn
  rw [exSz_mk] at hsz
  have hb0 : Below w.heap.size w (w.alloc (.cells #[.int .i64 k, .int .i64 n, .slice A name.length c, .slice A' args.length c'] 64)) := (Below.refl _ _).alloc (Nat.le_refl _) _
  have KE := Blk.new w 64 #[.int .i64 k, .int .i64 n, .slice A name.length c, .slice A' args.length c']
  have hmk := cex_mk kind k n name args
  obtain ⟨b0, hb0'⟩ : ∃ b : Nat, (if k == kind then 1 else 0) = b := ⟨_, rfl⟩
  have hb01 : b0 ≤ 1 := by rw [← hb0']; split <;> omega
  rw [hb0'] at hmk
  have Hmk := Lib.hid hmk
  have Ih := Lib.hid ih
  have hcl := cexs_le kind args
  clear ih h hR hmk
  cases hke : (k == kind)
  · have hke' : ¬ k = kind := by simpa using hke
    rw [hke] at hb0'
    obtain rfl : b0 = 0 := by simpa using hb0'.symm
    clear hb0' hb01
    go_enter Try.func90, Try.ntmps90
    go_wp2
    go_loopw [5, 6] (fun s i wr => ∃ j : Nat, j ≤ args.length ∧ i = .int .i64 j ∧ s = .int .i64 ((0 + cexs kind (args.take j) : Nat) : Int) ∧ Below w.heap.size w wr ∧ Blk wr w.heap.size 64 #[.int .i64 k, .int .i64 n, .slice A name.length c, .slice A' args.length c']) (fun _ i _ => args.length - (intOf i).toNat)
    case atStart => exact ⟨0, Nat.zero_le _, rfl, by simp [cexs, flatExs], hb0, KE⟩
    case round =>
      obtain ⟨j, hj, rfl, rfl, hbl, hK⟩ := hrel
      have q3 := hK.cell_of 3 (v := .slice A' args.length c') rfl
      have ht1 := cexs_take kind args j
      by_cases hlt : j < args.length
      · obtain ⟨ad, rfl, _, hbk, hat⟩ := (hx.below (hbl.mono hB)).2 (by omega)
        obtain ⟨x0, x1, x2, x3, ⟨y0, y1, y2, y3⟩, hv⟩ := hat j hlt
        have hez := exsSz_get hlt
        have hc := Ih.out args[j] (List.getElem_mem hlt) x0 x1 x2 x3 kind L B wr hv (Nat.le_trans hB hbl.size) (by omega)
        have hst := cexs_step kind hlt
        have ht2 := cex_le kind args[j]
        obtain ⟨a, ha⟩ : ∃ a, cexs kind (args.take j) = a := ⟨_, rfl⟩
        obtain ⟨b, hb'⟩ : ∃ b, cex kind args[j] = b := ⟨_, rfl⟩
        rw [ha] at hst ht1
        rw [hb'] at hst ht2 hc
        rw [ha]
        have ha1 : a ≤ 1048576 := by omega
        have hb1' : b ≤ 1048577 := by omega
        have Hc := Lib.hid hc
        have Hst := Lib.hid hst
        clear hat hc hv ha hb' ht1 ht2 hst hez
        go_wp2_with fail
        refine Hc.out.mono ?_
        rintro r w2 ⟨rfl, hb2⟩
        have hbn := hbl.trans (hb2.mono hbl.size)
        have hK2 := hK.below hb2 hK.lt
        clear q3 y0 y1 y2 y3
        go_wp2
        go_roundw
        case rel =>
          refine ⟨j + 1, by omega, by go_num, ?_, hbn, hK2⟩
          rw [Hst.out]
          simp
        case measure => simp [intOf]; omega
      · go_wp2
        go_ret
        have hjl : j = args.length := by omega
        exact ⟨by rw [Hmk.out, hjl, List.take_length]; rfl, hbl⟩
  · obtain rfl : k = kind := by simpa using hke
    rw [hke] at hb0'
    obtain rfl : b0 = 1 := by simpa using hb0'.symm
    clear hb0' hb01
    go_enter Try.func90, Try.ntmps90
    go_wp2
    go_loopw [5, 6] (fun s i wr => ∃ j : Nat, j ≤ args.length ∧ i = .int .i64 j ∧ s = .int .i64 ((1 + cexs k (args.take j) : Nat) : Int) ∧ Below w.heap.size w wr ∧ Blk wr w.heap.size 64 #[.int .i64 k, .int .i64 n, .slice A name.length c, .slice A' args.length c']) (fun _ i _ => args.length - (intOf i).toNat)
    case atStart => exact ⟨0, Nat.zero_le _, rfl, by simp [cexs, flatExs], hb0, KE⟩
    case round =>
      obtain ⟨j, hj, rfl, rfl, hbl, hK⟩ := hrel
      have q3 := hK.cell_of 3 (v := .slice A' args.length c') rfl
      have ht1 := cexs_take k args j
      by_cases hlt : j < args.length
      · obtain ⟨ad, rfl, _, hbk, hat⟩ := (hx.below (hbl.mono hB)).2 (by omega)
        obtain ⟨x0, x1, x2, x3, ⟨y0, y1, y2, y3⟩, hv⟩ := hat j hlt
        have hez := exsSz_get hlt
        have hc := Ih.out args[j] (List.getElem_mem hlt) x0 x1 x2 x3 k L B wr hv (Nat.le_trans hB hbl.size) (by omega)
        have hst := cexs_step k hlt
        have ht2 := cex_le k args[j]
        obtain ⟨a, ha⟩ : ∃ a, cexs k (args.take j) = a := ⟨_, rfl⟩
        obtain ⟨b, hb'⟩ : ∃ b, cex k args[j] = b := ⟨_, rfl⟩
        rw [ha] at hst ht1
        rw [hb'] at hst ht2 hc
        rw [ha]
        have ha1 : a ≤ 1048576 := by omega
        have hb1' : b ≤ 1048577 := by omega
        have Hc := Lib.hid hc
        have Hst := Lib.hid hst
        clear hat hc hv ha hb' ht1 ht2 hst hez
        go_wp2_with fail
        refine Hc.out.mono ?_
        rintro r w2 ⟨rfl, hb2⟩
        have hbn := hbl.trans (hb2.mono hbl.size)
        have hK2 := hK.below hb2 hK.lt
        clear q3 y0 y1 y2 y3
        go_wp2
        go_roundw
        case rel =>
          refine ⟨j + 1, by omega, by go_num, ?_, hbn, hK2⟩
          have h9 := Hst.out
          refine congrArg (Value.int .i64) ?_
          omega
        case measure => simp [intOf]; omega
      · go_wp2
        go_ret
        have hjl : j = args.length := by omega
        exact ⟨by rw [Hmk.out, hjl, List.take_length]; rfl, hbl⟩
theorem l2countEx_c (e : Ex) : CeE e := Ex.ind (P := CeE) (fun k n name args ih => countEx_of k n name args ih) e

def ces (kind : Int) (l : List St) : Nat := (stsEx (flatSts l)).countP fun s => exK s == kind
theorem ces_le (kind : Int) (l : List St) : ces kind l ≤ 2 * stsSz l := Nat.le_trans List.countP_le_length (stsEx_len l)
theorem ces_step (kind : Int) {l : List St} {j : Nat} (hj : j < l.length) {k : Int} {name : List UInt8} {e f : Ex} {body els : List St} (hle : l[j] = .mk k name e f body els) : ces kind (l.take (j + 1)) = ces kind (l.take j) + cex kind e + (if k = 2 then cex kind f else 0) + ces kind body + ces kind els := by
  have e1 : stsEx (.mk k name e f body els :: (flatSts body ++ flatSts els)) = flatExs (asksL k e f) ++ stsEx (flatSts body ++ flatSts els) := rfl
  unfold ces cex
  rw [flatSts_step hj, hle, flatSt_mk, stsEx_app2, e1, stsEx_app2, List.countP_append, List.countP_append, List.countP_append]
  unfold asksL
  by_cases h : k = 2
  · rw [if_pos h, if_pos h]
    simp only [flatExs, List.append_nil, List.countP_append]
    omega
  · rw [if_neg h, if_neg h]
    simp only [flatExs, List.append_nil]
    omega
def CeS (ls : List St) : Prop := ∀ (A : Option Addr) (cp : Nat) (kind : Int) (L B : Nat) (w : World), StL w L B A ls → B ≤ w.heap.size → stsSz ls ≤ 1048576 →
  Calls Try.prog 58 #[.slice A ls.length cp, .int .i64 kind] w fun r w' => r = .returned (.int .i64 (ces kind ls : Nat)) ∧ Below w.heap.size w w'

set_option maxRecDepth 100000 in
set_option maxHeartbeats 8000000 in
theorem countExs_of (ls : List St) (ih : ∀ s ∈ ls, ∀ k name e f body els, s = .mk k name e f body els → CeS body ∧ CeS els) : CeS ls := by
  intro A cp kind L B w h hB hsz
  have hn := h.1
  unfold maxLen at hn
  have Ih := Lib.hid ih
  have H := Lib.hid h
  clear ih h
  go_enter Try.func58, Try.ntmps58
  go_wp2
  go_loopw [5, 6] (fun s i wr => ∃ k : Nat, k ≤ ls.length ∧ i = .int .i64 k ∧ s = .int .i64 (ces kind (ls.take k) : Nat) ∧ Below w.heap.size w wr) (fun _ i _ => ls.length - (intOf i).toNat)
  case atStart => exact ⟨0, Nat.zero_le _, rfl, by simp [ces, flatSts, stsEx], Below.refl _ _⟩
  case round =>
    obtain ⟨k, hk, rfl, rfl, hbl⟩ := hrel
    by_cases hlt : k < ls.length
    · obtain ⟨ad, rfl, _, hbk, hat⟩ := (H.out.below (hbl.mono hB)).2 (by omega)
      obtain ⟨vs, hcells, hv⟩ := hat k hlt
      obtain ⟨kk, name, e, f, body, els, hle⟩ : ∃ kk name e f body els, ls[k] = .mk kk name e f body els := by cases ls[k]; exact ⟨_, _, _, _, _, _, rfl⟩
      have hstep := ces_step kind hlt hle
      have hszs := stsSz_split hlt
      rw [hle, stSz_mk] at hszs
      rw [hle] at hv
      obtain ⟨sA, sc, e0, e1, e2, e3, f0, f1, f2, f3, A1, c1, A2, c2, rfl, hR, hmn, he, hf, hb1, hb2⟩ := hv.open_
      obtain ⟨ih1, ih2⟩ := Ih.out ls[k] (List.getElem_mem hlt) kk name e f body els hle
      have hBr : B ≤ wr.heap.size := Nat.le_trans hB hbl.size
      have l1 := cex_le kind e
      have l2 := cex_le kind f
      have l3 := ces_le kind body
      have l4 := ces_le kind els
      have l5 := ces_le kind (ls.take k)
      have he' := he
      have hf' := hf
      obtain ⟨xk, xn, xA, xa, xc, xA', xa', xc', rfl, rfl, rfl, rfl⟩ := he.shape
      obtain ⟨yk, yn, yA, ya, yc, yA', ya', yc', rfl, rfl, rfl, rfl⟩ := hf.shape
      have hE := fun (W : World) (hW : Below wr.heap.size wr W) => l2countEx_c e _ _ _ _ kind L B W (he'.below (hW.mono hBr)) (Nat.le_trans hBr hW.size) (by omega)
      have hF := fun (W : World) (hW : Below wr.heap.size wr W) => l2countEx_c f _ _ _ _ kind L B W (hf'.below (hW.mono hBr)) (Nat.le_trans hBr hW.size) (by omega)
      have hSS : ∀ W, Below wr.heap.size wr W → (W.cell? ⟨(ad.add (k * 12)).block, (ad.add (k * 12)).off + 10, none⟩ = some (.slice A1 body.length c1) ∧ W.cell? ⟨(ad.add (k * 12)).block, (ad.add (k * 12)).off + 11, none⟩ = some (.slice A2 els.length c2) ∧ Below wr.heap.size wr W) := fun W hW => by
        have hc := hcells.keep (w' := W) fun q hq => hW.cell (by rw [hq, block_of_add]; omega)
        have c10 := hc 10 _ rfl
        have c11 := hc 11 _ rfl
        simp only [Nat.reduceEqDiff, if_false] at c10 c11
        exact ⟨c10, c11, hW⟩
      have q0 := hcells 0 _ rfl
      have q2 := hcells 2 _ rfl
      have q3 := hcells 3 _ rfl
      have q4 := hcells 4 _ rfl
      have q5 := hcells 5 _ rfl
      simp only [if_true, Nat.reduceEqDiff, if_false] at q0 q2 q3 q4 q5
      have hCC := fun (W : World) (hW : Below wr.heap.size wr W) => hcells.keep (w' := W) fun q hq => hW.cell (by rw [hq, block_of_add]; omega)
      have hBo : ∀ W, Below wr.heap.size wr W → Calls Try.prog 58 #[.slice A1 body.length c1, .int .i64 kind] W fun r W' => r = .returned (.int .i64 (ces kind body : Nat)) ∧ (W'.cell? ⟨(ad.add (k * 12)).block, (ad.add (k * 12)).off + 10, none⟩ = some (.slice A1 body.length c1) ∧ W'.cell? ⟨(ad.add (k * 12)).block, (ad.add (k * 12)).off + 11, none⟩ = some (.slice A2 els.length c2) ∧ Below wr.heap.size wr W') := fun W hW =>
        (ih1 A1 c1 kind L B W (hb1.below (hW.mono hBr)) (Nat.le_trans hBr hW.size) (by omega)).mono fun r W' hh => ⟨hh.1, hSS W' (hW.trans (hh.2.mono hW.size))⟩
      have hEl : ∀ W, Below wr.heap.size wr W → Calls Try.prog 58 #[.slice A2 els.length c2, .int .i64 kind] W fun r W' => r = .returned (.int .i64 (ces kind els : Nat)) ∧ (W'.cell? ⟨(ad.add (k * 12)).block, (ad.add (k * 12)).off + 10, none⟩ = some (.slice A1 body.length c1) ∧ W'.cell? ⟨(ad.add (k * 12)).block, (ad.add (k * 12)).off + 11, none⟩ = some (.slice A2 els.length c2) ∧ Below wr.heap.size wr W') := fun W hW =>
        (ih2 A2 c2 kind L B W (hb2.below (hW.mono hBr)) (Nat.le_trans hBr hW.size) (by omega)).mono fun r W' hh => ⟨hh.1, hSS W' (hW.trans (hh.2.mono hW.size))⟩
      obtain ⟨a, ha⟩ : ∃ a, ces kind (ls.take k) = a := ⟨_, rfl⟩
      obtain ⟨x1, hx1⟩ : ∃ b, cex kind e = b := ⟨_, rfl⟩
      obtain ⟨x2, hx2⟩ : ∃ b, cex kind f = b := ⟨_, rfl⟩
      obtain ⟨x3, hx3⟩ : ∃ b, ces kind body = b := ⟨_, rfl⟩
      obtain ⟨x4, hx4⟩ : ∃ c, ces kind els = c := ⟨_, rfl⟩
      rw [ha] at hstep l5
      rw [hx1] at hstep l1 hE
      rw [hx2] at hstep l2 hF
      rw [hx3] at hstep l3 hBo
      rw [hx4] at hstep l4 hEl
      rw [ha]
      have y0 : a ≤ 2097152 := by omega
      have y1 : x1 ≤ 1048577 := by omega
      have y2 : x2 ≤ 1048577 := by omega
      have y3 : x3 ≤ 2097152 := by omega
      have y4 : x4 ≤ 2097152 := by omega
      have HE := Lib.hid (hE wr (Below.refl _ _))
      have HF := Lib.hid hF
      have HCC := Lib.hid hCC
      clear hE hF hCC hle hat hcells hv hR he hf he' hf' hb1 hb2 ih1 ih2 ha hx1 hx2 hx3 hx4 hszs l1 l2 l3 l4 l5
      by_cases hk2 : kk = 2
      · subst hk2
        rw [if_pos rfl] at hstep
        have Hst := Lib.hid hstep
        clear hstep
        go_wp2_with fail
        refine HE.out.mono ?_
        rintro r w2 ⟨rfl, hb2⟩
        have hc2 := HCC.out w2 hb2
        have r0 := hc2 0 _ rfl
        have r6 := hc2 6 _ rfl
        have r7 := hc2 7 _ rfl
        have r8 := hc2 8 _ rfl
        have r9 := hc2 9 _ rfl
        simp only [if_true, Nat.reduceEqDiff, if_false] at r0 r6 r7 r8 r9
        have HF2 := Lib.hid (HF.out w2 hb2)
        clear hc2 HE HF HCC q0 q2 q3 q4 q5
        go_wp2_with fail
        refine HF2.out.mono ?_
        rintro r w3 ⟨rfl, hb3⟩
        have hbv := hb2.trans (hb3.mono hb2.size)
        clear r0 r6 r7 r8 r9 HF2
        have HBo := Lib.hid hBo
        have HEl := Lib.hid hEl
        obtain ⟨t10, t11, hW0⟩ := hSS w3 hbv
        have hdr : Below wr.heap.size wr w3.drew := hW0.drew
        clear hBo hEl hSS
        go_wp2_with fail
        go_region_held3 (fun W => (W.cell? ⟨(ad.add (k * 12)).block, (ad.add (k * 12)).off + 10, none⟩ = some (.slice A1 body.length c1) ∧ W.cell? ⟨(ad.add (k * 12)).block, (ad.add (k * 12)).off + 11, none⟩ = some (.slice A2 els.length c2) ∧ Below wr.heap.size wr W)) (go_keep)
          (first
            | (go_at_call_of 58 (Value.slice A1 body.length c1); refine (HBo.out _ ?_).mono ?_; (simp [*]); clear HBo; rintro r w' ⟨rfl, hS'⟩)
            | (go_at_call_of 58 (Value.slice A2 els.length c2); refine (HEl.out _ ?_).mono ?_; (simp [*]); clear HEl; rintro r w' ⟨rfl, hS'⟩))
        obtain ⟨_, _, hbW⟩ := hS'
        have hbn := hbl.trans (hbW.mono hbl.size)
        clear t10 t11 hW0 hdr
        go_wp2
        go_roundw
        case rel =>
          refine ⟨k + 1, by omega, by go_num, ?_, hbn⟩
          have h9 := Hst.out
          have w3 := wrapC (x := (a : Int) + x1 + x2 + x3) (by omega) (by omega)
          have w4 := wrapC (x := (a : Int) + x1 + x2 + x3 + x4) (by omega) (by omega)
          refine congrArg (Value.int .i64) ?_
          rw [w3, w4]
          omega
        case measure => simp [intOf]; omega
      · rw [if_neg hk2] at hstep
        have hk2' : (kk == 2) = false := by simp [hk2]
        have Hst := Lib.hid hstep
        clear hstep
        go_wp2_with fail
        refine HE.out.mono ?_
        rintro r w2 ⟨rfl, hb2⟩
        have hc2 := HCC.out w2 hb2
        have r0 := hc2 0 _ rfl
        simp only [if_true] at r0
        have hbv := hb2
        clear hc2 HE HF HCC q0 q2 q3 q4 q5
        have HBo := Lib.hid hBo
        have HEl := Lib.hid hEl
        obtain ⟨t10, t11, hW0⟩ := hSS w2 hbv
        have hdr : Below wr.heap.size wr w2.drew := hW0.drew
        clear hBo hEl hSS
        go_wp2_with fail
        go_region_held3 (fun W => (W.cell? ⟨(ad.add (k * 12)).block, (ad.add (k * 12)).off + 10, none⟩ = some (.slice A1 body.length c1) ∧ W.cell? ⟨(ad.add (k * 12)).block, (ad.add (k * 12)).off + 11, none⟩ = some (.slice A2 els.length c2) ∧ Below wr.heap.size wr W)) (go_keep)
          (first
            | (go_at_call_of 58 (Value.slice A1 body.length c1); refine (HBo.out _ ?_).mono ?_; (simp [*]); clear HBo; rintro r w' ⟨rfl, hS'⟩)
            | (go_at_call_of 58 (Value.slice A2 els.length c2); refine (HEl.out _ ?_).mono ?_; (simp [*]); clear HEl; rintro r w' ⟨rfl, hS'⟩))
        obtain ⟨_, _, hbW⟩ := hS'
        have hbn := hbl.trans (hbW.mono hbl.size)
        clear t10 t11 hW0 hdr
        go_wp2
        go_roundw
        case rel =>
          refine ⟨k + 1, by omega, by go_num, ?_, hbn⟩
          have h9 := Hst.out
          have w3 := wrapC (x := (a : Int) + x1 + x3) (by omega) (by omega)
          have w4 := wrapC (x := (a : Int) + x1 + x3 + x4) (by omega) (by omega)
          refine congrArg (Value.int .i64) ?_
          rw [w3, w4]
          omega
        case measure => simp [intOf]; omega
    · go_wp2
      go_ret
      have hkl : k = ls.length := by omega
      exact ⟨by rw [hkl, List.take_length]; rfl, hbl⟩
theorem l2countExs_c (ls : List St) : CeS ls := by
  have one : ∀ s : St, ∀ k name e f body els, s = .mk k name e f body els → CeS body ∧ CeS els := fun s => St.ind (P := fun s => ∀ k name e f body els, s = .mk k name e f body els → CeS body ∧ CeS els) (fun k name e f body els ih1 ih2 k' n' e' f' b' l' he => by
    injection he with _ _ _ _ h1 h2
    rw [← h1, ← h2]
    exact ⟨countExs_of body ih1, countExs_of els ih2⟩) s
  exact countExs_of ls fun s _ => one s

theorem cntExs_ces (l : List Fn) (kind : Int) {j : Nat} (hj : j < l.length) : cntExs (l.take (j + 1)) kind = cntExs (l.take j) kind + ces kind l[j].body := cntExs_step l kind hj

set_option maxRecDepth 100000 in
set_option maxHeartbeats 4000000 in
theorem specCountExs_c (l : List Fn) (A : Option Addr) (cp L B : Nat) (kind : Int) (w : World) (hB : B ≤ w.heap.size) (hsz : fnsSz l ≤ 1048576) (h : FnL w L B A l) :
    Calls Try.prog 24 #[.agg #[.slice A l.length cp], .int .i64 kind] w fun r w' => r = .returned (.int .i64 (countExs l kind)) ∧ Below w.heap.size w w' := by
  have hn := h.1
  unfold maxLen at hn
  have hb0 : Below w.heap.size w (w.alloc (.cells #[.slice A l.length cp] 29)) := (Below.refl _ _).alloc (Nat.le_refl _) _
  have KP := Blk.new w 29 #[.slice A l.length cp]
  have hc := specProgOk_c l A cp L B _ (Nat.le_trans hB hb0.size) hsz (h.below (hb0.mono hB))
  cases hf : progOk l
  · rw [hf] at hc
    have Hc := Lib.hid hc
    have hno : countExs l kind = -1 := by unfold countExs; rw [hf]; rfl
    rw [hno]
    clear hc hf h hno
    go_enter Try.func24, Try.ntmps24
    go_wp2_with fail
    refine Hc.out.mono ?_
    rintro r w1 ⟨rfl, hb1⟩
    go_wp2
    go_ret
    exact ⟨rfl, hb0.trans (hb1.mono hb0.size)⟩
  rw [hf] at hc
  have Hc := Lib.hid hc
  have hcs : countExs l kind = cntExs l kind := by unfold countExs; rw [hf]; rfl
  have Hcs := Lib.hid hcs
  have hcl : cntExs l kind ≤ 2097152 := by have := cntExs_le l kind; unfold fnsSz at hsz; omega
  have H := Lib.hid h
  clear hc hf hcs h
  go_enter Try.func24, Try.ntmps24
  go_wp2_with fail
  refine Hc.out.mono ?_
  rintro r w1 ⟨rfl, hb1⟩
  have hb01 := hb0.trans (hb1.mono hb0.size)
  have KP1 := KP.below hb1 KP.lt
  clear Hc
  go_wp2
  go_loopw [5, 6] (fun s i wr => ∃ k : Nat, k ≤ l.length ∧ i = .int .i64 k ∧ s = .int .i64 (cntExs (l.take k) kind : Nat) ∧ Below w.heap.size w wr ∧ Blk wr w.heap.size 29 #[.slice A l.length cp]) (fun _ i _ => l.length - (intOf i).toNat)
  case atStart => exact ⟨0, Nat.zero_le _, rfl, by simp [cntExs], hb01, KP1⟩
  case round =>
    obtain ⟨k, hk, rfl, rfl, hbl, hKP⟩ := hrel
    have p0 := hKP.cell_of 0 (v := .slice A l.length cp) rfl
    by_cases hlt : k < l.length
    · obtain ⟨ad, rfl, _, hb, hat⟩ := (H.out.below (hbl.mono hB)).2 (by omega)
      obtain ⟨v0, v1, v2, ⟨c0, c1, c2⟩, hv⟩ := hat k hlt
      obtain ⟨fA, fc, fA1, fc1, fA2, fc2, rfl, rfl, rfl, fR, fm, fp, fb, fcp⟩ := hv
      have hfz := fnsSz_get hlt
      have hbz : stsSz l[k].body ≤ 1048576 := by unfold fnSz at hfz; omega
      have hcc := l2countExs_c l[k].body fA2 fc2 kind L B wr fb (Nat.le_trans hB hbl.size) hbz
      have hst := cntExs_ces l kind hlt
      have ht1 := cntExs_take l kind k
      have ht2 := ces_le kind l[k].body
      obtain ⟨a, ha⟩ : ∃ a, cntExs (l.take k) kind = a := ⟨_, rfl⟩
      obtain ⟨b, hb'⟩ : ∃ b, ces kind l[k].body = b := ⟨_, rfl⟩
      rw [ha] at hst ht1
      rw [hb'] at hst ht2 hcc
      rw [ha]
      have ha1 : a ≤ 2097152 := by omega
      have hb1' : b ≤ 2097152 := by omega
      have Hcc := Lib.hid hcc
      have Hst := Lib.hid hst
      clear hat hcc fR fp fb ha hb' ht1 ht2 hst c0 c1
      go_wp2_with fail
      refine Hcc.out.mono ?_
      rintro r w2 ⟨rfl, hb2⟩
      have hbn := hbl.trans (hb2.mono hbl.size)
      have hKn := hKP.below hb2 hKP.lt
      clear p0 c2
      go_wp2
      go_roundw
      case rel =>
        refine ⟨k + 1, by omega, by go_num, ?_, hbn, hKn⟩
        rw [Hst.out]
        simp
      case measure => simp [intOf]; omega
    · go_wp2
      go_ret
      have hkl : k = l.length := by omega
      exact ⟨by rw [Hcs.out, hkl, List.take_length]; rfl, hbl⟩

end Go.Proofs.Ytglalpoalinieaa
