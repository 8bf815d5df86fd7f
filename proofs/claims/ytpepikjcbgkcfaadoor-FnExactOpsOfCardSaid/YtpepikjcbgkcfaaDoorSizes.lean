/-
  SizeOf and OpsOf: the program's and the model's.
-/
import Derived.Test.YtpepikjcbgkcfaaDoorSpecCode2
import Derived.Test.YtpepikjcbgkcfaaDoorImplCode2
namespace Go.Proofs.YtpepikjcbgkcfaaDoor
open Go.RowKit
set_option linter.unusedVariables false
set_option linter.unusedSimpArgs false
namespace Cod

theorem sumIn_mono {α : Type} {f g : α → Nat} (h : ∀ x, f x ≤ g x) (l : List α) (k : Nat) : sumIn f l k ≤ sumIn g l k := by
  unfold sumIn
  generalize l.take k = m
  induction m with
  | nil => simp
  | cons x r ih => simp only [List.map_cons, List.sum_cons]; have := h x; omega
theorem sumIn_top {α : Type} (g : α → Nat) (l : List α) (k : Nat) : sumIn g l k ≤ (l.map g).sum := by
  unfold sumIn
  conv => rhs; rw [← List.take_append_drop k l, List.map_append, List.sum_append]
  omega
/-- how many orders the first k units have -/
def sizTo (C : List Un) (k : Nat) : Nat := sumIn (fun u => u.l.length) C k
theorem sizTo_zero (C : List Un) : sizTo C 0 = 0 := rfl
theorem sizTo_succ {C : List Un} {k : Nat} (h : k < C.length) : sizTo C (k + 1) = sizTo C k + C[k].l.length := sumIn_step _ h
theorem sizTo_le {C : List Un} (h : unsSz C ≤ 1048576) (k : Nat) : sizTo C k ≤ 1048576 := by
  have h1 := sumIn_mono (f := fun u : Un => u.l.length) (g := unSz) (fun u => by unfold unSz insSz; omega) C k
  have h2 := sumIn_top unSz C k
  unfold unsSz at h
  unfold sizTo
  omega
def sizeC (C : List Un) : Int := if codeOk C = true then (sizTo C C.length : Int) else -1
/-- how many of the first j orders have that Op -/
def opI (l : List In) (z : Int) (j : Nat) : Nat := (l.take j).countP fun o => o.op == z
theorem opI_zero (l : List In) (z : Int) : opI l z 0 = 0 := rfl
theorem opI_yes {l : List In} {z : Int} {j : Nat} (h : j < l.length) (he : l[j].op = z) : opI l z (j + 1) = opI l z j + 1 := by
  unfold opI
  rw [List.take_succ_eq_append_getElem h, List.countP_append]
  simp [he]
theorem opI_no {l : List In} {z : Int} {j : Nat} (h : j < l.length) (he : ¬ l[j].op = z) : opI l z (j + 1) = opI l z j := by
  unfold opI
  rw [List.take_succ_eq_append_getElem h, List.countP_append]
  simp [he]
theorem opI_le (l : List In) (z : Int) (j : Nat) : opI l z j ≤ l.length := by
  unfold opI
  exact Nat.le_trans List.countP_le_length (by simp; omega)
def opTo (C : List Un) (z : Int) (k : Nat) : Nat := sumIn (fun u => opI u.l z u.l.length) C k
theorem opTo_zero (C : List Un) (z : Int) : opTo C z 0 = 0 := rfl
theorem opTo_succ {C : List Un} {z : Int} {k : Nat} (h : k < C.length) : opTo C z (k + 1) = opTo C z k + opI C[k].l z C[k].l.length := sumIn_step _ h
theorem opTo_bd {C : List Un} (h : unsSz C ≤ 1048576) {z : Int} {k : Nat} (hk : k < C.length) : opTo C z k + C[k].l.length ≤ 1048576 := by
  have h1 := sumIn_mono (f := fun u : Un => opI u.l z u.l.length) (g := fun u => u.l.length) (fun u => opI_le _ _ _) C k
  have h2 := sizTo_le h (k + 1)
  rw [sizTo_succ hk] at h2
  unfold sizTo at h2
  unfold opTo
  omega
def opsC (C : List Un) (z : Int) : Int := if codeOk C = true then (opTo C z C.length : Int) else -1

section
variable (C : List Un) (CA : Option Addr) (cc L B : Nat) (w : World)

set_option maxRecDepth 100000 in
set_option maxHeartbeats 4000000 in
theorem implSizeOf_c (hB : B ≤ w.heap.size) (hsz : unsSz C ≤ 1048576) (hC : UnL w L B CA C) (hF : Forms w B) :
    Calls Tryd.prog 13 #[.agg #[.slice CA C.length cc]] w fun e w' => e = .returned (.int .i64 (sizeC C)) ∧ Below w.heap.size w w' := by
  have hCl : C.length ≤ 1048576 := by unfold unsSz at hsz; omega
  have hbW := blwC w (.cells #[.slice CA C.length cc] 29)
  have HR := Lib.hid (implCodeOk_c C CA cc L B _ (Nat.le_trans hB hbW.size) hsz (hC.below (hbW.mono hB)) (hF.below (hbW.mono hB)))
  have HbW := Lib.hid hbW
  have HK := Lib.hid (Blk.new w 29 #[.slice CA C.length cc])
  have H := Lib.hid hC
  have Hsz := Lib.hid hsz
  clear hC hsz hbW hF
  go_enter Tryd.func13, Tryd.ntmps13
  go_wp2_with fail
  refine HR.out.mono ?_
  rintro e w1 ⟨rfl, hb⟩
  have Hb := Lib.hid (HbW.out.trans (hb.mono HbW.out.size))
  have K1 := HK.out.below hb HK.out.lt
  clear hb HR HbW
  cases hok : codeOk C
  · have E := Lib.hid (show sizeC C = -1 by unfold sizeC; rw [hok]; rfl)
    clear hok K1 HK
    go_wp2
    go_ret
    exact ⟨by rw [E.out]; first | rfl | simp, Hb.out⟩
  have E := Lib.hid (show sizeC C = sizTo C C.length by unfold sizeC; rw [hok]; rfl)
  have q0 := K1.cel 0 (v := .slice CA C.length cc) rfl
  have HK1 := Lib.hid K1
  clear hok K1 HK
  go_wp2_with fail
  go_loopw [3, 12] (fun n i wr => ∃ k : Nat, k ≤ C.length ∧ i = .int .i64 k ∧ n = .int .i64 (sizTo C k) ∧ Below w1.heap.size w1 wr) (fun _ i _ => C.length - (intOf i).toNat)
  case atStart => exact ⟨0, Nat.zero_le _, rfl, rfl, Below.refl _ _⟩
  case round =>
    obtain ⟨k, hk, rfl, rfl, hbl⟩ := hrel
    have hle := sizTo_le Hsz.out k
    by_cases hlt : k < C.length
    · have hsuc := Lib.hid (sizTo_succ hlt)
      have hl2 := sizTo_le Hsz.out (k + 1)
      rw [hsuc.out] at hl2
      obtain ⟨ad, rfl, _, hbk, hat⟩ := (H.out.below ((Hb.out.trans (hbl.mono Hb.out.size)).mono hB)).2 (by omega)
      obtain ⟨x0, x1, x2, ⟨d0, d1, d2⟩, rfl, rfl, UA, uc, rfl, -⟩ := hat k hlt
      obtain ⟨nl, hnl⟩ : ∃ n, n = C[k].l.length := ⟨_, rfl⟩
      obtain ⟨pm, hpm⟩ : ∃ n, n = C[k].params := ⟨_, rfl⟩
      obtain ⟨rg, hrg⟩ : ∃ n, n = C[k].regs := ⟨_, rfl⟩
      rw [← hpm] at d0
      rw [← hrg] at d1
      rw [← hnl] at d2 hsuc hl2
      obtain ⟨z, hz⟩ : ∃ z, z = sizTo C k := ⟨_, rfl⟩
      rw [← hz] at hsuc hl2 hle
      rw [← hz]
      clear hat hnl hpm hrg hz
      have Hbn := Lib.hid (hbl.trans ((blwC wr (.cells #[.int .i64 pm, .int .i64 rg, .slice UA nl uc] 43)).mono hbl.size))
      clear hbl
      go_wp2
      go_roundw
      case rel => exact ⟨k + 1, by omega, by go_num, by rw [hsuc.out]; go_num, Hbn.out⟩
      case measure => simp [intOf]; omega
    · obtain rfl : k = C.length := by omega
      have Hbe := Lib.hid (Hb.out.trans (hbl.mono Hb.out.size))
      clear hbl
      go_wp2
      go_ret
      exact ⟨by rw [E.out]; rfl, Hbe.out⟩

set_option maxRecDepth 100000 in
set_option maxHeartbeats 4000000 in
theorem specSizeOf_c (hB : B ≤ w.heap.size) (hsz : unsSz C ≤ 1048576) (hC : UnL w L B CA C) :
    Calls Tryd.prog 12 #[.agg #[.slice CA C.length cc]] w fun e w' => e = .returned (.int .i64 (sizeC C)) ∧ Below w.heap.size w w' := by
  have hCl : C.length ≤ 1048576 := by unfold unsSz at hsz; omega
  have hbW := blwC w (.cells #[.slice CA C.length cc] 29)
  have HR := Lib.hid (specCodeOk_c C CA cc L B _ (Nat.le_trans hB hbW.size) hsz (hC.below (hbW.mono hB)))
  have HbW := Lib.hid hbW
  have HK := Lib.hid (Blk.new w 29 #[.slice CA C.length cc])
  have H := Lib.hid hC
  have Hsz := Lib.hid hsz
  clear hC hsz hbW
  go_enter Tryd.func12, Tryd.ntmps12
  go_wp2_with fail
  refine HR.out.mono ?_
  rintro e w1 ⟨rfl, hb⟩
  have Hb := Lib.hid (HbW.out.trans (hb.mono HbW.out.size))
  have K1 := HK.out.below hb HK.out.lt
  clear hb HR HbW
  cases hok : codeOk C
  · have E := Lib.hid (show sizeC C = -1 by unfold sizeC; rw [hok]; rfl)
    clear hok K1 HK
    go_wp2
    go_ret
    exact ⟨by rw [E.out]; first | rfl | simp, Hb.out⟩
  have E := Lib.hid (show sizeC C = sizTo C C.length by unfold sizeC; rw [hok]; rfl)
  have q0 := K1.cel 0 (v := .slice CA C.length cc) rfl
  have HK1 := Lib.hid K1
  clear hok K1 HK
  go_wp2_with fail
  go_loopw [3, 4] (fun n i wr => ∃ k : Nat, k ≤ C.length ∧ i = .int .i64 k ∧ n = .int .i64 (sizTo C k) ∧ wr = w1) (fun _ i _ => C.length - (intOf i).toNat)
  case atStart => exact ⟨0, Nat.zero_le _, rfl, rfl, by trivial⟩
  case round =>
    obtain ⟨k, hk, rfl, rfl, hwr⟩ := hrel
    obtain rfl : wr = w1 := hwr
    have hle := sizTo_le Hsz.out k
    by_cases hlt : k < C.length
    · have hsuc := Lib.hid (sizTo_succ hlt)
      have hl2 := sizTo_le Hsz.out (k + 1)
      rw [hsuc.out] at hl2
      obtain ⟨ad, rfl, _, hbk, hat⟩ := (H.out.below (Hb.out.mono hB)).2 (by omega)
      obtain ⟨x0, x1, x2, ⟨d0, d1, d2⟩, rfl, rfl, UA, uc, rfl, -⟩ := hat k hlt
      obtain ⟨nl, hnl⟩ : ∃ n, n = C[k].l.length := ⟨_, rfl⟩
      obtain ⟨pm, hpm⟩ : ∃ n, n = C[k].params := ⟨_, rfl⟩
      obtain ⟨rg, hrg⟩ : ∃ n, n = C[k].regs := ⟨_, rfl⟩
      rw [← hpm] at d0
      rw [← hrg] at d1
      rw [← hnl] at d2 hsuc hl2
      obtain ⟨z, hz⟩ : ∃ z, z = sizTo C k := ⟨_, rfl⟩
      rw [← hz] at hsuc hl2 hle
      rw [← hz]
      clear hat hnl hpm hrg hz
      go_wp2
      go_roundw
      case rel => exact ⟨k + 1, by omega, by go_num, by rw [hsuc.out]; go_num, by trivial⟩
      case measure => simp [intOf]; omega
    · obtain rfl : k = C.length := by omega
      go_wp2
      go_ret
      exact ⟨by rw [E.out]; rfl, Hb.out⟩

set_option maxRecDepth 100000 in
set_option maxHeartbeats 4000000 in
theorem implOpsOf_c (z : Int) (hB : B ≤ w.heap.size) (hsz : unsSz C ≤ 1048576) (hC : UnL w L B CA C) (hF : Forms w B) :
    Calls Tryd.prog 15 #[.agg #[.slice CA C.length cc], .int .i64 z] w fun e w' => e = .returned (.int .i64 (opsC C z)) ∧ Below w.heap.size w w' := by
  have hCl : C.length ≤ 1048576 := by unfold unsSz at hsz; omega
  have hbW := blwC w (.cells #[.slice CA C.length cc] 29)
  have HR := Lib.hid (implCodeOk_c C CA cc L B _ (Nat.le_trans hB hbW.size) hsz (hC.below (hbW.mono hB)) (hF.below (hbW.mono hB)))
  have HbW := Lib.hid hbW
  have HK := Lib.hid (Blk.new w 29 #[.slice CA C.length cc])
  have H := Lib.hid hC
  have Hsz := Lib.hid hsz
  clear hC hsz hbW hF
  go_enter Tryd.func15, Tryd.ntmps15
  go_wp2_with fail
  refine HR.out.mono ?_
  rintro e w1 ⟨rfl, hb⟩
  have Hb := Lib.hid (HbW.out.trans (hb.mono HbW.out.size))
  have K1 := HK.out.below hb HK.out.lt
  clear hb HR HbW
  cases hok : codeOk C
  · have E := Lib.hid (show opsC C z = -1 by unfold opsC; rw [hok]; rfl)
    clear hok K1 HK
    go_wp2
    go_ret
    exact ⟨by rw [E.out]; first | rfl | simp, Hb.out⟩
  have E := Lib.hid (show opsC C z = opTo C z C.length by unfold opsC; rw [hok]; rfl)
  have q0 := K1.cel 0 (v := .slice CA C.length cc) rfl
  have HK1 := Lib.hid K1
  clear hok K1 HK
  go_wp2_with fail
  go_loopw [5, 16] (fun n i wr => ∃ k : Nat, k ≤ C.length ∧ i = .int .i64 k ∧ n = .int .i64 (opTo C z k) ∧ Below w1.heap.size w1 wr) (fun _ i _ => C.length - (intOf i).toNat)
  case atStart => exact ⟨0, Nat.zero_le _, rfl, rfl, Below.refl _ _⟩
  case round =>
    obtain ⟨k, hk, rfl, rfl, hbl⟩ := hrel
    by_cases hlt : k < C.length
    · have hbd := opTo_bd Hsz.out (z := z) hlt
      have hsuc := opTo_succ (z := z) hlt
      obtain ⟨ad, rfl, _, hbk, hat⟩ := (H.out.below ((Hb.out.trans (hbl.mono Hb.out.size)).mono hB)).2 (by omega)
      obtain ⟨x0, x1, x2, ⟨d0, d1, d2⟩, rfl, rfl, UA, uc, rfl, hI⟩ := hat k hlt
      obtain ⟨ul, hul⟩ : ∃ n, n = C[k].l := ⟨_, rfl⟩
      obtain ⟨pm, hpm⟩ : ∃ n, n = C[k].params := ⟨_, rfl⟩
      obtain ⟨rg, hrg⟩ : ∃ n, n = C[k].regs := ⟨_, rfl⟩
      rw [← hpm] at d0
      rw [← hrg] at d1
      rw [← hul] at d2 hsuc hbd hI
      obtain ⟨t, ht⟩ : ∃ t, t = opTo C z k := ⟨_, rfl⟩
      rw [← ht] at hsuc hbd
      rw [← ht]
      have Hsuc := Lib.hid hsuc
      obtain ⟨nl, hnl⟩ : ∃ n, n = ul.length := ⟨_, rfl⟩
      rw [← hnl] at d2 hbd
      have Hnl := Lib.hid hnl
      clear hat hul hpm hrg ht hsuc hnl
      have hbo := blwC wr (.cells #[.int .i64 pm, .int .i64 rg, .slice UA nl uc] 43)
      have hlow : B ≤ wr.heap.size := Nat.le_trans hB (Nat.le_trans Hb.out.size hbl.size)
      have HI := Lib.hid (hI.below (hbo.mono hlow))
      have Hbn := Lib.hid (hbl.trans (hbo.mono hbl.size))
      have hlo2 : B ≤ (wr.alloc (.cells #[.int .i64 pm, .int .i64 rg, .slice UA nl uc] 43)).heap.size := Nat.le_trans hlow hbo.size
      clear hbl hbo hI
      go_wp2_with fail
      generalize hW1 : wr.alloc (.cells #[.int .i64 pm, .int .i64 rg, .slice UA nl uc] 43) = W1
      rw [hW1] at HI Hbn hlo2
      clear hW1 d0 d1 d2
      go_loopw [5, 23] (fun n i wr => ∃ j : Nat, j ≤ nl ∧ i = .int .i64 j ∧ n = .int .i64 ((t + opI ul z j : Nat) : Int) ∧ Below W1.heap.size W1 wr) (fun _ i _ => nl - (intOf i).toNat)
      case atStart => exact ⟨0, Nat.zero_le _, rfl, rfl, Below.refl _ _⟩
      case round =>
        obtain ⟨j, hj, rfl, rfl, hbj⟩ := hrel
        have hle : opI ul z j ≤ nl := by rw [Hnl.out]; exact opI_le ul z j
        by_cases hjl : j < nl
        · have hjl' : j < ul.length := by rw [← Hnl.out]; exact hjl
          obtain ⟨fd, rfl, _, hfb, hfat⟩ := (HI.out.below (hbj.mono hlo2)).2 (by omega)
          obtain ⟨y0, y1, y2, y3, y4, ⟨f0, f1, f2, f3, f4⟩, rfl, rfl, rfl, rfl, NA, nc, rfl, -, -⟩ := hfat j hjl'
          have Hy := Lib.hid (fun h => opI_yes (z := z) hjl' h)
          have Hno := Lib.hid (fun h => opI_no (z := z) hjl' h)
          obtain ⟨s, hs⟩ : ∃ s, s = opI ul z j := ⟨_, rfl⟩
          rw [← hs] at Hy Hno hle
          rw [← hs]
          obtain ⟨oo, hoo⟩ : ∃ o, o = ul[j] := ⟨_, rfl⟩
          rw [← hoo] at f0 f1 f2 f3 f4 Hy Hno
          obtain ⟨op, oa, ob, oc, nm⟩ := oo
          dsimp only at *
          obtain ⟨ml, hml⟩ : ∃ n, n = nm.length := ⟨_, rfl⟩
          rw [← hml] at f4
          have Hbq := Lib.hid (hbj.trans ((blwC wr (.cells #[.int .i64 op, .int .i64 oa, .int .i64 ob, .int .i64 oc, .slice NA ml nc] 46)).mono hbj.size))
          clear hfat hs hoo hml hbj
          by_cases he : op = z
          · subst he
            have Hq := Lib.hid (Hy.out rfl)
            clear Hy Hno
            go_wp2
            go_roundw
            case rel => exact ⟨j + 1, by omega, by go_num, by rw [Hq.out]; go_num, Hbq.out⟩
            case measure => simp [intOf]; omega
          · have Hq := Lib.hid (Hno.out he)
            have he' : (op == z) = false := by simpa using he
            clear Hy Hno
            go_wp2
            go_roundw
            case rel => exact ⟨j + 1, by omega, by go_num, by rw [Hq.out], Hbq.out⟩
            case measure => simp [intOf]; omega
        · have Hf := Lib.hid (show opTo C z (k + 1) = t + opI ul z nl by rw [Hsuc.out, Hnl.out])
          obtain rfl : j = nl := by omega
          have Hbr := Lib.hid (Hbn.out.trans (hbj.mono Hbn.out.size))
          clear hbj
          go_wp2
          go_roundw
          case rel => exact ⟨k + 1, by omega, by go_num, by rw [Hf.out], Hbr.out⟩
          case measure => simp [intOf]; omega
    · obtain rfl : k = C.length := by omega
      have Hbe := Lib.hid (Hb.out.trans (hbl.mono Hb.out.size))
      clear hbl
      go_wp2
      go_ret
      exact ⟨by rw [E.out]; rfl, Hbe.out⟩

set_option maxRecDepth 100000 in
set_option maxHeartbeats 4000000 in
theorem specOpsOf_c (z : Int) (hB : B ≤ w.heap.size) (hsz : unsSz C ≤ 1048576) (hC : UnL w L B CA C) :
    Calls Tryd.prog 14 #[.agg #[.slice CA C.length cc], .int .i64 z] w fun e w' => e = .returned (.int .i64 (opsC C z)) ∧ Below w.heap.size w w' := by
  have hCl : C.length ≤ 1048576 := by unfold unsSz at hsz; omega
  have hbW := blwC w (.cells #[.slice CA C.length cc] 29)
  have HR := Lib.hid (specCodeOk_c C CA cc L B _ (Nat.le_trans hB hbW.size) hsz (hC.below (hbW.mono hB)))
  have HbW := Lib.hid hbW
  have HK := Lib.hid (Blk.new w 29 #[.slice CA C.length cc])
  have H := Lib.hid hC
  have Hsz := Lib.hid hsz
  clear hC hsz hbW
  go_enter Tryd.func14, Tryd.ntmps14
  go_wp2_with fail
  refine HR.out.mono ?_
  rintro e w1 ⟨rfl, hb⟩
  have Hb := Lib.hid (HbW.out.trans (hb.mono HbW.out.size))
  have K1 := HK.out.below hb HK.out.lt
  clear hb HR HbW
  cases hok : codeOk C
  · have E := Lib.hid (show opsC C z = -1 by unfold opsC; rw [hok]; rfl)
    clear hok K1 HK
    go_wp2
    go_ret
    exact ⟨by rw [E.out]; first | rfl | simp, Hb.out⟩
  have E := Lib.hid (show opsC C z = opTo C z C.length by unfold opsC; rw [hok]; rfl)
  have q0 := K1.cel 0 (v := .slice CA C.length cc) rfl
  have HK1 := Lib.hid K1
  clear hok K1 HK
  go_wp2_with fail
  go_loopw [5, 6] (fun n i wr => ∃ k : Nat, k ≤ C.length ∧ i = .int .i64 k ∧ n = .int .i64 (opTo C z k) ∧ wr = w1) (fun _ i _ => C.length - (intOf i).toNat)
  case atStart => exact ⟨0, Nat.zero_le _, rfl, rfl, by trivial⟩
  case round =>
    obtain ⟨k, hk, rfl, rfl, hwr⟩ := hrel
    obtain rfl : wr = w1 := hwr
    by_cases hlt : k < C.length
    · have hbd := opTo_bd Hsz.out (z := z) hlt
      have hsuc := opTo_succ (z := z) hlt
      obtain ⟨ad, rfl, _, hbk, hat⟩ := (H.out.below (Hb.out.mono hB)).2 (by omega)
      obtain ⟨x0, x1, x2, ⟨d0, d1, d2⟩, rfl, rfl, UA, uc, rfl, hI⟩ := hat k hlt
      obtain ⟨ul, hul⟩ : ∃ n, n = C[k].l := ⟨_, rfl⟩
      obtain ⟨pm, hpm⟩ : ∃ n, n = C[k].params := ⟨_, rfl⟩
      obtain ⟨rg, hrg⟩ : ∃ n, n = C[k].regs := ⟨_, rfl⟩
      rw [← hpm] at d0
      rw [← hrg] at d1
      rw [← hul] at d2 hsuc hbd hI
      obtain ⟨t, ht⟩ : ∃ t, t = opTo C z k := ⟨_, rfl⟩
      rw [← ht] at hsuc hbd
      rw [← ht]
      have Hsuc := Lib.hid hsuc
      obtain ⟨nl, hnl⟩ : ∃ n, n = ul.length := ⟨_, rfl⟩
      rw [← hnl] at d2 hbd
      have Hnl := Lib.hid hnl
      clear hat hul hpm hrg ht hsuc hnl
      have HI := Lib.hid hI
      clear hI d0 d1
      go_wp2_with fail
      go_loopw [5, 7] (fun n i wr' => ∃ j : Nat, j ≤ nl ∧ i = .int .i64 j ∧ n = .int .i64 ((t + opI ul z j : Nat) : Int) ∧ wr' = wr) (fun _ i _ => nl - (intOf i).toNat)
      case atStart => exact ⟨0, Nat.zero_le _, rfl, rfl, by trivial⟩
      case round =>
        obtain ⟨j, hj, rfl, rfl, rfl⟩ := hrel
        have hle : opI ul z j ≤ nl := by rw [Hnl.out]; exact opI_le ul z j
        by_cases hjl : j < nl
        · have hjl' : j < ul.length := by rw [← Hnl.out]; exact hjl
          obtain ⟨fd, rfl, _, hfb, hfat⟩ := HI.out.2 (by omega)
          obtain ⟨y0, y1, y2, y3, y4, ⟨f0, f1, f2, f3, f4⟩, rfl, rfl, rfl, rfl, NA, nc, rfl, -, -⟩ := hfat j hjl'
          have Hy := Lib.hid (fun h => opI_yes (z := z) hjl' h)
          have Hno := Lib.hid (fun h => opI_no (z := z) hjl' h)
          obtain ⟨s, hs⟩ : ∃ s, s = opI ul z j := ⟨_, rfl⟩
          rw [← hs] at Hy Hno hle
          rw [← hs]
          obtain ⟨op, hop⟩ : ∃ o, o = ul[j].op := ⟨_, rfl⟩
          rw [← hop] at f0 Hy Hno
          clear hfat hs hop f1 f2 f3 f4
          by_cases he : op = z
          · subst he
            have Hq := Lib.hid (Hy.out rfl)
            clear Hy Hno
            go_wp2
            go_roundw
            case rel => exact ⟨j + 1, by omega, by go_num, by rw [Hq.out]; go_num, by trivial⟩
            case measure => simp [intOf]; omega
          · have Hq := Lib.hid (Hno.out he)
            have he' : (op == z) = false := by simpa using he
            clear Hy Hno
            go_wp2
            go_roundw
            case rel => exact ⟨j + 1, by omega, by go_num, by rw [Hq.out], by trivial⟩
            case measure => simp [intOf]; omega
        · have Hf := Lib.hid (show opTo C z (k + 1) = t + opI ul z nl by rw [Hsuc.out, Hnl.out])
          obtain rfl : j = nl := by omega
          go_wp2
          go_roundw
          case rel => exact ⟨k + 1, by omega, by go_num, by rw [Hf.out], by trivial⟩
          case measure => simp [intOf]; omega
    · obtain rfl : k = C.length := by omega
      go_wp2
      go_ret
      exact ⟨by rw [E.out]; rfl, Hb.out⟩
end
end Cod
end Go.Proofs.YtpepikjcbgkcfaaDoor
