/-
  UnitSizes: the program's and the model's.
-/
import Derived.Test.YtpepikjcbgkcfaaDoorSpecCode2
import Derived.Test.YtpepikjcbgkcfaaDoorImplCode2
import Derived.Test.YtpepikjcbgkcfaaDoorIntC
namespace Go.Proofs.YtpepikjcbgkcfaaDoor
open Go.RowKit
set_option linter.unusedVariables false
set_option linter.unusedSimpArgs false
namespace Cod
open CodI

def lensTo (C : List Un) (k : Nat) : List Int := (C.take k).map fun u => (u.l.length : Int)
theorem lensTo_zero (C : List Un) : lensTo C 0 = [] := rfl
theorem lensTo_succ {C : List Un} {k : Nat} (h : k < C.length) : lensTo C (k + 1) = lensTo C k ++ [(C[k].l.length : Int)] := by
  unfold lensTo
  rw [List.take_succ_eq_append_getElem h, List.map_append]; rfl
theorem lensTo_len {C : List Un} {k : Nat} (h : k ≤ C.length) : (lensTo C k).length = k := by simp [lensTo]; omega
def unitsC (C : List Un) : List Int := if codeOk C = true then lensTo C C.length else []
theorem unitsC_bd (C : List Un) (h : unsSz C ≤ 1048576) : (unitsC C).length ≤ 1048576 := by
  have h1 := lensTo_len (Nat.le_refl C.length)
  unfold unsSz at h
  unfold unitsC
  split
  · omega
  · simp

section
variable (C : List Un) (CA : Option Addr) (cc L B : Nat) (w : World)

set_option maxRecDepth 100000 in
set_option maxHeartbeats 4000000 in
theorem implUnitSizes_c (hB : B ≤ w.heap.size) (hsz : unsSz C ≤ 1048576) (hC : UnL w L B CA C) (hF : Forms w B) :
    Calls Tryd.prog 17 #[.agg #[.slice CA C.length cc]] w (AnsI w (unitsC C)) := by
  obtain ⟨i0, hi, hz0, hz1, hz2⟩ := info_parts infoI
  have hCl : C.length ≤ 1048576 := by unfold unsSz at hsz; omega
  have hbW := blwC w (.cells #[.slice CA C.length cc] 29)
  have HR := Lib.hid (implCodeOk_c C CA cc L B _ (Nat.le_trans hB hbW.size) hsz (hC.below (hbW.mono hB)) (hF.below (hbW.mono hB)))
  have HbW := Lib.hid hbW
  have HK := Lib.hid (Blk.new w 29 #[.slice CA C.length cc])
  have H := Lib.hid hC
  clear hC hsz hbW hF
  go_enter Tryd.func17, Tryd.ntmps17
  go_wp2_with fail
  refine HR.out.mono ?_
  rintro e w1 ⟨rfl, hb⟩
  have Hb := Lib.hid (HbW.out.trans (hb.mono HbW.out.size))
  have K1 := HK.out.below hb HK.out.lt
  clear hb HR HbW
  cases hok : codeOk C
  · have E := Lib.hid (show unitsC C = [] by unfold unitsC; rw [hok]; rfl)
    clear hok K1 HK
    go_wp2
    go_ret
    rw [E.out]
    exact AnsI.nil Hb.out
  have E := Lib.hid (show unitsC C = lensTo C C.length by unfold unitsC; rw [hok]; rfl)
  have q0 := K1.cel 0 (v := .slice CA C.length cc) rfl
  have HK1 := Lib.hid K1
  clear hok K1 HK
  go_wp2_with fail
  go_loopw [3, 12] (fun n i wr => ∃ k : Nat, k ≤ C.length ∧ i = .int .i64 k ∧ Hid (IRow wr w1.heap.size n (lensTo C k)) ∧ Below w1.heap.size w1 wr) (fun _ i _ => C.length - (intOf i).toNat)
  case atStart => exact ⟨0, Nat.zero_le _, rfl, Lib.hid (IRow.nil _ _), Below.refl _ _⟩
  case round =>
    obtain ⟨k, hk, rfl, hrow, hbl⟩ := hrel
    obtain ⟨A', c', rfl, hlc⟩ := hrow.out.form
    have hll := lensTo_len hk
    have hws := hbl.size
    have KR := HK1.out.below hbl HK1.out.lt
    have p0 := KR.cel 0 (v := .slice CA C.length cc) rfl
    have p1 := fun (o : Obj) => (KR.alloc o).cel 0 (v := .slice CA C.length cc) rfl
    have hbw := Hb.out.trans (hbl.mono Hb.out.size)
    by_cases hlt : k < C.length
    · obtain ⟨ad, rfl, _, hbk, hat⟩ := (H.out.below (hbw.mono hB)).2 (by omega)
      obtain ⟨x0, x1, x2, ⟨d0, d1, d2⟩, rfl, rfl, UA, uc, rfl, -⟩ := hat k hlt
      have Hn := Lib.hid (lensTo_succ hlt)
      obtain ⟨nl, hnl⟩ : ∃ n, n = C[k].l.length := ⟨_, rfl⟩
      obtain ⟨pm, hpm⟩ : ∃ n, n = C[k].params := ⟨_, rfl⟩
      obtain ⟨rg, hrg⟩ : ∃ n, n = C[k].regs := ⟨_, rfl⟩
      rw [← hpm] at d0
      rw [← hrg] at d1
      rw [← hnl] at d2 Hn
      clear hat hnl hpm hrg hbw KR
      have hr1 := hrow.out.alloc (.cells #[.int .i64 pm, .int .i64 rg, .slice UA nl uc] 43)
      have hbl1 := hbl.trans ((blwC wr (.cells #[.int .i64 pm, .int .i64 rg, .slice UA nl uc] 43)).mono hws)
      have HO := Lib.hid (hr1.alloc (.cells #[.int .i64 (nl : Int)] 3))
      have Hcell := Lib.hid (cell_one_new (wr.alloc (.cells #[.int .i64 pm, .int .i64 rg, .slice UA nl uc] 43)) (.int .i64 (nl : Int)) 3)
      have Hbl1 := Lib.hid hbl1
      clear hr1 hbl hbl1
      go_wp2_with (at_builtin; refine wpList_append_own _ rfl (.tmp 16) (.tmp 20) 36 rfl w1.heap.size 3 i0 _ 1 8 Tryd.underlying36 hi hz0 hz1 hz2 rfl (by omega) _ _ _ rfl HO.out ⟨wr.heap.size + 1, 0, none⟩ 1 1 [.int .i64 (nl : Int)] rfl rfl (by have := Hcell.out; rw [World.size_alloc] at this; exact this) (by simp [Value.oneCell']) (by unfold maxLen; omega) (by omega) (by simp; omega) ?_; intro v' w4 hown' hgrow _)
      have hbn : Below w1.heap.size w1 w4 := HO.out.grown (Hbl1.out.alloc (by simp; omega) _) (by simp; omega) hgrow
      have Hnew := Lib.hid (IRow.snoc hown')
      have Hbn := Lib.hid hbn
      clear hown' hgrow hbn HO Hcell Hbl1
      go_roundw
      case rel => exact ⟨k + 1, by omega, by go_num, by rw [Hn.out]; exact Hnew, Hbn.out⟩
      case measure => simp [intOf]; omega
    · obtain rfl : k = C.length := by omega
      have Hbe := Lib.hid hbw
      clear hbl hbw KR
      go_wp2
      go_ret
      rw [E.out]
      exact ⟨_, _, rfl, (hrow.out.own).lo_le Hb.out.size, Hbe.out⟩

set_option maxRecDepth 100000 in
set_option maxHeartbeats 4000000 in
theorem specUnitSizes_c (hB : B ≤ w.heap.size) (hsz : unsSz C ≤ 1048576) (hC : UnL w L B CA C) :
    Calls Tryd.prog 16 #[.agg #[.slice CA C.length cc]] w (AnsI w (unitsC C)) := by
  obtain ⟨i0, hi, hz0, hz1, hz2⟩ := info_parts infoI
  have hCl : C.length ≤ 1048576 := by unfold unsSz at hsz; omega
  have hbW := blwC w (.cells #[.slice CA C.length cc] 29)
  have HR := Lib.hid (specCodeOk_c C CA cc L B _ (Nat.le_trans hB hbW.size) hsz (hC.below (hbW.mono hB)))
  have HbW := Lib.hid hbW
  have HK := Lib.hid (Blk.new w 29 #[.slice CA C.length cc])
  have H := Lib.hid hC
  clear hC hsz hbW
  go_enter Tryd.func16, Tryd.ntmps16
  go_wp2_with fail
  refine HR.out.mono ?_
  rintro e w1 ⟨rfl, hb⟩
  have Hb := Lib.hid (HbW.out.trans (hb.mono HbW.out.size))
  have K1 := HK.out.below hb HK.out.lt
  clear hb HR HbW
  cases hok : codeOk C
  · have E := Lib.hid (show unitsC C = [] by unfold unitsC; rw [hok]; rfl)
    clear hok K1 HK
    go_wp2
    go_ret
    rw [E.out]
    exact AnsI.nil Hb.out
  have E := Lib.hid (show unitsC C = lensTo C C.length by unfold unitsC; rw [hok]; rfl)
  have q0 := K1.cel 0 (v := .slice CA C.length cc) rfl
  have HK1 := Lib.hid K1
  clear hok K1 HK
  go_wp2_with fail
  go_loopw [3, 4] (fun n i wr => ∃ k : Nat, k ≤ C.length ∧ i = .int .i64 k ∧ Hid (IRow wr w1.heap.size n (lensTo C k)) ∧ Below w1.heap.size w1 wr) (fun _ i _ => C.length - (intOf i).toNat)
  case atStart => exact ⟨0, Nat.zero_le _, rfl, Lib.hid (IRow.nil _ _), Below.refl _ _⟩
  case round =>
    obtain ⟨k, hk, rfl, hrow, hbl⟩ := hrel
    obtain ⟨A', c', rfl, hlc⟩ := hrow.out.form
    have hll := lensTo_len hk
    have hws := hbl.size
    have KR := HK1.out.below hbl HK1.out.lt
    have p0 := KR.cel 0 (v := .slice CA C.length cc) rfl
    have p1 := fun (o : Obj) => (KR.alloc o).cel 0 (v := .slice CA C.length cc) rfl
    have hbw := Hb.out.trans (hbl.mono Hb.out.size)
    by_cases hlt : k < C.length
    · obtain ⟨ad, rfl, _, hbk, hat⟩ := (H.out.below (hbw.mono hB)).2 (by omega)
      obtain ⟨x0, x1, x2, ⟨d0, d1, d2⟩, rfl, rfl, UA, uc, rfl, -⟩ := hat k hlt
      have Hn := Lib.hid (lensTo_succ hlt)
      obtain ⟨nl, hnl⟩ : ∃ n, n = C[k].l.length := ⟨_, rfl⟩
      obtain ⟨pm, hpm⟩ : ∃ n, n = C[k].params := ⟨_, rfl⟩
      obtain ⟨rg, hrg⟩ : ∃ n, n = C[k].regs := ⟨_, rfl⟩
      rw [← hpm] at d0
      rw [← hrg] at d1
      rw [← hnl] at d2 Hn
      clear hat hnl hpm hrg hbw KR
      have HO := Lib.hid (hrow.out.alloc (.cells #[.int .i64 (nl : Int)] 3))
      have Hcell := Lib.hid (cell_one_new wr (.int .i64 (nl : Int)) 3)
      have Hbl1 := Lib.hid hbl
      clear hbl
      go_wp2_with (at_builtin; refine wpList_append_own _ rfl (.tmp 15) (.tmp 23) 36 rfl w1.heap.size 3 i0 _ 1 8 Tryd.underlying36 hi hz0 hz1 hz2 rfl (by omega) _ _ _ rfl HO.out ⟨wr.heap.size, 0, none⟩ 1 1 [.int .i64 (nl : Int)] rfl rfl Hcell.out (by simp [Value.oneCell']) (by unfold maxLen; omega) (by omega) (by simp; omega) ?_; intro v' w4 hown' hgrow _)
      have hbn : Below w1.heap.size w1 w4 := HO.out.grown (Hbl1.out.alloc hws _) (by simp; omega) hgrow
      have Hnew := Lib.hid (IRow.snoc hown')
      have Hbn := Lib.hid hbn
      clear hown' hgrow hbn HO Hcell Hbl1
      go_roundw
      case rel => exact ⟨k + 1, by omega, by go_num, by rw [Hn.out]; exact Hnew, Hbn.out⟩
      case measure => simp [intOf]; omega
    · obtain rfl : k = C.length := by omega
      have Hbe := Lib.hid hbw
      clear hbl hbw KR
      go_wp2
      go_ret
      rw [E.out]
      exact ⟨_, _, rfl, (hrow.out.own).lo_le Hb.out.size, Hbe.out⟩
end
end Cod
end Go.Proofs.YtpepikjcbgkcfaaDoor
