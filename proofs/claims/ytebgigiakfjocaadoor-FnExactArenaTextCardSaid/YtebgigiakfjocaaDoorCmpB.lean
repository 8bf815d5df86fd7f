/-
  bytes.Compare.
-/
import Derived.Test.YtebgigiakfjocaaDoorBytes
import Derived.Lib.Bytealg
import Derived.Lib.BytesEntry
import Derived.Laws.Externs
namespace Go.Proofs.YtebgigiakfjocaaDoor
open Go.RowKit
set_option linter.unusedVariables false

theorem run_bytesOf_RB {P : Program} {w : World} {B : Nat} {A : Option Addr} {l : List UInt8} (h : RB w B A l) (c : Nat) : (Extern.Bytes.bytesOf (Value.slice A l.length c)).run P w = .ok ⟨l.toArray⟩ w := by
  rcases A with _ | ad
  · have : l = [] := by
      rcases Nat.eq_zero_or_pos l.length with h0 | h0
      · exact List.eq_nil_of_length_eq_zero h0
      · obtain ⟨ad, e, _⟩ := h.at_ h0
        cases e
    subst this
    rfl
  · have hc : ∀ j x, (l.map fun b => (b.toNat : Int))[j]? = some x → w.cell? (ad.add j) = some (.int .u8 x) := fun j x hj => by
      have hj' : j < l.length := by
        rcases Nat.lt_or_ge j l.length with h1 | h1
        · exact h1
        · rw [List.getElem?_eq_none (by simpa using h1)] at hj
          cases hj
      obtain ⟨ad', e, _, hx⟩ := h.at_ hj'
      cases e
      rw [hx]
      rw [List.getElem?_map, List.getElem?_eq_getElem hj'] at hj
      simpa using hj
    have := Lib.run_loadBytesX (P := P) (w := w) (l.map fun b => (b.toNat : Int)) ad .empty hc
    rw [List.length_map] at this
    show (Extern.Bytes.loadBytes ad l.length .empty).run P w = _
    rw [this]
    congr 2
    show (#[] ++ _ : Array UInt8) = _
    rw [Array.empty_append]
    congr 1
    unfold Lib.bytesOf
    rw [List.map_map]
    conv => rhs; rw [← List.map_id l]
    apply List.map_congr_left
    intro b _
    simp

theorem bytesCompare_c (l l' : List UInt8) (A A' : Option Addr) (c c' B B' : Nat) (w : World) (h : RB w B A l) (h' : RB w B' A' l') :
    Calls Tryd.prog 122 #[.slice A l.length c, .slice A' l'.length c'] w fun e w' => e = .returned (.int .i64 (Lib.compareBytes l l')) ∧ w = w' := by
  have hrun : (callFunc 142 #[.slice A l.length c, .slice A' l'.length c']).run Tryd.prog w = .ok (.value (.int .i64 (Lib.compareBytes l l'))) w := by
    rw [run_callFunc_extern Tryd.func142 (by kernel_rfl) (by kernel_rfl) (by kernel_rfl) (e := Extern.BytealgCompare.compare) (by kernel_rfl)]
    have e : (Extern.BytealgCompare.compare #[.slice A l.length c, .slice A' l'.length c']).run Tryd.prog w = .ok (.int .i64 (Lib.compareBytes l l')) w := by
      change Sem.run Tryd.prog (do pure (goInt (Extern.BytealgCompare.cmp (← Extern.Bytes.bytesOf (.slice A l.length c)) (← Extern.Bytes.bytesOf (.slice A' l'.length c'))))) w = _
      simp only [Sem.run_bind, run_bytesOf_RB h, run_bytesOf_RB h', Sem.run_pure, Result.andThen]
      rw [Lib.cmp_eq]
      rfl
    rw [e]
    rfl
  have Hr := Lib.hid hrun
  clear hrun
  go_enter Tryd.func122, Tryd.ntmps122
  go_wp2_with (simp only [Hr.out])
  go_ret
  exact ⟨rfl, rfl⟩
end Go.Proofs.YtebgigiakfjocaaDoor
