/-
  What LiveSlots, CountsOf and Children tell.
-/
import Derived.Test.YtiofabnicdlceaaRoomQ
import Derived.Test.YtiofabnicdlceaaArnOk
import Derived.Test.YtiofabnicdlceaaIntRow
namespace Go.Proofs.Ytiofabnicdlceaa
open Go.RowKit
set_option linter.unusedVariables false

def liveA (a : Ar) : List Int := if arOk a = true then liveTo a.slots a.slots.length else []
def cntTo (S : List Sl) (k : Nat) : List Int := (S.take k).map fun s => s.count
theorem cntTo_zero (S : List Sl) : cntTo S 0 = [] := rfl
theorem cntTo_succ {S : List Sl} {k : Nat} (h : k < S.length) : cntTo S (k + 1) = cntTo S k ++ [S[k].count] := by
  unfold cntTo
  rw [List.take_succ_eq_append_getElem h, List.map_append]; rfl
theorem cntTo_len {S : List Sl} {k : Nat} (h : k ≤ S.length) : (cntTo S k).length = k := by simp [cntTo]; omega
def countsA (a : Ar) : List Int := if arOk a = true then cntTo a.slots a.slots.length else []
theorem liveTo_le (S : List Sl) (k : Nat) : (liveTo S k).length ≤ k := by
  unfold liveTo
  rw [List.length_map]
  exact Nat.le_trans (List.length_filter_le _ _) (by simp)
/-- whom fields refer to -/
def refsTo (l : List Fd) (k : Nat) : List Int := ((l.take k).filter fun f => f.k == 2).map fun f => f.n
theorem refsTo_zero (l : List Fd) : refsTo l 0 = [] := rfl
theorem refsTo_yes {l : List Fd} {k : Nat} (h : k < l.length) (h2 : l[k].k = 2) : refsTo l (k + 1) = refsTo l k ++ [l[k].n] := by
  unfold refsTo
  rw [List.take_succ_eq_append_getElem h, List.filter_append, List.map_append]
  simp [h2]
theorem refsTo_no {l : List Fd} {k : Nat} (h : k < l.length) (h2 : ¬ l[k].k = 2) : refsTo l (k + 1) = refsTo l k := by
  unfold refsTo
  rw [List.take_succ_eq_append_getElem h, List.filter_append, List.map_append]
  simp [h2]
theorem refsTo_le (l : List Fd) (k : Nat) : (refsTo l k).length ≤ k := by
  unfold refsTo
  rw [List.length_map]
  exact Nat.le_trans (List.length_filter_le _ _) (by simp; omega)
def kidsA (a : Ar) (s : Int) : List Int := if h : arOk a = true ∧ 0 ≤ s ∧ s < a.slots.length then refsTo (a.slots[s.toNat]'(by omega)).fs (a.slots[s.toNat]'(by omega)).fs.length else []
theorem liveA_bd (a : Ar) (h : arSz a ≤ 1048576) : (liveA a).length ≤ 1048576 := by
  have h1 := liveTo_le a.slots a.slots.length
  unfold arSz slsSz at h
  unfold liveA
  split
  · omega
  · simp
theorem countsA_bd (a : Ar) (h : arSz a ≤ 1048576) : (countsA a).length ≤ 1048576 := by
  have h1 := cntTo_len (Nat.le_refl a.slots.length)
  unfold arSz slsSz at h
  unfold countsA
  split
  · omega
  · simp
theorem SetV.ans {w w' : World} {v : Value} {l : List Int} (h : SetV w' w.heap.size v l) (hb : Below w.heap.size w w') : AnsI w l (.returned v) w' := by
  rcases h with ⟨rfl, rfl⟩ | ⟨g, cs, rfl, hg, hB, h1, h2, h3⟩
  · exact AnsI.nil hb
  · exact ⟨_, _, rfl, fun hn => ⟨g, cs, rfl, hB, hg, h1, fun i hi => by rw [h3 i hi, gI_get hi]⟩, hb⟩
end Go.Proofs.Ytiofabnicdlceaa
