/-
  The program's appendWords: a word and numbers behind a row of bytes, parted by blanks.
-/
import Derived.Test.YtebgigiakfjocaaDoorApp
import Derived.Test.YtebgigiakfjocaaDoorShelf
import Derived.Lib.ItoaLen
namespace Go.Proofs.YtebgigiakfjocaaDoor
open Go.RowKit
set_option linter.unusedVariables false
set_option linter.unusedSimpArgs false

/-- numbers, a blank ahead of each -/
def numsT (ns : List Int) : List UInt8 := ns.flatMap fun n => 32 :: Lib.itoa n
theorem numsT_succ {ns : List Int} {k : Nat} (h : k < ns.length) : numsT (ns.take (k + 1)) = numsT (ns.take k) ++ (32 :: Lib.itoa ns[k]) := by
  unfold numsT
  rw [List.take_add_one, List.flatMap_append, List.getElem?_eq_getElem h]
  simp
theorem itoa_len (n : Int) (h0 : -9223372036854775808 ≤ n) (h1 : n ≤ 9223372036854775807) : (Lib.itoa n).length ≤ 21 := Lib.itoa_length_le n h0 h1
theorem numsT_len {ns : List Int} (h : ∀ n ∈ ns, -9223372036854775808 ≤ n ∧ n ≤ 9223372036854775807) : (numsT ns).length ≤ 22 * ns.length := by
  induction ns with
  | nil => simp [numsT]
  | cons a r ih =>
    have h1 := ih (fun n hn => h n (List.mem_cons_of_mem _ hn))
    have h2 := itoa_len a (h a List.mem_cons_self).1 (h a List.mem_cons_self).2
    unfold numsT at h1 ⊢
    simp only [List.flatMap_cons, List.length_append, List.length_cons]
    omega
theorem byteCells_vb' (l : List UInt8) : Lib.byteCells l = vb l := rfl

theorem tab_say {B : Nat} {w w1 : World} {name : String} {k : IntKind} {zs : List Int} {P : Program} (h : Lib.TabBelow P B w name k zs) (hs : Say B w w1) : Lib.TabBelow P B w1 name k zs := fun w' h' => h w' (hs.below.trans h')
theorem ownB_of {w : World} {B : Nat} {v : Value} {l r : List UInt8} (h : w.ownsRow B 5 1 v (l.length + r.length) (vb l ++ Lib.byteCells r)) : OwnB w B v (l ++ r) := by
  unfold OwnB
  rw [List.length_append, vb_append]
  exact h
set_option maxRecDepth 100000 in
set_option maxHeartbeats 2000000 in
theorem appendWords_c (l wd : List UInt8) (ns : List Int) (v : Value) (g c B : Nat) (s : ByteArray) (w : World) (hs : s.data.toList = wd) (hB : B ≤ w.heap.size) (hl : l.length ≤ 1000000000000) (hw : wd.length ≤ 1000000) (hn : ns.length ≤ 1000)
    (hb : ∀ n ∈ ns, -9223372036854775808 ≤ n ∧ n ≤ 9223372036854775807) (hg : Blk w g 3 (ns.map (Value.int .i64)).toArray) (h : OwnB w B v l) (htab : Lib.TabBelow Tryd.prog B w "internal/strconv.uint64pow10" .u64 Lib.pow10Tab) :
    Calls Tryd.prog 53 #[v, .string s, .slice (some ⟨g, 0, none⟩) ns.length c] w fun e w' => ∃ A cc, e = .returned (.slice A (l ++ wd ++ numsT ns).length cc) ∧ OwnB w' B (.slice A (l ++ wd ++ numsT ns).length cc) (l ++ wd ++ numsT ns) ∧ Say B w w' := by
  obtain ⟨lw, hlw⟩ : ∃ x, l ++ wd = x := ⟨_, rfl⟩
  have hlwl : lw.length ≤ 1000001000000 := by rw [← hlw, List.length_append]; omega
  obtain ⟨A0, c0, rfl, _⟩ := h.form
  have H := Lib.hid h
  have Hb := Lib.hid hb
  have Hg := Lib.hid hg
  have Hs := Lib.hid hs
  have Htab := Lib.hid htab
  have Hlw := Lib.hid hlw
  rw [hlw]
  clear h hb hg hs htab hlw
  go_enter Tryd.func53, Tryd.ntmps53
  go_wp2_with (at_builtin; refine wpList_strB rfl (.tmp 9) (.tmp 10) rfl rfl H.out rfl Hs.out Hlw.out (by omega) hB ?_; intro A1 c1 w1 hO1 hS1; have HO1 := Lib.hid hO1; have HS1 := Lib.hid hS1; clear hO1 hS1)
  go_loopw [0, 14] (fun t i wr => ∃ (k : Nat) (A : Option Addr) (c : Nat), k ≤ ns.length ∧ i = .int .i64 k ∧ t = .slice A (lw ++ numsT (ns.take k)).length c ∧ Hid (OwnB wr B (.slice A (lw ++ numsT (ns.take k)).length c) (lw ++ numsT (ns.take k))) ∧ Hid (Say B w wr)) (fun _ i _ => ns.length - (intOf i).toNat)
  case atStart => exact ⟨0, A1, c1, Nat.zero_le _, rfl, by simp [numsT], by simpa [numsT] using HO1, HS1⟩
  case round =>
    obtain ⟨k, A, c, hk, rfl, rfl, hO, hS⟩ := hrel
    by_cases hlt : k < ns.length
    · obtain ⟨x, hx⟩ : ∃ x, x = lw ++ numsT (ns.take k) := ⟨_, rfl⟩
      have hxl : x.length ≤ 1000001100000 := by
        rw [hx, List.length_append]
        have := numsT_len (ns := ns.take k) (fun n hn => Hb.out n (List.mem_of_mem_take hn))
        rw [List.length_take] at this
        omega
      rw [← hx] at hO ⊢
      have hbk := Hb.out ns[k] (List.getElem_mem hlt)
      have hnext : lw ++ numsT (ns.take (k + 1)) = x ++ [32] ++ Lib.itoa ns[k] := by rw [numsT_succ hlt, hx]; simp
      have Hnext := Lib.hid hnext
      obtain ⟨n, hnk⟩ : ∃ n, n = ns[k] := ⟨_, rfl⟩
      rw [← hnk] at Hnext hbk
      have q0 : wr.cell? ⟨g, k, none⟩ = some (.int .i64 n) := by
        rw [(Hg.out.say hS.out (by decide)).cell]
        simp [hlt, hnk]
      have hsz := hS.out.size
      have hbr : B ≤ wr.heap.size := by omega
      obtain ⟨y, hy⟩ : ∃ y, x ++ [32] = y := ⟨_, rfl⟩
      have hyl : y.length = x.length + 1 := by rw [← hy]; simp
      rw [hy] at Hnext
      have Hy := Lib.hid hy
      have Hyl := Lib.hid hyl
      clear hx hnk hnext hy hyl
      go_wp2_with (first
        | (at_builtin; refine wpList_oneB (b := 32) rfl (.tmp 18) (.tmp 19) rfl rfl hO.out 32 rfl rfl (by first | rfl | simp) Hy.out (by omega) hbr ?_; intro A2 c2 w2 hO2 hS2; have HO2 := Lib.hid hO2; have HS2 := Lib.hid (hS.out.trans hS2); have hsz2 := hS2.size; have Hint := Lib.hid (Tryd.strconv_AppendInt_10 B _ n hbk.1 hbk.2 _ _ w2 hO2 (by omega) (by rw [Hyl.out]; omega) (tab_say Htab.out HS2.out)); clear hO2 hS2)
        | (go_at_call 45; refine Hint.out.mono ?_; rintro e w3 ⟨v3, rfl, hO3, hb3, hk3⟩; have hO3' := ownB_of hO3; obtain ⟨A3, c3, rfl, -⟩ := hO3'.form; have HO3 := Lib.hid hO3'; have HS3 := Lib.hid (HS2.out.trans ⟨hb3, hk3⟩); clear hO3 hO3' hb3 hk3))
      go_roundw
      case rel => exact ⟨k + 1, A3, c3, by omega, by go_num, by rw [Hnext.out, List.length_append], by rw [Hnext.out]; exact HO3, HS3⟩
      case measure => simp [intOf]; omega
    · go_wp2
      go_ret
      have : k = ns.length := by omega
      subst this
      rw [List.take_length] at hO
      exact ⟨A, c, by simp only [List.take_length]; rfl, hO.out, hS.out⟩
end Go.Proofs.YtebgigiakfjocaaDoor
