/-
  At every list of tokens TokenText answers as its model, writes into no argument, and its answer owns its memory; what the library's decimals read is tied to the program's text. No condition.
-/
import Derived.Test.YtfcgjhjmphdffaaDoorTextI
import Derived.Test.YtfcgjhjmphdffaaDoorOpenTok
import Derived.Test.YtfcgjhjmphdffaaDoorCards
import Derived.Test.YtfcgjhjmphdffaaDoorTie
import Derived.JoinedCond
import Derived.Deep.DeepHandedRow
import Derived.Deep.CondSized
import Derived.Lib.LaidTab
import Derived.Stop.LaidErr
import Derived.SevenTiedAt
import Derived.SevenTiedPlain
namespace Go.Proofs.YtfcgjhjmphdffaaDoor
open Go.ChangeShapes Go.WideShapes Go.ChangeAt Go.RowKit
set_option linter.unusedVariables false

namespace TextLaw

theorem Outside.all {w w' : World} (h : Outside 0 0 w w') (B : Nat) : Below B w w' := ⟨h.os, h.tape, h.output, by rw [h.size]; exact Nat.le_refl _, fun k _ => h.block k (Or.inr (Nat.zero_le _))⟩
theorem eqByteS_s (l : List UInt8) (A A' : Option Addr) (c c' B B' : Nat) (w : World) (hl : l.length ≤ 4294967296) (h : RB w B A l) (h' : RB w B' A' l) :
    Calls Tryd.prog 8 #[.slice A l.length c, .slice A' l.length c'] w fun e w' => e = .returned (.bool true) ∧ Outside 0 0 w w' := by
  refine (eqByteS_c l A A' c c' B B' w hl h h').mono ?_
  rintro e w' ⟨rfl, n, rfl⟩
  exact ⟨rfl, rfl, rfl, rfl, rfl, fun _ _ => rfl⟩
theorem tab_more {P : Program} {B B' : Nat} {w w1 : World} {name : String} {k : IntKind} {zs : List Int} (h : Lib.TabBelow P B w name k zs) (hb : Below B w w1) (hB : B ≤ B') : Lib.TabBelow P B' w1 name k zs :=
  fun w' h' => h w' (hb.trans (h'.mono hB))
theorem OwnB.parts {w : World} {B : Nat} {v : Value} {l : List UInt8} (h : OwnB w B v l) (hB : B ≤ w.heap.size) :
    ∃ (A : Option Addr) (c g : Nat) (tc : Array Value), v = .slice A l.length c ∧ B ≤ g ∧ (0 < l.length → A = some ⟨g, 0, none⟩ ∧ Blk w g 5 tc ∧ l.length ≤ tc.size) := by
  rcases h.2 with ⟨rfl, h0⟩ | ⟨g, cap, cur, rfl, hg, hh, hn, _, hs, _⟩
  · have : l = [] := List.eq_nil_of_length_eq_zero h0
    subst this
    exact ⟨none, 0, w.heap.size, #[], rfl, hB, fun h => by simp at h⟩
  · exact ⟨_, _, g, cur, rfl, hg, fun _ => ⟨rfl, hh, by omega⟩⟩
theorem rb_mark {w : World} {A : Option Addr} {g B n k : Nat} (hB : w.heap.size ≤ B) (hA : 0 < n → A = some ⟨g, 0, none⟩)
    (h : 0 < n → ∃ tc' : Array Value, Blk w g 5 tc' ∧ ∀ (j : Nat) (u : Value), (vb (mk k n))[j]? = some u → tc'[j]? = some u) : RB w B A (mk k n) := by
  refine ⟨by simp [vb], fun hn => ?_⟩
  rw [mk_len] at hn
  obtain ⟨tc', hb, ht⟩ := h hn
  refine ⟨_, hA hn, by have := hb.lt; show g < B; omega, fun j u hu => ?_⟩
  rw [show (Addr.add ⟨g, 0, none⟩ j) = ⟨g, j, none⟩ by unfold Addr.add; split <;> simp_all]
  rw [hb.cell]; exact ht j u hu
theorem textOf_len {ts : List Tok} (h : ts.length + txts ts ≤ 1048576) : (textOf ts).length ≤ 4294967296 := by
  unfold textOf
  split
  · simp
  · cases hx : txtTo ts ts.length with
    | none => simp
    | some a =>
      have := txtTo_len (Nat.le_refl _) hx
      rw [List.take_length] at this
      show a.length ≤ _
      omega

set_option maxRecDepth 100000 in
set_option maxHeartbeats 4000000 in
theorem walk (b : List Tok) (Ab : Option Addr) (cb : Nat) (w : World) (hlb : b.length ≤ maxLen) (hRb : RT w w.heap.size Ab b) (htab : Lib.TabBelow Tryd.prog w.heap.size w "internal/strconv.uint64pow10" .u64 Lib.pow10Tab) :
    Calls Tryd.prog 3 #[.slice Ab b.length cb] w fun e w' => e = .returned (.bool true) ∧ Below w.heap.size w w' := by
  unfold maxLen at hlb
  have Htab := Lib.hid htab
  clear htab
  go_enter Tryd.func3, Tryd.ntmps3
  go_wp2_with fail
  refine (szTokenS_c b Ab cb _ 1048576 _ (Nat.le_refl _) hlb (by omega) (by omega) hRb).mono ?_
  rintro e w0 ⟨r, rfl, hr1, hr2, hr3, hb0⟩
  by_cases hr : r < 0
  · go_wp2
    go_ret
    exact ⟨rfl, hb0⟩
  have hr' : 0 ≤ r := by omega
  have hsz : b.length + txts b ≤ 1048576 := by have := hr3 hr'; omega
  have hsz' : b.length + txts b ≤ 4294967296 := by omega
  have hmx : ∀ t ∈ b, t.text.length ≤ maxLen := by
    intro t ht
    obtain ⟨i, hi, rfl⟩ := List.mem_iff_getElem.1 ht
    have := txts_get hi
    unfold maxLen; omega
  have Hmx := Lib.hid hmx
  have htl := textOf_len hsz
  clear hr hr3 hlb hmx
  generalize hgt : textOf b = l at *
  have Hgt := Lib.hid hgt
  clear hgt
  -- the model's answer, v2
  go_wp2_with fail
  refine (toTokenS_c b Ab cb _ _ hb0.size hsz (hRb.below hb0)).mono ?_
  rintro e w1 ⟨g1, gs1, rfl, hO1, hs1, hb1⟩
  have hb01 := hb0.trans (hb1.mono hb0.size)
  go_wp2_with fail
  refine (specTokenText_c b _ _ _ hsz' (hO1.rt Hmx.out)).mono ?_
  rintro e w2 ⟨v2, rfl, hO2, hb2⟩
  have hb02 := hb01.trans (hb2.mono hb01.size)
  rw [Hgt.out] at hO2
  obtain ⟨A2, c2, rfl, hR2⟩ := hO2.form
  clear hO1 hO2 hs1
  -- the arguments x0, the answer v4
  go_wp2_with fail
  refine (toTokenS_c b Ab cb _ _ hb02.size hsz (hRb.below hb02)).mono ?_
  rintro e w3 ⟨g3, gs3, rfl, hO3, hs3, hb3⟩
  have hb03 := hb02.trans (hb3.mono hb02.size)
  have hR23 := hR2.below hb3
  have hlt3 := hO3.lt
  go_wp2_with fail
  refine (implTokenText_c b _ _ _ hsz' (hO3.rt Hmx.out) (tab_more Htab.out hb03 hb03.size)).mono ?_
  rintro e w4 ⟨v4, rfl, hO4, hb4⟩
  have hb04 := hb03.trans (hb4.mono hb03.size)
  have hR24 := hR23.below (hb4.mono hb3.size)
  have hO34 := hO3.keep hb4 (Nat.le_refl _)
  rw [Hgt.out] at hO4
  obtain ⟨A4, c4, g4, tc4, rfl, hg4, hp4⟩ := OwnB.parts hO4 hb4.size
  obtain ⟨A4', c4', e4, hR44⟩ := hO4.form
  cases e4
  have Hp4 := Lib.hid hp4
  clear hR2 hR23 hO3 hO4 hp4
  -- alike
  go_wp2_with fail
  refine (eqByteS_s l _ _ _ _ _ _ _ htl hR44 hR24).mono ?_
  rintro e w5 ⟨rfl, hs5⟩
  have hb05 := hb04.trans (Outside.all hs5 _)
  have hR25 := hR24.below (Outside.all hs5 _)
  have hR45 := hR44.below (Outside.all hs5 _)
  have hO35 := hO34.keep (Outside.all hs5 w4.heap.size) (Nat.le_refl _)
  have hz5 := hs5.size
  have Hz5 := Lib.hid hz5
  clear hR24 hR44 hO34 hz5
  -- nothing was written into the arguments
  go_wp2_with fail
  refine (toTokenS_c b Ab cb _ _ hb05.size hsz (hRb.below hb05)).mono ?_
  rintro e w6 ⟨g6, gs6, rfl, hO6, hs6, hb6⟩
  have hb06 := hb05.trans (hb6.mono hb05.size)
  have hO36 := hO35.keep hb6 (Nat.le_refl _)
  go_wp2_with fail
  refine (eqTokenS_c b _ _ _ _ _ _ _ (Nat.le_refl _) (Nat.le_refl _) hsz' (hO36.rt Hmx.out) (hO6.rt Hmx.out)).mono ?_
  rintro e w7 ⟨rfl, hb7⟩
  have hb07 := hb06.trans (hb7.mono hb06.size)
  have hO37 := hO36.keep hb7 (Nat.le_refl _)
  have hb57 : Below w5.heap.size w5 w7 := hb6.trans (hb7.mono hb6.size)
  have hR27 : RB w7 w2.heap.size A2 l := hR25.below (hb57.mono (by rw [Hz5.out]; have := hb3.size; have := hb4.size; omega))
  have hR47 : RB w7 w4.heap.size A4 l := hR45.below (hb57.mono (by rw [Hz5.out]; exact Nat.le_refl _))
  clear hR25 hR45 hO35 hO36 hO6
  -- the arguments marked: the answer stays
  go_wp2_with fail
  refine (markTokenS_c b w2.heap.size g3 _ 1 gs3 _ hsz' (by omega) hO37 w3.heap.size hlt3.1 hlt3.2).mono ?_
  rintro e w8 ⟨rfl, _, ho8⟩
  have hb08 := hb07.trans (ho8.below.mono hb02.size)
  have hR28 : RB w8 w2.heap.size A2 l := hR27.below ho8.below
  have hb34 := hb4.size
  have hb57s := hb57.size
  have hz8 := ho8.size
  have Hz8 := Lib.hid hz8
  have hB8 : 0 < l.length → A4 = some ⟨g4, 0, none⟩ ∧ Blk w8 g4 5 tc4 ∧ l.length ≤ tc4.size := fun h0 => by
    obtain ⟨e1, e2, e3⟩ := Hp4.out h0
    have h5 : Blk w5 g4 5 tc4 := e2.below (Outside.all hs5 w4.heap.size) e2.lt
    have h7 : Blk w7 g4 5 tc4 := h5.below hb57 h5.lt
    exact ⟨e1, (ho8.block g4 (Or.inr hg4)).trans h7, e3⟩
  have hR48 : RB w8 w4.heap.size A4 l := by
    refine ⟨hR47.1, fun hn => ?_⟩
    obtain ⟨ad, e1, e2, e3⟩ := hR47.2 hn
    refine ⟨ad, e1, e2, fun j u hu => ?_⟩
    have hx := e3 j u hu
    rw [← hx]
    apply World.cell?_of_block
    rw [block_of_add]
    obtain ⟨e4, _⟩ := Hp4.out hn
    rw [e4] at e1
    cases e1
    exact ho8.block _ (Or.inr hg4)
  have HB8 := Lib.hid hB8
  clear hR27 hR47 hO37 hB8 hz8
  go_wp2_with fail
  refine (eqByteS_s l _ _ _ _ _ _ _ htl hR48 hR28).mono ?_
  rintro e w9 ⟨rfl, hs9⟩
  have hb09 := hb08.trans (Outside.all hs9 _)
  have hR29 := hR28.below (Outside.all hs9 _)
  clear hR28 hR48
  -- the answer marked, and held
  go_wp2_with fail
  refine (markByteS_i A4 g4 l.length c4 1 _ tc4 _ (by rfl) htl (by omega) (fun h0 => by
    obtain ⟨e1, e2, e3⟩ := HB8.out h0
    exact ⟨e1, e2.below (Outside.all hs9 w8.heap.size) e2.lt, e3⟩)).mono ?_
  rintro e w10 ⟨rfl, ho10, hx10⟩
  have hb010 := hb09.trans (ho10.below (by have := hb03.size; omega))
  have hR210 : RB w10 w2.heap.size A2 l := hR29.below (ho10.below (by have := hb3.size; omega))
  have hm10 : RB w10 w10.heap.size A4 (mk 1 l.length) := rb_mark (Nat.le_refl _) (fun h0 => (HB8.out h0).1) hx10
  have Hx := Lib.hid hx10
  clear hx10 hR29
  have hz210 : w2.heap.size ≤ w10.heap.size := by
    have := ho10.size; have := hs9.size; have := Hz8.out; have := Hz5.out; have := hb3.size; have := hb4.size; omega
  go_wp2_with fail
  refine (heldByteS_i A4 w10.heap.size l.length c4 1 _ _ (by rfl) htl (by omega) hm10).mono ?_
  rintro e w' ⟨rfl, rfl⟩
  go_wp2_with fail
  refine (toTokenS_c b Ab cb _ _ hb010.size hsz (hRb.below hb010)).mono ?_
  rintro e w11 ⟨g11, gs11, rfl, hO11, hs11, hb11⟩
  have hb011 := hb010.trans (hb11.mono hb010.size)
  go_wp2_with fail
  refine (implTokenText_c b _ _ _ hsz' (hO11.rt Hmx.out) (tab_more Htab.out hb011 hb011.size)).mono ?_
  rintro e w12 ⟨v12, rfl, hO12, hb12⟩
  have hb012 := hb011.trans (hb12.mono hb011.size)
  rw [Hgt.out] at hO12
  obtain ⟨A12, c12, rfl, hR12⟩ := hO12.form
  have hb1012 := hb11.trans (hb12.mono hb11.size)
  have hR212 : RB w12 w2.heap.size A2 l := hR210.below (hb1012.mono hz210)
  have hm12 : RB w12 w10.heap.size A4 (mk 1 l.length) := hm10.below hb1012
  clear hO11 hO12 hR210 hm10
  go_wp2_with fail
  refine (eqByteS_s l _ _ _ _ _ _ _ htl hR12 hR212).mono ?_
  rintro e w13 ⟨rfl, hs13⟩
  have hb013 := hb012.trans (Outside.all hs13 _)
  have hm13 := hm12.below (Outside.all hs13 _)
  clear hR12 hR212 hm12
  go_wp2_with fail
  refine (heldByteS_i A4 w10.heap.size l.length c4 1 _ _ (by rfl) htl (by omega) hm13).mono ?_
  rintro e w' ⟨rfl, rfl⟩
  go_wp2
  go_ret
  exact ⟨rfl, hb013⟩

theorem gTab : Tryd.prog.globalNamed "internal/strconv.uint64pow10" = some 0 := by kernel_rfl
theorem gTabType : (Tryd.prog.globals[0]?).map (·.type) = some 57 := by kernel_rfl
theorem cellsTab : Tryd.prog.cellsOf 57 = 20 := by kernel_rfl
theorem cellsU64 : Tryd.prog.cellsOf 47 = 1 := by kernel_rfl

theorem table {W : World} (h : laidMetH Tryd.prog Rows.fnExactTokenTextRow.laid W) : Lib.TabIs Tryd.prog W "internal/strconv.uint64pow10" .u64 Lib.pow10Tab := by
  have h' : laidMet Tryd.prog Rows.fnExactTokenTextRow.laid W := by
    rw [MakeChecks.laidMetH_plain _ _ _ (by kernel_rfl)] at h
    exact h
  have h3 := (laidMet.tail (laidMet.tail h'))
  exact Lib.tabIs_of_head (rest := []) gTab gTabType Tryd.underlying57 Tryd.underlying47 cellsU64 cellsTab h3

/-- WHAT THE WALK GIVES, FOR EVERY ARGUMENT AND EVERY WORLD THAT HOLDS THE TABLES. -/
theorem contract (H : Type) (enc : TypeId × Value → H) (W : World) (base : Nat) (args : Array Value) (ds gs : List (DataW H)) (before : List MemPlace)
    (hval : ∀ (j : Nat) t v, Tryd.f3.params[j]? = some t → args[j]? = some v → Value.okWide Tryd.prog W .any base t v)
    (hW : DataW.Whole enc Tryd.prog Tryd.f3.params.toList Rows.fnExactTokenTextSpec.vars false W args.toList ds gs before) (hL : laidMetH Tryd.prog Rows.fnExactTokenTextRow.laid W) :
    Calls Tryd.prog 3 args W fun e W' => ∃ v, e = .returned v ∧ Rows.fnExactTokenTextSpec.post enc Tryd.prog Tryd.f3 false true false false W args v W' := by
  have hW' := hW
  obtain ⟨p, q, hA0, hV, rfl, hfz, hnd⟩ := hW
  have hA : DataW.TrodAll enc Tryd.prog W 0 (fun _ => true) true Tryd.f3.params.toList args.toList ds p := hA0
  rw [Tryd.params3] at hA hval
  obtain ⟨v0, vs0, d0, ds0, p0, q0, hargs, rfl, rfl, h0, r0⟩ := trodAll_cons hA
  obtain ⟨rfl, rfl, rfl⟩ := trodAll_nil r0
  obtain rfl : args = #[v0] := by cases args; simp_all
  obtain ⟨rfl, rfl⟩ := trodVars_none hV
  obtain ⟨A, b, c, rfl, hl, hR⟩ := open_toks (hval 0 22 v0 rfl rfl) h0
  refine (walk b A c W hl hR (Lib.tabBelow_of_tabIs (table hL))).mono fun e W' ⟨he, hb⟩ => ?_
  subst he
  exact ⟨_, rfl, post_read hW' rfl rfl rfl rfl rfl Tryd.underlying4 laidOut (by kernel_rfl) hb⟩

/-- a table's cells out of its listed datum -/
def partsOf : DataW Unit → Array Value
  | .agg l => (l.map fun d => match d with
    | .lit (.int k n) => Value.int k n
    | _ => Value.int .i64 0).toArray
  | _ => #[]
def layAt (cs : Array Value) : Obj → Obj
  | .cells _ t frozen => .cells cs t frozen
  | o => o
/-- A WORLD FOR THE WITNESS: the settled one, the tables holding what their initialisers lay. -/
noncomputable def laidWorld (os : Os) : World :=
  { World.holding Tryd.prog os ⟨#[], #[], []⟩ with heap := (((World.holding Tryd.prog os ⟨#[], #[], []⟩).heap.modify 0 (layAt (partsOf Rows.laid_internal_strconv_uint64pow10))).modify 2 (layAt (partsOf Rows.laid_math_bits_deBruijn32tab))).modify 3 (layAt (partsOf Rows.laid_math_bits_deBruijn64tab)) }
theorem laid_met (os : Os) : laidMet Tryd.prog Rows.fnExactTokenTextRow.laid ((laidWorld os).forCall (fun _ _ => 0) ⟨#[], #[.slice none 0 0], []⟩).memory :=
  laidMet_of_run' 8 (by kernel_rfl) (by kernel_rfl)
theorem reads (os : Os) {H : Type} (enc : TypeId × Value → H) : ∃ places, DataW.whole enc Tryd.prog ((laidWorld os).forCall (fun _ _ => 0) ⟨#[], #[.slice none 0 0], []⟩).memory Tryd.f3.params.toList Rows.fnExactTokenTextSpec.vars false #[Value.slice none 0 0].toList 8 = some ([.nil], [], places) :=
  ⟨[], by kernel_rfl⟩

set_option maxRecDepth 100000 in
theorem lifted (os : Os) (started : os.Started) (H : Type) (enc : TypeId × Value → H) (F0 : Stop.Interp) :
    ReturnsInHanded {} Tryd.checked os 3 .any ((OpenSpec.ofChange Rows.fnExactTokenTextSpec).preRow enc Tryd.prog Tryd.f3 Rows.fnExactTokenTextRow.domain false Rows.fnExactTokenTextRow.laid) (((OpenSpec.ofChange Rows.fnExactTokenTextSpec).at F0).post enc Tryd.prog Tryd.f3 false true false false) := by
  obtain ⟨places, hx⟩ := reads os enc
  refine returnsInHanded_of_row (C := Tryd.checked) (s := OpenSpec.ofChange Rows.fnExactTokenTextSpec) own started (by kernel_rfl) Tryd.func3
    (witness_row_at (enc := enc) (C := Tryd.checked) false (laidWorld os) #[.slice none 0 0] rfl (by kernel_rfl) (by kernel_rfl) (by kernel_rfl)
      (OpenSpec.preRow_of_cond 8 hx (by kernel_rfl) (fun k hk => by cases hk) (by kernel_rfl) (laid_met os))) ?_
  intro W base args ds gs before hval hW _ _ _ hL _ _
  exact contract H enc W base args ds gs before hval hW hL

theorem said : Rows.FnExactTokenTextSaid :=
  OpenClaim.holds_of_cond 3 Tryd.f3 rfl rfl rfl rfl rfl rfl rfl ⟨rfl, rfl, rfl, rfl, rfl⟩ rfl rfl rfl rfl rfl (by kernel_rfl) Tryd.func3 (by kernel_rfl)
    (of_decide_eq_true (by kernel_rfl)) (by unfold Func.isWrapper; first | (rw [if_pos (by decide +kernel)]; kernel_rfl) | (rw [if_neg (by decide +kernel)]; exact ⟨rfl, rfl⟩))
    (fun os started H enc _ F0 => by rw [OpenClaim.pre_eq_preRow]; exact lifted os started H enc F0)

theorem plain (f : FuncId) (fn : Func) (hf : Tryd.pinned.checked.prog.funcNamed "loop.example/g00547/laws.FnExactTokenText" = some f) (hfn : Tryd.pinned.checked.prog.funcs[f]? = some fn) :
    false = Tryd.pinned.checked.prog.looks [] ∧ ∀ (j : Nat) t, fn.params[j]? = some t → Tryd.pinned.checked.prog.wantsStandIn t = false := by
  obtain rfl : f = 3 := Option.some.inj ((show Tryd.prog.funcNamed "loop.example/g00547/laws.FnExactTokenText" = some 3 by kernel_rfl).symm.trans hf) |>.symm
  obtain rfl : fn = Tryd.f3 := (Option.some.inj (Tryd.func3.symm.trans hfn)).symm
  refine ⟨by kernel_rfl, fun j t ht => ?_⟩
  rw [Tryd.params3] at ht
  obtain rfl : t = 22 := by simpa using Array.mem_of_getElem? ht
  exact (show Tryd.prog.wantsStandIn 22 = false by kernel_rfl)

theorem card : Rows.FnExactTokenTextCardSaid :=
  Claim7.holds_tied_plain_at .later [] _ _ _ _ said (fun _ h => by cases h) (by kernel_rfl) (fun _ h => by cases h) fnExactTokenText_row_tie rfl ⟨rfl, rfl⟩ (by kernel_rfl) rfl plain (by kernel_rfl)
end TextLaw
end Go.Proofs.YtfcgjhjmphdffaaDoor
