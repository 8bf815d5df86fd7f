/-
  The model: l2at, l2func, l2params, l2knows.
-/
import Derived.Test.YtmejbmfopdfbjaaNamesAll
import Derived.BigQuiet
import Derived.BigRegion
import Derived.Test.YtmejbmfopdfbjaaOwn
import Derived.Test.YtmejbmfopdfbjaaFnAll
import Derived.Test.YtmejbmfopdfbjaaScope
import Derived.StillTailTactics
import Derived.Deep.QuietTactic
namespace Go.Proofs.Ytmejbmfopdfbjaa
open Go.RowKit
set_option linter.unusedVariables false

set_option maxRecDepth 100000 in
set_option maxHeartbeats 4000000 in
theorem l2at_c (l : List (List UInt8)) (b : List UInt8) (A A' : Option Addr) (c c' L B B' : Nat) (w : World) (hB : B ≤ w.heap.size) (hB' : B' ≤ w.heap.size) (h : BsL w L B A l) (h' : RB w B' A' b) :
    Calls Try.prog 86 #[.slice A l.length c, .slice A' b.length c'] w fun e w' => e = .returned (.int .i64 (placeOf l b)) ∧ Below w.heap.size w w' := by
  have hm := h.1
  unfold maxLen at hm
  go_enter Try.func86, Try.ntmps86
  go_wp2
  go_loopw [5] (fun i wr => ∃ (k : Nat), k ≤ l.length ∧ i = .int .i64 k ∧ (∃ d, wr = w.drewN d) ∧ Hid (∀ x ∈ l.take k, (x == b) = false)) (fun i _ => l.length - (intOf i).toNat)
  case atStart => exact ⟨0, Nat.zero_le _, rfl, ⟨0, rfl⟩, Lib.hid (by simp)⟩
  case round =>
    obtain ⟨k, hk, rfl, ⟨d, rfl⟩, hall⟩ := hrel
    by_cases hlt : k < l.length
    · obtain ⟨ad, rfl, _, hb, hat⟩ := h.2 (by omega)
      obtain ⟨A1, c1, hcell, hR, hm1⟩ := hat k hlt
      have hcv := fun d => run_convert_RB (P := Try.prog) (hR.1.drewN d) 22 5 9 c1 Try.underlying22 Try.underlying5 Try.underlying9
      have hcv' := fun d => run_convert_RB (P := Try.prog) (h'.drewN d) 22 5 9 c' Try.underlying22 Try.underlying5 Try.underlying9
      clear hat
      cases hs : (l[k] == b)
      · have Hs := Lib.hid hs
        go_wp2_with fail
        go_quiet (fail)
        go_wp2
        go_roundw
        case rel =>
          refine ⟨k + 1, by omega, by go_num, ⟨d + nq, by first | rfl | exact World.drewN_drewN _ _ _⟩, Lib.hid (fun x hx => ?_)⟩
          rw [List.take_succ_eq_append_getElem hlt, List.mem_append] at hx
          rcases hx with hx | hx
          · exact hall.out x hx
          · rw [List.mem_singleton.1 hx]; exact Hs.out
        case measure => simp [intOf]; omega
      · have Hs := Lib.hid hs
        go_wp2_with fail
        go_quiet (fail)
        go_wp2
        go_ret
        exact ⟨by rw [place_hit hlt hall.out Hs.out]; rfl, ⟨rfl, rfl, rfl, Nat.le_refl _, fun _ _ => rfl⟩⟩
    · go_wp2
      go_ret
      have hkl : k = l.length := by omega
      subst hkl
      have h1 := hall.out
      rw [List.take_length] at h1
      exact ⟨by rw [place_none h1]; rfl, ⟨rfl, rfl, rfl, Nat.le_refl _, fun _ _ => rfl⟩⟩

set_option maxRecDepth 100000 in
set_option maxHeartbeats 4000000 in
theorem l2func_c (l : List Fn) (b : List UInt8) (A A' : Option Addr) (cp c' L B B' : Nat) (w : World) (hB : B ≤ w.heap.size) (hB' : B' ≤ w.heap.size) (h : FnL w L B A l) (h' : RB w B' A' b) :
    Calls Try.prog 74 #[.agg #[.slice A l.length cp], .slice A' b.length c'] w fun e w' => e = .returned (.int .i64 (placeOf (namesOf l) b)) ∧ Below w.heap.size w w' := by
  have hm := h.1
  unfold maxLen at hm
  have hnl : (namesOf l).length = l.length := by unfold namesOf; rw [List.length_map]
  have hb0 : Below w.heap.size w (w.alloc (.cells #[.slice A l.length cp] 54)) := (Below.refl _ _).alloc (Nat.le_refl _) _
  have KP := Blk.new w 54 #[.slice A l.length cp]
  have hW := h.below (hb0.mono hB)
  have hW' := h'.below (hb0.mono hB')
  go_enter Try.func74, Try.ntmps74
  go_wp2
  go_loopw [5] (fun i wr => ∃ (k : Nat), k ≤ l.length ∧ i = .int .i64 k ∧ (∃ d, wr = (w.alloc (.cells #[.slice A l.length cp] 54)).drewN d) ∧ Hid (∀ x ∈ (namesOf l).take k, (x == b) = false)) (fun i _ => l.length - (intOf i).toNat)
  case atStart => exact ⟨0, Nat.zero_le _, rfl, ⟨0, rfl⟩, Lib.hid (by simp)⟩
  case round =>
    obtain ⟨k, hk, rfl, ⟨d, rfl⟩, hall⟩ := hrel
    have p0 := (KP.drewN d).cell_of 0 (v := .slice A l.length cp) rfl
    by_cases hlt : k < l.length
    · obtain ⟨ad, rfl, _, hb, hat⟩ := hW.2 (by omega)
      obtain ⟨v0, v1, v2, ⟨c0, c1, c2⟩, hv⟩ := hat k hlt
      obtain ⟨fA, fc, fA1, fc1, fA2, fc2, rfl, rfl, rfl, fR, fm, fp, fb, fcp⟩ := hv
      have hcv := fun d => run_convert_RB (P := Try.prog) (fR.1.drewN d) 22 5 9 fc Try.underlying22 Try.underlying5 Try.underlying9
      have hcv' := fun d => run_convert_RB (P := Try.prog) (hW'.drewN d) 22 5 9 c' Try.underlying22 Try.underlying5 Try.underlying9
      have hltn : k < (namesOf l).length := by omega
      have hget : (namesOf l)[k] = l[k].name := List.getElem_map Fn.name
      clear hat fR fp fb c1 c2
      cases hs : (l[k].name == b)
      · have Hs := Lib.hid hs
        go_wp2_with fail
        go_quiet (fail)
        go_wp2
        go_roundw
        case rel =>
          refine ⟨k + 1, by omega, by go_num, ⟨d + nq, by first | rfl | exact World.drewN_drewN _ _ _⟩, Lib.hid (fun x hx => ?_)⟩
          rw [List.take_succ_eq_append_getElem hltn, List.mem_append] at hx
          rcases hx with hx | hx
          · exact hall.out x hx
          · rw [List.mem_singleton.1 hx, hget]; exact Hs.out
        case measure => simp [intOf]; omega
      · have Hs := Lib.hid hs
        go_wp2_with fail
        go_quiet (fail)
        go_wp2
        go_ret
        have hbn : Below w.heap.size w (((w.alloc (.cells #[.slice (some ad) l.length cp] 54)).drewN d).drewN nq) := ⟨hb0.os, hb0.tape, hb0.output, hb0.size, hb0.block⟩
        exact ⟨by rw [place_hit hltn hall.out (by rw [hget]; exact Hs.out)]; rfl, hbn⟩
    · go_wp2
      go_ret
      have hkl : k = (namesOf l).length := by omega
      have h1 := hall.out
      rw [hkl, List.take_length] at h1
      exact ⟨by rw [place_none h1]; rfl, ⟨hb0.os, hb0.tape, hb0.output, hb0.size, hb0.block⟩⟩
end Go.Proofs.Ytmejbmfopdfbjaa

namespace Go.Proofs.Ytmejbmfopdfbjaa
open Go.RowKit Go.Shelf
set_option linter.unusedVariables false

theorem sgrown_apart {w w' : World} {n lo g : Nat} {v : Value} {l : List (List UInt8)} {t : TypeId} {cs : Array Value} (hb : Blk w g t cs) (h : NmRow w n lo v l) (ht : ¬ NmT t) (hg : w.grownBy w' v.ownBlock) : Blk w' g t cs :=
  (hg.block _ hb.lt (fun e => by
    obtain ⟨_, A, c, xs, hv, hown, _⟩ := h
    exact no_tag hb ht ((own_tag hown e.symm).2.mono fun t e => .inr e))).trans hb
theorem NmRow.sownb {w : World} {n lo : Nat} {v : Value} {l : List (List UInt8)} (h : NmRow w n lo v l) {g : Nat} (hg : v.ownBlock = some g) : lo ≤ g := by
  obtain ⟨_, A, c, xs, hv, hown, _⟩ := h
  exact (own_tag hown hg).1

set_option maxRecDepth 100000 in
set_option maxHeartbeats 4000000 in
theorem l2params_c (f : Fn) (v0 v1 v2 : Value) (L B : Nat) (w : World) (hB : B ≤ w.heap.size) (hsz : fnSz f ≤ 1048576) (h : FnV w L B v0 v1 v2 f) :
    Calls Try.prog 75 #[.agg #[v0, v1, v2]] w fun r w' => ∃ v', r = .returned (.tuple #[v', .bool (unl f.params)]) ∧ (unl f.params = true → NmRow w' B w.heap.size v' f.params) ∧ Below w.heap.size w w' := by
  obtain ⟨fA, fc, fA1, fc1, fA2, fc2, rfl, rfl, rfl, fR, fm, fp, fb, fcp⟩ := h
  have hpz : f.params.length ≤ 1048576 := by unfold fnSz bsSz at hsz; omega
  obtain ⟨i0, hi, hz0, hz1, hz2⟩ := info_parts infoBs
  have hb0 : Below w.heap.size w (w.alloc (.cells #[.slice fA f.name.length fc, .slice fA1 f.params.length fc1, .slice fA2 f.body.length fc2] 31)) := (Below.refl _ _).alloc (Nat.le_refl _) _
  have KF := Blk.new w 31 #[.slice fA f.name.length fc, .slice fA1 f.params.length fc1, .slice fA2 f.body.length fc2]
  go_enter Try.func75, Try.ntmps75
  go_wp2
  go_loopw [4, 5] (fun s i wr => ∃ (k : Nat), k ≤ f.params.length ∧ i = .int .i64 k ∧ NmRow wr B w.heap.size s (f.params.take k) ∧ Below w.heap.size w wr ∧ Blk wr w.heap.size 31 #[.slice fA f.name.length fc, .slice fA1 f.params.length fc1, .slice fA2 f.body.length fc2] ∧
    Hid (∀ j (hj : j < f.params.length), j < k → placeOf (f.params.take j) f.params[j] < 0)) (fun _ i _ => f.params.length - (intOf i).toNat)
  case atStart => exact ⟨0, Nat.zero_le _, rfl, NmRow.nil _ _ _, hb0, KF, Lib.hid (fun j _ h0 => by omega)⟩
  case round =>
    obtain ⟨k, hk, rfl, hrow, hbl, hKF, hall⟩ := hrel
    obtain ⟨Ak, ck, rfl, hck, hckm, hbs⟩ := hrow.bsl
    have hlk : (f.params.take k).length = k := by rw [List.length_take]; omega
    have f1 := hKF.cell_of 1 (v := .slice fA1 f.params.length fc1) rfl
    have hws := hbl.size
    by_cases hlt : k < f.params.length
    · obtain ⟨ad, rfl, _, hbk, hat⟩ := (fp.below (hbl.mono hB)).2 (by omega)
      obtain ⟨A2, c2, hcl, hR2, hm2⟩ := hat k hlt
      have hx := l2at_c (f.params.take k) f.params[k] Ak A2 ck c2 0 wr.heap.size B wr (Nat.le_refl _) (by omega) hbs hR2.1
      rw [hlk] at hx hck hrow
      have hpl := place_le (f.params.take k) f.params[k]
      have Hx := Lib.hid hx
      have Hrow := Lib.hid hrow
      have hbz := bsSz_get hlt
      have hnz : f.params[k].length ≤ 1048576 := by unfold fnSz at hsz; omega
      have hkz : k + 1 ≤ 1048576 := by omega
      clear hx hat hrow hbs hbz
      by_cases hp : 0 ≤ placeOf (f.params.take k) f.params[k]
      · rw [hlk]
        go_wp2_with fail
        refine Hx.out.mono ?_
        rintro r w2 ⟨rfl, hb2⟩
        have hbn := hbl.trans (hb2.mono hbl.size)
        have hno := unl_no hlt hp
        clear hpl
        go_wp2
        refine bodyPost_ret (v := .tuple #[.slice none 0 0, .bool false]) (by simp [results, Try.results75, go_sem]) rfl ?_
        exact ⟨_, by rw [hno], fun hy => (Bool.noConfusion (hno.symm.trans hy)), hbn⟩
      · have hp' : placeOf (f.params.take k) f.params[k] < 0 := by omega
        have Hp := Lib.hid hp'
        rw [hlk]
        clear hp hpl
        go_wp2_with fail
        refine Hx.out.mono ?_
        rintro r w2 ⟨rfl, hb2⟩
        have hbn := hbl.trans (hb2.mono hbl.size)
        have hrow2 := Hrow.out.below hb2
        have hKF2 := hKF.below hb2 hKF.lt
        have f2 := fun o => (hKF2.alloc o).cell_of 1 (v := .slice (some ad) f.params.length fc1) rfl
        have hcl2 := fun (o : Obj) => ((Below.refl w2.heap.size w2).alloc (Nat.le_refl _) o).cell (p := ad.add k) (by rw [block_of_add]; have := hbn.size; omega)
        have hclw := (hb2.cell (p := ad.add k) (by rw [block_of_add]; omega)).trans hcl
        have hs2 := hb2.size
        have hba : Below w2.heap.size w2 (w2.alloc (.cells #[.slice A2 f.params[k].length c2] 22)) := (Below.refl _ _).alloc (Nat.le_refl _) _
        obtain ⟨_, A3, c3, xs, e, hown, hc3, hcm3, hall2⟩ := id hrow2
        rw [hlk] at e
        injection e with e1 e2 e3
        subst e1
        subst e3
        have hO := hown.alloc (.cells #[.slice A2 f.params[k].length c2] 22)
        have hrow3 := hrow2.below hba
        have HO := Lib.hid hO
        have Hall2 := Lib.hid hall2
        have hcell := cell_one_new w2 (.slice A2 f.params[k].length c2) 22
        have Hcell := Lib.hid hcell
        have f3 := hKF2.cell_of 1 (v := .slice (some ad) f.params.length fc1) rfl
        rw [hlk] at HO
        clear hO hall2 hcell Hx f1 hcl
        go_wp2_with (at_builtin; refine wpList_append_own _ rfl (.tmp 21) (.tmp 27) 23 rfl w.heap.size 22 i0 _ 1 24 Try.underlying23 hi hz0 hz1 hz2 rfl (by omega) _ _ _ rfl HO.out ⟨w2.heap.size, 0, none⟩ 1 1 [.slice A2 f.params[k].length c2] rfl rfl Hcell.out (by simp [Value.oneCell']) (by unfold maxLen; omega) (by omega) (by simp; omega) ?_; intro v' w3 hown' hgrow _)
        go_roundw
        case rel =>
          have hKF3 := sgrown_apart (hKF2.alloc (.cells #[.slice A2 f.params[k].length c2] 22)) hrow3 (by rintro (h | h) <;> exact absurd h (by decide)) hgrow
          refine ⟨k + 1, by omega, by go_num, ?_, (hbn.alloc (by omega) _).grown hgrow (by simp; omega) (fun g hg => hrow3.sownb hg.symm.symm), hKF3, Lib.hid (fun j hj hjk => ?_)⟩
          · rw [List.take_succ_eq_append_getElem hlt]
            refine NmRow.snoc hB (by omega) (hown.alloc _) (fun j hj => ?_) (NmB.of_data ((hR2.below (hb2.mono (by omega))).below (hba.mono (by omega))) (by simp; omega)) hm2 (by rw [hlk]; exact hown') hgrow
            obtain ⟨A4, c4, x1, x2, x3⟩ := Hall2.out j hj
            exact ⟨A4, c4, x1, x2.below hba, x3⟩
          · rcases Nat.lt_or_ge j k with h1 | h1
            · exact hall.out j hj h1
            · obtain rfl : j = k := by omega
              exact Hp.out
        case measure => simp [intOf]; omega
    · have Hrow := Lib.hid hrow
      clear hrow
      go_wp2
      refine bodyPost_ret (v := .tuple #[.slice Ak (f.params.take k).length ck, .bool true]) (by simp [results, Try.results75, go_sem]) rfl ?_
      have hkl : k = f.params.length := by omega
      subst hkl
      have hyes := unl_yes (l := f.params) fun j hj => hall.out j hj hj
      have h2 := Hrow.out
      rw [List.take_length] at h2
      exact ⟨.slice Ak f.params.length ck, by rw [hyes, List.take_length], fun _ => h2, hbl⟩
end Go.Proofs.Ytmejbmfopdfbjaa

namespace Go.Proofs.Ytmejbmfopdfbjaa
open Go.RowKit
set_option linter.unusedVariables false

/-- an expression's own name is known, its own call is right -/
def knows (l : List Fn) (known : List (List UInt8)) (e : Ex) : Bool := (flatEx e).all fun x => askOk known x && callOk l x
def kn1 (l : List Fn) (known : List (List UInt8)) (e : Ex) : Bool := askOk known e && callOk l e
theorem knows_mk (l : List Fn) (known : List (List UInt8)) (k n : Int) (name : List UInt8) (args : List Ex) : knows l known (.mk k n name args) = (kn1 l known (.mk k n name args) && args.all (knows l known)) := by
  unfold knows
  rw [flatEx_mk, List.all_cons, flatExs_all]
  rfl
theorem scallOk_other (l : List Fn) (k n : Int) (name : List UInt8) (args : List Ex) (h : k ≠ 5) : callOk l (.mk k n name args) = true := by simp [callOk, h]
theorem scallOk_none (l : List Fn) (n : Int) (name : List UInt8) (args : List Ex) (h : placeOf (namesOf l) name < 0) : callOk l (.mk 5 n name args) = false := by
  have : decide (0 ≤ placeOf (namesOf l) name) = false := by simp; omega
  simp [callOk, this]
theorem scallOk_some (l : List Fn) (n : Int) (name : List UInt8) (args : List Ex) (k : Nat) (hk : k < l.length) (h : placeOf (namesOf l) name = k) : callOk l (.mk 5 n name args) = decide (l[k].params.length = args.length) := by
  simp [callOk, h, List.getElem?_eq_getElem hk]

def KnE (l : List Fn) (e : Ex) : Prop := ∀ (A : Option Addr) (cp : Nat) (v0 v1 v2 v3 : Value) (known : List (List UInt8)) (Ak : Option Addr) (ck L B L' B' : Nat) (w : World), B ≤ w.heap.size → B' ≤ w.heap.size → FnL w L B A l → BsL w L' B' Ak known → ExV w L B v0 v1 v2 v3 e →
  Calls Try.prog 101 #[.agg #[.slice A l.length cp], .slice Ak known.length ck, .agg #[v0, v1, v2, v3]] w fun r w' => r = .returned (.bool (knows l known e)) ∧ Below w.heap.size w w'

set_option maxRecDepth 100000 in
set_option maxHeartbeats 8000000 in
/-- behind the expression's own name and call -/
theorem knows_args (l : List Fn) (k n : Int) (name : List UInt8) (args : List Ex) (ih : ∀ e ∈ args, KnE l e) : KnE l (.mk k n name args) := by
  intro A cp v0 v1 v2 v3 known Ak ck L B L' B' w hB hB' hl hk h
  obtain ⟨xA, xc, xA', xc', rfl, rfl, rfl, rfl, hR, hm, hx⟩ := h.open_
  have hn := hx.1
  have hln := hl.1
  unfold maxLen at hn hln
  have hb0 : Below w.heap.size w ((w.alloc (.cells #[.slice A l.length cp] 54)).alloc (.cells #[.int .i64 k, .int .i64 n, .slice xA name.length xc, .slice xA' args.length xc'] 73)) := ((Below.refl _ _).alloc (Nat.le_refl _) _).alloc (by simp) _
  have KP := (Blk.new w 54 #[.slice A l.length cp]).alloc (.cells #[.int .i64 k, .int .i64 n, .slice xA name.length xc, .slice xA' args.length xc'] 73)
  have KE : Blk ((w.alloc (.cells #[.slice A l.length cp] 54)).alloc (.cells #[.int .i64 k, .int .i64 n, .slice xA name.length xc, .slice xA' args.length xc'] 73)) (w.heap.size + 1) 73 #[.int .i64 k, .int .i64 n, .slice xA name.length xc, .slice xA' args.length xc'] := by
    have := Blk.new (w.alloc (.cells #[.slice A l.length cp] 54)) 73 #[.int .i64 k, .int .i64 n, .slice xA name.length xc, .slice xA' args.length xc']
    simpa using this
  have hs0 := hb0.size
  have hat := l2at_c known name Ak xA ck xc L' B' B _ (Nat.le_trans hB' hs0) (Nat.le_trans hB hs0) (hk.below (hb0.mono hB')) (hR.1.below (hb0.mono hB))
  have hfu := l2func_c l name A xA cp xc L B B _ (Nat.le_trans hB hs0) (Nat.le_trans hB hs0) (hl.below (hb0.mono hB)) (hR.1.below (hb0.mono hB))
  have hple := place_le (namesOf l) name
  have hnl : (namesOf l).length = l.length := by unfold namesOf; rw [List.length_map]
  rw [hnl] at hple
  have Ih := Lib.hid ih
  have Hat := Lib.hid hat
  have Hfu := Lib.hid hfu
  have hkm := knows_mk l known k n name args
  have Hkm := Lib.hid hkm
  clear ih hat hfu h hkm hnl
  by_cases h2 : k = 2
  · subst h2
    by_cases hp : placeOf known name < 0
    · have hno : knows l known (.mk 2 n name args) = false := by
        have e : askOk known (.mk 2 n name args) = false := by simp [askOk]; omega
        rw [Hkm.out]; unfold kn1; rw [e]; rfl
      have Hno := Lib.hid hno
      have hpd : decide (placeOf known name < 0) = true := decide_eq_true hp
      clear hno Hkm hR hx hl hk
      go_enter Try.func101, Try.ntmps101
      go_wp2_with fail
      refine Hat.out.mono ?_
      rintro r w1 ⟨rfl, hb1⟩
      go_wp2
      go_ret
      exact ⟨by rw [Hno.out]; rfl, hb0.trans (hb1.mono hs0)⟩
    · have hpd : decide (placeOf known name < 0) = false := decide_eq_false hp
      have e1 : kn1 l known (.mk 2 n name args) = true := by
        have e : askOk known (.mk 2 n name args) = true := by simp [askOk]; omega
        unfold kn1; rw [e, scallOk_other l 2 n name args (by decide)]; rfl
      have hkeq : knows l known (.mk 2 n name args) = args.all (knows l known) := by rw [Hkm.out, e1, Bool.true_and]
      have Hkeq := Lib.hid hkeq
      have Hp := Lib.hid hp
      clear e1 hkeq hp
      go_enter Try.func101, Try.ntmps101
      go_wp2_with fail
      refine Hat.out.mono ?_
      rintro r w1 ⟨rfl, hb1⟩
      have KE1 := KE.below hb1 KE.lt
      have KP1 := KP.below hb1 KP.lt
      have hb01 := hb0.trans (hb1.mono hs0)
      have e0 := KE1.cell_of 0 (v := .int .i64 2) rfl
      go_wp2
      clear e0
      go_loopw [8] (fun i wr => ∃ (j : Nat), j ≤ args.length ∧ i = .int .i64 j ∧ Hid (∀ e ∈ args.take j, knows l known e = true) ∧ Below w.heap.size w wr ∧ Blk wr (w.heap.size + 1) 73 #[.int .i64 2, .int .i64 n, .slice xA name.length xc, .slice xA' args.length xc'] ∧ Blk wr w.heap.size 54 #[.slice A l.length cp]) (fun i _ => args.length - (intOf i).toNat)
      case atStart => exact ⟨0, Nat.zero_le _, rfl, Lib.hid (by simp), hb01, KE1, KP1⟩
      case round =>
        obtain ⟨j, hj, rfl, hall, hbl, hK, hP⟩ := hrel
        have b3 := hK.cell_of 3 (v := .slice xA' args.length xc') rfl
        have p0 := hP.cell_of 0 (v := .slice A l.length cp) rfl
        by_cases hlt : j < args.length
        · have hbd : Below w.heap.size w wr.drew := hbl.drew
          obtain ⟨ad, rfl, _, hbk, hat⟩ := (hx.below (hbl.mono hB)).2 (by omega)
          obtain ⟨x0, x1, x2, x3, ⟨y0, y1, y2, y3⟩, hv⟩ := hat j hlt
          have hc := Ih.out args[j] (List.getElem_mem hlt) A cp x0 x1 x2 x3 known Ak ck L B L' B' wr.drew (Nat.le_trans hB hbl.size) (Nat.le_trans hB' hbl.size) (hl.below (hbd.mono hB)) (hk.below (hbd.mono hB')) (ExV.keep (w := wr) (w' := wr.drew) (fun _ _ _ => rfl) _ _ _ _ _ hv)
          have Hc := Lib.hid hc
          have hno : knows l known args[j] = false → knows l known (.mk 2 n name args) = false := fun hh => by
            rw [Hkeq.out, List.all_eq_false]
            exact ⟨args[j], List.getElem_mem hlt, by rw [hh]; simp⟩
          have Hno := Lib.hid hno
          clear hc hat hv hno
          go_wp2
          go_still_tail 7, (by kernel_rfl)
          change wpList _ _ _ _ _ wr.drew
          go_wp2_with fail
          refine Hc.out.mono ?_
          rintro r w2 ⟨rfl, hb2⟩
          have hbn := hbd.trans (hb2.mono hbl.size)
          have hK2 := hK.drew.below hb2 hK.lt
          have hP2 := hP.drew.below hb2 hP.lt
          clear b3 p0 y0 y1 y2 y3
          cases hwj : knows l known args[j]
          · have Hwj := Lib.hid hwj
            clear hwj
            go_wp2
            go_ret
            exact ⟨by rw [Hno.out Hwj.out]; rfl, hbn⟩
          · have Hwj := Lib.hid hwj
            clear hwj
            go_wp2
            go_roundw
            case rel =>
              refine ⟨j + 1, by omega, by go_num, Lib.hid (fun e he => ?_), hbn, hK2, hP2⟩
              rw [List.take_succ_eq_append_getElem hlt, List.mem_append] at he
              rcases he with he | he
              · exact hall.out e he
              · rw [List.mem_singleton.1 he]; exact Hwj.out
            case measure => simp [intOf]; omega
        · go_wp2
          go_ret
          have hjl : j = args.length := by omega
          subst hjl
          have h1 := hall.out
          rw [List.take_length] at h1
          exact ⟨by rw [Hkeq.out, List.all_eq_true.2 h1]; rfl, hbl⟩
  have e2 : (k == 2) = false := by simp [h2]
  have hak : askOk known (.mk k n name args) = true := by simp [askOk, h2]
  by_cases h5 : k = 5
  · subst h5
    rcases Int.lt_or_le (placeOf (namesOf l) name) 0 with hneg | hpos
    · have hno : knows l known (.mk 5 n name args) = false := by
        rw [Hkm.out]; unfold kn1; rw [scallOk_none l n name args hneg, Bool.and_false]; rfl
      have Hno := Lib.hid hno
      have hpd : decide (placeOf (namesOf l) name < 0) = true := decide_eq_true hneg
      clear hno hR hx hl hk hak
      go_enter Try.func101, Try.ntmps101
      go_wp2_with fail
      refine Hfu.out.mono ?_
      rintro r w1 ⟨rfl, hb1⟩
      have hb01 := hb0.trans (hb1.mono hs0)
      go_wp2_with fail
      go_quiet (fail)
      go_wp2
      go_ret
      exact ⟨by rw [Hno.out]; rfl, ⟨hb01.os, hb01.tape, hb01.output, hb01.size, hb01.block⟩⟩
    · obtain ⟨q, hq⟩ : ∃ q : Nat, placeOf (namesOf l) name = (q : Int) := ⟨(placeOf (namesOf l) name).toNat, by omega⟩
      have hql : q < l.length := by omega
      have hok := scallOk_some l n name args q hql hq
      rw [hq] at Hfu
      have hq0 : decide ((q : Int) < 0) = false := by simp
      have Hok := Lib.hid hok
      have Hak := Lib.hid hak
      clear hok hak hpos hple
      go_enter Try.func101, Try.ntmps101
      go_wp2_with fail
      refine Hfu.out.mono ?_
      rintro r w0 ⟨rfl, hb1⟩
      have hb01' := hb0.trans (hb1.mono hs0)
      have KE0 := KE.below hb1 KE.lt
      have KP0 := KP.below hb1 KP.lt
      obtain ⟨ad, rfl, _, hbk, hat⟩ := (hl.below (hb01'.mono hB)).2 (by omega)
      obtain ⟨u0, u1, u2, ⟨c0, c1, c2⟩, hv⟩ := hat q hql
      obtain ⟨gA, gc, gA1, gc1, gA2, gc2, rfl, rfl, rfl, _, _, gp, _⟩ := hv
      have hm1 := gp.1
      unfold maxLen at hm1
      have p0 := KP0.cell_of 0 (v := .slice (some ad) l.length cp) rfl
      have q3 := KE0.cell_of 3 (v := .slice xA' args.length xc') rfl
      clear hat c0 c2 gp Hfu Hat
      go_wp2_with fail
      go_quiet (fail)
      have KE1 := KE0.drewN nq
      have KP1 := KP0.drewN nq
      have hb01 : Below w.heap.size w (w0.drewN nq) := ⟨hb01'.os, hb01'.tape, hb01'.output, hb01'.size, hb01'.block⟩
      by_cases heq : l[q].params.length = args.length
      · have hb : ((l[q].params.length : Int) != (args.length : Int)) = false := by simp [heq]
        have e1 : kn1 l known (.mk 5 n name args) = true := by unfold kn1; rw [Hak.out, Hok.out]; simp [heq]
        have hkeq : knows l known (.mk 5 n name args) = args.all (knows l known) := by rw [Hkm.out, e1, Bool.true_and]
        have Hkeq := Lib.hid hkeq
        rw [hb]
        clear hkeq hb heq e1 p0 q3 c1 hb1 hb01' KE0 KP0 hbk
        go_wp2
        go_loopw [8] (fun i wr => ∃ (j : Nat), j ≤ args.length ∧ i = .int .i64 j ∧ Hid (∀ e ∈ args.take j, knows l known e = true) ∧ Below w.heap.size w wr ∧ Blk wr (w.heap.size + 1) 73 #[.int .i64 5, .int .i64 n, .slice xA name.length xc, .slice xA' args.length xc'] ∧ Blk wr w.heap.size 54 #[.slice (some ad) l.length cp]) (fun i _ => args.length - (intOf i).toNat)
        case atStart => exact ⟨0, Nat.zero_le _, rfl, Lib.hid (by simp), hb01, KE1, KP1⟩
        case round =>
          obtain ⟨j, hj, rfl, hall, hbl, hK, hP⟩ := hrel
          have b3 := hK.cell_of 3 (v := .slice xA' args.length xc') rfl
          have p0 := hP.cell_of 0 (v := .slice (some ad) l.length cp) rfl
          by_cases hlt : j < args.length
          · have hbd : Below w.heap.size w wr.drew := hbl.drew
            obtain ⟨ad2, rfl, _, hbk, hat⟩ := (hx.below (hbl.mono hB)).2 (by omega)
            obtain ⟨x0, x1, x2, x3, ⟨y0, y1, y2, y3⟩, hv⟩ := hat j hlt
            have hc := Ih.out args[j] (List.getElem_mem hlt) (some ad) cp x0 x1 x2 x3 known Ak ck L B L' B' wr.drew (Nat.le_trans hB hbl.size) (Nat.le_trans hB' hbl.size) (hl.below (hbd.mono hB)) (hk.below (hbd.mono hB')) (ExV.keep (w := wr) (w' := wr.drew) (fun _ _ _ => rfl) _ _ _ _ _ hv)
            have Hc := Lib.hid hc
            have hno : knows l known args[j] = false → knows l known (.mk 5 n name args) = false := fun hh => by
              rw [Hkeq.out, List.all_eq_false]
              exact ⟨args[j], List.getElem_mem hlt, by rw [hh]; simp⟩
            have Hno := Lib.hid hno
            clear hc hat hv hno
            go_wp2
            go_still_tail 7, (by kernel_rfl)
            change wpList _ _ _ _ _ wr.drew
            go_wp2_with fail
            refine Hc.out.mono ?_
            rintro r w2 ⟨rfl, hb2⟩
            have hbn := hbd.trans (hb2.mono hbl.size)
            have hK2 := hK.drew.below hb2 hK.lt
            have hP2 := hP.drew.below hb2 hP.lt
            clear b3 p0 y0 y1 y2 y3
            cases hwj : knows l known args[j]
            · have Hwj := Lib.hid hwj
              clear hwj
              go_wp2
              go_ret
              exact ⟨by rw [Hno.out Hwj.out]; rfl, hbn⟩
            · have Hwj := Lib.hid hwj
              clear hwj
              go_wp2
              go_roundw
              case rel =>
                refine ⟨j + 1, by omega, by go_num, Lib.hid (fun e he => ?_), hbn, hK2, hP2⟩
                rw [List.take_succ_eq_append_getElem hlt, List.mem_append] at he
                rcases he with he | he
                · exact hall.out e he
                · rw [List.mem_singleton.1 he]; exact Hwj.out
              case measure => simp [intOf]; omega
          · go_wp2
            go_ret
            have hjl : j = args.length := by omega
            subst hjl
            have h1 := hall.out
            rw [List.take_length] at h1
            exact ⟨by rw [Hkeq.out, List.all_eq_true.2 h1]; rfl, hbl⟩
      · have hb : ((l[q].params.length : Int) != (args.length : Int)) = true := by simp; omega
        have hno : knows l known (.mk 5 n name args) = false := by
          rw [Hkm.out]; unfold kn1; rw [Hok.out]; simp [heq]
        have Hno := Lib.hid hno
        rw [hb]
        clear hno hb heq p0 q3 c1
        go_wp2
        go_ret
        exact ⟨by rw [Hno.out]; rfl, hb01⟩
  · have e1 : kn1 l known (.mk k n name args) = true := by unfold kn1; rw [hak, scallOk_other l k n name args h5]; rfl
    have hkeq : knows l known (.mk k n name args) = args.all (knows l known) := by rw [Hkm.out, e1, Bool.true_and]
    have Hkeq := Lib.hid hkeq
    have e5 : (k == 5) = false := by simp [h5]
    have hb01 := hb0
    have KE1 := KE
    have KP1 := KP
    clear hkeq e1 hak Hat Hfu
    go_enter Try.func101, Try.ntmps101
    go_wp2
    go_loopw [8] (fun i wr => ∃ (j : Nat), j ≤ args.length ∧ i = .int .i64 j ∧ Hid (∀ e ∈ args.take j, knows l known e = true) ∧ Below w.heap.size w wr ∧ Blk wr (w.heap.size + 1) 73 #[.int .i64 k, .int .i64 n, .slice xA name.length xc, .slice xA' args.length xc'] ∧ Blk wr w.heap.size 54 #[.slice A l.length cp]) (fun i _ => args.length - (intOf i).toNat)
    case atStart => exact ⟨0, Nat.zero_le _, rfl, Lib.hid (by simp), hb01, KE1, KP1⟩
    case round =>
      obtain ⟨j, hj, rfl, hall, hbl, hK, hP⟩ := hrel
      have b3 := hK.cell_of 3 (v := .slice xA' args.length xc') rfl
      have p0 := hP.cell_of 0 (v := .slice A l.length cp) rfl
      by_cases hlt : j < args.length
      · have hbd : Below w.heap.size w wr.drew := hbl.drew
        obtain ⟨ad, rfl, _, hbk, hat⟩ := (hx.below (hbl.mono hB)).2 (by omega)
        obtain ⟨x0, x1, x2, x3, ⟨y0, y1, y2, y3⟩, hv⟩ := hat j hlt
        have hc := Ih.out args[j] (List.getElem_mem hlt) A cp x0 x1 x2 x3 known Ak ck L B L' B' wr.drew (Nat.le_trans hB hbl.size) (Nat.le_trans hB' hbl.size) (hl.below (hbd.mono hB)) (hk.below (hbd.mono hB')) (ExV.keep (w := wr) (w' := wr.drew) (fun _ _ _ => rfl) _ _ _ _ _ hv)
        have Hc := Lib.hid hc
        have hno : knows l known args[j] = false → knows l known (.mk k n name args) = false := fun hh => by
          rw [Hkeq.out, List.all_eq_false]
          exact ⟨args[j], List.getElem_mem hlt, by rw [hh]; simp⟩
        have Hno := Lib.hid hno
        clear hc hat hv hno
        go_wp2
        go_still_tail 7, (by kernel_rfl)
        change wpList _ _ _ _ _ wr.drew
        go_wp2_with fail
        refine Hc.out.mono ?_
        rintro r w2 ⟨rfl, hb2⟩
        have hbn := hbd.trans (hb2.mono hbl.size)
        have hK2 := hK.drew.below hb2 hK.lt
        have hP2 := hP.drew.below hb2 hP.lt
        clear b3 p0 y0 y1 y2 y3
        cases hwj : knows l known args[j]
        · have Hwj := Lib.hid hwj
          clear hwj
          go_wp2
          go_ret
          exact ⟨by rw [Hno.out Hwj.out]; rfl, hbn⟩
        · have Hwj := Lib.hid hwj
          clear hwj
          go_wp2
          go_roundw
          case rel =>
            refine ⟨j + 1, by omega, by go_num, Lib.hid (fun e he => ?_), hbn, hK2, hP2⟩
            rw [List.take_succ_eq_append_getElem hlt, List.mem_append] at he
            rcases he with he | he
            · exact hall.out e he
            · rw [List.mem_singleton.1 he]; exact Hwj.out
          case measure => simp [intOf]; omega
      · go_wp2
        go_ret
        have hjl : j = args.length := by omega
        subst hjl
        have h1 := hall.out
        rw [List.take_length] at h1
        exact ⟨by rw [Hkeq.out, List.all_eq_true.2 h1]; rfl, hbl⟩

theorem l2knows_c (l : List Fn) (e : Ex) : KnE l e := Ex.ind (P := KnE l) (fun k n name args ih => knows_args l k n name args ih) e
end Go.Proofs.Ytmejbmfopdfbjaa
