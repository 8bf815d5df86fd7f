/-
  Places of names, rows of names.
-/
import Derived.Test.YtmejbmfopdfbjaaPlace
import Derived.Test.YtmejbmfopdfbjaaFnAll
import Derived.Maps.AppendAt
import Derived.Test.YtmejbmfopdfbjaaVisit
namespace Go.Proofs.Ytmejbmfopdfbjaa
open Go.RowKit
set_option linter.unusedVariables false

def namesOf (l : List Fn) : List (List UInt8) := l.map Fn.name

set_option maxRecDepth 100000 in
set_option maxHeartbeats 4000000 in
theorem funcNames_c (l : List Fn) (A : Option Addr) (cp L B : Nat) (w : World) (hB : B ≤ w.heap.size) (hl : l.length ≤ 1048576) (h : FnL w L B A l) :
    Calls Try.prog 49 #[.agg #[.slice A l.length cp]] w fun r w' => ∃ A' c', r = .returned (.slice A' l.length c') ∧ l.length ≤ c' ∧ c' ≤ maxLen ∧ BsL w' 0 w'.heap.size A' (namesOf l) ∧ Below w.heap.size w w' := by
  have hm := h.1
  unfold maxLen at hm
  obtain ⟨i0, hi, hz0, hz1, hz2⟩ := info_parts infoBs
  have hb0 : Below w.heap.size w (w.alloc (.cells #[.slice A l.length cp] 54)) := (Below.refl _ _).alloc (Nat.le_refl _) _
  go_enter Try.func49, Try.ntmps49
  go_wp2
  go_loopw [3, 9] (fun s i wr => ∃ (k : Nat) (A1 : Option Addr) (c1 : Nat) (xs : List Value), k ≤ l.length ∧ i = .int .i64 k ∧ s = .slice A1 k c1 ∧ wr.ownsRow w.heap.size 22 1 (.slice A1 k c1) k xs ∧ k ≤ c1 ∧
    Hid (∀ j (hj : j < l.length), j < k → ∃ A2 c2, xs[j]? = some (.slice A2 l[j].name.length c2) ∧ RBL w 0 B A2 l[j].name ∧ l[j].name.length ≤ maxLen) ∧ Below w.heap.size w wr) (fun _ i _ => l.length - (intOf i).toNat)
  case atStart => exact ⟨0, none, 0, [], Nat.zero_le _, rfl, rfl, World.ownsRow_nil _ _ _ _, Nat.le_refl _, Lib.hid (fun j _ h0 => by omega), hb0⟩
  case round =>
    obtain ⟨k, A1, c1, xs, hk, rfl, rfl, hown, hkc, hall, hbl⟩ := hrel
    by_cases hlt : k < l.length
    · obtain ⟨ad, rfl, _, hbk, hat⟩ := (h.below (hbl.mono hB)).2 (by omega)
      obtain ⟨v0, v1, v2, ⟨c0, c1', c2⟩, hv⟩ := hat k hlt
      obtain ⟨fA, fc, fA1, fc1, fA2, fc2, rfl, rfl, rfl, fR, fm, fp, fb, fcp⟩ := hv
      have hO := hown.alloc (.cells #[.slice fA l[k].name.length fc, .slice fA1 l[k].params.length fc1, .slice fA2 l[k].body.length fc2] 31)
      have hO2 := hO.alloc (.cells #[.slice fA l[k].name.length fc] 22)
      have HO := Lib.hid hO2
      have hws := hbl.size
      clear hat hO hO2
      have Fr := Lib.hid fR
      have Fm := Lib.hid fm
      clear fR fp fb fm
      go_wp2_with (at_builtin; refine wpList_append_own _ rfl (.tmp 13) (.tmp 16) 23 rfl w.heap.size 22 i0 _ 1 24 Try.underlying23 hi hz0 hz1 hz2 rfl (by omega) _ _ _ rfl HO.out ⟨wr.heap.size + 1, 0, none⟩ 1 1 [.slice fA l[k].name.length fc] rfl rfl (by have := cell_one_new (wr.alloc (.cells #[.slice fA l[k].name.length fc, .slice fA1 l[k].params.length fc1, .slice fA2 l[k].body.length fc2] 31)) (.slice fA l[k].name.length fc) 22; rw [World.size_alloc] at this; exact this) (by simp [Value.oneCell']) (by unfold maxLen; omega) (by omega) (by simp; omega) ?_; intro v' w2 hown' hgrow _)
      obtain ⟨g', cap', rfl, hcap⟩ : ∃ g' cap', v' = .slice (some ⟨g', 0, none⟩) (k + 1) cap' ∧ k + 1 ≤ cap' := by
        rcases hown'.2 with ⟨_, h0⟩ | ⟨g2, cap2, cur2, hv2, _, _, hc2, _⟩
        · omega
        · exact ⟨g2, cap2, hv2, hc2⟩
      have hlen : xs.length = k := by have := hown.1; omega
      have hbn : Below w.heap.size w w2 := ((hbl.alloc hws _).alloc (by simp; omega) _).grown hgrow (by simp; omega) (fun g hg => by
        rcases hown.2 with ⟨hn0, _⟩ | ⟨g0, cap0, cur0, hv0, hb0', _⟩
        · injection hn0 with a1 a2 a3
          subst a1
          cases hg
        · injection hv0 with a1 a2 a3
          subst a1
          subst a3
          have : g0 = g := by
            have h3 : (Value.slice (some ⟨g0, 0, none⟩) k c1).ownBlock = some g := by exact hg
            simpa [Value.ownBlock] using h3
          omega)
      go_roundw
      case rel =>
        refine ⟨k + 1, _, cap', xs ++ [.slice fA l[k].name.length fc], by omega, by go_num, rfl, hown', hcap, Lib.hid (fun j hj hjk => ?_), hbn⟩
        rcases Nat.lt_or_ge j k with h1 | h1
        · obtain ⟨A2, c2, hx, hR2, hm2⟩ := hall.out j hj h1
          exact ⟨A2, c2, by rw [List.getElem?_append_left (by omega)]; exact hx, hR2, hm2⟩
        · obtain rfl : j = k := by omega
          exact ⟨fA, fc, by rw [List.getElem?_append_right (by omega), hlen, Nat.sub_self]; rfl, (Fr.out.keep (w' := w) (fun p _ hp => (hbl.cell (by omega)).symm)).more (Nat.zero_le _) (Nat.le_refl _), Fm.out⟩
      case measure => simp [intOf]; omega
    · go_wp2
      go_ret
      have hkl : k = l.length := by omega
      subst hkl
      have hR := Reads.of_own hown
      have hcm : c1 ≤ maxLen := by
        rcases hown.2 with ⟨h1, _⟩ | ⟨g, cap, cur, hv, _, _, _, hc, _⟩
        · injection h1 with _ _ h1
          rw [h1]; exact Nat.zero_le _
        · injection hv with _ _ hv
          rw [hv]; exact hc
      refine ⟨A1, c1, rfl, hkc, hcm, ⟨by unfold namesOf; rw [List.length_map]; exact h.1, fun hp => ?_⟩, hbl⟩
      unfold namesOf at hp
      rw [List.length_map] at hp
      obtain ⟨ad, eA, hb', hcs⟩ := hR.2 hp
      refine ⟨ad, eA, Nat.zero_le _, hb', fun j hj => ?_⟩
      have hj' : j < l.length := by unfold namesOf at hj; rwa [List.length_map] at hj
      obtain ⟨A2, c2, hx, hR2, hm2⟩ := hall.out j hj' hj'
      have e1 : (namesOf l)[j] = l[j].name := List.getElem_map Fn.name
      rw [e1]
      exact ⟨A2, c2, hcs j _ hx, (hR2.below (hbl.mono hB)).more (Nat.le_refl _) (Nat.le_trans hB hbl.size), hm2⟩
end Go.Proofs.Ytmejbmfopdfbjaa

namespace Go.Proofs.Ytmejbmfopdfbjaa
open Go.RowKit
set_option linter.unusedVariables false

def askOk (known : List (List UInt8)) : Ex → Bool
  | .mk k _ name _ => k != 2 || decide (0 ≤ placeOf known name)

set_option maxHeartbeats 2000000 in
theorem asksFor1_c (known : List (List UInt8)) (k n : Int) (name : List UInt8) (args : List Ex) (v0 v1 v2 v3 : Value) (Ak : Option Addr) (ck L B L' B' Bn : Nat) (w : World) (hB : B ≤ w.heap.size) (hB' : B' ≤ w.heap.size) (hBn : Bn < w.heap.size)
    (hc : w.cell? ⟨Bn, 0, none⟩ = some (.slice Ak known.length ck)) (hk : BsL w L' B' Ak known) (h : ExV w L B v0 v1 v2 v3 (.mk k n name args)) :
    Calls Try.prog 116 #[.agg #[v0, v1, v2, v3], .pointer (some ⟨Bn, 0, none⟩)] w fun r w' => r = .returned (.bool (askOk known (.mk k n name args))) ∧ Below w.heap.size w w' := by
  obtain ⟨A, c, A', c', rfl, rfl, rfl, rfl, hR, hm, hx⟩ := h.open_
  have hb0 : ∀ o, Below w.heap.size w (w.alloc o) := fun o => (Below.refl _ _).alloc (Nat.le_refl _) _
  have hc0 : ∀ o, (w.alloc o).cell? ⟨Bn, 0, none⟩ = some (.slice Ak known.length ck) := fun o => (World.cell?_alloc_lt w o ⟨Bn, 0, none⟩ hBn).trans hc
  have hp := fun o => placeOf_c known name Ak A ck c L' B' B (w.alloc o) (by rw [World.size_alloc]; omega) (by rw [World.size_alloc]; omega) (hk.below ((hb0 o).mono hB')) (hR.1.below ((hb0 o).mono hB))
  have Hp := Lib.hid hp
  clear hp hx hR h hk
  by_cases h2 : k = 2
  · subst h2
    go_enter Try.func116, Try.ntmps116
    go_wp2_with fail
    refine (Hp.out _).mono ?_
    rintro r w1 ⟨rfl, hb1⟩
    go_wp2
    go_ret
    exact ⟨ret_bool' (by simp [askOk]), (hb0 _).trans (hb1.mono (hb0 _).size)⟩
  · have e2 : (k != 2) = true := by simp [h2]
    have hyes : askOk known (.mk k n name args) = true := by simp [askOk, h2]
    rw [hyes]
    go_enter Try.func116, Try.ntmps116
    go_wp2
    go_ret
    exact ⟨rfl, hb0 _⟩

def VisAsk (ls : List Ex) : Prop := ∀ (known : List (List UInt8)) (A Ak : Option Addr) (cp ck L B L' B' Bn : Nat) (w : World), B ≤ w.heap.size → B' ≤ w.heap.size → Bn < w.heap.size →
  w.cell? ⟨Bn, 0, none⟩ = some (.slice Ak known.length ck) → BsL w L' B' Ak known → ExL w L B A ls →
  Calls Try.prog 60 #[.slice A ls.length cp, .func (.func 116) #[] #[.pointer (some ⟨Bn, 0, none⟩)]] w fun r w' => r = .returned (.bool ((flatExs ls).all (askOk known))) ∧ Below w.heap.size w w'

theorem flatExs_all : ∀ (l : List Ex) (p : Ex → Bool), (flatExs l).all p = l.all fun e => (flatEx e).all p
  | [], p => by simp [flatExs]
  | e :: r, p => by rw [flatExs, List.all_append, flatExs_all r p]; simp

set_option maxHeartbeats 2000000 in
theorem visAsk_of (ls : List Ex) (ih : ∀ e ∈ ls, ∀ k n name args, e = .mk k n name args → VisAsk args) : VisAsk ls := by
  intro known A Ak cp ck L B L' B' Bn w hB hB' hBn hc hk h
  have hm := h.1
  unfold maxLen at hm
  have Ih := Lib.hid ih
  clear ih
  go_enter Try.func60, Try.ntmps60
  go_wp2
  go_loopw [9] (fun i wr => ∃ (k : Nat), k ≤ ls.length ∧ i = .int .i64 k ∧ Below w.heap.size w wr ∧ Hid (∀ e ∈ ls.take k, (flatEx e).all (askOk known) = true)) (fun i _ => ls.length - (intOf i).toNat)
  case atStart => exact ⟨0, Nat.zero_le _, rfl, Below.refl _ _, Lib.hid (by simp)⟩
  case round =>
    obtain ⟨k, hk', rfl, hbl, hall⟩ := hrel
    by_cases hlt : k < ls.length
    · obtain ⟨ad, rfl, _, hbk, hat⟩ := (h.below (hbl.mono hB)).2 (by omega)
      obtain ⟨v0, v1, v2, v3, ⟨c0, c1, c2, c3⟩, hv⟩ := hat k hlt
      obtain ⟨kk, n, name, args, hle⟩ : ∃ kk n name args, ls[k] = .mk kk n name args := by cases ls[k]; exact ⟨_, _, _, _, rfl⟩
      have Hle := Lib.hid hle
      rw [hle] at hv
      have hv' := hv
      obtain ⟨xA, xc, xA', xc', rfl, rfl, rfl, rfl, xR, xm, xx⟩ := hv.open_
      have hws := hbl.size
      have hbo : ∀ o, Below wr.heap.size wr (wr.alloc o) := fun o => (Below.refl _ _).alloc (Nat.le_refl _) o
      have hcr : ∀ o, (wr.alloc o).cell? ⟨Bn, 0, none⟩ = some (.slice Ak known.length ck) := fun o => (World.cell?_alloc_lt wr o ⟨Bn, 0, none⟩ (by show Bn < _; omega)).trans ((hbl.cell (p := ⟨Bn, 0, none⟩) hBn).trans hc)
      have hx := fun o => asksFor1_c known kk n name args _ _ _ _ Ak ck L B L' B' Bn (wr.alloc o) (by rw [World.size_alloc]; omega) (by rw [World.size_alloc]; omega) (by rw [World.size_alloc]; omega) (hcr o) ((hk.below (hbl.mono hB')).below ((hbo o).mono (by omega))) (hv'.below ((hbo o).mono (by omega)))
      have KB0 := Blk.new wr 73 #[.int .i64 kk, .int .i64 n, .slice xA name.length xc, .slice xA' args.length xc']
      have hfe : (flatEx ls[k]).all (askOk known) = (askOk known (.mk kk n name args) && (flatExs args).all (askOk known)) := by rw [hle, flatEx_mk, List.all_cons]
      have Hfe := Lib.hid hfe
      have Hx := Lib.hid hx
      have hno : (flatEx ls[k]).all (askOk known) = false → (flatExs ls).all (askOk known) = false := fun hh => by
        rw [flatExs_all, List.all_eq_false]
        exact ⟨ls[k], List.getElem_mem hlt, by rw [hh]; simp⟩
      have Hno := Lib.hid hno
      clear hx hat hle hfe hno hcr
      go_wp2_with fail
      refine (Hx.out _).mono ?_
      rintro r w1 ⟨rfl, hb1⟩
      have hb01 := (hbl.alloc hbl.size (.cells #[.int .i64 kk, .int .i64 n, .slice xA name.length xc, .slice xA' args.length xc'] 73)).trans (hb1.mono (by simp; omega))
      have K1 := KB0.below hb1 KB0.lt
      have hw1 := hb1.size
      have hw1' : wr.heap.size + 1 ≤ w1.heap.size := by simpa using hw1
      cases hao : askOk known (.mk kk n name args)
      · have Hao := Lib.hid hao
        clear hao
        go_wp2
        go_ret
        exact ⟨ret_bool' (Hno.out (by rw [Hfe.out, Hao.out]; rfl)), hb01⟩
      have Hao := Lib.hid hao
      have q3 := K1.cell_of 3 rfl
      have hy := Ih.out ls[k] (List.getElem_mem hlt) kk n name args Hle.out known xA' Ak xc' ck L B L' B' Bn w1 (by omega) (by omega) (by omega) ((hb01.cell (p := ⟨Bn, 0, none⟩) hBn).trans hc) (hk.below (hb01.mono hB'))
        (xx.below ((((Below.refl B wr).alloc (by omega) (.cells #[.int .i64 kk, .int .i64 n, .slice xA name.length xc, .slice xA' args.length xc'] 73))).trans (hb1.mono (by simp; omega))))
      have Hy := Lib.hid hy
      clear hao hy
      go_wp2_with fail
      refine Hy.out.mono ?_
      rintro r w2 ⟨rfl, hb2⟩
      have hb02 := hb01.trans (hb2.mono hb01.size)
      clear q3
      cases hfa : (flatExs args).all (askOk known)
      · have Hfa := Lib.hid hfa
        clear hfa
        go_wp2
        go_ret
        exact ⟨ret_bool' (Hno.out (by rw [Hfe.out, Hfa.out, Bool.and_false])), hb02⟩
      · have Hfa := Lib.hid hfa
        clear hfa
        go_wp2
        go_roundw
        case rel =>
          refine ⟨k + 1, by omega, by go_num, hb02, Lib.hid (fun e he => ?_)⟩
          rw [List.take_succ_eq_append_getElem hlt, List.mem_append] at he
          rcases he with he | he
          · exact hall.out e he
          · rw [List.mem_singleton.1 he, Hfe.out, Hao.out, Hfa.out]; rfl
        case measure => simp [intOf]; omega
    · go_wp2
      go_ret
      have hkl : k = ls.length := by omega
      subst hkl
      have h1 := hall.out
      rw [List.take_length] at h1
      exact ⟨ret_bool' (by rw [flatExs_all, List.all_eq_true]; exact h1), hbl⟩

theorem visAsk_c (ls : List Ex) : VisAsk ls := by
  have one : ∀ e : Ex, ∀ k n name args, e = .mk k n name args → VisAsk args := fun e => Ex.ind (P := fun e => ∀ k n name args, e = .mk k n name args → VisAsk args) (fun k n name args ih k' n' name' args' he => by
    injection he with _ _ _ he
    rw [← he]
    exact visAsk_of args ih) e
  exact visAsk_of ls fun e _ => one e

theorem asksFor_c (ls : List Ex) (known : List (List UInt8)) (A Ak : Option Addr) (cp ck L B L' B' : Nat) (w : World) (hB : B ≤ w.heap.size) (hB' : B' ≤ w.heap.size) (hk : BsL w L' B' Ak known) (h : ExL w L B A ls) :
    Calls Try.prog 104 #[.slice A ls.length cp, .slice Ak known.length ck] w fun r w' => r = .returned (.bool ((flatExs ls).all (askOk known))) ∧ Below w.heap.size w w' := by
  have hb0 : Below w.heap.size w (w.alloc (.cells #[.slice Ak known.length ck] 23)) := (Below.refl _ _).alloc (Nat.le_refl _) _
  have hx := visAsk_c ls known A Ak cp ck L B L' B' w.heap.size (w.alloc (.cells #[.slice Ak known.length ck] 23)) (by simp; omega) (by simp; omega) (by simp) ((Blk.new w _ _).cell_of 0 rfl) (hk.below (hb0.mono hB')) (h.below (hb0.mono hB))
  have Hx := Lib.hid hx
  clear hx h hk
  go_enter Try.func104, Try.ntmps104
  go_wp2_with fail
  refine Hx.out.mono ?_
  rintro r w1 ⟨rfl, hb1⟩
  go_wp2
  go_ret
  exact ⟨rfl, hb0.trans (hb1.mono hb0.size)⟩
end Go.Proofs.Ytmejbmfopdfbjaa
