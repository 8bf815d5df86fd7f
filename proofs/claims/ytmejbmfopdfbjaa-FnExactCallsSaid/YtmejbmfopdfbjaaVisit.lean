/-
  The program's walk through expressions: whatever yields.
-/
import Derived.Test.YtmejbmfopdfbjaaRange
import Derived.Test.YtmejbmfopdfbjaaStParts
namespace Go.Proofs.Ytmejbmfopdfbjaa
open Go.RowKit Go.Shelf
set_option linter.unusedVariables false
attribute [local go_sem] Oper.semAt_some

mutual
def flatEx : Ex → List Ex
  | .mk k n name args => .mk k n name args :: flatExs args
def flatExs : List Ex → List Ex
  | [] => []
  | e :: r => flatEx e ++ flatExs r
end
theorem flatEx_mk (k n : Int) (name : List UInt8) (args : List Ex) : flatEx (.mk k n name args) = .mk k n name args :: flatExs args := by rw [flatEx]
theorem flatExs_step : ∀ {l : List Ex} {k : Nat} (hk : k < l.length), flatExs (l.take (k + 1)) = flatExs (l.take k) ++ flatEx l[k]
  | [], k, hk => by simp at hk
  | e :: r, 0, hk => by simp [flatExs]
  | e :: r, k + 1, hk => by
    have := flatExs_step (l := r) (k := k) (by simpa using hk)
    simp only [List.take_succ_cons, flatExs, List.getElem_cons_succ]
    rw [this, List.append_assoc]
theorem flatExs_pre : ∀ (l : List Ex) (k : Nat), flatExs (l.take k) <+: flatExs l
  | [], k => by simp [flatExs]
  | e :: r, 0 => by simp [flatExs]
  | e :: r, k + 1 => by
    have := flatExs_pre r k
    simp only [List.take_succ_cons, flatExs]
    exact (List.prefix_append_right_inj _).2 this

/-- an expression as it is handed on: its four cells' values, and what they read as -/
structure EV where
  v0 : Value
  v1 : Value
  v2 : Value
  v3 : Value
  e : Ex
def evEnc (x : EV) : Array Value := #[.agg #[x.v0, x.v1, x.v2, x.v3]]
def evGood (n : Nat) (x : EV) (W : World) : Prop := ExV W 0 n x.v0 x.v1 x.v2 x.v3 x.e

/-- a row of expressions in the data, or in a block of the call's own -/
def ExRow (W : World) (n b : Nat) (T : TypeId → Prop) (A : Option Addr) (l : List Ex) : Prop :=
  l.length ≤ maxLen ∧ (0 < l.length → ∃ ad, A = some ad ∧ (ad.block < n ∨ (b ≤ ad.block ∧ ¬ Tag T W.heap[ad.block]?)) ∧ ad.block < W.heap.size ∧ ∀ k (h : k < l.length), ∃ v0 v1 v2 v3, At4 W (ad.add (k * 4)) v0 v1 v2 v3 ∧ ExV W 0 n v0 v1 v2 v3 l[k])
theorem ExL.row {W : World} {L n b : Nat} {T : TypeId → Prop} {A : Option Addr} {l : List Ex} (h : ExL W L n A l) (hn : n ≤ W.heap.size) : ExRow W n b T A l :=
  ⟨h.1, fun hp => by
    obtain ⟨ad, eA, hL, hb, hs⟩ := h.2 hp
    refine ⟨ad, eA, .inl hb, by omega, fun k hk => ?_⟩
    obtain ⟨v0, v1, v2, v3, h4, hv⟩ := hs k hk
    exact ⟨v0, v1, v2, v3, h4, ExV.more (Nat.zero_le _) (Nat.le_refl _) _ _ _ _ _ hv⟩⟩
theorem ExRow.kb {W W' : World} {n b : Nat} {T : TypeId → Prop} {A : Option Addr} {l : List Ex} (h : ExRow W n b T A l) (hk : KB n b T W W') (hn : n ≤ W.heap.size) : ExRow W' n b T A l :=
  ⟨h.1, fun hp => by
    obtain ⟨ad, eA, hc, hb, hs⟩ := h.2 hp
    have he := hk.block ad.block hb hc
    refine ⟨ad, eA, by rw [he]; exact hc, Nat.lt_of_lt_of_le hb hk.size, fun k hkl => ?_⟩
    obtain ⟨v0, v1, v2, v3, h4, hv⟩ := hs k hkl
    exact ⟨v0, v1, v2, v3, h4.keep (fun q hq => World.cell?_of_block (by rw [hq, block_of_add]; exact he)), hv.below (hk.below hn)⟩⟩

/-- the body's own kinds are none of those that the iterators' own blocks have -/
def NoT (T : TypeId → Prop) : Prop := ¬ T 73 ∧ ¬ T 98 ∧ ¬ T 29 ∧ ¬ T 104

/-- the rounds that an iterator may lean on -/
def Rounds {α : Type} (P : Program) (l : Nat) (encs : α → Array Value) (n b : Nat) (T : TypeId → Prop) (Sp : List α → Prop) (Good : α → World → Prop) (J Jx : List α → World → Prop) : Prop :=
  ∀ m pre x A, J pre A → Sp (pre ++ [x]) → Good x A → YieldAt Fence.wide m P l (encs x) A fun e B => (e = .returned (.bool true) ∧ J (pre ++ [x]) B ∧ KB n b T A B) ∨ (e = .returned (.bool false) ∧ Jx (pre ++ [x]) B ∧ KB n b T A B)

def VisEx (ls : List Ex) : Prop := ∀ (l m n b s : Nat) (T : TypeId → Prop) (tot : List Ex) (J Jx : List EV → World → Prop) (hT : NoT T) (hJ : Stays s T J) (hY : Rounds Try.prog l evEnc n b T (fun xs => xs.map EV.e <+: tot) (evGood n) J Jx) (pre : List EV) (A : Option Addr) (cp : Nat) (W : World),
  s ≤ W.heap.size → n ≤ W.heap.size → b ≤ W.heap.size → ExRow W n b T A ls → pre.map EV.e ++ flatExs ls <+: tot → J pre W →
  CallsIn Fence.wide m Try.prog 60 #[.slice A ls.length cp, .func (.yield l) #[] #[]] W fun e B =>
    (e = .returned (.bool true) ∧ ∃ xs : List EV, xs.map EV.e = flatExs ls ∧ J (pre ++ xs) B ∧ KB n b T W B) ∨ (e = .returned (.bool false) ∧ ∃ xs : List EV, xs.map EV.e <+: flatExs ls ∧ Jx (pre ++ xs) B ∧ KB n b T W B)

set_option maxRecDepth 100000 in
set_option maxHeartbeats 4000000 in
theorem visEx_of (ls : List Ex) (ih : ∀ e ∈ ls, ∀ k n name args, e = .mk k n name args → VisEx args) : VisEx ls := by
  intro l m n b s T tot J Jx hT hJ hY pre A cp W hs hn hb h hpt hj
  have hm := h.1
  unfold maxLen at hm
  have Ih := Lib.hid ih
  have HY := Lib.hid hY
  have HJ := Lib.hid hJ
  have Hpt := Lib.hid hpt
  clear ih hY hJ hpt
  refine callsIn_of_wp Try.func60 rfl trivial ?_ rfl
  simp only [Try.ntmps60, List.size_toArray, List.length_cons, List.length_nil, Nat.reduceAdd, Nat.reduceSub, Array.replicate_succ, Array.replicate_zero, List.push_toArray, List.append_toArray, List.nil_append, List.cons_append]
  gi_wp2
  gi_loopw [9] (fun i wr => ∃ (k : Nat) (xs : List EV), k ≤ ls.length ∧ i = .int .i64 k ∧ Hid (xs.map EV.e = flatExs (ls.take k)) ∧ J (pre ++ xs) wr ∧ KB n b T W wr) (fun i _ => ls.length - (intOf i).toNat)
  case atStart => exact ⟨0, [], Nat.zero_le _, rfl, Lib.hid (by simp [flatExs]), by simpa using hj, KB.refl _ _ _ _⟩
  case round =>
    obtain ⟨k, xs, hk, rfl, hxs, hJk, hkb⟩ := hrel
    by_cases hlt : k < ls.length
    · obtain ⟨ad, rfl, hc, hbk, hat⟩ := (h.kb hkb hn).2 (by omega)
      obtain ⟨v0, v1, v2, v3, ⟨c0, c1, c2, c3⟩, hv⟩ := hat k hlt
      obtain ⟨kk, nn, name, args, hle⟩ : ∃ kk nn name args, ls[k] = .mk kk nn name args := by cases ls[k]; exact ⟨_, _, _, _, rfl⟩
      have Hle := Lib.hid hle
      rw [hle] at hv
      have hv' := hv
      obtain ⟨xA, xc, xA', xc', rfl, rfl, rfl, rfl, xR, xm, xx⟩ := hv.open_
      have hws := hkb.size
      have hbo := fun o => (Below.refl wr.heap.size wr).alloc (Nat.le_refl _) o
      have hsp0 : xs.map EV.e ++ (.mk kk nn name args :: flatExs args) <+: flatExs ls := by
        have h1 := flatExs_pre ls (k + 1)
        rw [flatExs_step hlt, Hle.out, flatEx_mk, ← hxs.out] at h1
        exact h1
      have hsp2 : (pre ++ xs ++ [(⟨.int .i64 kk, .int .i64 nn, .slice xA name.length xc, .slice xA' args.length xc', .mk kk nn name args⟩ : EV)]).map EV.e ++ flatExs args <+: tot := by
        refine List.IsPrefix.trans ?_ Hpt.out
        rw [List.map_append, List.map_append, List.append_assoc, List.append_assoc]
        exact (List.prefix_append_right_inj _).2 hsp0
      have hsp : (pre ++ xs ++ [(⟨.int .i64 kk, .int .i64 nn, .slice xA name.length xc, .slice xA' args.length xc', .mk kk nn name args⟩ : EV)]).map EV.e <+: tot := List.IsPrefix.trans (List.prefix_append _ _) hsp2
      have Hsp := Lib.hid hsp
      have Hsp2 := Lib.hid hsp2
      clear hsp0 hsp hsp2
      obtain ⟨fn, tmps, assign, body, hy, hR⟩ := HY.out (m - 1) (pre ++ xs) ⟨.int .i64 kk, .int .i64 nn, .slice xA name.length xc, .slice xA' args.length xc', .mk kk nn name args⟩ (wr.alloc (.cells #[.int .i64 kk, .int .i64 nn, .slice xA name.length xc, .slice xA' args.length xc'] 73))
        (HJ.out _ _ _ hJk (Ext.of (hbo _) (by omega))) Hsp.out (hv'.below ((hbo _).mono (by omega)))
      have KB0 := Blk.new wr 73 #[.int .i64 kk, .int .i64 nn, .slice xA name.length xc, .slice xA' args.length xc']
      clear hle hat
      dsimp only [evEnc] at hy
      gi_wp2_with fail
      refine ⟨fun hd => by simp [Fence.wide] at hd, ?_⟩
      refine hR.mono ?_
      rintro r W3 (⟨rfl, hJ3, hk3⟩ | ⟨rfl, hx3, hk3⟩)
      · have hk03 : KB n b T W W3 := (hkb.alloc _).trans hk3
        have hw3 := hk3.size
        have hwa : wr.heap.size + 1 ≤ W3.heap.size := by simpa using hw3
        have K3 := KB0.kb hk3 (.inr ⟨by omega, hT.1⟩)
        have q3 := K3.cell_of 3 rfl
        have xx3 : ExL W3 0 n xA' args := (xx.below ((hbo (.cells #[.int .i64 kk, .int .i64 nn, .slice xA name.length xc, .slice xA' args.length xc'] 73)).mono (by omega))).below (hk3.below (by simp; omega))
        have hc0 := Ih.out ls[k] (List.getElem_mem hlt) kk nn name args Hle.out l (m - 1) n b s T tot J Jx hT HJ.out HY.out _ xA' xc' W3 (by omega) (by omega) (by omega) (xx3.row (by omega)) Hsp2.out hJ3
        have Hc := Lib.hid hc0
        clear hc0 hy hR
        gi_wp2_with fail
        refine ⟨trivial, fun hd => by simp [Fence.wide] at hd, ?_⟩
        gi_at_call 60
        refine Hc.out.mono ?_
        rintro r W4 (⟨rfl, ys, hys, hJ4, hk4⟩ | ⟨rfl, ys, hys, hx4, hk4⟩)
        · have Hys := Lib.hid hys
          clear hys q3 Hc
          gi_wp2
          go_roundw
          case rel => exact ⟨k + 1, xs ++ ⟨.int .i64 kk, .int .i64 nn, .slice xA name.length xc, .slice xA' args.length xc', .mk kk nn name args⟩ :: ys, by omega, by go_num, Lib.hid (by rw [flatExs_step hlt, Hle.out, flatEx_mk, List.map_append, List.map_cons, hxs.out, Hys.out]), by simpa [List.append_assoc] using hJ4, hk03.trans hk4⟩
          case measure => simp [intOf]; omega
        · have Hys := Lib.hid hys
          clear hys q3 Hc
          gi_wp2
          go_ret
          refine .inr ⟨rfl, xs ++ ⟨.int .i64 kk, .int .i64 nn, .slice xA name.length xc, .slice xA' args.length xc', .mk kk nn name args⟩ :: ys, ?_, by simpa [List.append_assoc] using hx4, hk03.trans hk4⟩
          have h1 := flatExs_pre ls (k + 1)
          rw [flatExs_step hlt, Hle.out, flatEx_mk] at h1
          refine List.IsPrefix.trans ?_ h1
          rw [List.map_append, List.map_cons, hxs.out]
          exact (List.prefix_append_right_inj _).2 (List.cons_prefix_cons.2 ⟨rfl, Hys.out⟩)
      · clear hy hR
        gi_wp2_with fail
        refine ⟨trivial, ?_⟩
        gi_wp2
        go_ret
        refine .inr ⟨rfl, xs ++ [⟨.int .i64 kk, .int .i64 nn, .slice xA name.length xc, .slice xA' args.length xc', .mk kk nn name args⟩], ?_, by simpa [List.append_assoc] using hx3, (hkb.alloc _).trans hk3⟩
        have h1 := flatExs_pre ls (k + 1)
        rw [flatExs_step hlt, Hle.out, flatEx_mk] at h1
        refine List.IsPrefix.trans ?_ h1
        rw [List.map_append, hxs.out]
        exact (List.prefix_append_right_inj _).2 (by simp)
    · gi_wp2
      go_ret
      have hkl : k = ls.length := by omega
      subst hkl
      have h1 := hxs.out
      rw [List.take_length] at h1
      exact .inl ⟨rfl, xs, h1, hJk, hkb⟩

theorem visEx_c (ls : List Ex) : VisEx ls := by
  have one : ∀ e : Ex, ∀ k n name args, e = .mk k n name args → VisEx args := fun e => Ex.ind (P := fun e => ∀ k n name args, e = .mk k n name args → VisEx args) (fun k n name args ih k' n' name' args' he => by
    injection he with _ _ _ he
    rw [← he]
    exact visEx_of args ih) e
  exact visEx_of ls fun e _ => one e
end Go.Proofs.Ytmejbmfopdfbjaa
