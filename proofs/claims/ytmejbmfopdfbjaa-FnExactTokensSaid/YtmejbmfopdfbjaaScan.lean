/-
  The program's iterator over the tokens of a text.
-/
import Derived.Test.YtmejbmfopdfbjaaRangeP
import Derived.Test.YtmejbmfopdfbjaaFirst
namespace Go.Proofs.Ytmejbmfopdfbjaa
open Go.RowKit Go.Shelf
set_option linter.unusedVariables false
attribute [local go_sem] Oper.semAt_some

structure TV where
  tok : Tok
  ok : Bool
  A : Option Addr
  c : Nat
  g : Nat
def tvEnc (x : TV) : Array Value := #[.agg #[.int .i64 x.tok.kind, .int .i64 x.tok.pos, .int .i64 x.tok.n, .slice x.A x.tok.text.length x.c], .bool x.ok]
def tvGood (lo : Nat) (x : TV) (W : World) : Prop := TxS W lo x.g x.A x.tok.text ∧ (0 < x.tok.text.length → x.g < W.heap.size)
def tvTo (x : TV) : Tok × Bool := (x.tok, x.ok)
/-- the kinds of blocks that a row of tokens and their texts lie in -/
def TkT (t : TypeId) : Prop := t = 5 ∨ t = 78
/-- texts lie apart -/
def Apart (xs : List TV) : Prop := ∀ i j (hi : i < xs.length) (hj : j < xs.length), i ≠ j → 0 < xs[i].tok.text.length → 0 < xs[j].tok.text.length → xs[i].g ≠ xs[j].g
def Asc (xs : List TV) (hi : Nat) : Prop := (∀ i (h : i < xs.length), 0 < xs[i].tok.text.length → xs[i].g < hi) ∧ Apart xs
theorem Asc.nil (hi : Nat) : Asc [] hi := ⟨fun i h => by simp at h, fun i j h => by simp at h⟩
theorem Asc.more {xs : List TV} {h h' : Nat} (ha : Asc xs h) (hl : h ≤ h') : Asc xs h' := ⟨fun i hi h0 => Nat.lt_of_lt_of_le (ha.1 i hi h0) hl, ha.2⟩
theorem Asc.snoc {xs : List TV} {x : TV} {h h' : Nat} (ha : Asc xs h) (hl : h ≤ h') (hx : 0 < x.tok.text.length → h ≤ x.g ∧ x.g < h') : Asc (xs ++ [x]) h' := by
  refine ⟨fun i hi h0 => ?_, fun i j hi hj hij ti tj => ?_⟩
  · rcases Nat.lt_or_ge i xs.length with h1 | h1
    · rw [List.getElem_append_left h1] at h0 ⊢
      exact Nat.lt_of_lt_of_le (ha.1 i h1 h0) hl
    · obtain rfl : i = xs.length := by simp at hi; omega
      simp at h0 ⊢
      exact (hx h0).2
  · rcases Nat.lt_or_ge i xs.length with h1 | h1 <;> rcases Nat.lt_or_ge j xs.length with h2 | h2
    · rw [List.getElem_append_left h1] at ti ⊢
      rw [List.getElem_append_left h2] at tj ⊢
      exact ha.2 i j h1 h2 hij ti tj
    · obtain rfl : j = xs.length := by simp at hj; omega
      rw [List.getElem_append_left h1] at ti ⊢
      simp at tj ⊢
      have := ha.1 i h1 ti
      have := (hx tj).1
      omega
    · obtain rfl : i = xs.length := by simp at hi; omega
      rw [List.getElem_append_left h2] at tj ⊢
      simp at ti ⊢
      have := ha.1 j h2 tj
      have := (hx ti).1
      omega
    · simp at hi hj; omega

set_option maxHeartbeats 400000 in
theorem isGap_c (c : UInt8) (g : Bool) (hg : gap c = g) (w : World) :
    Calls Try.prog 71 #[.int .u8 (c.toNat : Int)] w fun e w' => e = .returned (.bool g) ∧ w = w' := by
  have e1 : (c == 32) = ((c.toNat : Int) == 32) := by
    rw [Bool.eq_iff_iff, beq_iff_eq, beq_iff_eq]
    constructor
    · rintro rfl; rfl
    · intro h; apply UInt8.toNat.inj; rw [show (32 : UInt8).toNat = 32 from rfl]; omega
  have e2 : (c == 10) = ((c.toNat : Int) == 10) := by
    rw [Bool.eq_iff_iff, beq_iff_eq, beq_iff_eq]
    constructor
    · rintro rfl; rfl
    · intro h; apply UInt8.toNat.inj; rw [show (10 : UInt8).toNat = 10 from rfl]; omega
  unfold gap at hg
  rw [e1, e2] at hg
  have Hg := Lib.hid hg
  clear hg e1 e2
  cases h1 : ((c.toNat : Int) == 32) <;> cases h2 : ((c.toNat : Int) == 10)
  all_goals
    rw [h1, h2] at Hg
    go_enter Try.func71, Try.ntmps71
    go_wp2
    all_goals
      go_ret
      refine ⟨?_, rfl⟩
      rw [← Hg.out]
      first | rfl | simp_all

theorem scan_c (A : Option Addr) (a c : Nat) (w : World) :
    Calls Try.prog 43 #[.slice A a c] w fun e w' => e = .returned (.func (.func 70) #[] #[.pointer (some ⟨w.heap.size, 0, none⟩)]) ∧ w' = w.alloc (.cells #[.slice A a c] 22) := by
  go_enter Try.func43, Try.ntmps43
  go_wp2
  go_ret
  exact ⟨rfl, rfl⟩

set_option maxRecDepth 100000 in
set_option maxHeartbeats 8000000 in
theorem scan1_seq (b : List UInt8) (a : Addr) (cp n bb Bl : Nat) (w : World) (hlb : b.length ≤ 1048576) (hcp : b.length ≤ cp) (hn : n ≤ w.heap.size) (hK : Blk w Bl 22 #[.slice (some a) b.length cp]) (h : RB w n (some a) b) :
    SeqP Try.prog 70 #[.pointer (some ⟨Bl, 0, none⟩)] tvEnc Bl n bb TkT (tvGood w.heap.size) (fun xs => xs.map tvTo = scanAt b 0 ∧ Apart xs) (fun xs => xs.map tvTo <+: scanAt b 0 ∧ Apart xs) w := by
  intro l m J Jx W hW hb hJ hJx hY h0
  have hws := hW.size
  have hKW := hK.below hW hK.lt
  have hRW := h.below (hW.mono hn)
  have HY := Lib.hid hY
  have HJ := Lib.hid hJ
  clear hY hJ
  refine callsIn_of_wp Try.func70 rfl trivial ?_ rfl
  simp only [Try.ntmps70, List.size_toArray, List.length_cons, List.length_nil, Nat.reduceAdd, Nat.reduceSub, Array.replicate_succ, Array.replicate_zero, List.push_toArray, List.append_toArray, List.nil_append, List.cons_append]
  gi_wp2
  gi_loopw [3] (fun i wr => ∃ (k : Nat) (xs : List TV), k ≤ b.length ∧ i = .int .i64 k ∧ Hid (xs.map tvTo ++ scanAt b k = scanAt b 0) ∧ Hid (Asc xs wr.heap.size) ∧ J xs wr ∧ KP Bl n bb TkT W wr) (fun i _ => b.length - (intOf i).toNat)
  case atStart => exact ⟨0, [], Nat.zero_le _, rfl, Lib.hid (by simp), Lib.hid (Asc.nil _), h0, KP.refl _ _ _ _ _⟩
  case round =>
    obtain ⟨k, xs, hk, rfl, hxs, hasc, hJk, hkp⟩ := hrel
    have hKr := hKW.kp hkp
    have q0 := hKr.cell_of 0 (v := .slice (some a) b.length cp) rfl
    have hRr := hRW.below (hkp.below (by omega))
    have hsr := hkp.size
    by_cases hlt : k < b.length
    · obtain ⟨ad, e, hbk, hcell⟩ := hRr.at_ hlt
      injection e with e
      subst e
      cases hg : gap b[k]
      case true =>
        have hnx := scanAt_gap hlt hg
        have Hg := Lib.hid hg
        have Hnx := Lib.hid hnx
        clear hg hnx
        gi_wp2_with fail
        refine ⟨trivial, fun hd => by simp [Fence.wide] at hd, ?_⟩
        gi_at_call 71
        refine (callsIn_wide.2 (isGap_c _ true Hg.out _)).mono ?_
        rintro r w2 ⟨rfl, rfl⟩
        gi_wp2
        go_roundw
        case rel => exact ⟨k + 1, xs, by omega, by go_num, Lib.hid (by rw [← Hnx.out]; exact hxs.out), hasc, hJk, hkp⟩
        case measure => simp [intOf]; omega
      case false =>
        have hone := scanAt_one hlt hg
        have hlen := tokOne_len (s := b.drop k) (by rw [List.length_drop]; omega)
        rw [List.length_drop] at hlen
        have hft := firstToken_c (b.drop k) (a.add k) (cp - k) n wr (by omega) (by rw [List.length_drop]; omega) (by rw [List.length_drop]; omega) (by rw [List.length_drop]; omega) (hRr.drop2 k)
        rw [List.length_drop] at hft
        unfold FtP at hft
        obtain ⟨T, hT⟩ : ∃ T, (tokOne (b.drop k)).1 = T := ⟨_, rfl⟩
        obtain ⟨ln, hln⟩ : ∃ T, (tokOne (b.drop k)).2.1 = T := ⟨_, rfl⟩
        obtain ⟨ok, hok⟩ : ∃ T, (tokOne (b.drop k)).2.2 = T := ⟨_, rfl⟩
        rw [hT, hln, hok] at hft hone
        rw [hln] at hlen
        have hl1 := hlen.1
        have hl2 : k + ln ≤ b.length := by omega
        have Hft := Lib.hid hft
        have Hone := Lib.hid hone
        have Hg := Lib.hid hg
        have hkcp : k ≤ cp := by omega
        clear hft hone hg hT hln hok hlen
        gi_wp2_with fail
        refine ⟨trivial, fun hd => by simp [Fence.wide] at hd, ?_⟩
        gi_at_call 71
        refine (callsIn_wide.2 (isGap_c _ false Hg.out _)).mono ?_
        rintro r w2 ⟨rfl, rfl⟩
        gi_wp2_with fail
        refine ⟨trivial, fun hd => by simp [Fence.wide] at hd, ?_⟩
        gi_at_call 72
        refine (callsIn_wide.2 Hft.out).mono ?_
        rintro r w2 ⟨⟨A2, c2, g2, rfl, htx⟩, hb2⟩
        have Htx := Lib.hid htx
        clear htx Hft
        have hs2 := hb2.size
        have hbo : Below wr.heap.size wr (w2.alloc (.cells #[.int .i64 T.kind, .int .i64 k, .int .i64 T.n, .slice A2 T.text.length c2] 78)) := hb2.alloc hs2 _
        have htl : 0 < T.text.length → g2 < w2.heap.size := fun h0 => by
          obtain ⟨_, _, tc, hbk, _⟩ := Htx.out h0
          exact hbk.lt
        have hasc2 := hasc.out.snoc (x := ⟨placed T k, ok, A2, c2, g2⟩) (h' := w2.heap.size) hs2 (fun h0 => ⟨(Htx.out h0).2.1, htl h0⟩)
        have hsnoc : (xs ++ [(⟨placed T k, ok, A2, c2, g2⟩ : TV)]).map tvTo ++ scanAt b (k + ln) = scanAt b 0 := by
          rw [← hxs.out, Hone.out, List.map_append, List.append_assoc]; rfl
        have hpre : (xs ++ [(⟨placed T k, ok, A2, c2, g2⟩ : TV)]).map tvTo <+: scanAt b 0 := ⟨_, hsnoc⟩
        obtain ⟨fn, tmps, assign, body, hy, hR⟩ := HY.out (m - 1) xs ⟨placed T k, ok, A2, c2, g2⟩ (w2.alloc (.cells #[.int .i64 T.kind, .int .i64 k, .int .i64 T.n, .slice A2 T.text.length c2] 78))
          (HJ.out _ _ _ hJk (Ext.of hbo (by omega))) ⟨hpre, hasc2.2⟩ ⟨(Htx.out.below ((Below.refl _ _).alloc (Nat.le_refl _) _)).less (by omega), fun h0 => by have := htl h0; simp; omega⟩
        have Hsnoc := Lib.hid hsnoc
        have Hpre := Lib.hid hpre
        have Hasc2 := Lib.hid hasc2
        have Hbo := Lib.hid hbo
        clear hsnoc hpre hasc2 hbo htl
        dsimp only [tvEnc, placed] at hy
        gi_wp2_with fail
        refine ⟨fun hd => by simp [Fence.wide] at hd, ?_⟩
        refine hR.mono ?_
        rintro r W3 (⟨rfl, hJ3, hk3⟩ | ⟨rfl, hx3, hk3⟩)
        · have hk03 : KP Bl n bb TkT W W3 := (hkp.trans (KP.of Hbo.out _ _ _ _)).trans hk3
          have hw3 := hk3.size
          have Hk03 := Lib.hid hk03
          clear hy hR hk03
          gi_wp2
          go_roundw
          case rel => exact ⟨k + ln, xs ++ [⟨placed T k, ok, A2, c2, g2⟩], by omega, by go_num, Hsnoc, Lib.hid (Hasc2.out.more (by simp at hw3; omega)), hJ3, Hk03.out⟩
          case measure => simp [intOf]; omega
        · clear hy hR
          gi_wp2
          refine bodyPost_ret (v := .tuple #[]) (by simp [results, Try.results70, go_sem]) rfl ?_
          exact ⟨⟨_, rfl⟩, .inr ⟨_, ⟨Hpre.out, Hasc2.out.2⟩, hx3⟩⟩
    · gi_wp2
      go_end0
      have hkl : k = b.length := by omega
      have h1 := hxs.out
      rw [scanAt_end (by omega), List.append_nil] at h1
      exact ⟨⟨_, rfl⟩, .inl ⟨xs, ⟨h1, hasc.out.2⟩, hJk⟩⟩
end Go.Proofs.Ytmejbmfopdfbjaa
