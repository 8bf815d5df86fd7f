/-
  The program's room of an arena.
-/
import Derived.Test.YtfmlgpnjckamjaaMqueue
namespace Go.Proofs.Ytfmlgpnjckamjaa
open Go.RowKit
set_option linter.unusedVariables false
set_option linter.unusedSimpArgs false

/-- strictly ascending numbers between a and n -/
theorem sorted_len : ∀ (l : List Int) (a n : Int), l.Pairwise (· < ·) → (∀ y ∈ l, a ≤ y ∧ y < n) → a ≤ n → (l.length : Int) ≤ n - a
  | [], a, n, _, _, h => by simp; omega
  | x :: r, a, n, hs, hb, h => by
    rw [List.pairwise_cons] at hs
    have hx := hb x (by simp)
    have := sorted_len r (x + 1) n hs.2 (fun y hy => ⟨hs.1 y hy, (hb y (by simp [hy])).2⟩) (by omega)
    simp only [List.length_cons, Int.natCast_add, Int.natCast_one]
    omega
theorem insI_new : ∀ (l : List Int) (x : Int), x ∉ l → (insI l x).length = l.length + 1
  | [], x, _ => rfl
  | a :: r, x, h => by
    rw [List.mem_cons] at h
    unfold insI
    by_cases h1 : x < a
    · rw [if_pos h1]; rfl
    · rw [if_neg h1, if_neg (fun e => h (.inl e)), List.length_cons, insI_new r x (fun e => h (.inr e)), List.length_cons]
theorem purple_few {S : List Sl} {P : List Int} (h : (List.range P.length).all (purAt S P) = true) : P.length ≤ S.length := by
  rw [List.all_eq_true] at h
  have hp : ∀ k (hk : k < P.length), liveAt S P[k] = true ∧ P[k] ∉ P.take k := fun k hk => by
    have := h k (List.mem_range.2 hk)
    rw [purAt_eq hk, Bool.and_eq_true, Bool.not_eq_true', ← Bool.not_eq_true, List.contains_iff_mem] at this
    exact this
  have hl : ∀ k, k ≤ P.length → (seenL P k).length = k := by
    intro k
    induction k with
    | zero => intro _; rfl
    | succ k ih =>
      intro hk
      have hk' : k < P.length := by omega
      rw [seenL_succ hk', insI_new _ _ (fun hm => (hp k hk').2 ((seenL_mem P k _).1 hm)), ih (by omega)]
  have hb : ∀ y ∈ seenL P P.length, (0 : Int) ≤ y ∧ y < S.length := fun y hy => by
    rw [seenL_mem, List.take_length] at hy
    obtain ⟨k, hk, rfl⟩ := List.getElem_of_mem hy
    exact liveAt_in (hp k hk).1
  have := sorted_len _ 0 S.length (seenL_sorted P P.length) hb (by omega)
  rw [hl _ (Nat.le_refl _)] at this
  omega

theorem arOk_eq (S : List Sl) (Q P : List Int) : arOk ⟨S, Q, P⟩ = (decide (1 ≤ S.length) && decide (S.length ≤ 16) && (S.all (slOk S) && (decide (Q.length ≤ 500) && Q.all (liveAt S)) && (List.range P.length).all (purAt S P))) := by
  rw [Bool.eq_iff_iff]
  unfold arOk inAll
  simp only [Bool.and_eq_true, decide_eq_true_eq]
  constructor
  · rintro ⟨⟨⟨⟨⟨⟨⟨⟨a, b⟩, c⟩, d⟩, e⟩, f⟩, g⟩, h⟩, i⟩
    exact ⟨⟨a, b⟩, ⟨g, c, h⟩, i⟩
  · rintro ⟨⟨a, b⟩, ⟨g, c, h⟩, i⟩
    have hf := purple_few i
    refine ⟨⟨⟨⟨⟨⟨⟨⟨a, b⟩, c⟩, by omega⟩, ?_⟩, ?_⟩, g⟩, h⟩, i⟩
    · rw [List.all_eq_true] at h ⊢
      exact fun x hx => decide_eq_true (liveAt_in (h x hx))
    · rw [List.all_eq_true] at i ⊢
      intro x hx
      obtain ⟨k, hk, rfl⟩ := List.getElem_of_mem hx
      have := i k (List.mem_range.2 hk)
      rw [purAt_eq hk, Bool.and_eq_true] at this
      exact decide_eq_true (liveAt_in this.1)

theorem Blk.four_ {w : World} {g : Nat} {t : TypeId} {a b c d : Value} (h : Blk w g t #[a, b, c, d]) : w.cell? ⟨g, 0, none⟩ = some a ∧ w.cell? ⟨g, 1, none⟩ = some b ∧ w.cell? ⟨g, 2, none⟩ = some c ∧ w.cell? ⟨g, 3, none⟩ = some d :=
  ⟨h.cel 0 rfl, h.cel 1 rfl, h.cel 2 rfl, h.cel 3 rfl⟩

/-- what one round's append leaves -/
theorem arm7 {W1 w2 : World} {rA rB sB lo : Nat} {V : Value → Value → Value → Value → Sl → Prop} {A : Option Addr} {k c : Nat} {S : List Sl} {u0 u1 u2 u3 lv x2 x3 : Value} {cs1 : Array Value} {l : List Int}
    (hb2 : Below W1.heap.size W1 w2) (hlo : lo ≤ W1.heap.size) (hk16 : k ≤ 1050000) (hrA : rA < lo) (hrB : rB < lo) (K1 : Blk W1 rA 100 cs1) (K2 : Blk W1 rB 100 #[.slice A k c, lv, x2, x3]) (KS : Blk W1 sB 90 #[u0, u1, u2, u3])
    (hrow : SRow W1 lo V A k c S) (hlv : SetV W1 lo lv l) (hk : k < S.length) (hV : V u0 u1 u2 u3 S[k]) (h1 : ∀ u ∈ [u0, u1, u2, u3], u.oneCell' = true) :
    ∃ A' c' w3, (∀ ty, (Builtin.append_ #[97, 97] ty #[.slice A k c, .slice (some ⟨w2.heap.size, 0, none⟩) 1 1]).run Try.prog (w2.alloc (.cells #[u0, u1, u2, u3] 129)) = .ok (.slice A' (k + 1) c') w3) ∧
      w3.cell? ⟨rB, 0, none⟩ = some (.slice A k c) ∧ w3.frozen? ⟨rB, 0, none⟩ = false ∧
      Hid (Blk w3 rA 100 cs1 ∧ Blk w3 rB 100 #[.slice A k c, lv, x2, x3] ∧ Blk w3 sB 90 #[u0, u1, u2, u3] ∧ SRow w3 lo V A' (k + 1) c' S ∧ SetV w3 lo lv l ∧ ∀ B, B ≤ lo → Below B W1 w3) := by
  have hba : Below W1.heap.size W1 (w2.alloc (.cells #[u0, u1, u2, u3] 129)) := hb2.alloc hb2.size _
  have hrow' := hrow.apart (Apart.of_below (S := fun _ => False) hba) (fun _ _ h => h)
  obtain ⟨A', c', w3, hrun, hrow3, hap⟩ := rowApp (w2.alloc (.cells #[u0, u1, u2, u3] 129)) lo V A k c S w2.heap.size u0 u1 u2 u3 (Nat.le_trans hlo hba.size) hk16 hrow' hk hV (Blk.new w2 _ _) h1
  have hlt : ∀ j, j < lo → ¬ At (.slice A k c) j := fun j hj h => by have := (hrow.at_lt h).1; omega
  have K1' := (K1.below hba K1.lt).apart hap (hlt _ hrA)
  have K2' := (K2.below hba K2.lt).apart hap (hlt _ hrB)
  have KS' := (KS.below hba KS.lt).apart hap (fun h => by
    obtain ⟨_, _, cs, hc⟩ := hrow.at_lt h
    exact (KS.ne_ hc (by decide)) rfl)
  have hlv' := (hlv.below hba).apart hap (fun j hj h => by
    obtain ⟨_, _, cs, hc⟩ := hrow.at_lt h
    obtain ⟨_, _, cs', hc'⟩ := hlv.at_lt hj
    exact (hc'.ne_ hc (by decide)) rfl)
  exact ⟨A', c', w3, hrun, K2'.cel 0 rfl, K2'.frozen 0, K1', K2', KS', hrow3, hlv', fun B hB => (hba.mono (Nat.le_trans hB hlo)).trans (hap.below (Nat.le_trans (Nat.le_trans hB hlo) hba.size) fun j hj => hlt j (by omega))⟩

/-- what roomOf answers -/
def RoomQ (w : World) (S : List Sl) (v2 v3 : Value) (b : Bool) (e : Ending) (w' : World) : Prop :=
  ∃ u0 u1 u2 u3, e = .returned (.tuple #[.agg #[u0, u1, u2, u3], .bool b]) ∧ Below w.heap.size w w' ∧ (∀ u ∈ [u0, u1, u2, u3], ∃ A n c, u = Value.slice A n c) ∧
    (b = true → ∃ A c, u0 = .slice A S.length c ∧ SlL w' 0 w'.heap.size A S ∧ SetV w' w.heap.size u1 (liveTo S S.length) ∧ u2 = v2 ∧ u3 = v3)

set_option maxRecDepth 100000 in
set_option maxHeartbeats 16000000 in
theorem roomOf_c (S : List Sl) (Q P : List Int) (A0 A1 A2 : Option Addr) (c0 c1 c2 L B : Nat) (w : World) (hB : B ≤ w.heap.size) (hsz : arSz ⟨S, Q, P⟩ ≤ 1050000) (h0 : SlL w L B A0 S) (h1 : IL w L B A1 Q) (h2 : IL w L B A2 P) :
    Calls Try.prog 73 #[.agg #[.slice A0 S.length c0, .slice A1 Q.length c1, .slice A2 P.length c2]] w (RoomQ w S (.slice A1 Q.length c1) (.slice A2 P.length c2) (arOk ⟨S, Q, P⟩)) := by
  have hm0 := h0.1
  unfold maxLen at hm0
  by_cases hs : 1 ≤ S.length ∧ S.length ≤ 16
  · have hs1 : 1 ≤ (S.length : Int) := by omega
    have hs2 : (S.length : Int) ≤ 16 := by omega
    have Hs := Lib.hid hs
    have Hsz := Lib.hid hsz
    have H0 := Lib.hid h0
    have H1 := Lib.hid h1
    have H2 := Lib.hid h2
    have hso : ∀ w, Calls Try.prog 95 #[.int .i64 S.length] w fun e w' => e = .returned (.bool true) ∧ w = w' := fun w => by
      have := sizeOk2_c S.length w
      rw [decide_eq_true hs1, decide_eq_true hs2] at this
      exact this
    have Hso := Lib.hid hso
    obtain ⟨W, hW⟩ : ∃ W, W = ((w.alloc (.cells #[.slice A0 S.length c0, .slice A1 Q.length c1, .slice A2 P.length c2] 32)).alloc (.cells #[.slice none 0 0, .slice none 0 0, .slice none 0 0, .slice none 0 0] 100)).alloc (.cells #[.slice none 0 0, .slice none 0 0, .slice A1 Q.length c1, .slice A2 P.length c2] 100) := ⟨_, rfl⟩
    have hK1 : Blk W (w.heap.size + 1) 100 #[.slice none 0 0, .slice none 0 0, .slice none 0 0, .slice none 0 0] := by
      rw [hW]
      have := Blk.new (w.alloc (.cells #[.slice A0 S.length c0, .slice A1 Q.length c1, .slice A2 P.length c2] 32)) 100 #[.slice none 0 0, .slice none 0 0, .slice none 0 0, .slice none 0 0]
      rw [World.size_alloc] at this
      exact this.alloc _
    have hK2 : Blk W (w.heap.size + 1 + 1) 100 #[.slice none 0 0, .slice none 0 0, .slice A1 Q.length c1, .slice A2 P.length c2] := by
      rw [hW]
      have := Blk.new ((w.alloc (.cells #[.slice A0 S.length c0, .slice A1 Q.length c1, .slice A2 P.length c2] 32)).alloc (.cells #[.slice none 0 0, .slice none 0 0, .slice none 0 0, .slice none 0 0] 100)) 100 #[.slice none 0 0, .slice none 0 0, .slice A1 Q.length c1, .slice A2 P.length c2]
      rw [World.size_alloc, World.size_alloc] at this
      exact this
    have hbW : Below w.heap.size w W := by rw [hW]; exact (blw2 _ _ _).alloc (by simp; omega) _
    have HK1 := Lib.hid hK1
    have HK2 := Lib.hid hK2
    have HbW := Lib.hid hbW
    have HW := Lib.hid hW
    clear hs hsz h0 h1 h2 hso hK1 hK2 hbW hW
    go_enter Try.func73, Try.ntmps73
    go_wp2_with (go_at_call 95; refine (Hso.out _).mono ?_; rintro e w' ⟨rfl, rfl⟩)
    rw [← HW.out]
    clear Hso HW
    go_loopw [21] (fun i wr => ∃ (k c : Nat) (A : Option Addr) (lv : Value), k ≤ S.length ∧ i = .int .i64 k ∧ Below w.heap.size w wr ∧ Blk wr (w.heap.size + 1) 100 #[.slice none 0 0, .slice none 0 0, .slice none 0 0, .slice none 0 0] ∧
      Blk wr (w.heap.size + 1 + 1) 100 #[.slice A k c, lv, .slice A1 Q.length c1, .slice A2 P.length c2] ∧ SRow wr (w.heap.size + 1 + 1 + 1) (SlV w L B) A k c S ∧ SetV wr (w.heap.size + 1 + 1 + 1) lv (liveTo S k)) (fun i _ => S.length - (intOf i).toNat)
    case atStart => exact ⟨0, 0, none, .slice none 0 0, Nat.zero_le _, rfl, HbW.out, HK1.out, HK2.out, ⟨Nat.zero_le _, .inl ⟨rfl, rfl, rfl⟩⟩, SetV.nil _ _⟩
    case round =>
      obtain ⟨k, c, A, lv, hk, rfl, hbi, K1, K2, hrow, hlv⟩ := hrel
      clear HbW HK1 HK2
      by_cases hlt : k < S.length
      · obtain ⟨ad, rfl, _, hbk, hat⟩ := H0.out.2 (by omega)
        obtain ⟨x0, x1, x2, x3, hc4, hV⟩ := hat k hlt
        obtain ⟨hx0, hx1, hx2, FA, fc, hx3, hF⟩ := hV
        obtain ⟨⟨sl, gn, ct, fs⟩, hse⟩ : ∃ s, s = S[k] := ⟨_, rfl⟩
        rw [← hse] at hx0 hx1 hx2 hx3 hF
        dsimp only at hx0 hx1 hx2 hx3 hF
        subst hx0 hx1 hx2 hx3
        obtain ⟨fn, hfn⟩ : ∃ n, n = fs.length := ⟨_, rfl⟩
        rw [← hfn] at hc4
        have hV : SlV w L B (.bool sl) (.int .i64 gn) (.int .i64 ct) (.slice FA fn fc) S[k] := by rw [← hse]; exact ⟨rfl, rfl, rfl, FA, fc, by rw [hfn], hF⟩
        have hsize := hbi.size
        obtain ⟨d0, d1, d2, d3⟩ := hc4.keep (w' := wr) (fun q hq => hbi.cell (by rw [hq, block_of_add]; omega))
        have KS := Blk.new wr 90 #[.bool sl, .int .i64 gn, .int .i64 ct, .slice FA fn fc]
        obtain ⟨W1, hW1⟩ : ∃ W1, W1 = wr.alloc (.cells #[.bool sl, .int .i64 gn, .int .i64 ct, .slice FA fn fc] 90) := ⟨_, rfl⟩
        have hb1 : Below w.heap.size w W1 := by rw [hW1]; exact hbi.alloc hsize _
        have hbr : Below wr.heap.size wr W1 := by rw [hW1]; exact blw1 _ _
        have hz1 : W1.heap.size = wr.heap.size + 1 := by rw [hW1]; simp
        rw [← hW1] at KS
        have K1a := K1.below hbr K1.lt
        have K2a := K2.below hbr K2.lt
        have hrow1 := hrow.apart (Apart.of_below (S := fun _ => False) hbr) (fun _ _ h => h)
        have hlv1 := hlv.below hbr
        have hslot := slotOf_c sl gn ct FA fn fc W1.drew
        have Hslot := Lib.hid hslot
        have HKS := Lib.hid KS
        have HK1 := Lib.hid K1a
        have HK2 := Lib.hid K2a
        have Hrow := Lib.hid hrow1
        have Hlv := Lib.hid hlv1
        have Hb1 := Lib.hid hb1
        have HV := Lib.hid hV
        have Hse := Lib.hid hse
        have Hz := Lib.hid hz1
        have HW1 := Lib.hid hW1
        have hrs := K2.lt
        have hk16 : k ≤ 1050000 := by omega
        obtain ⟨LA, lc, hlf⟩ := hlv.form
        have hlc : lv.cells = #[lv] := by rw [hlf]; rfl
        have hl1 : lv.oneCell' = true := by rw [hlf]; rfl
        clear hlf hat hc4 hV hse KS K1a K2a hrow1 hlv1 hslot hb1 hz1 hbi hrow hlv K1 K2 hfn hW1 hF
        go_wp2_with fail
        rw [← HW1.out]
        clear d0 d1 d2 d3
        have s0 := HKS.out.cel 0 (v := .bool sl) rfl
        have s1 := HKS.out.cel 1 (v := .int .i64 gn) rfl
        have s2 := HKS.out.cel 2 (v := .int .i64 ct) rfl
        have s3 := HKS.out.cel 3 (v := .slice FA fn fc) rfl
        have r0 := HK2.out.cel 0 (v := .slice A k c) rfl
        have hsB : wr.heap.size + 1 = W1.heap.size := Hz.out.symm
        have Harm := Lib.hid (fun (w2 : World) (hb2 : Below W1.heap.size W1 w2) => arm7 (rA := w.heap.size + 1) (rB := w.heap.size + 1 + 1) (sB := wr.heap.size) (lo := w.heap.size + 1 + 1 + 1) hb2 (by omega) hk16 (by omega) (by omega) HK1.out HK2.out HKS.out Hrow.out Hlv.out hlt HV.out (fun u hu => by
          simp only [List.mem_cons, List.not_mem_nil, or_false] at hu
          rcases hu with rfl | rfl | rfl | rfl <;> rfl))
        clear hsB
        go_region_law (first
          | (refine step_append_known rfl (.tmp 27) (.tmp 30) 97 97 rfl (.slice A k c) (.slice (some ⟨w2.heap.size, 0, none⟩) 1 1) (by simp [Act.eval, Act.put]) (by simp [Act.eval, Act.put]) (Hrun.out _) ?_)
          | (go_simp; go_at_call 96; refine Hslot.out.mono ?_; rintro e w2 ⟨rfl, hb2⟩; have hb2' : Below W1.heap.size W1 w2 := ⟨hb2.os, hb2.tape, hb2.output, hb2.size, hb2.block⟩; have r0' := (HK2.out.below hb2' HK2.out.lt).cel 0 (v := .slice A k c) rfl; have r0'' := fun o => ((HK2.out.below hb2' HK2.out.lt).alloc o).cel 0 (v := .slice A k c) rfl; obtain ⟨A', c', w3, hrun, q0, qf, Hend⟩ := Harm.out w2 hb2'; have Hrun := Lib.hid hrun; clear hrun hb2 hb2' Harm))
        all_goals
          clear r0 r0' r0'' s0 s1 s2 s3 q0 qf Hrun Hslot
          obtain ⟨K1', K2', KS', hrow', hlv', hbl'⟩ := Hend.out
          obtain ⟨w4, hw4⟩ : ∃ w4, w4 = w3.setCell ⟨w.heap.size + 1 + 1, 0, none⟩ (.slice A' (k + 1) c') := ⟨_, rfl⟩
          have K1n : Blk w4 (w.heap.size + 1) 100 #[.slice none 0 0, .slice none 0 0, .slice none 0 0, .slice none 0 0] := by rw [hw4]; exact K1'.far (p := ⟨w.heap.size + 1 + 1, 0, none⟩) (by simp) _
          have K2n : Blk w4 (w.heap.size + 1 + 1) 100 #[.slice A' (k + 1) c', lv, .slice A1 Q.length c1, .slice A2 P.length c2] := by rw [hw4]; exact K2'.set_ 0 _
          have KSn : Blk w4 wr.heap.size 90 #[.bool sl, .int .i64 gn, .int .i64 ct, .slice FA fn fc] := by rw [hw4]; exact KS'.far (p := ⟨w.heap.size + 1 + 1, 0, none⟩) (by simp; omega) _
          have hap4 : Apart (fun j => j = w.heap.size + 1 + 1) w3 w4 := by rw [hw4]; exact Apart.setCell (S := fun j => j = w.heap.size + 1 + 1) (p := ⟨w.heap.size + 1 + 1, 0, none⟩) (Apart.refl _ _) rfl _
          have hrown := hrow'.apart hap4 (fun j hj h => by have := (hrow'.at_lt hj).1; omega)
          have hlvn := hlv'.apart hap4 (fun j hj h => by have := (hlv'.at_lt hj).1; omega)
          have hbn : Below w.heap.size w w4 := by rw [hw4]; exact (Hb1.out.trans (hbl' _ (by omega))).setCell (by simp; omega) _
          have t0 := KSn.cel 0 (v := .bool sl) rfl
          have HK1n := Lib.hid K1n
          have HK2n := Lib.hid K2n
          have Hrown := Lib.hid hrown
          have Hlvn := Lib.hid hlvn
          have Hbn := Lib.hid hbn
          clear K1' K2' KS' hrow' hlv' hbl' K1n K2n KSn hap4 hrown hlvn hbn Hend HKS HK1 HK2 Hrow Hlv Hb1 HW1 Hz
          rw [← hw4]
          clear hw4
          cases sl
          · have hlive : liveTo S (k + 1) = liveTo S k := liveTo_no hlt (by rw [← Hse.out])
            have Hlive := Lib.hid hlive
            clear hlive
            go_wp2
            go_roundw
            case rel => exact ⟨k + 1, c', A', lv, by omega, by go_num, Hbn.out, HK1n.out, HK2n.out, Hrown.out, by rw [Hlive.out]; exact Hlvn.out⟩
            case measure => simp [intOf]; omega
          · have hlive : insI (liveTo S k) k = liveTo S (k + 1) := liveTo_ins hlt (by rw [← Hse.out])
            have hll := liveTo_len S k
            have hsz4 := HK2n.out.lt
            have Hadd := Lib.hid (setAdd_c (liveTo S k) lv (w.heap.size + 1 + 1 + 1) k w4 (w.heap.size + 1 + 1) 1 100 #[.slice A' (k + 1) c', lv, .slice A1 Q.length c1, .slice A2 P.length c2] (by omega) (liveTo_sorted S k) Hlvn.out (by omega) HK2n.out rfl (by decide))
            have Hlive := Lib.hid hlive
            clear hlive hll hsz4
            go_wp2_with fail
            refine Hadd.out.mono ?_
            rintro e w5 ⟨rfl, lv', hlv5, K2x, hap5⟩
            rw [Hlive.out] at hlv5
            have hlo5 : ∀ j, (j = w.heap.size + 1 + 1 ∨ At lv j) → w.heap.size + 1 + 1 ≤ j := fun j h => by
              rcases h with h | h
              · omega
              · have := (Hlvn.out.at_lt h).1; omega
            have K1x := HK1n.out.apart hap5 (fun h => by have := hlo5 _ h; omega)
            have hrow5 := Hrown.out.apart hap5 (fun j hj h => by
              obtain ⟨h1, _, cs, hc⟩ := Hrown.out.at_lt hj
              rcases h with h | h
              · omega
              · obtain ⟨_, _, cs', hc'⟩ := Hlvn.out.at_lt h
                exact (hc.ne_ hc' (by decide)) rfl)
            have hb5 : Below w.heap.size w w5 := Hbn.out.trans (hap5.below (by have := HK2n.out.lt; omega) (fun j hj h => by have := hlo5 _ h; omega))
            have H5 := Lib.hid (And.intro K1x (And.intro K2x (And.intro hrow5 (And.intro hlv5 hb5))))
            clear K1x K2x hrow5 hlv5 hb5 hlo5 hap5 Hadd t0
            go_wp2
            go_roundw
            case rel => exact ⟨k + 1, c', A', lv', by omega, by go_num, H5.out.2.2.2.2, H5.out.1, H5.out.2.1, H5.out.2.2.1, H5.out.2.2.2.1⟩
            case measure => simp [intOf]; omega
      · obtain rfl : k = S.length := by omega
        obtain ⟨LA, lc, hlf⟩ := hlv.form
        obtain ⟨ln, hln⟩ : ∃ n, n = (liveTo S S.length).length := ⟨_, rfl⟩
        rw [← hln] at hlf
        subst hlf
        have hsize := hbi.size
        have hread : SlL wr 0 wr.heap.size A S := Row4.more (hrow.read rfl (by unfold maxLen; omega)) (Nat.zero_le _) (Nat.le_refl _) (fun v0 v1 v2 v3 x h => (h.keep (w' := wr) (fun p _ hp => hbi.cell (by omega))).more (Nat.zero_le _) (Nat.le_trans hB hsize))
        have hsS : slsSz S ≤ 1050000 := by have := Hsz.out; unfold arSz at this; dsimp only at this; omega
        have hsP : P.length ≤ 1050000 := by have := Hsz.out; unfold arSz at this; dsimp only at this; omega
        have cS : ∀ X, Below wr.heap.size wr X → Calls Try.prog 98 #[.agg #[.slice A S.length c, .slice LA ln lc, .slice A1 Q.length c1, .slice A2 P.length c2]] X fun e w' => e = .returned (.bool (S.all (slOk S))) ∧ Below X.heap.size X w' := fun X hX =>
          slotsOk_c A c (.slice LA ln lc) (.slice A1 Q.length c1) (.slice A2 P.length c2) rfl rfl rfl S 0 wr.heap.size X hX.size (hread.below hX) hsS
        have cQ : ∀ X, Below wr.heap.size wr X → Calls Try.prog 99 #[.agg #[.slice A S.length c, .slice LA ln lc, .slice A1 Q.length c1, .slice A2 P.length c2]] X fun e w' => e = .returned (.bool (decide (Q.length ≤ 500) && Q.all (liveAt S))) ∧ Below X.heap.size X w' := fun X hX =>
          queueOk_c S A c (w.heap.size + 1 + 1 + 1) (.slice LA ln lc) X (.slice A2 P.length c2) rfl Q A1 c1 L B (Nat.le_trans hB (Nat.le_trans hsize hX.size)) (hlv.below hX) (by omega) (H1.out.below ((hbi.trans (hX.mono hsize)).mono hB))
        have cP : ∀ X, Below wr.heap.size wr X → Calls Try.prog 100 #[.agg #[.slice A S.length c, .slice LA ln lc, .slice A1 Q.length c1, .slice A2 P.length c2]] X fun e w' => e = .returned (.bool ((List.range P.length).all (purAt S P))) ∧ Below X.heap.size X w' := fun X hX =>
          purpleOk_c S A c (w.heap.size + 1 + 1 + 1) (.slice LA ln lc) X (.slice A1 Q.length c1) rfl P A2 c2 L B (Nat.le_trans hB (Nat.le_trans hsize hX.size)) (hlv.below hX) (by omega) (H2.out.below ((hbi.trans (hX.mono hsize)).mono hB)) hsP
        have hend : ∀ X, Below wr.heap.size wr X → ∀ b, RoomQ w S (.slice A1 Q.length c1) (.slice A2 P.length c2) b (.returned (.tuple #[.agg #[.slice A S.length c, .slice LA ln lc, .slice A1 Q.length c1, .slice A2 P.length c2], .bool b]))
            ((((X.setCell ⟨w.heap.size + 1, 0, none⟩ (.slice A S.length c)).setCell ⟨w.heap.size + 1, 1, none⟩ (.slice LA ln lc)).setCell ⟨w.heap.size + 1, 2, none⟩ (.slice A1 Q.length c1)).setCell ⟨w.heap.size + 1, 3, none⟩ (.slice A2 P.length c2)) := fun X hX b => by
          have hap : Apart (fun j => j = w.heap.size + 1) X ((((X.setCell ⟨w.heap.size + 1, 0, none⟩ (.slice A S.length c)).setCell ⟨w.heap.size + 1, 1, none⟩ (.slice LA ln lc)).setCell ⟨w.heap.size + 1, 2, none⟩ (.slice A1 Q.length c1)).setCell ⟨w.heap.size + 1, 3, none⟩ (.slice A2 P.length c2)) :=
            Apart.setCell (S := fun j => j = w.heap.size + 1) (p := ⟨w.heap.size + 1, 3, none⟩) (Apart.setCell (S := fun j => j = w.heap.size + 1) (p := ⟨w.heap.size + 1, 2, none⟩) (Apart.setCell (S := fun j => j = w.heap.size + 1) (p := ⟨w.heap.size + 1, 1, none⟩) (Apart.setCell (S := fun j => j = w.heap.size + 1) (p := ⟨w.heap.size + 1, 0, none⟩) (Apart.refl _ _) rfl _) rfl _) rfl _) rfl _
          have hrX := hrow.apart (Apart.of_below (S := fun _ => False) hX) (fun _ _ h => h)
          have hrY := hrX.apart hap (fun j hj h => by have := (hrX.at_lt hj).1; omega)
          have hlY := (hlv.below hX).apart hap (fun j hj h => by have := ((hlv.below hX).at_lt hj).1; omega)
          have hwX := hbi.trans (hX.mono hsize)
          have hwY := hwX.trans (hap.below hwX.size (fun j hj h => by omega))
          refine ⟨_, _, _, _, rfl, hwY, (fun u hu => by
            simp only [List.mem_cons, List.not_mem_nil, or_false] at hu
            rcases hu with rfl | rfl | rfl | rfl <;> exact ⟨_, _, _, rfl⟩), fun _ => ⟨A, c, rfl, ?_, ?_, rfl, rfl⟩⟩
          · exact Row4.more (hrY.read rfl (by unfold maxLen; omega)) (Nat.zero_le _) (Nat.le_refl _) (fun v0 v1 v2 v3 x h => (h.keep (fun p _ hp => hwY.cell (by omega))).more (Nat.zero_le _) (Nat.le_trans hB hwY.size))
          · rcases hlY with h | ⟨g, cs, e, hg, h⟩
            · exact .inl h
            · exact .inr ⟨g, cs, e, by omega, h⟩
        have hcells : ∀ X, Below wr.heap.size wr X → (X.cell? ⟨w.heap.size + 1 + 1, 0, none⟩ = some (.slice A S.length c) ∧ X.cell? ⟨w.heap.size + 1 + 1, 1, none⟩ = some (.slice LA ln lc) ∧ X.cell? ⟨w.heap.size + 1 + 1, 2, none⟩ = some (.slice A1 Q.length c1) ∧ X.cell? ⟨w.heap.size + 1 + 1, 3, none⟩ = some (.slice A2 P.length c2)) ∧
            (X.cell? ⟨w.heap.size + 1, 0, none⟩ = some (.slice none 0 0) ∧ X.cell? ⟨w.heap.size + 1, 1, none⟩ = some (.slice none 0 0) ∧ X.cell? ⟨w.heap.size + 1, 2, none⟩ = some (.slice none 0 0) ∧ X.cell? ⟨w.heap.size + 1, 3, none⟩ = some (.slice none 0 0)) ∧
            (X.frozen? ⟨w.heap.size + 1, 0, none⟩ = false ∧ X.frozen? ⟨w.heap.size + 1, 1, none⟩ = false ∧ X.frozen? ⟨w.heap.size + 1, 2, none⟩ = false ∧ X.frozen? ⟨w.heap.size + 1, 3, none⟩ = false) := fun X hX =>
          ⟨(K2.below hX K2.lt).four_, (K1.below hX K1.lt).four_, (K1.below hX K1.lt).frozen 0, (K1.below hX K1.lt).frozen 1, (K1.below hX K1.lt).frozen 2, (K1.below hX K1.lt).frozen 3⟩
        have hd : Below wr.heap.size wr wr.drew := (Below.refl _ _).drew
        have hae := arOk_eq S Q P
        rw [decide_eq_true Hs.out.1, decide_eq_true Hs.out.2, Bool.true_and, Bool.true_and] at hae
        obtain ⟨bS, hbS⟩ : ∃ b, b = S.all (slOk S) := ⟨_, rfl⟩
        obtain ⟨bQ, hbQ⟩ : ∃ b, b = (decide (Q.length ≤ 500) && Q.all (liveAt S)) := ⟨_, rfl⟩
        obtain ⟨bP, hbP⟩ : ∃ b, b = (List.range P.length).all (purAt S P) := ⟨_, rfl⟩
        rw [← hbS] at cS hae
        rw [← hbQ] at cQ hae
        rw [← hbP] at cP hae
        have Hae := Lib.hid hae
        have Hend := Lib.hid hend
        have Hcells := Lib.hid hcells
        obtain ⟨⟨r0, r1, r2, r3⟩, ⟨p0, p1, p2, p3⟩, f0, f1, f2, f3⟩ := hcells wr (Below.refl _ _)
        have CS := Lib.hid cS
        have CQ := Lib.hid cQ
        have CP := Lib.hid cP
        have Hd := Lib.hid hd
        clear hread hsS hsP cS cQ cP hend hcells hae hbS hbQ hbP hln hbi K1 K2 hrow hlv hd
        cases bS
        · go_wp2_with fail
          go_region_with ((go_at_call 98; refine (CS.out _ Hd.out).mono ?_; rintro e w1 ⟨rfl, hb1⟩; have hX1 := (Hd.out).trans (hb1.mono (Hd.out).size); obtain ⟨⟨r01, r11, r21, r31⟩, ⟨p01, p11, p21, p31⟩, f01, f11, f21, f31⟩ := Hcells.out w1 hX1; clear hb1 CS))
          all_goals
            go_wp2
            refine bodyPost_ret (v := .tuple #[.agg #[.slice A S.length c, .slice LA ln lc, .slice A1 Q.length c1, .slice A2 P.length c2], .bool false]) (by simp [results, Try.results73, go_sem, p01, p11, p21, p31]) rfl ?_
            rw [Hae.out]
            exact Hend.out w1 hX1 false
        cases bQ
        · go_wp2_with fail
          go_region_with (first | (go_at_call 98; refine (CS.out _ Hd.out).mono ?_; rintro e w1 ⟨rfl, hb1⟩; have hX1 := (Hd.out).trans (hb1.mono (Hd.out).size); obtain ⟨⟨r01, r11, r21, r31⟩, ⟨p01, p11, p21, p31⟩, f01, f11, f21, f31⟩ := Hcells.out w1 hX1; clear hb1 CS) | (go_at_call 99; refine (CQ.out w1 hX1).mono ?_; rintro e w2 ⟨rfl, hb2⟩; have hX2 := (hX1).trans (hb2.mono (hX1).size); obtain ⟨⟨r02, r12, r22, r32⟩, ⟨p02, p12, p22, p32⟩, f02, f12, f22, f32⟩ := Hcells.out w2 hX2; clear hb2 CQ))
          all_goals
            go_wp2
            refine bodyPost_ret (v := .tuple #[.agg #[.slice A S.length c, .slice LA ln lc, .slice A1 Q.length c1, .slice A2 P.length c2], .bool false]) (by simp [results, Try.results73, go_sem, p02, p12, p22, p32]) rfl ?_
            rw [Hae.out]
            exact Hend.out w2 hX2 false
        cases bP
        · go_wp2_with fail
          go_region_with (first | (go_at_call 98; refine (CS.out _ Hd.out).mono ?_; rintro e w1 ⟨rfl, hb1⟩; have hX1 := (Hd.out).trans (hb1.mono (Hd.out).size); obtain ⟨⟨r01, r11, r21, r31⟩, ⟨p01, p11, p21, p31⟩, f01, f11, f21, f31⟩ := Hcells.out w1 hX1; clear hb1 CS) | (go_at_call 99; refine (CQ.out w1 hX1).mono ?_; rintro e w2 ⟨rfl, hb2⟩; have hX2 := (hX1).trans (hb2.mono (hX1).size); obtain ⟨⟨r02, r12, r22, r32⟩, ⟨p02, p12, p22, p32⟩, f02, f12, f22, f32⟩ := Hcells.out w2 hX2; clear hb2 CQ) | (go_at_call 100; refine (CP.out w2 hX2).mono ?_; rintro e w3 ⟨rfl, hb3⟩; have hX3 := (hX2).trans (hb3.mono (hX2).size); obtain ⟨⟨r03, r13, r23, r33⟩, ⟨p03, p13, p23, p33⟩, f03, f13, f23, f33⟩ := Hcells.out w3 hX3; clear hb3 CP))
          all_goals
            go_wp2
            refine bodyPost_ret (v := .tuple #[.agg #[.slice A S.length c, .slice LA ln lc, .slice A1 Q.length c1, .slice A2 P.length c2], .bool false]) (by simp [results, Try.results73, go_sem, p03, p13, p23, p33]) rfl ?_
            rw [Hae.out]
            exact Hend.out w3 hX3 false
        · go_wp2_with fail
          go_region_with (first | (go_at_call 98; refine (CS.out _ Hd.out).mono ?_; rintro e w1 ⟨rfl, hb1⟩; have hX1 := (Hd.out).trans (hb1.mono (Hd.out).size); obtain ⟨⟨r01, r11, r21, r31⟩, ⟨p01, p11, p21, p31⟩, f01, f11, f21, f31⟩ := Hcells.out w1 hX1; clear hb1 CS) | (go_at_call 99; refine (CQ.out w1 hX1).mono ?_; rintro e w2 ⟨rfl, hb2⟩; have hX2 := (hX1).trans (hb2.mono (hX1).size); obtain ⟨⟨r02, r12, r22, r32⟩, ⟨p02, p12, p22, p32⟩, f02, f12, f22, f32⟩ := Hcells.out w2 hX2; clear hb2 CQ) | (go_at_call 100; refine (CP.out w2 hX2).mono ?_; rintro e w3 ⟨rfl, hb3⟩; have hX3 := (hX2).trans (hb3.mono (hX2).size); obtain ⟨⟨r03, r13, r23, r33⟩, ⟨p03, p13, p23, p33⟩, f03, f13, f23, f33⟩ := Hcells.out w3 hX3; clear hb3 CP))
          all_goals
            go_wp2
            refine bodyPost_ret (v := .tuple #[.agg #[.slice A S.length c, .slice LA ln lc, .slice A1 Q.length c1, .slice A2 P.length c2], .bool true]) (by simp [results, Try.results73, go_sem, p03, p13, p23, p33]) rfl ?_
            rw [Hae.out]
            exact Hend.out w3 hX3 true
  · have e : arOk ⟨S, Q, P⟩ = false := by
      rw [arOk_eq]
      by_cases a : 1 ≤ S.length
      · rw [decide_eq_false (fun b => hs ⟨a, b⟩), Bool.and_false, Bool.false_and]
      · rw [decide_eq_false a, Bool.false_and, Bool.false_and]
    rw [e]
    have hso : ∀ w, Calls Try.prog 95 #[.int .i64 S.length] w fun e w' => e = .returned (.bool false) ∧ w = w' := fun w => by
      have := sizeOk2_c S.length w
      rw [show (decide (1 ≤ (S.length : Int)) && decide ((S.length : Int) ≤ 16)) = false by
        rw [Bool.and_eq_false_iff]
        by_cases a : 1 ≤ S.length
        · exact .inr (decide_eq_false (by omega))
        · exact .inl (decide_eq_false (by omega))] at this
      exact this
    have Hso := Lib.hid hso
    have hbW := blw2 w (.cells #[.slice A0 S.length c0, .slice A1 Q.length c1, .slice A2 P.length c2] 32) (.cells #[.slice none 0 0, .slice none 0 0, .slice none 0 0, .slice none 0 0] 100)
    have HbW := Lib.hid hbW
    clear hs e hso hsz h0 h1 h2 hbW
    go_enter Try.func73, Try.ntmps73
    go_wp2_with (go_at_call 95; refine (Hso.out _).mono ?_; rintro e w' ⟨rfl, rfl⟩)
    refine bodyPost_ret (v := .tuple #[.agg #[.slice none 0 0, .slice none 0 0, .slice none 0 0, .slice none 0 0], .bool false]) (by simp [results, Try.results73, go_sem]) rfl ⟨_, _, _, _, rfl, ?_, (fun u hu => by
            simp only [List.mem_cons, List.not_mem_nil, or_false] at hu
            rcases hu with rfl | rfl | rfl | rfl <;> exact ⟨_, _, _, rfl⟩), fun h => by cases h⟩
    first
      | exact HbW.out
      | exact (((HbW.out.setCell (by simp) _).setCell (by simp) _).setCell (by simp) _).setCell (by simp) _
end Go.Proofs.Ytfmlgpnjckamjaa

namespace Go.Proofs.Ytfmlgpnjckamjaa
open Go.RowKit
set_option linter.unusedVariables false
set_option linter.unusedSimpArgs false

section
variable (a : Ar) (A0 A1 A2 : Option Addr) (c0 c1 c2 L B : Nat) (w : World)

theorem roomAt (X : World) (h : ArL w L B A0 A1 A2 a) (hsz : arSz a ≤ 1050000) (hX : Below B w X) (hB : B ≤ X.heap.size) :
    Calls Try.prog 73 #[.agg #[.slice A0 a.slots.length c0, .slice A1 a.queue.length c1, .slice A2 a.purple.length c2]] X (RoomQ X a.slots (.slice A1 a.queue.length c1) (.slice A2 a.purple.length c2) (arOk a)) :=
  roomOf_c a.slots a.queue a.purple A0 A1 A2 c0 c1 c2 L B X hB hsz (h.1.below hX) (h.2.1.below hX) (h.2.2.below hX)
end
end Go.Proofs.Ytfmlgpnjckamjaa
