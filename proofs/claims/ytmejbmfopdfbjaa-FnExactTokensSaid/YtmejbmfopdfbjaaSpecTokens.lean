/-
  The model's Tokens.
-/
import Derived.Test.YtmejbmfopdfbjaaImplTokens
import Derived.Test.YtmejbmfopdfbjaaSpecOneD
namespace Go.Proofs.Ytmejbmfopdfbjaa
open Go.RowKit Go.Shelf
set_option linter.unusedVariables false

theorem l1one_c (b : List UInt8) (a : Addr) (cp B k : Nat) (w : World) (hB : B ≤ w.heap.size) (hlb : b.length ≤ 1048576) (hcp : b.length ≤ cp) (hk : k < b.length) (h : RB w B (some a) b) :
    Calls Try.prog 42 #[.slice (some a) b.length cp, .int .i64 k] w (LoP (b.drop k) k w) := by
  have hsl : (b.drop k).length = b.length - k := List.length_drop
  have hs0 : 0 < (b.drop k).length := by omega
  have hsg : ∀ j (hj : j < (b.drop k).length) (hj' : k + j < b.length), (b.drop k)[j] = b[k + j] := fun j hj hj' => List.getElem_drop
  cases hs : small (b.drop k)[0]
  · cases hd : digit (b.drop k)[0]
    · exact l1one_sign b (b.drop k) a cp B k w hB hlb hcp hk h hs0 (hsg 0 hs0 (by omega)) hs hd
    · exact l1one_digit b (b.drop k) a cp B k w hB hlb hcp hk h hsl hsg (h.drop2 k) hs0 hs hd
  · exact l1one_small b (b.drop k) a cp B k w hB hlb hcp hk h hsl hsg (h.drop2 k) hs0 hs
theorem gap_int (c : UInt8) : gap c = (((c.toNat : Int) == 32) || ((c.toNat : Int) == 10)) := by
  have e1 : (c == 32) = ((c.toNat : Int) == 32) := by
    rw [Bool.eq_iff_iff, beq_iff_eq, beq_iff_eq]
    constructor
    · rintro rfl; rfl
    · intro h; apply UInt8.toNat.inj; rw [show (32 : UInt8).toNat = 32 from rfl]; omega
  have e2 : (c == 10) = ((c.toNat : Int) == 10) := by
    rw [Bool.eq_iff_iff, beq_iff_eq, beq_iff_eq]
    constructor
    · rintro rfl; rfl
    · intro h; apply UInt8.toNat.inj; rw [show (10 : UInt8).toNat = 10 from rfl]; omega
  unfold gap
  rw [e1, e2]

set_option maxRecDepth 100000 in
set_option maxHeartbeats 8000000 in
theorem specTokens_c (b : List UInt8) (a : Addr) (cp B : Nat) (w : World) (hB : B ≤ w.heap.size) (hlb : b.length ≤ 1048576) (hcp : b.length ≤ cp) (h : RB w B (some a) b) :
    Calls Try.prog 15 #[.slice (some a) b.length cp] w fun r w' => ∃ A c gs, r = .returned (.tuple #[.slice A (tokRes b).1.length c, .int .i64 (tokRes b).2]) ∧ OwnTx w' w.heap.size A (tokRes b).1 gs ∧ Below w.heap.size w w' := by
  by_cases h2 : 2000 < (b.length : Int)
  · have hr : tokRes b = ([], 0) := by unfold tokRes; rw [if_pos (by omega)]
    rw [hr]
    clear hr
    go_enter Try.func15, Try.ntmps15
    go_wp2
    refine bodyPost_ret (v := .tuple #[.slice none 0 0, .int .i64 0]) (by simp [results, Try.results15, go_sem]) rfl ?_
    exact ⟨none, 0, fun _ => 0, rfl, OwnTx.nil _ _ _ _, Below.refl _ _⟩
  have h2' : (b.length : Int) ≤ 2000 := by omega
  have hres : tokRes b = resOf (scanAt b 0) [] := by unfold tokRes; rw [if_neg (by omega)]
  have hsl : (scanAt b 0).length ≤ b.length := (scanL_len b.length b 0 (Nat.le_refl _)).1
  obtain ⟨i0, hi, hz0, hz1, hz2⟩ := info_parts infoTok
  have Hres := Lib.hid hres
  clear hres h2
  go_enter Try.func15, Try.ntmps15
  go_wp2
  go_loopw [4, 5] (fun s i wr => ∃ (k : Nat) (xs : List (Tok × Bool)) (gs : Nat → Nat), k ≤ b.length ∧ i = .int .i64 k ∧ Hid (xs ++ scanAt b k = scanAt b 0) ∧ Hid (∀ x ∈ xs, x.2 = true) ∧ TRow wr w.heap.size s (xs.map Prod.fst) gs ∧
    Hid (∀ i (hi : i < (xs.map Prod.fst).length), 0 < (xs.map Prod.fst)[i].text.length → gs i < wr.heap.size) ∧ Below w.heap.size w wr) (fun _ i _ => b.length - (intOf i).toNat)
  case atStart => exact ⟨0, [], fun _ => 0, Nat.zero_le _, rfl, Lib.hid (by simp), Lib.hid (by simp), TRow.nil _ _ _, Lib.hid (fun i hi => by simp at hi), Below.refl _ _⟩
  case round =>
    obtain ⟨k, xs, gs, hk, rfl, hxs, hok, hrow, hgs, hbl⟩ := hrel
    have hws := hbl.size
    have hRr := h.below (hbl.mono hB)
    obtain ⟨Av, cv, hv⟩ := hrow.form
    rw [List.length_map] at hv
    subst hv
    by_cases hlt : k < b.length
    · obtain ⟨ad, e, hbk, hcell⟩ := hRr.at_ hlt
      injection e with e
      subst e
      have hgi := gap_int b[k]
      cases hg : gap b[k]
      case true =>
        have hnx := scanAt_gap hlt hg
        have Hnx := Lib.hid hnx
        have Hrow := Lib.hid hrow
        rw [hg] at hgi
        clear hg hnx hrow
        cases h32 : ((b[k].toNat : Int) == 32)
        case true =>
          clear hgi
          go_wp2
          go_roundw
          case rel => exact ⟨k + 1, xs, gs, by omega, by go_num, Lib.hid (by rw [← Hnx.out]; exact hxs.out), hok, Hrow.out, hgs, hbl⟩
          case measure => simp [intOf]; omega
        case false =>
          rw [h32, Bool.false_or] at hgi
          have h10' : ((b[k].toNat : Int) == 10) = true := hgi.symm
          clear hgi
          go_wp2
          go_roundw
          case rel => exact ⟨k + 1, xs, gs, by omega, by go_num, Lib.hid (by rw [← Hnx.out]; exact hxs.out), hok, Hrow.out, hgs, hbl⟩
          case measure => simp [intOf]; omega
      case false =>
        have hone := scanAt_one hlt hg
        have hlen := tokOne_len (s := b.drop k) (by rw [List.length_drop]; omega)
        rw [List.length_drop] at hlen
        rw [hg] at hgi
        have h32 : ((b[k].toNat : Int) == 32) = false := by
          cases h : ((b[k].toNat : Int) == 32)
          · rfl
          · rw [h] at hgi; simp at hgi
        have h10 : ((b[k].toNat : Int) == 10) = false := by
          cases h : ((b[k].toNat : Int) == 10)
          · rfl
          · rw [h] at hgi; simp at hgi
        have hc := l1one_c b a cp B k wr (Nat.le_trans hB hws) hlb hcp hlt hRr
        unfold LoP at hc
        obtain ⟨T, hT⟩ : ∃ T, (tokOne (b.drop k)).1 = T := ⟨_, rfl⟩
        obtain ⟨ln, hln⟩ : ∃ T, (tokOne (b.drop k)).2.1 = T := ⟨_, rfl⟩
        obtain ⟨ok, hokk⟩ : ∃ T, (tokOne (b.drop k)).2.2 = T := ⟨_, rfl⟩
        rw [hT, hln, hokk] at hc hone
        rw [hln] at hlen
        have hl1 := hlen.1
        have hl2 : k + ln ≤ b.length := by omega
        have Hc := Lib.hid hc
        have Hone := Lib.hid hone
        have Hrow := Lib.hid hrow
        clear hc hone hg hT hln hokk hlen hgi hrow
        go_wp2_with fail
        refine Hc.out.mono ?_
        rintro r w2 ⟨kd, n, A2, c2, g2, text, le, rfl, htx, hb2, himp⟩
        have Htx := Lib.hid htx
        have Himp := Lib.hid himp
        clear htx himp Hc
        cases ok
        case false =>
          go_wp2
          refine bodyPost_ret (v := .tuple #[.slice none 0 0, .int .i64 k]) (by simp [results, Try.results15, go_sem]) rfl ?_
          have hfin : resOf (scanAt b 0) [] = ([], (k : Int)) := by
            rw [← hxs.out, Hone.out, resOf_bad hok.out]; rfl
          rw [Hres.out, hfin]
          exact ⟨none, 0, fun _ => 0, rfl, OwnTx.nil _ _ _ _, (hbl.trans (hb2.mono hws)).alloc (by have := hb2.size; omega) _⟩
        case true =>
          obtain ⟨hpl, hle⟩ := Himp.out rfl
          subst hle
          have hs2 := hb2.size
          have hxl : xs.length + 1 ≤ 2000 := by
            have h1 := congrArg List.length hxs.out
            rw [Hone.out] at h1
            simp at h1
            omega
          have hb2w := hbl.trans (hb2.mono hws)
          have hbA : Below w2.heap.size w2 ((w2.alloc (.cells #[.int .i64 kd, .int .i64 k, .int .i64 n, .slice A2 text.length c2] 78)).alloc (.cells #[.int .i64 kd, .int .i64 k, .int .i64 n, .slice A2 text.length c2] 78)) := ((Below.refl _ _).alloc (Nat.le_refl _) _).alloc (by simp) _
          have hrow2 := (Hrow.out.below hb2).below hbA
          obtain ⟨vs, hown, hop⟩ := id hrow2
          have hown1 := hown
          rw [List.length_map] at hown1
          have hcell4 := cell_new4 (w2.alloc (.cells #[.int .i64 kd, .int .i64 k, .int .i64 n, .slice A2 text.length c2] 78)) (.int .i64 kd) (.int .i64 k) (.int .i64 n) (.slice A2 text.length c2) 78
          rw [World.size_alloc] at hcell4
          have HO := Lib.hid hown
          have HO1 := Lib.hid hown1
          have Hop := Lib.hid hop
          have Hrow2 := Lib.hid hrow2
          have Hcell4 := Lib.hid hcell4
          have HbA := Lib.hid hbA
          have Hpl := Lib.hid hpl
          clear hown hown1 hop hrow2 hcell4 hbA hpl
          go_wp2_with (at_builtin; refine wpList_append_own _ rfl (.tmp 40) (.tmp 42) 38 rfl w.heap.size 78 i0 _ 4 48 Try.underlying38 hi hz0 hz1 hz2 rfl (by omega) _ _ _ rfl HO1.out ⟨w2.heap.size + 1, 0, none⟩ 1 1 [.int .i64 kd, .int .i64 k, .int .i64 n, .slice A2 text.length c2] rfl rfl Hcell4.out (by simp [Value.oneCell']) (by unfold maxLen; omega) (by omega) (by simp; omega) ?_; intro v' w4 hown' hgrow _)
          have hs4 := hgrow.size
          have hTx : TxS ((w2.alloc (.cells #[.int .i64 kd, .int .i64 k, .int .i64 n, .slice A2 text.length c2] 78)).alloc (.cells #[.int .i64 kd, .int .i64 k, .int .i64 n, .slice A2 text.length c2] 78)) w.heap.size g2 A2 text := (Htx.out.below HbA.out).less (by omega)
          have htl : 0 < text.length → wr.heap.size ≤ g2 ∧ g2 < w2.heap.size := fun h0 => by
            obtain ⟨_, h1, tc, hbk, _⟩ := Htx.out h0
            exact ⟨h1, hbk.lt⟩
          have hnew : TRow w4 w.heap.size v' (xs.map Prod.fst ++ [⟨kd, k, n, text⟩]) (fun i => if i = (xs.map Prod.fst).length then g2 else gs i) :=
            TRow.snoc HO.out Hop.out hTx (fun i hi h0 h1 => by
              have := hgs.out i hi h0
              have := (htl h1).1
              omega) (by rw [List.length_map]; exact hown') hgrow
          have hb4 : Below w.heap.size w w4 := (hb2w.trans (HbA.out.mono (by omega))).grown hgrow (by simp; omega) (fun g hg => Hrow2.out.ownb hg.symm.symm)
          go_roundw
          case rel =>
            refine ⟨k + ln, xs ++ [(⟨kd, k, n, text⟩, true)], (fun i => if i = (xs.map Prod.fst).length then g2 else gs i), by omega, by go_num, Lib.hid ?_, Lib.hid ?_, ?_, Lib.hid (fun i hi h0 => ?_), hb4⟩
            · rw [← hxs.out, Hone.out, ← Hpl.out, List.append_assoc]; rfl
            · intro x hx
              rw [List.mem_append] at hx
              rcases hx with hx | hx
              · exact hok.out x hx
              · rw [List.mem_singleton.1 hx]
            · rw [List.map_append]; exact hnew
            · show (if i = (xs.map Prod.fst).length then g2 else gs i) < _
              have hss : w2.heap.size < w4.heap.size := by simp at hs4; omega
              by_cases he : i = (xs.map Prod.fst).length
              · rw [if_pos he]
                have h3 : 0 < text.length := by
                  have h5 : (xs ++ [((⟨kd, k, n, text⟩ : Tok), true)]).map Prod.fst = xs.map Prod.fst ++ [⟨kd, k, n, text⟩] := by rw [List.map_append]; rfl
                  simp only [h5] at h0
                  simpa [he] using h0
                have := (htl h3).2
                omega
              · rw [if_neg he]
                have hi2 : i < (xs.map Prod.fst).length := by simp at hi he ⊢; omega
                have h3 : 0 < (xs.map Prod.fst)[i].text.length := by
                  have h5 : (xs ++ [((⟨kd, k, n, text⟩ : Tok), true)]).map Prod.fst = xs.map Prod.fst ++ [⟨kd, k, n, text⟩] := by rw [List.map_append]; rfl
                  simp only [h5] at h0
                  rw [List.getElem_append_left hi2] at h0
                  exact h0
                have := hgs.out i hi2 h3
                omega
          case measure => simp [intOf]; omega
    · have Hrow := Lib.hid hrow
      clear hrow
      go_wp2
      refine bodyPost_ret (v := .tuple #[.slice Av xs.length cv, .int .i64 (-1)]) (by simp [results, Try.results15, go_sem]) rfl ?_
      have hkl : b.length ≤ k := by omega
      have h1 := hxs.out
      rw [scanAt_end hkl, List.append_nil] at h1
      rw [Hres.out, ← h1, resOf_all hok.out]
      exact ⟨Av, cv, gs, by rw [List.length_map], Hrow.out.ownN (List.length_map _).symm, hbl⟩
end Go.Proofs.Ytmejbmfopdfbjaa
