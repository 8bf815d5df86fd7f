/-
  The model's l1one at a number.
-/
import Derived.Test.YtmejbmfopdfbjaaSpecOneS
import Derived.Test.YtmejbmfopdfbjaaDig
import Derived.Deep.RegionHeld3
namespace Go.Proofs.Ytmejbmfopdfbjaa
open Go.RowKit Go.Shelf
set_option linter.unusedVariables false
set_option linter.unusedSimpArgs false

theorem fits_seven {s : List UInt8} {j : Nat} (h7 : 7 ≤ j) (hr : j ≤ run digit s) : fits (s.take (run digit s)) = false := by
  have h1 := run_le digit s
  unfold fits
  have : (s.take (run digit s)).length = run digit s := by rw [List.length_take]; omega
  rw [this]
  simp
  intro; omega
theorem fits_six {s : List UInt8} {j : Nat} (h6 : j ≤ 6) (hj : j ≤ s.length) (hr : run digit s = j) : fits (s.take (run digit s)) = !lead (s.take j) := by
  rw [hr]
  unfold fits
  have : (s.take j).length = j := by rw [List.length_take]; omega
  rw [this]
  simp [h6]
theorem run_ge {p : UInt8 → Bool} : ∀ {l : List UInt8} {k : Nat}, (l.take k).all p = true → k ≤ l.length → k ≤ run p l
  | _, 0, _, _ => Nat.zero_le _
  | [], k + 1, _, h => by simp at h
  | x :: r, k + 1, ha, h => by
    simp only [List.take_succ_cons, List.all_cons, Bool.and_eq_true] at ha
    have := run_ge (p := p) (l := r) (k := k) ha.2 (by simpa using h)
    unfold run at this ⊢
    rw [List.takeWhile_cons, if_pos ha.1]
    simp; exact this
theorem run_to_end {p : UInt8 → Bool} {l : List UInt8} {j : Nat} (h : (l.take j).all p = true) (h1 : j ≤ l.length) (h2 : l.length ≤ j) : run p l = j := by
  have e : j = l.length := by omega
  subst e
  exact run_all h
theorem num_take_bound {s : List UInt8} {j : Nat} (h8 : j ≤ 8) (ha : (s.take j).all digit = true) (m : Nat) (hm : m ≤ j) : numOf (s.take m) < 100000000 := by
  have h1 : (s.take m).all digit = true := by
    rw [List.all_eq_true] at ha ⊢
    intro x hx
    refine ha x ?_
    have e : s.take m = (s.take j).take m := by rw [List.take_take]; congr 1; omega
    rw [e] at hx
    exact List.mem_of_mem_take hx
  have h2 := numOf_lt (s.take m).length (s.take m) rfl h1
  have h3 : (s.take m).length ≤ 8 := by rw [List.length_take]; omega
  have h4 : 10 ^ (s.take m).length ≤ 10 ^ 8 := Nat.pow_le_pow_right (by omega) h3
  omega

set_option maxRecDepth 100000 in
set_option maxHeartbeats 16000000 in
theorem l1one_digit (b s : List UInt8) (a : Addr) (cp B k : Nat) (w : World) (hB : B ≤ w.heap.size) (hlb : b.length ≤ 1048576) (hcp : b.length ≤ cp) (hk : k < b.length) (h : RB w B (some a) b)
    (hsl : s.length = b.length - k) (hsg : ∀ j (hj : j < s.length) (hj' : k + j < b.length), s[j] = b[k + j]) (hR : RB w B (some (a.add k)) s) (hs0 : 0 < s.length) (hsm : small s[0] = false) (hsd : digit s[0] = true) :
    Calls Try.prog 42 #[.slice (some a) b.length cp, .int .i64 k] w (LoP s k w) := by
  have hs : small b[k] = false := by rw [← hsm, hsg 0 hs0 (by omega)]; rfl
  have hd : digit b[k] = true := by rw [← hsd, hsg 0 hs0 (by omega)]; rfl
  have hto := tokOne_digit hs0 hsm hsd
  obtain ⟨ad, e, hbk, hcell⟩ := h.at_ hk
  injection e with e
  subst e
  have hb2 : ∀ o1 o2, Below w.heap.size w ((w.alloc o1).alloc o2) := fun o1 o2 => ((Below.refl _ _).alloc (Nat.le_refl _) _).alloc (by simp) _
  have c0 := fun o1 o2 => (hb2 o1 o2).cell (p := a.add k) (by rw [block_of_add]; omega) |>.trans hcell
  have Hs := Lib.hid hs
  have Hd := Lib.hid hd
  have Hsd := Lib.hid hsd
  have Hto := Lib.hid hto
  have Hsg := Lib.hid hsg
  clear hs hd hsm hsd hto hsg
  go_enter Try.func42, Try.ntmps42
  go_wp2_with (first
    | (go_at_call 65; refine (l1small_c _ false Hs.out _).mono ?_; rintro e w' ⟨rfl, rfl⟩)
    | (go_at_call 67; refine (l1digit_c _ true Hd.out _).mono ?_; rintro e w' ⟨rfl, rfl⟩))
  go_loopw [7] (fun i wr => ∃ (j : Nat), 1 ≤ j ∧ j ≤ s.length ∧ j ≤ 8 ∧ i = .int .i64 ((k + j : Nat) : Int) ∧ wr = (w.alloc (.cells #[.int .i64 0, .int .i64 0, .int .i64 0, .slice none 0 0] 78)).alloc (.cells #[.int .i64 0, .int .i64 k, .int .i64 0, .slice none 0 0] 78) ∧ Hid ((s.take j).all digit = true)) (fun i _ => b.length - (intOf i).toNat)
  case atStart => exact ⟨1, by omega, by omega, by omega, by go_num, rfl, Lib.hid (by
    rw [List.take_one]
    cases s with
    | nil => simp at hs0
    | cons x r => simpa using Hsd.out)⟩
  case round =>
    obtain ⟨j, hj1, hjs, hj8, rfl, rfl, hall⟩ := hrel
    by_cases hlt : j < s.length
    · have hkj : k + j < b.length := by omega
      obtain ⟨ad, e, _, hck⟩ := (h.below ((hb2 (.cells #[.int .i64 0, .int .i64 0, .int .i64 0, .slice none 0 0] 78) (.cells #[.int .i64 0, .int .i64 k, .int .i64 0, .slice none 0 0] 78)).mono hB)).at_ hkj
      injection e with e
      subst e
      rw [← Hsg.out j hlt hkj] at hck
      cases hsj : digit s[j]
      case true =>
        have Hsj := Lib.hid hsj
        clear hsj
        by_cases h8 : j < 8
        · go_wp2_with (go_at_call 67; refine (l1digit_c _ true Hsj.out _).mono ?_; rintro e w' ⟨rfl, rfl⟩)
          go_roundw
          case rel => exact ⟨j + 1, by omega, by omega, by omega, by go_num, by trivial, Lib.hid (all_take hall.out hlt Hsj.out)⟩
          case measure => simp [intOf]; omega
        · have h8e : ¬ ((j : Int) < 8) := by omega
          have Hrun : Hid (run digit s = j ∨ (j = 8 ∧ 8 ≤ run digit s)) := Lib.hid (.inr ⟨by omega, by have := run_ge hall.out hjs; omega⟩)
          have hnb := fun m hm => num_take_bound hj8 hall.out m hm
          have Hnb := Lib.hid hnb
          clear hnb
          go_wp2_with (go_at_call 67; refine (l1digit_c _ true Hsj.out _).mono ?_; rintro e w' ⟨rfl, rfl⟩)
          go_loopw [9] (fun i wr => ∃ (m : Nat), m ≤ j ∧ i = .int .i64 ((k + m : Nat) : Int) ∧ Blk wr w.heap.size 78 #[.int .i64 0, .int .i64 0, .int .i64 0, .slice none 0 0] ∧ Blk wr (w.heap.size + 1) 78 #[.int .i64 2, .int .i64 k, .int .i64 (numOf (s.take m) : Nat), .slice none 0 0] ∧ Below w.heap.size w wr) (fun i _ => k + j - (intOf i).toNat)
          case atStart =>
            refine ⟨0, Nat.zero_le _, by go_num, (Blk.new w _ _).alloc _, ?_, hb2 _ _⟩
            have := Blk.new (w.alloc (.cells #[.int .i64 0, .int .i64 0, .int .i64 0, .slice none 0 0] 78)) 78 #[.int .i64 2, .int .i64 k, .int .i64 0, .slice none 0 0]
            rw [World.size_alloc] at this
            exact this
          case round =>
            obtain ⟨m, hm, rfl, KX, KY, hbl⟩ := hrel
            have y2 := KY.cell_of 2 (v := .int .i64 (numOf (s.take m) : Nat)) rfl
            have yz2 := KY.frozen 2
            by_cases hmj : m < j
            · have hms : m < s.length := by omega
              have hkm : k + m < b.length := by omega
              obtain ⟨ad, e, _, hcm⟩ := (h.below (hbl.mono hB)).at_ hkm
              injection e with e
              subst e
              rw [← Hsg.out m hms hkm] at hcm
              have hdm : digit s[m] = true := by
                have h1 := hall.out
                rw [List.all_eq_true] at h1
                refine h1 _ ?_
                have h2 : m < (s.take j).length := by rw [List.length_take]; omega
                have h3 : (s.take j)[m] = s[m] := List.getElem_take
                rw [← h3]
                exact List.getElem_mem h2
              have hdig := digit_yes hdm
              have hst := numOf_step hms
              have hbd := Hnb.out m hm
              obtain ⟨q, hq⟩ : ∃ q, numOf (s.take m) = q := ⟨_, rfl⟩
              obtain ⟨x, hx⟩ : ∃ x : Nat, s[m].toNat = x := ⟨_, rfl⟩
              rw [hq] at hst hbd y2
              rw [hx] at hst hdig hcm
              have Hst := Lib.hid hst
              have HKX := Lib.hid KX
              have HKY := Lib.hid KY
              have Hbl := Lib.hid hbl
              clear hst hq hx hdm KX KY hbl
              go_wp2_with fail
              go_region
              all_goals
                go_wp2
                go_roundw
                case rel =>
                  refine ⟨m + 1, by omega, by go_num, HKX.out.far (p := ⟨w.heap.size + 1, 2, none⟩) (by simp) _, ?_, (Hbl.out.setCell (p := ⟨w.heap.size + 1, 2, none⟩) (by simp) _).drew⟩
                  rw [Hst.out, show ((q * 10 + (x - 48) : Nat) : Int) = 10 * (q : Int) + ((x : Int) - 48) by omega]
                  exact HKY.out.set_ 2 _
                case measure => simp [intOf]; omega
            · have hmj' : m = j := by omega
              subst hmj'
              have hwr := hbl.size
              have hK1 := KX.lt
              have hK2 := KY.lt
              have hlen : (s.take m).length = m := by rw [List.length_take]; omega
              have hkc1 : k < cp := by omega
              have hkc5 : ¬ cp = k := by omega
              have hkc2 : k + m ≤ cp := by omega
              have hkc3 : (k : Int) + (m : Int) ≤ cp := by omega
              have hkc4 : (k : Int) ≤ (k : Int) + (m : Int) := by omega
              have Hlen := Lib.hid hlen
              have y0 := KY.cell_of 0 (v := .int .i64 2) rfl
              have y1 := KY.cell_of 1 (v := .int .i64 k) rfl
              have y3 := KY.cell_of 3 (v := .slice none 0 0) rfl
              have x0 := KX.cell_of 0 (v := .int .i64 0) rfl
              have x1 := KX.cell_of 1 (v := .int .i64 0) rfl
              have x2 := KX.cell_of 2 (v := .int .i64 0) rfl
              have x3 := KX.cell_of 3 (v := .slice none 0 0) rfl
              have xz0 := KX.frozen 0
              have xz1 := KX.frozen 1
              have xz2 := KX.frozen 2
              have xz3 := KX.frozen 3
              have hbd := Hnb.out m (Nat.le_refl _)
              by_cases h7 : 6 < m
              · have hf : (tokOne s).2.2 = false := by
                  rw [Hto.out]
                  exact fits_seven (j := m) (by omega) (by rcases Hrun.out with h1 | ⟨_, h1⟩ <;> omega)
                have Hf := Lib.hid hf
                obtain ⟨q, hq⟩ : ∃ q, numOf (s.take m) = q := ⟨_, rfl⟩
                rw [hq] at y2 hbd
                have Hbl := Lib.hid hbl
                have h7' : ¬ ((m : Int) ≤ 6) := by omega
                clear hf hq hlen hbl KX KY yz2
                have hsub : IntKind.i64.wrap ((k : Int) + (m : Int) - (k : Int)) = (m : Int) := by rw [show (k : Int) + (m : Int) - (k : Int) = m by omega]; exact IntWalk.i64_in _ (by omega)
                have hdec : decide ((m : Int) ≤ 6) = false := decide_eq_false h7'
                go_wp2_with fail
                go_big_region
                all_goals
                  go_wp2
                  refine bodyPost_ret (v := .tuple #[.agg #[.int .i64 2, .int .i64 k, .int .i64 q, .slice none 0 0], .int .i64 ((k : Int) + (m : Int)), .bool false]) (by simp [results, Try.results42, go_sem, x0, x1, x2, x3]) rfl ?_
                  refine ⟨2, q, none, 0, 0, [], (k : Int) + m, by rw [Hf.out]; rfl, TxS.nil _ _ _ _, ?_, fun ht => by rw [Hf.out] at ht; cases ht⟩
                  exact ((((Hbl.out.setCell (by simp) _).setCell (by simp) _).setCell (by simp) _).setCell (by simp) _).drew
              · exact absurd (by omega : 6 < m) h7
      case false =>
        have Hsj := Lib.hid hsj
        clear hsj
        have Hrun : Hid (run digit s = j ∨ (j = 8 ∧ 8 ≤ run digit s)) := Lib.hid (.inl (run_stop hall.out hlt Hsj.out))
        have hnb := fun m hm => num_take_bound hj8 hall.out m hm
        have Hnb := Lib.hid hnb
        clear hnb
        go_wp2_with (go_at_call 67; refine (l1digit_c _ false Hsj.out _).mono ?_; rintro e w' ⟨rfl, rfl⟩)
        go_loopw [9] (fun i wr => ∃ (m : Nat), m ≤ j ∧ i = .int .i64 ((k + m : Nat) : Int) ∧ Blk wr w.heap.size 78 #[.int .i64 0, .int .i64 0, .int .i64 0, .slice none 0 0] ∧ Blk wr (w.heap.size + 1) 78 #[.int .i64 2, .int .i64 k, .int .i64 (numOf (s.take m) : Nat), .slice none 0 0] ∧ Below w.heap.size w wr) (fun i _ => k + j - (intOf i).toNat)
        case atStart =>
          refine ⟨0, Nat.zero_le _, by go_num, (Blk.new w _ _).alloc _, ?_, hb2 _ _⟩
          have := Blk.new (w.alloc (.cells #[.int .i64 0, .int .i64 0, .int .i64 0, .slice none 0 0] 78)) 78 #[.int .i64 2, .int .i64 k, .int .i64 0, .slice none 0 0]
          rw [World.size_alloc] at this
          exact this
        case round =>
          obtain ⟨m, hm, rfl, KX, KY, hbl⟩ := hrel
          have y2 := KY.cell_of 2 (v := .int .i64 (numOf (s.take m) : Nat)) rfl
          have yz2 := KY.frozen 2
          by_cases hmj : m < j
          · have hms : m < s.length := by omega
            have hkm : k + m < b.length := by omega
            obtain ⟨ad, e, _, hcm⟩ := (h.below (hbl.mono hB)).at_ hkm
            injection e with e
            subst e
            rw [← Hsg.out m hms hkm] at hcm
            have hdm : digit s[m] = true := by
              have h1 := hall.out
              rw [List.all_eq_true] at h1
              refine h1 _ ?_
              have h2 : m < (s.take j).length := by rw [List.length_take]; omega
              have h3 : (s.take j)[m] = s[m] := List.getElem_take
              rw [← h3]
              exact List.getElem_mem h2
            have hdig := digit_yes hdm
            have hst := numOf_step hms
            have hbd := Hnb.out m hm
            obtain ⟨q, hq⟩ : ∃ q, numOf (s.take m) = q := ⟨_, rfl⟩
            obtain ⟨x, hx⟩ : ∃ x : Nat, s[m].toNat = x := ⟨_, rfl⟩
            rw [hq] at hst hbd y2
            rw [hx] at hst hdig hcm
            have Hst := Lib.hid hst
            have HKX := Lib.hid KX
            have HKY := Lib.hid KY
            have Hbl := Lib.hid hbl
            clear hst hq hx hdm KX KY hbl
            go_wp2_with fail
            go_region
            all_goals
              go_wp2
              go_roundw
              case rel =>
                refine ⟨m + 1, by omega, by go_num, HKX.out.far (p := ⟨w.heap.size + 1, 2, none⟩) (by simp) _, ?_, (Hbl.out.setCell (p := ⟨w.heap.size + 1, 2, none⟩) (by simp) _).drew⟩
                rw [Hst.out, show ((q * 10 + (x - 48) : Nat) : Int) = 10 * (q : Int) + ((x : Int) - 48) by omega]
                exact HKY.out.set_ 2 _
              case measure => simp [intOf]; omega
          · have hmj' : m = j := by omega
            subst hmj'
            have hwr := hbl.size
            have hK1 := KX.lt
            have hK2 := KY.lt
            have hlen : (s.take m).length = m := by rw [List.length_take]; omega
            have hkc1 : k < cp := by omega
            have hkc5 : ¬ cp = k := by omega
            have hkc2 : k + m ≤ cp := by omega
            have hkc3 : (k : Int) + (m : Int) ≤ cp := by omega
            have hkc4 : (k : Int) ≤ (k : Int) + (m : Int) := by omega
            have Hlen := Lib.hid hlen
            have y0 := KY.cell_of 0 (v := .int .i64 2) rfl
            have y1 := KY.cell_of 1 (v := .int .i64 k) rfl
            have y3 := KY.cell_of 3 (v := .slice none 0 0) rfl
            have x0 := KX.cell_of 0 (v := .int .i64 0) rfl
            have x1 := KX.cell_of 1 (v := .int .i64 0) rfl
            have x2 := KX.cell_of 2 (v := .int .i64 0) rfl
            have x3 := KX.cell_of 3 (v := .slice none 0 0) rfl
            have xz0 := KX.frozen 0
            have xz1 := KX.frozen 1
            have xz2 := KX.frozen 2
            have xz3 := KX.frozen 3
            have hbd := Hnb.out m (Nat.le_refl _)
            by_cases h7 : 6 < m
            · have hf : (tokOne s).2.2 = false := by
                rw [Hto.out]
                exact fits_seven (j := m) (by omega) (by rcases Hrun.out with h1 | ⟨_, h1⟩ <;> omega)
              have Hf := Lib.hid hf
              obtain ⟨q, hq⟩ : ∃ q, numOf (s.take m) = q := ⟨_, rfl⟩
              rw [hq] at y2 hbd
              have Hbl := Lib.hid hbl
              have h7' : ¬ ((m : Int) ≤ 6) := by omega
              clear hf hq hlen hbl KX KY yz2
              have hsub : IntKind.i64.wrap ((k : Int) + (m : Int) - (k : Int)) = (m : Int) := by rw [show (k : Int) + (m : Int) - (k : Int) = m by omega]; exact IntWalk.i64_in _ (by omega)
              have hdec : decide ((m : Int) ≤ 6) = false := decide_eq_false h7'
              go_wp2_with fail
              go_big_region
              all_goals
                go_wp2
                refine bodyPost_ret (v := .tuple #[.agg #[.int .i64 2, .int .i64 k, .int .i64 q, .slice none 0 0], .int .i64 ((k : Int) + (m : Int)), .bool false]) (by simp [results, Try.results42, go_sem, x0, x1, x2, x3]) rfl ?_
                refine ⟨2, q, none, 0, 0, [], (k : Int) + m, by rw [Hf.out]; rfl, TxS.nil _ _ _ _, ?_, fun ht => by rw [Hf.out] at ht; cases ht⟩
                exact ((((Hbl.out.setCell (by simp) _).setCell (by simp) _).setCell (by simp) _).setCell (by simp) _).drew
            · have hrun : run digit s = m := by rcases Hrun.out with h1 | ⟨h1, _⟩ <;> omega
              have hto2 := Hto.out
              rw [hrun] at hto2
              have hall' := hall.out
              have hm6 := fits_six (by omega) hjs hrun
              rw [hrun] at hm6
              have hiff := dec_iff (l := s.take m) (by omega) hall'
              have hRm : RB wr B (some (a.add k)) (s.take m) := (hR.below (hbl.mono hB)).take2 m
              obtain ⟨q, hq⟩ : ∃ q, numOf (s.take m) = q := ⟨_, rfl⟩
              rw [hq] at y2 hbd hto2 hiff
              obtain ⟨nm, hnm⟩ : ∃ nm, s.take m = nm := ⟨_, rfl⟩
              rw [hnm] at hto2 hm6 hiff hRm hlen
              have hcv := fun d => run_convert_RB (P := Try.prog) (hRm.drewN d) 22 5 9 (cp - k) Try.underlying22 Try.underlying5 Try.underlying9
              have hmk : m = ((k : Int) + (m : Int)).toNat - k := by omega
              rw [hlen, hmk] at hcv
              have hcd := fun d => l1digits_c (q + 1) q (wr.drewN d) (by omega) (by omega)
              obtain ⟨dd, hdd⟩ : ∃ dd, Lib.decDigits q = dd := ⟨_, rfl⟩
              rw [hdd] at hcd hiff
              have hKX := KX
              have hKY := KY
              have hcd2 : ∀ d, Calls Try.prog 68 #[.int .i64 (q : Nat)] (wr.drewN d) fun e w1 => ∃ A3 c3, e = .returned (.slice A3 dd.length c3) ∧
                  (Go.convert 22 9 (Value.slice A3 dd.length c3)).run Try.prog w1 = .ok (.string ⟨dd.toArray⟩) w1 ∧ (Go.convert 22 9 (Value.slice (some (a.add k)) (((k : Int) + (m : Int)).toNat - k) (cp - k))).run Try.prog w1 = .ok (.string ⟨nm.toArray⟩) w1 ∧
                  (Go.convert 22 9 (Value.slice (some (a.add k)) (((k : Int) + (m : Int)).toNat - k) (cp - k))).run Try.prog ((((w1.setCell ⟨w.heap.size, 0, none⟩ (.int .i64 2)).setCell ⟨w.heap.size, 1, none⟩ (.int .i64 k)).setCell ⟨w.heap.size, 2, none⟩ (.int .i64 (q : Nat))).setCell ⟨w.heap.size, 3, none⟩ (.slice none 0 0)) = .ok (.string ⟨nm.toArray⟩) ((((w1.setCell ⟨w.heap.size, 0, none⟩ (.int .i64 2)).setCell ⟨w.heap.size, 1, none⟩ (.int .i64 k)).setCell ⟨w.heap.size, 2, none⟩ (.int .i64 (q : Nat))).setCell ⟨w.heap.size, 3, none⟩ (.slice none 0 0)) ∧
                  (Go.convert 22 9 (Value.slice A3 dd.length c3)).run Try.prog ((((w1.setCell ⟨w.heap.size, 0, none⟩ (.int .i64 2)).setCell ⟨w.heap.size, 1, none⟩ (.int .i64 k)).setCell ⟨w.heap.size, 2, none⟩ (.int .i64 (q : Nat))).setCell ⟨w.heap.size, 3, none⟩ (.slice none 0 0)) = .ok (.string ⟨dd.toArray⟩) ((((w1.setCell ⟨w.heap.size, 0, none⟩ (.int .i64 2)).setCell ⟨w.heap.size, 1, none⟩ (.int .i64 k)).setCell ⟨w.heap.size, 2, none⟩ (.int .i64 (q : Nat))).setCell ⟨w.heap.size, 3, none⟩ (.slice none 0 0)) ∧
                  w1.cell? ⟨w.heap.size, 0, none⟩ = some (.int .i64 0) ∧ w1.cell? ⟨w.heap.size, 1, none⟩ = some (.int .i64 0) ∧ w1.cell? ⟨w.heap.size, 2, none⟩ = some (.int .i64 0) ∧ w1.cell? ⟨w.heap.size, 3, none⟩ = some (.slice none 0 0) ∧
                  w1.frozen? ⟨w.heap.size, 0, none⟩ = false ∧ w1.frozen? ⟨w.heap.size, 1, none⟩ = false ∧ w1.frozen? ⟨w.heap.size, 2, none⟩ = false ∧ w1.frozen? ⟨w.heap.size, 3, none⟩ = false ∧ Below w.heap.size w w1 ∧ (((((w1.setCell ⟨w.heap.size, 0, none⟩ (.int .i64 2)).setCell ⟨w.heap.size, 1, none⟩ (.int .i64 k)).setCell ⟨w.heap.size, 2, none⟩ (.int .i64 (q : Nat))).setCell ⟨w.heap.size, 3, none⟩ (.slice none 0 0)).cell? ⟨w.heap.size + 1, 0, none⟩ = some (.int .i64 2) ∧ ((((w1.setCell ⟨w.heap.size, 0, none⟩ (.int .i64 2)).setCell ⟨w.heap.size, 1, none⟩ (.int .i64 k)).setCell ⟨w.heap.size, 2, none⟩ (.int .i64 (q : Nat))).setCell ⟨w.heap.size, 3, none⟩ (.slice none 0 0)).cell? ⟨w.heap.size + 1, 1, none⟩ = some (.int .i64 k) ∧ ((((w1.setCell ⟨w.heap.size, 0, none⟩ (.int .i64 2)).setCell ⟨w.heap.size, 1, none⟩ (.int .i64 k)).setCell ⟨w.heap.size, 2, none⟩ (.int .i64 (q : Nat))).setCell ⟨w.heap.size, 3, none⟩ (.slice none 0 0)).cell? ⟨w.heap.size + 1, 2, none⟩ = some (.int .i64 (q : Nat)) ∧ ((((w1.setCell ⟨w.heap.size, 0, none⟩ (.int .i64 2)).setCell ⟨w.heap.size, 1, none⟩ (.int .i64 k)).setCell ⟨w.heap.size, 2, none⟩ (.int .i64 (q : Nat))).setCell ⟨w.heap.size, 3, none⟩ (.slice none 0 0)).cell? ⟨w.heap.size + 1, 3, none⟩ = some (.slice none 0 0)) ∧
                  (w1.cell? ⟨w.heap.size + 1, 0, none⟩ = some (.int .i64 2) ∧ w1.cell? ⟨w.heap.size + 1, 1, none⟩ = some (.int .i64 k) ∧ w1.cell? ⟨w.heap.size + 1, 2, none⟩ = some (.int .i64 (q : Nat)) ∧ w1.cell? ⟨w.heap.size + 1, 3, none⟩ = some (.slice none 0 0)) := fun d => by
                refine (hcd d).mono ?_
                rintro e w1 ⟨v1, rfl, hO1, hb1⟩
                obtain ⟨A3, c3, rfl, hRd⟩ := hO1.form
                have hO4 : OwnB ((((w1.setCell ⟨w.heap.size, 0, none⟩ (.int .i64 2)).setCell ⟨w.heap.size, 1, none⟩ (.int .i64 k)).setCell ⟨w.heap.size, 2, none⟩ (.int .i64 (q : Nat))).setCell ⟨w.heap.size, 3, none⟩ (.slice none 0 0)) (wr.drewN d).heap.size (.slice A3 dd.length c3) dd := own_keepS hO1 (fun g hg => by
                  have hgb := (OwnB.block hO1 hg).1
                  have hgn : w.heap.size < g := by have h9 : (wr.drewN d).heap.size = wr.heap.size := rfl; omega
                  exact (Below.heap_setCell _ ⟨w.heap.size, 3, none⟩ _ g (by simp; omega)).trans ((Below.heap_setCell _ ⟨w.heap.size, 2, none⟩ _ g (by simp; omega)).trans ((Below.heap_setCell _ ⟨w.heap.size, 1, none⟩ _ g (by simp; omega)).trans (Below.heap_setCell _ ⟨w.heap.size, 0, none⟩ _ g (by simp; omega)))))
                obtain ⟨A4, c4, e4, hR4⟩ := hO4.form
                injection e4 with e41 e42 e43
                subst e41
                subst e43
                have hcv4 := run_convert_RB (P := Try.prog) hR4 22 5 9 c3 Try.underlying22 Try.underlying5 Try.underlying9
                have hcv2 := run_convert_RB (P := Try.prog) ((hRm.drewN d).below (hb1.mono (by simp; omega))) 22 5 9 (cp - k) Try.underlying22 Try.underlying5 Try.underlying9
                have hcv3 := run_convert_RB (P := Try.prog) (((hRm.drewN d).below (hb1.mono (by simp; omega))).below ((((Below.refl B w1).setCell (p := ⟨w.heap.size, 0, none⟩) hB (.int .i64 2)).setCell (p := ⟨w.heap.size, 1, none⟩) hB (.int .i64 k)).setCell (p := ⟨w.heap.size, 2, none⟩) hB (.int .i64 (q : Nat)) |>.setCell (p := ⟨w.heap.size, 3, none⟩) hB (.slice none 0 0))) 22 5 9 (cp - k) Try.underlying22 Try.underlying5 Try.underlying9
                rw [hlen, hmk] at hcv2 hcv3
                have wX1 := (show Blk (wr.drewN d) w.heap.size 78 _ from hKX).below hb1 hKX.lt
                have wY1 := (show Blk (wr.drewN d) (w.heap.size + 1) 78 _ from hKY).below hb1 hKY.lt
                rw [hq] at wY1
                have wY4 := (((wY1.far (p := ⟨w.heap.size, 0, none⟩) (by simp) (.int .i64 2)).far (p := ⟨w.heap.size, 1, none⟩) (by simp) (.int .i64 k)).far (p := ⟨w.heap.size, 2, none⟩) (by simp) (.int .i64 (q : Nat))).far (p := ⟨w.heap.size, 3, none⟩) (by simp) (.slice none 0 0)
                exact ⟨A3, c3, rfl, run_convert_RB (P := Try.prog) hRd 22 5 9 c3 Try.underlying22 Try.underlying5 Try.underlying9, hcv2, hcv3, hcv4, wX1.cell_of 0 rfl, wX1.cell_of 1 rfl, wX1.cell_of 2 rfl, wX1.cell_of 3 rfl, wX1.frozen 0, wX1.frozen 1, wX1.frozen 2, wX1.frozen 3,
                  (below_drewN hbl d).trans (hb1.mono (by simp; omega)), ⟨wY4.cell_of 0 rfl, wY4.cell_of 1 rfl, wY4.cell_of 2 rfl, wY4.cell_of 3 rfl⟩, wY1.cell_of 0 rfl, wY1.cell_of 1 rfl, wY1.cell_of 2 rfl, wY1.cell_of 3 rfl⟩
              have hcvD : (Go.convert 22 9 (Value.slice (some (a.add k)) (((k : Int) + (m : Int)).toNat - k) (cp - k))).run Try.prog wr.drew = .ok (.string ⟨nm.toArray⟩) wr.drew := hcv 1
              have hfin : (dd == nm) = fits nm := by
                rw [hm6, Bool.eq_iff_iff, beq_iff_eq, hiff]
                cases lead nm <;> simp
              have Hfin := Lib.hid hfin
              clear hfin
              have Hcd := Lib.hid hcd2
              have Hto2 := Lib.hid hto2
              have Hm6 := Lib.hid hm6
              have Hiff := Lib.hid hiff
              have h7' : ((m : Int) ≤ 6) := by omega
              have hsub : IntKind.i64.wrap ((k : Int) + (m : Int) - (k : Int)) = (m : Int) := by rw [show (k : Int) + (m : Int) - (k : Int) = m by omega]; exact IntWalk.i64_in _ (by omega)
              have hdec : decide ((m : Int) ≤ 6) = true := decide_eq_true h7'
              clear hmk hto2 hm6 hiff hRm hq hnm hdd hcd hcd2 hlen hbl KX KY hKX hKY yz2 hall'
              go_wp2_with fail
              refine wp_region_noPanic ?_
              refine wp_region_held_drew (S := (fun W => (W.cell? ⟨w.heap.size + 1, 0, none⟩ = some (.int .i64 2) ∧ W.cell? ⟨w.heap.size + 1, 1, none⟩ = some (.int .i64 k) ∧ W.cell? ⟨w.heap.size + 1, 2, none⟩ = some (.int .i64 (q : Nat)) ∧ W.cell? ⟨w.heap.size + 1, 3, none⟩ = some (.slice none 0 0) ∧ (Go.convert 22 9 (Value.slice (some (a.add k)) (((k : Int) + (m : Int)).toNat - k) (cp - k))).run Try.prog W = .ok (.string ⟨nm.toArray⟩) W))) (by kernel_rfl) ?_ (fun hHeld => ?_)
              · exact ⟨y0, y1, y2, y3, hcvD⟩
              refine wpAnyH_take (i := 0) (oi := _) (v := ?_) rfl (by kernel_rfl) (by kernel_rfl) (by kernel_rfl) (fun _ _ _ h => h) (Or.inl ⟨by rfl, ?_⟩) (by assumption) ?_
              rotate_left
              focus
                intro w hSw
                try dsimp only at hSw
                go_simp
                try with_reducible rfl
              try simp only [List.getElem_toArray, List.getElem_cons_succ, List.getElem_cons_zero, Act.put, List.setIfInBounds_toArray, List.set_cons_zero, List.set_cons_succ]
              refine wpAnyH_take (i := 1) (oi := _) (v := ?_) rfl (by kernel_rfl) (by kernel_rfl) (by kernel_rfl) (fun _ _ _ h => h) (Or.inl ⟨by rfl, ?_⟩) (by assumption) ?_
              rotate_left
              focus
                intro w hSw
                try dsimp only at hSw
                go_simp
                try with_reducible rfl
              try simp only [List.getElem_toArray, List.getElem_cons_succ, List.getElem_cons_zero, Act.put, List.setIfInBounds_toArray, List.set_cons_zero, List.set_cons_succ]
              refine wpAnyH_take (i := 2) (oi := _) (v := ?_) rfl (by kernel_rfl) (by kernel_rfl) (by kernel_rfl) (fun _ _ _ h => h) (Or.inl ⟨by rfl, ?_⟩) (by assumption) ?_
              rotate_left
              focus
                intro w hSw
                try dsimp only at hSw
                go_simp
                try with_reducible rfl
              try simp only [List.getElem_toArray, List.getElem_cons_succ, List.getElem_cons_zero, Act.put, List.setIfInBounds_toArray, List.set_cons_zero, List.set_cons_succ]
              refine wpAnyH_take (i := 3) (oi := _) (v := ?_) rfl (by kernel_rfl) (by kernel_rfl) (by kernel_rfl) (fun _ _ _ h => h) (Or.inl ⟨by rfl, ?_⟩) (by assumption) ?_
              rotate_left
              focus
                intro w hSw
                try dsimp only at hSw
                go_simp
                try with_reducible rfl
              try simp only [List.getElem_toArray, List.getElem_cons_succ, List.getElem_cons_zero, Act.put, List.setIfInBounds_toArray, List.set_cons_zero, List.set_cons_succ]
              refine wpAnyH_take (i := 4) (oi := _) (v := ?_) rfl (by kernel_rfl) (by kernel_rfl) (by kernel_rfl) (fun _ _ _ h => h) (Or.inl ⟨by rfl, ?_⟩) (by assumption) ?_
              rotate_left
              focus
                intro w hSw
                try dsimp only at hSw
                go_simp
                try with_reducible rfl
              try simp only [List.getElem_toArray, List.getElem_cons_succ, List.getElem_cons_zero, Act.put, List.setIfInBounds_toArray, List.set_cons_zero, List.set_cons_succ]
              refine wpAnyH_take (i := 5) (oi := _) (v := ?_) rfl (by kernel_rfl) (by kernel_rfl) (by kernel_rfl) (fun _ _ _ h => h) (Or.inl ⟨by rfl, ?_⟩) (by assumption) ?_
              rotate_left
              focus
                intro w hSw
                try dsimp only at hSw
                go_simp
                try with_reducible rfl
              try simp only [List.getElem_toArray, List.getElem_cons_succ, List.getElem_cons_zero, Act.put, List.setIfInBounds_toArray, List.set_cons_zero, List.set_cons_succ]
              refine wpAnyH_take (i := 6) (oi := _) (v := ?_) rfl (by kernel_rfl) (by kernel_rfl) (by kernel_rfl) (fun _ _ _ h => h) (Or.inl ⟨by rfl, ?_⟩) (by assumption) ?_
              rotate_left
              focus
                intro w hSw
                try dsimp only at hSw
                go_simp
                try with_reducible rfl
              try simp only [List.getElem_toArray, List.getElem_cons_succ, List.getElem_cons_zero, Act.put, List.setIfInBounds_toArray, List.set_cons_zero, List.set_cons_succ]
              refine wpAnyH_take (i := 7) (oi := _) (v := ?_) rfl (by kernel_rfl) (by kernel_rfl) (by kernel_rfl) (fun _ _ _ h => h) (Or.inl ⟨by rfl, ?_⟩) (by assumption) ?_
              rotate_left
              focus
                intro w hSw
                try dsimp only at hSw
                go_simp
                try with_reducible rfl
              try simp only [List.getElem_toArray, List.getElem_cons_succ, List.getElem_cons_zero, Act.put, List.setIfInBounds_toArray, List.set_cons_zero, List.set_cons_succ]
              refine wpAnyH_take (i := 8) (oi := _) (v := ?_) rfl (by kernel_rfl) (by kernel_rfl) (by kernel_rfl) (fun _ _ _ h => h) (Or.inl ⟨by rfl, ?_⟩) (by assumption) ?_
              rotate_left
              focus
                intro w hSw
                try dsimp only at hSw
                go_simp
                try with_reducible rfl
              try simp only [List.getElem_toArray, List.getElem_cons_succ, List.getElem_cons_zero, Act.put, List.setIfInBounds_toArray, List.set_cons_zero, List.set_cons_succ]
              refine wpAnyH_take (i := 11) (oi := _) (v := ?_) rfl (by kernel_rfl) (by kernel_rfl) (by kernel_rfl) (fun _ _ _ h => h) (Or.inl ⟨by rfl, ?_⟩) (by assumption) ?_
              rotate_left
              focus
                intro w hSw
                try dsimp only at hSw
                go_simp
                try with_reducible rfl
              try simp only [List.getElem_toArray, List.getElem_cons_succ, List.getElem_cons_zero, Act.put, List.setIfInBounds_toArray, List.set_cons_zero, List.set_cons_succ]
              refine wpAnyH_take (i := 12) (oi := _) (v := ?_) rfl (by kernel_rfl) (by kernel_rfl) (by kernel_rfl) (fun _ _ _ h => h) (Or.inl ⟨by rfl, ?_⟩) (by assumption) ?_
              rotate_left
              focus
                intro w hSw
                try dsimp only at hSw
                go_simp
                try with_reducible rfl
              try simp only [List.getElem_toArray, List.getElem_cons_succ, List.getElem_cons_zero, Act.put, List.setIfInBounds_toArray, List.set_cons_zero, List.set_cons_succ]
              refine wpAnyH_take (i := 13) (oi := _) (v := ?_) rfl (by kernel_rfl) (by kernel_rfl) (by kernel_rfl) (fun _ _ _ h => h) (Or.inl ⟨by rfl, ?_⟩) (by assumption) ?_
              rotate_left
              focus
                intro w hSw
                try dsimp only at hSw
                go_simp
                try with_reducible rfl
              try simp only [List.getElem_toArray, List.getElem_cons_succ, List.getElem_cons_zero, Act.put, List.setIfInBounds_toArray, List.set_cons_zero, List.set_cons_succ]
              refine wpAnyH_take (i := 14) (oi := _) (v := ?_) rfl (by kernel_rfl) (by kernel_rfl) (by kernel_rfl) (fun _ _ _ h => h) (Or.inl ⟨by rfl, ?_⟩) (by assumption) ?_
              rotate_left
              focus
                intro w hSw
                try dsimp only at hSw
                go_simp
                try with_reducible rfl
              try simp only [List.getElem_toArray, List.getElem_cons_succ, List.getElem_cons_zero, Act.put, List.setIfInBounds_toArray, List.set_cons_zero, List.set_cons_succ]
              refine wpAnyH_ready (rs := [9, 15]) (by kernel_rfl) (by simp) ?_
              refine AllReadyH.cons (o := _) rfl (fun K hK => ?_) ?_
              · go_simp
                (refine (Hcd.out 1).mono ?_; rintro e w1 ⟨A3, c3, rfl, hcv1, hcv2, hcv3, hcv4, v0, v1, v2, v3, vz0, vz1, vz2, vz3, hbw1, hS40, hS0'⟩; have hS' := And.intro hS0'.1 (And.intro hS0'.2.1 (And.intro hS0'.2.2.1 (And.intro hS0'.2.2.2 hcv2))); have hS4 := And.intro hS40.1 (And.intro hS40.2.1 (And.intro hS40.2.2.1 (And.intro hS40.2.2.2 hcv3))); clear hS0' hS40)
                refine hK.out _ _ ?_ (fun hHeld => ?_)
                · ((try dsimp only); first | with_reducible assumption | with_reducible exact hS4)
                · clear hK K
                  try simp only [List.getElem_toArray, List.getElem_cons_succ, List.getElem_cons_zero, Act.put, List.setIfInBounds_toArray, List.set_cons_zero, List.set_cons_succ]
                  refine wpAnyH_take (i := 15) (oi := _) (v := ?_) rfl (by kernel_rfl) (by kernel_rfl) (by kernel_rfl) (fun _ _ _ h => h) (Or.inl ⟨by rfl, ?_⟩) (by assumption) ?_
                  rotate_left
                  focus
                    intro w hSw
                    try dsimp only at hSw
                    go_simp
                    try with_reducible rfl
                  try simp only [List.getElem_toArray, List.getElem_cons_succ, List.getElem_cons_zero, Act.put, List.setIfInBounds_toArray, List.set_cons_zero, List.set_cons_succ]
                  refine wpAnyH_ready (rs := [10, 18]) (by kernel_rfl) (by simp) ?_
                  refine AllReadyH.cons (o := _) rfl (fun K hK => ?_) ?_
                  · go_simp
                    refine hK.out _ _ ?_ (fun hHeld => ?_)
                    · ((try dsimp only); first | with_reducible assumption | with_reducible exact hS4)
                    · clear hK K
                      try simp only [List.getElem_toArray, List.getElem_cons_succ, List.getElem_cons_zero, Act.put, List.setIfInBounds_toArray, List.set_cons_zero, List.set_cons_succ]
                      refine wpAnyH_take (i := 16) (oi := _) (v := ?_) rfl (by kernel_rfl) (by kernel_rfl) (by kernel_rfl) (fun _ _ _ h => h) (Or.inl ⟨by rfl, ?_⟩) (by assumption) ?_
                      rotate_left
                      focus
                        intro w hSw
                        try dsimp only at hSw
                        go_simp
                        try with_reducible rfl
                      try simp only [List.getElem_toArray, List.getElem_cons_succ, List.getElem_cons_zero, Act.put, List.setIfInBounds_toArray, List.set_cons_zero, List.set_cons_succ]
                      refine wpAnyH_take (i := 17) (oi := _) (v := ?_) rfl (by kernel_rfl) (by kernel_rfl) (by kernel_rfl) (fun _ _ _ h => h) (Or.inl ⟨by rfl, ?_⟩) (by assumption) ?_
                      rotate_left
                      focus
                        intro w hSw
                        try dsimp only at hSw
                        go_simp
                        try with_reducible rfl
                      try simp only [List.getElem_toArray, List.getElem_cons_succ, List.getElem_cons_zero, Act.put, List.setIfInBounds_toArray, List.set_cons_zero, List.set_cons_succ]
                      refine wpAnyH_ready (rs := [18]) (by kernel_rfl) (by simp) ?_
                      refine AllReadyH.cons (o := _) rfl (fun K hK => ?_) ?_
                      · go_simp
                        refine hK.out _ _ ?_ (fun hHeld => ?_)
                        · ((try dsimp only); first | with_reducible assumption | with_reducible exact hS4)
                        · clear hK K
                          try simp only [List.getElem_toArray, List.getElem_cons_succ, List.getElem_cons_zero, Act.put, List.setIfInBounds_toArray, List.set_cons_zero, List.set_cons_succ]
                          refine wpAnyH_take (i := 19) (oi := _) (v := ?_) rfl (by kernel_rfl) (by kernel_rfl) (by kernel_rfl) (fun _ _ _ h => h) (Or.inl ⟨by rfl, ?_⟩) (by assumption) ?_
                          rotate_left
                          focus
                            intro w hSw
                            try dsimp only at hSw
                            go_simp
                            try with_reducible rfl
                          try simp only [List.getElem_toArray, List.getElem_cons_succ, List.getElem_cons_zero, Act.put, List.setIfInBounds_toArray, List.set_cons_zero, List.set_cons_succ]
                          refine wpAnyH_take (i := 20) (oi := _) (v := ?_) rfl (by kernel_rfl) (by kernel_rfl) (by kernel_rfl) (fun _ _ _ h => h) (Or.inl ⟨by rfl, ?_⟩) (by assumption) ?_
                          rotate_left
                          focus
                            intro w hSw
                            try dsimp only at hSw
                            go_simp
                            try with_reducible rfl
                          try simp only [List.getElem_toArray, List.getElem_cons_succ, List.getElem_cons_zero, Act.put, List.setIfInBounds_toArray, List.set_cons_zero, List.set_cons_succ]
                          refine wpAnyH_done (by kernel_rfl) ?_ _
                          refine NoPanic.normal ?_
                          go_wp2
                          refine bodyPost_ret (v := .tuple #[.agg #[.int .i64 2, .int .i64 k, .int .i64 q, .slice none 0 0], .int .i64 ((k : Int) + (m : Int)), .bool (dd == nm)]) (by simp [results, Try.results42, go_sem, v0, v1, v2, v3]) rfl ?_
                          refine ⟨2, q, none, 0, 0, [], (k : Int) + m, by rw [Hto2.out, Hfin.out]; rfl, TxS.nil _ _ _ _, (((hbw1.setCell (by simp) _).setCell (by simp) _).setCell (by simp) _).setCell (by simp) _, fun ht => ?_⟩
                          rw [Hto2.out] at ht ⊢
                          dsimp only at ht ⊢
                          exact ⟨by unfold placed; rw [if_pos ht], by omega⟩
                      exact AllReadyH.nil
                  refine AllReadyH.cons (o := _) rfl (fun K hK => ?_) ?_
                  · go_simp
                    refine hK.out _ _ ?_ (fun hHeld => ?_)
                    · ((try dsimp only); first | with_reducible assumption | with_reducible exact hS4)
                    · clear hK K
                      try simp only [List.getElem_toArray, List.getElem_cons_succ, List.getElem_cons_zero, Act.put, List.setIfInBounds_toArray, List.set_cons_zero, List.set_cons_succ]
                      refine wpAnyH_take (i := 19) (oi := _) (v := ?_) rfl (by kernel_rfl) (by kernel_rfl) (by kernel_rfl) (fun _ _ _ h => h) (Or.inl ⟨by rfl, ?_⟩) (by assumption) ?_
                      rotate_left
                      focus
                        intro w hSw
                        try dsimp only at hSw
                        go_simp
                        try with_reducible rfl
                      try simp only [List.getElem_toArray, List.getElem_cons_succ, List.getElem_cons_zero, Act.put, List.setIfInBounds_toArray, List.set_cons_zero, List.set_cons_succ]
                      refine wpAnyH_ready (rs := [10]) (by kernel_rfl) (by simp) ?_
                      refine AllReadyH.cons (o := _) rfl (fun K hK => ?_) ?_
                      · go_simp
                        refine hK.out _ _ ?_ (fun hHeld => ?_)
                        · ((try dsimp only); first | with_reducible assumption | with_reducible exact hS4)
                        · clear hK K
                          try simp only [List.getElem_toArray, List.getElem_cons_succ, List.getElem_cons_zero, Act.put, List.setIfInBounds_toArray, List.set_cons_zero, List.set_cons_succ]
                          refine wpAnyH_take (i := 16) (oi := _) (v := ?_) rfl (by kernel_rfl) (by kernel_rfl) (by kernel_rfl) (fun _ _ _ h => h) (Or.inl ⟨by rfl, ?_⟩) (by assumption) ?_
                          rotate_left
                          focus
                            intro w hSw
                            try dsimp only at hSw
                            go_simp
                            try with_reducible rfl
                          try simp only [List.getElem_toArray, List.getElem_cons_succ, List.getElem_cons_zero, Act.put, List.setIfInBounds_toArray, List.set_cons_zero, List.set_cons_succ]
                          refine wpAnyH_take (i := 17) (oi := _) (v := ?_) rfl (by kernel_rfl) (by kernel_rfl) (by kernel_rfl) (fun _ _ _ h => h) (Or.inl ⟨by rfl, ?_⟩) (by assumption) ?_
                          rotate_left
                          focus
                            intro w hSw
                            try dsimp only at hSw
                            go_simp
                            try with_reducible rfl
                          try simp only [List.getElem_toArray, List.getElem_cons_succ, List.getElem_cons_zero, Act.put, List.setIfInBounds_toArray, List.set_cons_zero, List.set_cons_succ]
                          refine wpAnyH_take (i := 20) (oi := _) (v := ?_) rfl (by kernel_rfl) (by kernel_rfl) (by kernel_rfl) (fun _ _ _ h => h) (Or.inl ⟨by rfl, ?_⟩) (by assumption) ?_
                          rotate_left
                          focus
                            intro w hSw
                            try dsimp only at hSw
                            go_simp
                            try with_reducible rfl
                          try simp only [List.getElem_toArray, List.getElem_cons_succ, List.getElem_cons_zero, Act.put, List.setIfInBounds_toArray, List.set_cons_zero, List.set_cons_succ]
                          refine wpAnyH_done (by kernel_rfl) ?_ _
                          refine NoPanic.normal ?_
                          go_wp2
                          refine bodyPost_ret (v := .tuple #[.agg #[.int .i64 2, .int .i64 k, .int .i64 q, .slice none 0 0], .int .i64 ((k : Int) + (m : Int)), .bool (dd == nm)]) (by simp [results, Try.results42, go_sem, v0, v1, v2, v3]) rfl ?_
                          refine ⟨2, q, none, 0, 0, [], (k : Int) + m, by rw [Hto2.out, Hfin.out]; rfl, TxS.nil _ _ _ _, (((hbw1.setCell (by simp) _).setCell (by simp) _).setCell (by simp) _).setCell (by simp) _, fun ht => ?_⟩
                          rw [Hto2.out] at ht ⊢
                          dsimp only at ht ⊢
                          exact ⟨by unfold placed; rw [if_pos ht], by omega⟩
                      exact AllReadyH.nil
                  exact AllReadyH.nil
              refine AllReadyH.cons (o := _) rfl (fun K hK => ?_) ?_
              · go_simp
                refine hK.out _ _ ?_ (fun hHeld => ?_)
                · ((try dsimp only); first | with_reducible assumption | with_reducible exact hS4)
                · clear hK K
                  try simp only [List.getElem_toArray, List.getElem_cons_succ, List.getElem_cons_zero, Act.put, List.setIfInBounds_toArray, List.set_cons_zero, List.set_cons_succ]
                  refine wpAnyH_ready (rs := [9]) (by kernel_rfl) (by simp) ?_
                  refine AllReadyH.cons (o := _) rfl (fun K hK => ?_) ?_
                  · go_simp
                    (refine (Hcd.out 1).mono ?_; rintro e w1 ⟨A3, c3, rfl, hcv1, hcv2, hcv3, hcv4, v0, v1, v2, v3, vz0, vz1, vz2, vz3, hbw1, hS40, hS0'⟩; have hS' := And.intro hS0'.1 (And.intro hS0'.2.1 (And.intro hS0'.2.2.1 (And.intro hS0'.2.2.2 hcv2))); have hS4 := And.intro hS40.1 (And.intro hS40.2.1 (And.intro hS40.2.2.1 (And.intro hS40.2.2.2 hcv3))); clear hS0' hS40)
                    refine hK.out _ _ ?_ (fun hHeld => ?_)
                    · ((try dsimp only); first | with_reducible assumption | with_reducible exact hS4)
                    · clear hK K
                      try simp only [List.getElem_toArray, List.getElem_cons_succ, List.getElem_cons_zero, Act.put, List.setIfInBounds_toArray, List.set_cons_zero, List.set_cons_succ]
                      refine wpAnyH_ready (rs := [10, 18]) (by kernel_rfl) (by simp) ?_
                      refine AllReadyH.cons (o := _) rfl (fun K hK => ?_) ?_
                      · go_simp
                        refine hK.out _ _ ?_ (fun hHeld => ?_)
                        · ((try dsimp only); first | with_reducible assumption | with_reducible exact hS4)
                        · clear hK K
                          try simp only [List.getElem_toArray, List.getElem_cons_succ, List.getElem_cons_zero, Act.put, List.setIfInBounds_toArray, List.set_cons_zero, List.set_cons_succ]
                          refine wpAnyH_take (i := 16) (oi := _) (v := ?_) rfl (by kernel_rfl) (by kernel_rfl) (by kernel_rfl) (fun _ _ _ h => h) (Or.inl ⟨by rfl, ?_⟩) (by assumption) ?_
                          rotate_left
                          focus
                            intro w hSw
                            try dsimp only at hSw
                            go_simp
                            try with_reducible rfl
                          try simp only [List.getElem_toArray, List.getElem_cons_succ, List.getElem_cons_zero, Act.put, List.setIfInBounds_toArray, List.set_cons_zero, List.set_cons_succ]
                          refine wpAnyH_take (i := 17) (oi := _) (v := ?_) rfl (by kernel_rfl) (by kernel_rfl) (by kernel_rfl) (fun _ _ _ h => h) (Or.inl ⟨by rfl, ?_⟩) (by assumption) ?_
                          rotate_left
                          focus
                            intro w hSw
                            try dsimp only at hSw
                            go_simp
                            try with_reducible rfl
                          try simp only [List.getElem_toArray, List.getElem_cons_succ, List.getElem_cons_zero, Act.put, List.setIfInBounds_toArray, List.set_cons_zero, List.set_cons_succ]
                          refine wpAnyH_ready (rs := [18]) (by kernel_rfl) (by simp) ?_
                          refine AllReadyH.cons (o := _) rfl (fun K hK => ?_) ?_
                          · go_simp
                            refine hK.out _ _ ?_ (fun hHeld => ?_)
                            · ((try dsimp only); first | with_reducible assumption | with_reducible exact hS4)
                            · clear hK K
                              try simp only [List.getElem_toArray, List.getElem_cons_succ, List.getElem_cons_zero, Act.put, List.setIfInBounds_toArray, List.set_cons_zero, List.set_cons_succ]
                              refine wpAnyH_take (i := 19) (oi := _) (v := ?_) rfl (by kernel_rfl) (by kernel_rfl) (by kernel_rfl) (fun _ _ _ h => h) (Or.inl ⟨by rfl, ?_⟩) (by assumption) ?_
                              rotate_left
                              focus
                                intro w hSw
                                try dsimp only at hSw
                                go_simp
                                try with_reducible rfl
                              try simp only [List.getElem_toArray, List.getElem_cons_succ, List.getElem_cons_zero, Act.put, List.setIfInBounds_toArray, List.set_cons_zero, List.set_cons_succ]
                              refine wpAnyH_take (i := 20) (oi := _) (v := ?_) rfl (by kernel_rfl) (by kernel_rfl) (by kernel_rfl) (fun _ _ _ h => h) (Or.inl ⟨by rfl, ?_⟩) (by assumption) ?_
                              rotate_left
                              focus
                                intro w hSw
                                try dsimp only at hSw
                                go_simp
                                try with_reducible rfl
                              try simp only [List.getElem_toArray, List.getElem_cons_succ, List.getElem_cons_zero, Act.put, List.setIfInBounds_toArray, List.set_cons_zero, List.set_cons_succ]
                              refine wpAnyH_done (by kernel_rfl) ?_ _
                              refine NoPanic.normal ?_
                              go_wp2
                              refine bodyPost_ret (v := .tuple #[.agg #[.int .i64 2, .int .i64 k, .int .i64 q, .slice none 0 0], .int .i64 ((k : Int) + (m : Int)), .bool (dd == nm)]) (by simp [results, Try.results42, go_sem, v0, v1, v2, v3]) rfl ?_
                              refine ⟨2, q, none, 0, 0, [], (k : Int) + m, by rw [Hto2.out, Hfin.out]; rfl, TxS.nil _ _ _ _, (((hbw1.setCell (by simp) _).setCell (by simp) _).setCell (by simp) _).setCell (by simp) _, fun ht => ?_⟩
                              rw [Hto2.out] at ht ⊢
                              dsimp only at ht ⊢
                              exact ⟨by unfold placed; rw [if_pos ht], by omega⟩
                          exact AllReadyH.nil
                      refine AllReadyH.cons (o := _) rfl (fun K hK => ?_) ?_
                      · go_simp
                        refine hK.out _ _ ?_ (fun hHeld => ?_)
                        · ((try dsimp only); first | with_reducible assumption | with_reducible exact hS4)
                        · clear hK K
                          try simp only [List.getElem_toArray, List.getElem_cons_succ, List.getElem_cons_zero, Act.put, List.setIfInBounds_toArray, List.set_cons_zero, List.set_cons_succ]
                          refine wpAnyH_take (i := 19) (oi := _) (v := ?_) rfl (by kernel_rfl) (by kernel_rfl) (by kernel_rfl) (fun _ _ _ h => h) (Or.inl ⟨by rfl, ?_⟩) (by assumption) ?_
                          rotate_left
                          focus
                            intro w hSw
                            try dsimp only at hSw
                            go_simp
                            try with_reducible rfl
                          try simp only [List.getElem_toArray, List.getElem_cons_succ, List.getElem_cons_zero, Act.put, List.setIfInBounds_toArray, List.set_cons_zero, List.set_cons_succ]
                          refine wpAnyH_ready (rs := [10]) (by kernel_rfl) (by simp) ?_
                          refine AllReadyH.cons (o := _) rfl (fun K hK => ?_) ?_
                          · go_simp
                            refine hK.out _ _ ?_ (fun hHeld => ?_)
                            · ((try dsimp only); first | with_reducible assumption | with_reducible exact hS4)
                            · clear hK K
                              try simp only [List.getElem_toArray, List.getElem_cons_succ, List.getElem_cons_zero, Act.put, List.setIfInBounds_toArray, List.set_cons_zero, List.set_cons_succ]
                              refine wpAnyH_take (i := 16) (oi := _) (v := ?_) rfl (by kernel_rfl) (by kernel_rfl) (by kernel_rfl) (fun _ _ _ h => h) (Or.inl ⟨by rfl, ?_⟩) (by assumption) ?_
                              rotate_left
                              focus
                                intro w hSw
                                try dsimp only at hSw
                                go_simp
                                try with_reducible rfl
                              try simp only [List.getElem_toArray, List.getElem_cons_succ, List.getElem_cons_zero, Act.put, List.setIfInBounds_toArray, List.set_cons_zero, List.set_cons_succ]
                              refine wpAnyH_take (i := 17) (oi := _) (v := ?_) rfl (by kernel_rfl) (by kernel_rfl) (by kernel_rfl) (fun _ _ _ h => h) (Or.inl ⟨by rfl, ?_⟩) (by assumption) ?_
                              rotate_left
                              focus
                                intro w hSw
                                try dsimp only at hSw
                                go_simp
                                try with_reducible rfl
                              try simp only [List.getElem_toArray, List.getElem_cons_succ, List.getElem_cons_zero, Act.put, List.setIfInBounds_toArray, List.set_cons_zero, List.set_cons_succ]
                              refine wpAnyH_take (i := 20) (oi := _) (v := ?_) rfl (by kernel_rfl) (by kernel_rfl) (by kernel_rfl) (fun _ _ _ h => h) (Or.inl ⟨by rfl, ?_⟩) (by assumption) ?_
                              rotate_left
                              focus
                                intro w hSw
                                try dsimp only at hSw
                                go_simp
                                try with_reducible rfl
                              try simp only [List.getElem_toArray, List.getElem_cons_succ, List.getElem_cons_zero, Act.put, List.setIfInBounds_toArray, List.set_cons_zero, List.set_cons_succ]
                              refine wpAnyH_done (by kernel_rfl) ?_ _
                              refine NoPanic.normal ?_
                              go_wp2
                              refine bodyPost_ret (v := .tuple #[.agg #[.int .i64 2, .int .i64 k, .int .i64 q, .slice none 0 0], .int .i64 ((k : Int) + (m : Int)), .bool (dd == nm)]) (by simp [results, Try.results42, go_sem, v0, v1, v2, v3]) rfl ?_
                              refine ⟨2, q, none, 0, 0, [], (k : Int) + m, by rw [Hto2.out, Hfin.out]; rfl, TxS.nil _ _ _ _, (((hbw1.setCell (by simp) _).setCell (by simp) _).setCell (by simp) _).setCell (by simp) _, fun ht => ?_⟩
                              rw [Hto2.out] at ht ⊢
                              dsimp only at ht ⊢
                              exact ⟨by unfold placed; rw [if_pos ht], by omega⟩
                          exact AllReadyH.nil
                      exact AllReadyH.nil
                  exact AllReadyH.nil
              exact AllReadyH.nil
    · have hkj : ¬ (k : Int) + (j : Int) < b.length := by omega
      have Hrun : Hid (run digit s = j ∨ (j = 8 ∧ 8 ≤ run digit s)) := Lib.hid (.inl (run_to_end hall.out hjs (by omega)))
      have hnb := fun m hm => num_take_bound hj8 hall.out m hm
      have Hnb := Lib.hid hnb
      clear hnb
      go_wp2_with (fail)
      go_loopw [9] (fun i wr => ∃ (m : Nat), m ≤ j ∧ i = .int .i64 ((k + m : Nat) : Int) ∧ Blk wr w.heap.size 78 #[.int .i64 0, .int .i64 0, .int .i64 0, .slice none 0 0] ∧ Blk wr (w.heap.size + 1) 78 #[.int .i64 2, .int .i64 k, .int .i64 (numOf (s.take m) : Nat), .slice none 0 0] ∧ Below w.heap.size w wr) (fun i _ => k + j - (intOf i).toNat)
      case atStart =>
        refine ⟨0, Nat.zero_le _, by go_num, (Blk.new w _ _).alloc _, ?_, hb2 _ _⟩
        have := Blk.new (w.alloc (.cells #[.int .i64 0, .int .i64 0, .int .i64 0, .slice none 0 0] 78)) 78 #[.int .i64 2, .int .i64 k, .int .i64 0, .slice none 0 0]
        rw [World.size_alloc] at this
        exact this
      case round =>
        obtain ⟨m, hm, rfl, KX, KY, hbl⟩ := hrel
        have y2 := KY.cell_of 2 (v := .int .i64 (numOf (s.take m) : Nat)) rfl
        have yz2 := KY.frozen 2
        by_cases hmj : m < j
        · have hms : m < s.length := by omega
          have hkm : k + m < b.length := by omega
          obtain ⟨ad, e, _, hcm⟩ := (h.below (hbl.mono hB)).at_ hkm
          injection e with e
          subst e
          rw [← Hsg.out m hms hkm] at hcm
          have hdm : digit s[m] = true := by
            have h1 := hall.out
            rw [List.all_eq_true] at h1
            refine h1 _ ?_
            have h2 : m < (s.take j).length := by rw [List.length_take]; omega
            have h3 : (s.take j)[m] = s[m] := List.getElem_take
            rw [← h3]
            exact List.getElem_mem h2
          have hdig := digit_yes hdm
          have hst := numOf_step hms
          have hbd := Hnb.out m hm
          obtain ⟨q, hq⟩ : ∃ q, numOf (s.take m) = q := ⟨_, rfl⟩
          obtain ⟨x, hx⟩ : ∃ x : Nat, s[m].toNat = x := ⟨_, rfl⟩
          rw [hq] at hst hbd y2
          rw [hx] at hst hdig hcm
          have Hst := Lib.hid hst
          have HKX := Lib.hid KX
          have HKY := Lib.hid KY
          have Hbl := Lib.hid hbl
          clear hst hq hx hdm KX KY hbl
          go_wp2_with fail
          go_region
          all_goals
            go_wp2
            go_roundw
            case rel =>
              refine ⟨m + 1, by omega, by go_num, HKX.out.far (p := ⟨w.heap.size + 1, 2, none⟩) (by simp) _, ?_, (Hbl.out.setCell (p := ⟨w.heap.size + 1, 2, none⟩) (by simp) _).drew⟩
              rw [Hst.out, show ((q * 10 + (x - 48) : Nat) : Int) = 10 * (q : Int) + ((x : Int) - 48) by omega]
              exact HKY.out.set_ 2 _
            case measure => simp [intOf]; omega
        · have hmj' : m = j := by omega
          subst hmj'
          have hwr := hbl.size
          have hK1 := KX.lt
          have hK2 := KY.lt
          have hlen : (s.take m).length = m := by rw [List.length_take]; omega
          have hkc1 : k < cp := by omega
          have hkc5 : ¬ cp = k := by omega
          have hkc2 : k + m ≤ cp := by omega
          have hkc3 : (k : Int) + (m : Int) ≤ cp := by omega
          have hkc4 : (k : Int) ≤ (k : Int) + (m : Int) := by omega
          have Hlen := Lib.hid hlen
          have y0 := KY.cell_of 0 (v := .int .i64 2) rfl
          have y1 := KY.cell_of 1 (v := .int .i64 k) rfl
          have y3 := KY.cell_of 3 (v := .slice none 0 0) rfl
          have x0 := KX.cell_of 0 (v := .int .i64 0) rfl
          have x1 := KX.cell_of 1 (v := .int .i64 0) rfl
          have x2 := KX.cell_of 2 (v := .int .i64 0) rfl
          have x3 := KX.cell_of 3 (v := .slice none 0 0) rfl
          have xz0 := KX.frozen 0
          have xz1 := KX.frozen 1
          have xz2 := KX.frozen 2
          have xz3 := KX.frozen 3
          have hbd := Hnb.out m (Nat.le_refl _)
          by_cases h7 : 6 < m
          · have hf : (tokOne s).2.2 = false := by
              rw [Hto.out]
              exact fits_seven (j := m) (by omega) (by rcases Hrun.out with h1 | ⟨_, h1⟩ <;> omega)
            have Hf := Lib.hid hf
            obtain ⟨q, hq⟩ : ∃ q, numOf (s.take m) = q := ⟨_, rfl⟩
            rw [hq] at y2 hbd
            have Hbl := Lib.hid hbl
            have h7' : ¬ ((m : Int) ≤ 6) := by omega
            clear hf hq hlen hbl KX KY yz2
            have hsub : IntKind.i64.wrap ((k : Int) + (m : Int) - (k : Int)) = (m : Int) := by rw [show (k : Int) + (m : Int) - (k : Int) = m by omega]; exact IntWalk.i64_in _ (by omega)
            have hdec : decide ((m : Int) ≤ 6) = false := decide_eq_false h7'
            go_wp2_with fail
            go_big_region
            all_goals
              go_wp2
              refine bodyPost_ret (v := .tuple #[.agg #[.int .i64 2, .int .i64 k, .int .i64 q, .slice none 0 0], .int .i64 ((k : Int) + (m : Int)), .bool false]) (by simp [results, Try.results42, go_sem, x0, x1, x2, x3]) rfl ?_
              refine ⟨2, q, none, 0, 0, [], (k : Int) + m, by rw [Hf.out]; rfl, TxS.nil _ _ _ _, ?_, fun ht => by rw [Hf.out] at ht; cases ht⟩
              exact ((((Hbl.out.setCell (by simp) _).setCell (by simp) _).setCell (by simp) _).setCell (by simp) _).drew
          · have hrun : run digit s = m := by rcases Hrun.out with h1 | ⟨h1, _⟩ <;> omega
            have hto2 := Hto.out
            rw [hrun] at hto2
            have hall' := hall.out
            have hm6 := fits_six (by omega) hjs hrun
            rw [hrun] at hm6
            have hiff := dec_iff (l := s.take m) (by omega) hall'
            have hRm : RB wr B (some (a.add k)) (s.take m) := (hR.below (hbl.mono hB)).take2 m
            obtain ⟨q, hq⟩ : ∃ q, numOf (s.take m) = q := ⟨_, rfl⟩
            rw [hq] at y2 hbd hto2 hiff
            obtain ⟨nm, hnm⟩ : ∃ nm, s.take m = nm := ⟨_, rfl⟩
            rw [hnm] at hto2 hm6 hiff hRm hlen
            have hcv := fun d => run_convert_RB (P := Try.prog) (hRm.drewN d) 22 5 9 (cp - k) Try.underlying22 Try.underlying5 Try.underlying9
            have hmk : m = ((k : Int) + (m : Int)).toNat - k := by omega
            rw [hlen, hmk] at hcv
            have hcd := fun d => l1digits_c (q + 1) q (wr.drewN d) (by omega) (by omega)
            obtain ⟨dd, hdd⟩ : ∃ dd, Lib.decDigits q = dd := ⟨_, rfl⟩
            rw [hdd] at hcd hiff
            have hKX := KX
            have hKY := KY
            have hcd2 : ∀ d, Calls Try.prog 68 #[.int .i64 (q : Nat)] (wr.drewN d) fun e w1 => ∃ A3 c3, e = .returned (.slice A3 dd.length c3) ∧
                (Go.convert 22 9 (Value.slice A3 dd.length c3)).run Try.prog w1 = .ok (.string ⟨dd.toArray⟩) w1 ∧ (Go.convert 22 9 (Value.slice (some (a.add k)) (((k : Int) + (m : Int)).toNat - k) (cp - k))).run Try.prog w1 = .ok (.string ⟨nm.toArray⟩) w1 ∧
                (Go.convert 22 9 (Value.slice (some (a.add k)) (((k : Int) + (m : Int)).toNat - k) (cp - k))).run Try.prog ((((w1.setCell ⟨w.heap.size, 0, none⟩ (.int .i64 2)).setCell ⟨w.heap.size, 1, none⟩ (.int .i64 k)).setCell ⟨w.heap.size, 2, none⟩ (.int .i64 (q : Nat))).setCell ⟨w.heap.size, 3, none⟩ (.slice none 0 0)) = .ok (.string ⟨nm.toArray⟩) ((((w1.setCell ⟨w.heap.size, 0, none⟩ (.int .i64 2)).setCell ⟨w.heap.size, 1, none⟩ (.int .i64 k)).setCell ⟨w.heap.size, 2, none⟩ (.int .i64 (q : Nat))).setCell ⟨w.heap.size, 3, none⟩ (.slice none 0 0)) ∧
                (Go.convert 22 9 (Value.slice A3 dd.length c3)).run Try.prog ((((w1.setCell ⟨w.heap.size, 0, none⟩ (.int .i64 2)).setCell ⟨w.heap.size, 1, none⟩ (.int .i64 k)).setCell ⟨w.heap.size, 2, none⟩ (.int .i64 (q : Nat))).setCell ⟨w.heap.size, 3, none⟩ (.slice none 0 0)) = .ok (.string ⟨dd.toArray⟩) ((((w1.setCell ⟨w.heap.size, 0, none⟩ (.int .i64 2)).setCell ⟨w.heap.size, 1, none⟩ (.int .i64 k)).setCell ⟨w.heap.size, 2, none⟩ (.int .i64 (q : Nat))).setCell ⟨w.heap.size, 3, none⟩ (.slice none 0 0)) ∧
                w1.cell? ⟨w.heap.size, 0, none⟩ = some (.int .i64 0) ∧ w1.cell? ⟨w.heap.size, 1, none⟩ = some (.int .i64 0) ∧ w1.cell? ⟨w.heap.size, 2, none⟩ = some (.int .i64 0) ∧ w1.cell? ⟨w.heap.size, 3, none⟩ = some (.slice none 0 0) ∧
                w1.frozen? ⟨w.heap.size, 0, none⟩ = false ∧ w1.frozen? ⟨w.heap.size, 1, none⟩ = false ∧ w1.frozen? ⟨w.heap.size, 2, none⟩ = false ∧ w1.frozen? ⟨w.heap.size, 3, none⟩ = false ∧ Below w.heap.size w w1 ∧ (((((w1.setCell ⟨w.heap.size, 0, none⟩ (.int .i64 2)).setCell ⟨w.heap.size, 1, none⟩ (.int .i64 k)).setCell ⟨w.heap.size, 2, none⟩ (.int .i64 (q : Nat))).setCell ⟨w.heap.size, 3, none⟩ (.slice none 0 0)).cell? ⟨w.heap.size + 1, 0, none⟩ = some (.int .i64 2) ∧ ((((w1.setCell ⟨w.heap.size, 0, none⟩ (.int .i64 2)).setCell ⟨w.heap.size, 1, none⟩ (.int .i64 k)).setCell ⟨w.heap.size, 2, none⟩ (.int .i64 (q : Nat))).setCell ⟨w.heap.size, 3, none⟩ (.slice none 0 0)).cell? ⟨w.heap.size + 1, 1, none⟩ = some (.int .i64 k) ∧ ((((w1.setCell ⟨w.heap.size, 0, none⟩ (.int .i64 2)).setCell ⟨w.heap.size, 1, none⟩ (.int .i64 k)).setCell ⟨w.heap.size, 2, none⟩ (.int .i64 (q : Nat))).setCell ⟨w.heap.size, 3, none⟩ (.slice none 0 0)).cell? ⟨w.heap.size + 1, 2, none⟩ = some (.int .i64 (q : Nat)) ∧ ((((w1.setCell ⟨w.heap.size, 0, none⟩ (.int .i64 2)).setCell ⟨w.heap.size, 1, none⟩ (.int .i64 k)).setCell ⟨w.heap.size, 2, none⟩ (.int .i64 (q : Nat))).setCell ⟨w.heap.size, 3, none⟩ (.slice none 0 0)).cell? ⟨w.heap.size + 1, 3, none⟩ = some (.slice none 0 0)) ∧
                (w1.cell? ⟨w.heap.size + 1, 0, none⟩ = some (.int .i64 2) ∧ w1.cell? ⟨w.heap.size + 1, 1, none⟩ = some (.int .i64 k) ∧ w1.cell? ⟨w.heap.size + 1, 2, none⟩ = some (.int .i64 (q : Nat)) ∧ w1.cell? ⟨w.heap.size + 1, 3, none⟩ = some (.slice none 0 0)) := fun d => by
              refine (hcd d).mono ?_
              rintro e w1 ⟨v1, rfl, hO1, hb1⟩
              obtain ⟨A3, c3, rfl, hRd⟩ := hO1.form
              have hO4 : OwnB ((((w1.setCell ⟨w.heap.size, 0, none⟩ (.int .i64 2)).setCell ⟨w.heap.size, 1, none⟩ (.int .i64 k)).setCell ⟨w.heap.size, 2, none⟩ (.int .i64 (q : Nat))).setCell ⟨w.heap.size, 3, none⟩ (.slice none 0 0)) (wr.drewN d).heap.size (.slice A3 dd.length c3) dd := own_keepS hO1 (fun g hg => by
                have hgb := (OwnB.block hO1 hg).1
                have hgn : w.heap.size < g := by have h9 : (wr.drewN d).heap.size = wr.heap.size := rfl; omega
                exact (Below.heap_setCell _ ⟨w.heap.size, 3, none⟩ _ g (by simp; omega)).trans ((Below.heap_setCell _ ⟨w.heap.size, 2, none⟩ _ g (by simp; omega)).trans ((Below.heap_setCell _ ⟨w.heap.size, 1, none⟩ _ g (by simp; omega)).trans (Below.heap_setCell _ ⟨w.heap.size, 0, none⟩ _ g (by simp; omega)))))
              obtain ⟨A4, c4, e4, hR4⟩ := hO4.form
              injection e4 with e41 e42 e43
              subst e41
              subst e43
              have hcv4 := run_convert_RB (P := Try.prog) hR4 22 5 9 c3 Try.underlying22 Try.underlying5 Try.underlying9
              have hcv2 := run_convert_RB (P := Try.prog) ((hRm.drewN d).below (hb1.mono (by simp; omega))) 22 5 9 (cp - k) Try.underlying22 Try.underlying5 Try.underlying9
              have hcv3 := run_convert_RB (P := Try.prog) (((hRm.drewN d).below (hb1.mono (by simp; omega))).below ((((Below.refl B w1).setCell (p := ⟨w.heap.size, 0, none⟩) hB (.int .i64 2)).setCell (p := ⟨w.heap.size, 1, none⟩) hB (.int .i64 k)).setCell (p := ⟨w.heap.size, 2, none⟩) hB (.int .i64 (q : Nat)) |>.setCell (p := ⟨w.heap.size, 3, none⟩) hB (.slice none 0 0))) 22 5 9 (cp - k) Try.underlying22 Try.underlying5 Try.underlying9
              rw [hlen, hmk] at hcv2 hcv3
              have wX1 := (show Blk (wr.drewN d) w.heap.size 78 _ from hKX).below hb1 hKX.lt
              have wY1 := (show Blk (wr.drewN d) (w.heap.size + 1) 78 _ from hKY).below hb1 hKY.lt
              rw [hq] at wY1
              have wY4 := (((wY1.far (p := ⟨w.heap.size, 0, none⟩) (by simp) (.int .i64 2)).far (p := ⟨w.heap.size, 1, none⟩) (by simp) (.int .i64 k)).far (p := ⟨w.heap.size, 2, none⟩) (by simp) (.int .i64 (q : Nat))).far (p := ⟨w.heap.size, 3, none⟩) (by simp) (.slice none 0 0)
              exact ⟨A3, c3, rfl, run_convert_RB (P := Try.prog) hRd 22 5 9 c3 Try.underlying22 Try.underlying5 Try.underlying9, hcv2, hcv3, hcv4, wX1.cell_of 0 rfl, wX1.cell_of 1 rfl, wX1.cell_of 2 rfl, wX1.cell_of 3 rfl, wX1.frozen 0, wX1.frozen 1, wX1.frozen 2, wX1.frozen 3,
                (below_drewN hbl d).trans (hb1.mono (by simp; omega)), ⟨wY4.cell_of 0 rfl, wY4.cell_of 1 rfl, wY4.cell_of 2 rfl, wY4.cell_of 3 rfl⟩, wY1.cell_of 0 rfl, wY1.cell_of 1 rfl, wY1.cell_of 2 rfl, wY1.cell_of 3 rfl⟩
            have hcvD : (Go.convert 22 9 (Value.slice (some (a.add k)) (((k : Int) + (m : Int)).toNat - k) (cp - k))).run Try.prog wr.drew = .ok (.string ⟨nm.toArray⟩) wr.drew := hcv 1
            have hfin : (dd == nm) = fits nm := by
              rw [hm6, Bool.eq_iff_iff, beq_iff_eq, hiff]
              cases lead nm <;> simp
            have Hfin := Lib.hid hfin
            clear hfin
            have Hcd := Lib.hid hcd2
            have Hto2 := Lib.hid hto2
            have Hm6 := Lib.hid hm6
            have Hiff := Lib.hid hiff
            have h7' : ((m : Int) ≤ 6) := by omega
            have hsub : IntKind.i64.wrap ((k : Int) + (m : Int) - (k : Int)) = (m : Int) := by rw [show (k : Int) + (m : Int) - (k : Int) = m by omega]; exact IntWalk.i64_in _ (by omega)
            have hdec : decide ((m : Int) ≤ 6) = true := decide_eq_true h7'
            clear hmk hto2 hm6 hiff hRm hq hnm hdd hcd hcd2 hlen hbl KX KY hKX hKY yz2 hall'
            go_wp2_with fail
            refine wp_region_noPanic ?_
            refine wp_region_held_drew (S := (fun W => (W.cell? ⟨w.heap.size + 1, 0, none⟩ = some (.int .i64 2) ∧ W.cell? ⟨w.heap.size + 1, 1, none⟩ = some (.int .i64 k) ∧ W.cell? ⟨w.heap.size + 1, 2, none⟩ = some (.int .i64 (q : Nat)) ∧ W.cell? ⟨w.heap.size + 1, 3, none⟩ = some (.slice none 0 0) ∧ (Go.convert 22 9 (Value.slice (some (a.add k)) (((k : Int) + (m : Int)).toNat - k) (cp - k))).run Try.prog W = .ok (.string ⟨nm.toArray⟩) W))) (by kernel_rfl) ?_ (fun hHeld => ?_)
            · exact ⟨y0, y1, y2, y3, hcvD⟩
            refine wpAnyH_take (i := 0) (oi := _) (v := ?_) rfl (by kernel_rfl) (by kernel_rfl) (by kernel_rfl) (fun _ _ _ h => h) (Or.inl ⟨by rfl, ?_⟩) (by assumption) ?_
            rotate_left
            focus
              intro w hSw
              try dsimp only at hSw
              go_simp
              try with_reducible rfl
            try simp only [List.getElem_toArray, List.getElem_cons_succ, List.getElem_cons_zero, Act.put, List.setIfInBounds_toArray, List.set_cons_zero, List.set_cons_succ]
            refine wpAnyH_take (i := 1) (oi := _) (v := ?_) rfl (by kernel_rfl) (by kernel_rfl) (by kernel_rfl) (fun _ _ _ h => h) (Or.inl ⟨by rfl, ?_⟩) (by assumption) ?_
            rotate_left
            focus
              intro w hSw
              try dsimp only at hSw
              go_simp
              try with_reducible rfl
            try simp only [List.getElem_toArray, List.getElem_cons_succ, List.getElem_cons_zero, Act.put, List.setIfInBounds_toArray, List.set_cons_zero, List.set_cons_succ]
            refine wpAnyH_take (i := 2) (oi := _) (v := ?_) rfl (by kernel_rfl) (by kernel_rfl) (by kernel_rfl) (fun _ _ _ h => h) (Or.inl ⟨by rfl, ?_⟩) (by assumption) ?_
            rotate_left
            focus
              intro w hSw
              try dsimp only at hSw
              go_simp
              try with_reducible rfl
            try simp only [List.getElem_toArray, List.getElem_cons_succ, List.getElem_cons_zero, Act.put, List.setIfInBounds_toArray, List.set_cons_zero, List.set_cons_succ]
            refine wpAnyH_take (i := 3) (oi := _) (v := ?_) rfl (by kernel_rfl) (by kernel_rfl) (by kernel_rfl) (fun _ _ _ h => h) (Or.inl ⟨by rfl, ?_⟩) (by assumption) ?_
            rotate_left
            focus
              intro w hSw
              try dsimp only at hSw
              go_simp
              try with_reducible rfl
            try simp only [List.getElem_toArray, List.getElem_cons_succ, List.getElem_cons_zero, Act.put, List.setIfInBounds_toArray, List.set_cons_zero, List.set_cons_succ]
            refine wpAnyH_take (i := 4) (oi := _) (v := ?_) rfl (by kernel_rfl) (by kernel_rfl) (by kernel_rfl) (fun _ _ _ h => h) (Or.inl ⟨by rfl, ?_⟩) (by assumption) ?_
            rotate_left
            focus
              intro w hSw
              try dsimp only at hSw
              go_simp
              try with_reducible rfl
            try simp only [List.getElem_toArray, List.getElem_cons_succ, List.getElem_cons_zero, Act.put, List.setIfInBounds_toArray, List.set_cons_zero, List.set_cons_succ]
            refine wpAnyH_take (i := 5) (oi := _) (v := ?_) rfl (by kernel_rfl) (by kernel_rfl) (by kernel_rfl) (fun _ _ _ h => h) (Or.inl ⟨by rfl, ?_⟩) (by assumption) ?_
            rotate_left
            focus
              intro w hSw
              try dsimp only at hSw
              go_simp
              try with_reducible rfl
            try simp only [List.getElem_toArray, List.getElem_cons_succ, List.getElem_cons_zero, Act.put, List.setIfInBounds_toArray, List.set_cons_zero, List.set_cons_succ]
            refine wpAnyH_take (i := 6) (oi := _) (v := ?_) rfl (by kernel_rfl) (by kernel_rfl) (by kernel_rfl) (fun _ _ _ h => h) (Or.inl ⟨by rfl, ?_⟩) (by assumption) ?_
            rotate_left
            focus
              intro w hSw
              try dsimp only at hSw
              go_simp
              try with_reducible rfl
            try simp only [List.getElem_toArray, List.getElem_cons_succ, List.getElem_cons_zero, Act.put, List.setIfInBounds_toArray, List.set_cons_zero, List.set_cons_succ]
            refine wpAnyH_take (i := 7) (oi := _) (v := ?_) rfl (by kernel_rfl) (by kernel_rfl) (by kernel_rfl) (fun _ _ _ h => h) (Or.inl ⟨by rfl, ?_⟩) (by assumption) ?_
            rotate_left
            focus
              intro w hSw
              try dsimp only at hSw
              go_simp
              try with_reducible rfl
            try simp only [List.getElem_toArray, List.getElem_cons_succ, List.getElem_cons_zero, Act.put, List.setIfInBounds_toArray, List.set_cons_zero, List.set_cons_succ]
            refine wpAnyH_take (i := 8) (oi := _) (v := ?_) rfl (by kernel_rfl) (by kernel_rfl) (by kernel_rfl) (fun _ _ _ h => h) (Or.inl ⟨by rfl, ?_⟩) (by assumption) ?_
            rotate_left
            focus
              intro w hSw
              try dsimp only at hSw
              go_simp
              try with_reducible rfl
            try simp only [List.getElem_toArray, List.getElem_cons_succ, List.getElem_cons_zero, Act.put, List.setIfInBounds_toArray, List.set_cons_zero, List.set_cons_succ]
            refine wpAnyH_take (i := 11) (oi := _) (v := ?_) rfl (by kernel_rfl) (by kernel_rfl) (by kernel_rfl) (fun _ _ _ h => h) (Or.inl ⟨by rfl, ?_⟩) (by assumption) ?_
            rotate_left
            focus
              intro w hSw
              try dsimp only at hSw
              go_simp
              try with_reducible rfl
            try simp only [List.getElem_toArray, List.getElem_cons_succ, List.getElem_cons_zero, Act.put, List.setIfInBounds_toArray, List.set_cons_zero, List.set_cons_succ]
            refine wpAnyH_take (i := 12) (oi := _) (v := ?_) rfl (by kernel_rfl) (by kernel_rfl) (by kernel_rfl) (fun _ _ _ h => h) (Or.inl ⟨by rfl, ?_⟩) (by assumption) ?_
            rotate_left
            focus
              intro w hSw
              try dsimp only at hSw
              go_simp
              try with_reducible rfl
            try simp only [List.getElem_toArray, List.getElem_cons_succ, List.getElem_cons_zero, Act.put, List.setIfInBounds_toArray, List.set_cons_zero, List.set_cons_succ]
            refine wpAnyH_take (i := 13) (oi := _) (v := ?_) rfl (by kernel_rfl) (by kernel_rfl) (by kernel_rfl) (fun _ _ _ h => h) (Or.inl ⟨by rfl, ?_⟩) (by assumption) ?_
            rotate_left
            focus
              intro w hSw
              try dsimp only at hSw
              go_simp
              try with_reducible rfl
            try simp only [List.getElem_toArray, List.getElem_cons_succ, List.getElem_cons_zero, Act.put, List.setIfInBounds_toArray, List.set_cons_zero, List.set_cons_succ]
            refine wpAnyH_take (i := 14) (oi := _) (v := ?_) rfl (by kernel_rfl) (by kernel_rfl) (by kernel_rfl) (fun _ _ _ h => h) (Or.inl ⟨by rfl, ?_⟩) (by assumption) ?_
            rotate_left
            focus
              intro w hSw
              try dsimp only at hSw
              go_simp
              try with_reducible rfl
            try simp only [List.getElem_toArray, List.getElem_cons_succ, List.getElem_cons_zero, Act.put, List.setIfInBounds_toArray, List.set_cons_zero, List.set_cons_succ]
            refine wpAnyH_ready (rs := [9, 15]) (by kernel_rfl) (by simp) ?_
            refine AllReadyH.cons (o := _) rfl (fun K hK => ?_) ?_
            · go_simp
              (refine (Hcd.out 1).mono ?_; rintro e w1 ⟨A3, c3, rfl, hcv1, hcv2, hcv3, hcv4, v0, v1, v2, v3, vz0, vz1, vz2, vz3, hbw1, hS40, hS0'⟩; have hS' := And.intro hS0'.1 (And.intro hS0'.2.1 (And.intro hS0'.2.2.1 (And.intro hS0'.2.2.2 hcv2))); have hS4 := And.intro hS40.1 (And.intro hS40.2.1 (And.intro hS40.2.2.1 (And.intro hS40.2.2.2 hcv3))); clear hS0' hS40)
              refine hK.out _ _ ?_ (fun hHeld => ?_)
              · ((try dsimp only); first | with_reducible assumption | with_reducible exact hS4)
              · clear hK K
                try simp only [List.getElem_toArray, List.getElem_cons_succ, List.getElem_cons_zero, Act.put, List.setIfInBounds_toArray, List.set_cons_zero, List.set_cons_succ]
                refine wpAnyH_take (i := 15) (oi := _) (v := ?_) rfl (by kernel_rfl) (by kernel_rfl) (by kernel_rfl) (fun _ _ _ h => h) (Or.inl ⟨by rfl, ?_⟩) (by assumption) ?_
                rotate_left
                focus
                  intro w hSw
                  try dsimp only at hSw
                  go_simp
                  try with_reducible rfl
                try simp only [List.getElem_toArray, List.getElem_cons_succ, List.getElem_cons_zero, Act.put, List.setIfInBounds_toArray, List.set_cons_zero, List.set_cons_succ]
                refine wpAnyH_ready (rs := [10, 18]) (by kernel_rfl) (by simp) ?_
                refine AllReadyH.cons (o := _) rfl (fun K hK => ?_) ?_
                · go_simp
                  refine hK.out _ _ ?_ (fun hHeld => ?_)
                  · ((try dsimp only); first | with_reducible assumption | with_reducible exact hS4)
                  · clear hK K
                    try simp only [List.getElem_toArray, List.getElem_cons_succ, List.getElem_cons_zero, Act.put, List.setIfInBounds_toArray, List.set_cons_zero, List.set_cons_succ]
                    refine wpAnyH_take (i := 16) (oi := _) (v := ?_) rfl (by kernel_rfl) (by kernel_rfl) (by kernel_rfl) (fun _ _ _ h => h) (Or.inl ⟨by rfl, ?_⟩) (by assumption) ?_
                    rotate_left
                    focus
                      intro w hSw
                      try dsimp only at hSw
                      go_simp
                      try with_reducible rfl
                    try simp only [List.getElem_toArray, List.getElem_cons_succ, List.getElem_cons_zero, Act.put, List.setIfInBounds_toArray, List.set_cons_zero, List.set_cons_succ]
                    refine wpAnyH_take (i := 17) (oi := _) (v := ?_) rfl (by kernel_rfl) (by kernel_rfl) (by kernel_rfl) (fun _ _ _ h => h) (Or.inl ⟨by rfl, ?_⟩) (by assumption) ?_
                    rotate_left
                    focus
                      intro w hSw
                      try dsimp only at hSw
                      go_simp
                      try with_reducible rfl
                    try simp only [List.getElem_toArray, List.getElem_cons_succ, List.getElem_cons_zero, Act.put, List.setIfInBounds_toArray, List.set_cons_zero, List.set_cons_succ]
                    refine wpAnyH_ready (rs := [18]) (by kernel_rfl) (by simp) ?_
                    refine AllReadyH.cons (o := _) rfl (fun K hK => ?_) ?_
                    · go_simp
                      refine hK.out _ _ ?_ (fun hHeld => ?_)
                      · ((try dsimp only); first | with_reducible assumption | with_reducible exact hS4)
                      · clear hK K
                        try simp only [List.getElem_toArray, List.getElem_cons_succ, List.getElem_cons_zero, Act.put, List.setIfInBounds_toArray, List.set_cons_zero, List.set_cons_succ]
                        refine wpAnyH_take (i := 19) (oi := _) (v := ?_) rfl (by kernel_rfl) (by kernel_rfl) (by kernel_rfl) (fun _ _ _ h => h) (Or.inl ⟨by rfl, ?_⟩) (by assumption) ?_
                        rotate_left
                        focus
                          intro w hSw
                          try dsimp only at hSw
                          go_simp
                          try with_reducible rfl
                        try simp only [List.getElem_toArray, List.getElem_cons_succ, List.getElem_cons_zero, Act.put, List.setIfInBounds_toArray, List.set_cons_zero, List.set_cons_succ]
                        refine wpAnyH_take (i := 20) (oi := _) (v := ?_) rfl (by kernel_rfl) (by kernel_rfl) (by kernel_rfl) (fun _ _ _ h => h) (Or.inl ⟨by rfl, ?_⟩) (by assumption) ?_
                        rotate_left
                        focus
                          intro w hSw
                          try dsimp only at hSw
                          go_simp
                          try with_reducible rfl
                        try simp only [List.getElem_toArray, List.getElem_cons_succ, List.getElem_cons_zero, Act.put, List.setIfInBounds_toArray, List.set_cons_zero, List.set_cons_succ]
                        refine wpAnyH_done (by kernel_rfl) ?_ _
                        refine NoPanic.normal ?_
                        go_wp2
                        refine bodyPost_ret (v := .tuple #[.agg #[.int .i64 2, .int .i64 k, .int .i64 q, .slice none 0 0], .int .i64 ((k : Int) + (m : Int)), .bool (dd == nm)]) (by simp [results, Try.results42, go_sem, v0, v1, v2, v3]) rfl ?_
                        refine ⟨2, q, none, 0, 0, [], (k : Int) + m, by rw [Hto2.out, Hfin.out]; rfl, TxS.nil _ _ _ _, (((hbw1.setCell (by simp) _).setCell (by simp) _).setCell (by simp) _).setCell (by simp) _, fun ht => ?_⟩
                        rw [Hto2.out] at ht ⊢
                        dsimp only at ht ⊢
                        exact ⟨by unfold placed; rw [if_pos ht], by omega⟩
                    exact AllReadyH.nil
                refine AllReadyH.cons (o := _) rfl (fun K hK => ?_) ?_
                · go_simp
                  refine hK.out _ _ ?_ (fun hHeld => ?_)
                  · ((try dsimp only); first | with_reducible assumption | with_reducible exact hS4)
                  · clear hK K
                    try simp only [List.getElem_toArray, List.getElem_cons_succ, List.getElem_cons_zero, Act.put, List.setIfInBounds_toArray, List.set_cons_zero, List.set_cons_succ]
                    refine wpAnyH_take (i := 19) (oi := _) (v := ?_) rfl (by kernel_rfl) (by kernel_rfl) (by kernel_rfl) (fun _ _ _ h => h) (Or.inl ⟨by rfl, ?_⟩) (by assumption) ?_
                    rotate_left
                    focus
                      intro w hSw
                      try dsimp only at hSw
                      go_simp
                      try with_reducible rfl
                    try simp only [List.getElem_toArray, List.getElem_cons_succ, List.getElem_cons_zero, Act.put, List.setIfInBounds_toArray, List.set_cons_zero, List.set_cons_succ]
                    refine wpAnyH_ready (rs := [10]) (by kernel_rfl) (by simp) ?_
                    refine AllReadyH.cons (o := _) rfl (fun K hK => ?_) ?_
                    · go_simp
                      refine hK.out _ _ ?_ (fun hHeld => ?_)
                      · ((try dsimp only); first | with_reducible assumption | with_reducible exact hS4)
                      · clear hK K
                        try simp only [List.getElem_toArray, List.getElem_cons_succ, List.getElem_cons_zero, Act.put, List.setIfInBounds_toArray, List.set_cons_zero, List.set_cons_succ]
                        refine wpAnyH_take (i := 16) (oi := _) (v := ?_) rfl (by kernel_rfl) (by kernel_rfl) (by kernel_rfl) (fun _ _ _ h => h) (Or.inl ⟨by rfl, ?_⟩) (by assumption) ?_
                        rotate_left
                        focus
                          intro w hSw
                          try dsimp only at hSw
                          go_simp
                          try with_reducible rfl
                        try simp only [List.getElem_toArray, List.getElem_cons_succ, List.getElem_cons_zero, Act.put, List.setIfInBounds_toArray, List.set_cons_zero, List.set_cons_succ]
                        refine wpAnyH_take (i := 17) (oi := _) (v := ?_) rfl (by kernel_rfl) (by kernel_rfl) (by kernel_rfl) (fun _ _ _ h => h) (Or.inl ⟨by rfl, ?_⟩) (by assumption) ?_
                        rotate_left
                        focus
                          intro w hSw
                          try dsimp only at hSw
                          go_simp
                          try with_reducible rfl
                        try simp only [List.getElem_toArray, List.getElem_cons_succ, List.getElem_cons_zero, Act.put, List.setIfInBounds_toArray, List.set_cons_zero, List.set_cons_succ]
                        refine wpAnyH_take (i := 20) (oi := _) (v := ?_) rfl (by kernel_rfl) (by kernel_rfl) (by kernel_rfl) (fun _ _ _ h => h) (Or.inl ⟨by rfl, ?_⟩) (by assumption) ?_
                        rotate_left
                        focus
                          intro w hSw
                          try dsimp only at hSw
                          go_simp
                          try with_reducible rfl
                        try simp only [List.getElem_toArray, List.getElem_cons_succ, List.getElem_cons_zero, Act.put, List.setIfInBounds_toArray, List.set_cons_zero, List.set_cons_succ]
                        refine wpAnyH_done (by kernel_rfl) ?_ _
                        refine NoPanic.normal ?_
                        go_wp2
                        refine bodyPost_ret (v := .tuple #[.agg #[.int .i64 2, .int .i64 k, .int .i64 q, .slice none 0 0], .int .i64 ((k : Int) + (m : Int)), .bool (dd == nm)]) (by simp [results, Try.results42, go_sem, v0, v1, v2, v3]) rfl ?_
                        refine ⟨2, q, none, 0, 0, [], (k : Int) + m, by rw [Hto2.out, Hfin.out]; rfl, TxS.nil _ _ _ _, (((hbw1.setCell (by simp) _).setCell (by simp) _).setCell (by simp) _).setCell (by simp) _, fun ht => ?_⟩
                        rw [Hto2.out] at ht ⊢
                        dsimp only at ht ⊢
                        exact ⟨by unfold placed; rw [if_pos ht], by omega⟩
                    exact AllReadyH.nil
                exact AllReadyH.nil
            refine AllReadyH.cons (o := _) rfl (fun K hK => ?_) ?_
            · go_simp
              refine hK.out _ _ ?_ (fun hHeld => ?_)
              · ((try dsimp only); first | with_reducible assumption | with_reducible exact hS4)
              · clear hK K
                try simp only [List.getElem_toArray, List.getElem_cons_succ, List.getElem_cons_zero, Act.put, List.setIfInBounds_toArray, List.set_cons_zero, List.set_cons_succ]
                refine wpAnyH_ready (rs := [9]) (by kernel_rfl) (by simp) ?_
                refine AllReadyH.cons (o := _) rfl (fun K hK => ?_) ?_
                · go_simp
                  (refine (Hcd.out 1).mono ?_; rintro e w1 ⟨A3, c3, rfl, hcv1, hcv2, hcv3, hcv4, v0, v1, v2, v3, vz0, vz1, vz2, vz3, hbw1, hS40, hS0'⟩; have hS' := And.intro hS0'.1 (And.intro hS0'.2.1 (And.intro hS0'.2.2.1 (And.intro hS0'.2.2.2 hcv2))); have hS4 := And.intro hS40.1 (And.intro hS40.2.1 (And.intro hS40.2.2.1 (And.intro hS40.2.2.2 hcv3))); clear hS0' hS40)
                  refine hK.out _ _ ?_ (fun hHeld => ?_)
                  · ((try dsimp only); first | with_reducible assumption | with_reducible exact hS4)
                  · clear hK K
                    try simp only [List.getElem_toArray, List.getElem_cons_succ, List.getElem_cons_zero, Act.put, List.setIfInBounds_toArray, List.set_cons_zero, List.set_cons_succ]
                    refine wpAnyH_ready (rs := [10, 18]) (by kernel_rfl) (by simp) ?_
                    refine AllReadyH.cons (o := _) rfl (fun K hK => ?_) ?_
                    · go_simp
                      refine hK.out _ _ ?_ (fun hHeld => ?_)
                      · ((try dsimp only); first | with_reducible assumption | with_reducible exact hS4)
                      · clear hK K
                        try simp only [List.getElem_toArray, List.getElem_cons_succ, List.getElem_cons_zero, Act.put, List.setIfInBounds_toArray, List.set_cons_zero, List.set_cons_succ]
                        refine wpAnyH_take (i := 16) (oi := _) (v := ?_) rfl (by kernel_rfl) (by kernel_rfl) (by kernel_rfl) (fun _ _ _ h => h) (Or.inl ⟨by rfl, ?_⟩) (by assumption) ?_
                        rotate_left
                        focus
                          intro w hSw
                          try dsimp only at hSw
                          go_simp
                          try with_reducible rfl
                        try simp only [List.getElem_toArray, List.getElem_cons_succ, List.getElem_cons_zero, Act.put, List.setIfInBounds_toArray, List.set_cons_zero, List.set_cons_succ]
                        refine wpAnyH_take (i := 17) (oi := _) (v := ?_) rfl (by kernel_rfl) (by kernel_rfl) (by kernel_rfl) (fun _ _ _ h => h) (Or.inl ⟨by rfl, ?_⟩) (by assumption) ?_
                        rotate_left
                        focus
                          intro w hSw
                          try dsimp only at hSw
                          go_simp
                          try with_reducible rfl
                        try simp only [List.getElem_toArray, List.getElem_cons_succ, List.getElem_cons_zero, Act.put, List.setIfInBounds_toArray, List.set_cons_zero, List.set_cons_succ]
                        refine wpAnyH_ready (rs := [18]) (by kernel_rfl) (by simp) ?_
                        refine AllReadyH.cons (o := _) rfl (fun K hK => ?_) ?_
                        · go_simp
                          refine hK.out _ _ ?_ (fun hHeld => ?_)
                          · ((try dsimp only); first | with_reducible assumption | with_reducible exact hS4)
                          · clear hK K
                            try simp only [List.getElem_toArray, List.getElem_cons_succ, List.getElem_cons_zero, Act.put, List.setIfInBounds_toArray, List.set_cons_zero, List.set_cons_succ]
                            refine wpAnyH_take (i := 19) (oi := _) (v := ?_) rfl (by kernel_rfl) (by kernel_rfl) (by kernel_rfl) (fun _ _ _ h => h) (Or.inl ⟨by rfl, ?_⟩) (by assumption) ?_
                            rotate_left
                            focus
                              intro w hSw
                              try dsimp only at hSw
                              go_simp
                              try with_reducible rfl
                            try simp only [List.getElem_toArray, List.getElem_cons_succ, List.getElem_cons_zero, Act.put, List.setIfInBounds_toArray, List.set_cons_zero, List.set_cons_succ]
                            refine wpAnyH_take (i := 20) (oi := _) (v := ?_) rfl (by kernel_rfl) (by kernel_rfl) (by kernel_rfl) (fun _ _ _ h => h) (Or.inl ⟨by rfl, ?_⟩) (by assumption) ?_
                            rotate_left
                            focus
                              intro w hSw
                              try dsimp only at hSw
                              go_simp
                              try with_reducible rfl
                            try simp only [List.getElem_toArray, List.getElem_cons_succ, List.getElem_cons_zero, Act.put, List.setIfInBounds_toArray, List.set_cons_zero, List.set_cons_succ]
                            refine wpAnyH_done (by kernel_rfl) ?_ _
                            refine NoPanic.normal ?_
                            go_wp2
                            refine bodyPost_ret (v := .tuple #[.agg #[.int .i64 2, .int .i64 k, .int .i64 q, .slice none 0 0], .int .i64 ((k : Int) + (m : Int)), .bool (dd == nm)]) (by simp [results, Try.results42, go_sem, v0, v1, v2, v3]) rfl ?_
                            refine ⟨2, q, none, 0, 0, [], (k : Int) + m, by rw [Hto2.out, Hfin.out]; rfl, TxS.nil _ _ _ _, (((hbw1.setCell (by simp) _).setCell (by simp) _).setCell (by simp) _).setCell (by simp) _, fun ht => ?_⟩
                            rw [Hto2.out] at ht ⊢
                            dsimp only at ht ⊢
                            exact ⟨by unfold placed; rw [if_pos ht], by omega⟩
                        exact AllReadyH.nil
                    refine AllReadyH.cons (o := _) rfl (fun K hK => ?_) ?_
                    · go_simp
                      refine hK.out _ _ ?_ (fun hHeld => ?_)
                      · ((try dsimp only); first | with_reducible assumption | with_reducible exact hS4)
                      · clear hK K
                        try simp only [List.getElem_toArray, List.getElem_cons_succ, List.getElem_cons_zero, Act.put, List.setIfInBounds_toArray, List.set_cons_zero, List.set_cons_succ]
                        refine wpAnyH_take (i := 19) (oi := _) (v := ?_) rfl (by kernel_rfl) (by kernel_rfl) (by kernel_rfl) (fun _ _ _ h => h) (Or.inl ⟨by rfl, ?_⟩) (by assumption) ?_
                        rotate_left
                        focus
                          intro w hSw
                          try dsimp only at hSw
                          go_simp
                          try with_reducible rfl
                        try simp only [List.getElem_toArray, List.getElem_cons_succ, List.getElem_cons_zero, Act.put, List.setIfInBounds_toArray, List.set_cons_zero, List.set_cons_succ]
                        refine wpAnyH_ready (rs := [10]) (by kernel_rfl) (by simp) ?_
                        refine AllReadyH.cons (o := _) rfl (fun K hK => ?_) ?_
                        · go_simp
                          refine hK.out _ _ ?_ (fun hHeld => ?_)
                          · ((try dsimp only); first | with_reducible assumption | with_reducible exact hS4)
                          · clear hK K
                            try simp only [List.getElem_toArray, List.getElem_cons_succ, List.getElem_cons_zero, Act.put, List.setIfInBounds_toArray, List.set_cons_zero, List.set_cons_succ]
                            refine wpAnyH_take (i := 16) (oi := _) (v := ?_) rfl (by kernel_rfl) (by kernel_rfl) (by kernel_rfl) (fun _ _ _ h => h) (Or.inl ⟨by rfl, ?_⟩) (by assumption) ?_
                            rotate_left
                            focus
                              intro w hSw
                              try dsimp only at hSw
                              go_simp
                              try with_reducible rfl
                            try simp only [List.getElem_toArray, List.getElem_cons_succ, List.getElem_cons_zero, Act.put, List.setIfInBounds_toArray, List.set_cons_zero, List.set_cons_succ]
                            refine wpAnyH_take (i := 17) (oi := _) (v := ?_) rfl (by kernel_rfl) (by kernel_rfl) (by kernel_rfl) (fun _ _ _ h => h) (Or.inl ⟨by rfl, ?_⟩) (by assumption) ?_
                            rotate_left
                            focus
                              intro w hSw
                              try dsimp only at hSw
                              go_simp
                              try with_reducible rfl
                            try simp only [List.getElem_toArray, List.getElem_cons_succ, List.getElem_cons_zero, Act.put, List.setIfInBounds_toArray, List.set_cons_zero, List.set_cons_succ]
                            refine wpAnyH_take (i := 20) (oi := _) (v := ?_) rfl (by kernel_rfl) (by kernel_rfl) (by kernel_rfl) (fun _ _ _ h => h) (Or.inl ⟨by rfl, ?_⟩) (by assumption) ?_
                            rotate_left
                            focus
                              intro w hSw
                              try dsimp only at hSw
                              go_simp
                              try with_reducible rfl
                            try simp only [List.getElem_toArray, List.getElem_cons_succ, List.getElem_cons_zero, Act.put, List.setIfInBounds_toArray, List.set_cons_zero, List.set_cons_succ]
                            refine wpAnyH_done (by kernel_rfl) ?_ _
                            refine NoPanic.normal ?_
                            go_wp2
                            refine bodyPost_ret (v := .tuple #[.agg #[.int .i64 2, .int .i64 k, .int .i64 q, .slice none 0 0], .int .i64 ((k : Int) + (m : Int)), .bool (dd == nm)]) (by simp [results, Try.results42, go_sem, v0, v1, v2, v3]) rfl ?_
                            refine ⟨2, q, none, 0, 0, [], (k : Int) + m, by rw [Hto2.out, Hfin.out]; rfl, TxS.nil _ _ _ _, (((hbw1.setCell (by simp) _).setCell (by simp) _).setCell (by simp) _).setCell (by simp) _, fun ht => ?_⟩
                            rw [Hto2.out] at ht ⊢
                            dsimp only at ht ⊢
                            exact ⟨by unfold placed; rw [if_pos ht], by omega⟩
                        exact AllReadyH.nil
                    exact AllReadyH.nil
                exact AllReadyH.nil
            exact AllReadyH.nil
end Go.Proofs.Ytmejbmfopdfbjaa
