/-
  ArenaNew: the program's and the model's; marks in what it answers.
-/
import Derived.Test.YtdaajeocpccnmaaArnMark
import Derived.Test.YtdaajeocpccnmaaArnTo
import Derived.Test.YtdaajeocpccnmaaArnVal
namespace Go.Proofs.Ytdaajeocpccnmaa
open Go.RowKit
set_option linter.unusedVariables false

set_option maxHeartbeats 2000000 in
theorem heldSlotS_z (n : Nat) (A : Option Addr) (c lo k : Nat) (w : World) (hn : n ≤ 16) (hk : k ≤ 1000) (h : OwnZ w lo A n k n) :
    Calls Try.prog 67 #[.slice A n c, .int .i64 (k : Int)] w fun r w' => r = .returned (.int .i64 ((k + n * 3 : Nat) : Int)) ∧ w = w' := by
  go_enter Try.func67, Try.ntmps67
  go_wp2
  go_loopw [1, 5] (fun s i wr => ∃ (m q : Nat), m ≤ n ∧ i = .int .i64 m ∧ s = .int .i64 (q : Int) ∧ Hid (q = k + m * 3) ∧ wr = w) (fun _ i _ => n - (intOf i).toNat)
  case atStart => exact ⟨0, k, Nat.zero_le _, rfl, rfl, Lib.hid (by omega), by trivial⟩
  case round =>
    obtain ⟨m, q, hm, rfl, rfl, Hq, rfl⟩ := hrel
    by_cases hlt : m < n
    · obtain ⟨g, cs, rfl, hB, hl, hsz, h3, hc⟩ := h (by omega)
      obtain ⟨e0, e1, e2⟩ := hc m hlt
      rw [← Hq.out] at e0 e1 e2
      have q0 : wr.cell? ⟨g, m * 4, none⟩ = some (.bool ((q : Int) % 3 == 0)) := by rw [hB.cell]; exact e0
      have q1 : wr.cell? ⟨g, m * 4 + 1, none⟩ = some (.int .i64 ((q : Int) + 1)) := by rw [hB.cell]; exact e1
      have q2 : wr.cell? ⟨g, m * 4 + 2, none⟩ = some (.int .i64 ((q : Int) + 1 + 1)) := by rw [hB.cell]; exact e2
      have q3 : wr.cell? ⟨g, m * 4 + 3, none⟩ = some (.slice none 0 0) := by rw [hB.cell]; exact h3 m hlt
      have hqb : q ≤ 1048 := by have := Hq.out; omega
      have hq0 : decide ((q : Int) + 1 + 1 + 1 < 0) = false := decide_eq_false (by omega)
      clear hB hsz h3 hc e0 e1 e2 h
      go_wp2_with fail
      refine (heldFieldS_0 none 0 _ _).mono ?_
      rintro r w' ⟨rfl, rfl⟩
      go_wp2
      go_roundw
      case rel => exact ⟨m + 1, q + 1 + 1 + 1, by omega, by go_num, by go_num, Lib.hid (by have := Hq.out; omega), by trivial⟩
      case measure => simp [intOf]; omega
    · go_wp2
      go_ret
      have : m = n := by omega
      subst this
      refine ⟨?_, rfl⟩
      rw [← Hq.out]; rfl

theorem OwnZ.alloc {w : World} {lo n k m : Nat} {A : Option Addr} (h : OwnZ w lo A n k m) (o : Obj) : OwnZ (w.alloc o) lo A n k m := h.below ((Below.refl _ _).alloc (Nat.le_refl _) o)

theorem OwnZ.ne {w : World} {lo n k m b : Nat} {A : Option Addr} (h : OwnZ w lo A n k m) (hn : 0 < n) (hb : w.heap.size ≤ b) : ∀ ad, A = some ad → ad.block ≠ b := fun ad e => by
  obtain ⟨g, cs, e', hB, _⟩ := h hn
  rw [e'] at e
  cases e
  have := hB.lt
  show g ≠ b
  omega

set_option maxHeartbeats 1000000 in
theorem markArena_z (n : Nat) (A : Option Addr) (c lo k : Nat) (w : World) (hn : n ≤ 16) (hk : k ≤ 1000) (hlo : lo ≤ w.heap.size) (hA : n = 0 → A = none) (h : OwnZ w lo A n k 0) :
    Calls Try.prog 22 #[.agg #[.slice A n c, .slice none 0 0, .slice none 0 0], .int .i64 (k : Int)] w fun r w' => r = .returned (.int .i64 ((k + n * 3 : Nat) : Int)) ∧ OwnZ w' lo A n k n ∧ Below lo w w' ∧ (∀ b, b < w.heap.size → (∀ ad, A = some ad → ad.block ≠ b) → w'.heap[b]? = w.heap[b]?) := by
  have hb0 : Below lo w (w.alloc (.cells #[.slice A n c, .slice none 0 0, .slice none 0 0] 30)) := (Below.refl _ _).alloc hlo _
  have K0 := Blk.new w 30 #[.slice A n c, .slice none 0 0, .slice none 0 0]
  have hm := markSlotS_z n A c lo k _ hn hk (h.alloc (.cells #[.slice A n c, .slice none 0 0, .slice none 0 0] 30))
  have hne : ∀ ad, A = some ad → ad.block ≠ w.heap.size := by
    by_cases h0 : n = 0
    · rw [hA h0]; intro ad e; cases e
    · exact h.ne (by omega) (Nat.le_refl _)
  have Hm := Lib.hid hm
  have Hb := Lib.hid hb0
  have HK := Lib.hid K0
  have Hne := Lib.hid hne
  clear hm hb0 K0 hne
  go_enter Try.func22, Try.ntmps22
  go_wp2_with fail
  refine Hm.out.mono ?_
  rintro r w1 ⟨rfl, hO, hs, hb1, ho⟩
  obtain ⟨q, hq⟩ : ∃ q : Nat, k + n * 3 = q := ⟨_, rfl⟩
  rw [hq]
  have Hq := Lib.hid hq
  have hqb : q ≤ 1048 := by omega
  have K1 : Blk w1 w.heap.size 30 _ := (ho _ Hne.out).trans HK.out
  have c1 := K1.cel 1 (v := .slice none 0 0) rfl
  have c2 := K1.cel 2 (v := .slice none 0 0) rfl
  have hmi := fun (w : World) => markIntS_c 0 none 0 0 q (fun _ => 0) w (by omega) (OwnI.none_ _ _ _ _)
  have hne : ∀ b, ∀ ad : Addr, (none : Option Addr) = some ad → ad.block ≠ b := fun _ _ e => by cases e
  have HO := Lib.hid hO
  have Hb1 := Lib.hid hb1
  have Hne2 := Lib.hid hne
  have Ho1 := Lib.hid ho
  clear hO hb1 ho Hm hq hne
  go_wp2_with fail
  refine (hmi _).mono ?_
  rintro r w2 ⟨rfl, _, hs2, hb2, ho2⟩
  have hsame : ∀ b, w2.heap[b]? = w1.heap[b]? := fun b => ho2 b (Hne2.out b)
  have K2 : Blk w2 w.heap.size 30 _ := (hsame _).trans K1
  have d2 := K2.cel 2 (v := .slice none 0 0) rfl
  have Hb2 : Hid (Below w1.heap.size w1 w2) := Lib.hid ⟨hb2.os, hb2.tape, hb2.output, hb2.size, fun b _ => hsame b⟩
  have Hs2 := Lib.hid hsame
  clear c1 c2 hsame ho2 hb2
  go_wp2_with fail
  refine (hmi _).mono ?_
  rintro r w3 ⟨rfl, _, hs3, hb3, ho3⟩
  have Hb3 : Hid (Below w2.heap.size w2 w3) := Lib.hid ⟨hb3.os, hb3.tape, hb3.output, hb3.size, fun b _ => ho3 b (Hne2.out b)⟩
  have Hs3 := Lib.hid (fun b => ho3 b (Hne2.out b))
  clear ho3 hb3
  go_wp2
  go_ret
  have hO2 := HO.out.below Hb2.out
  have hbx : Below lo w w1 := Hb.out.trans Hb1.out
  have h1 := Hb2.out.size
  refine ⟨by rw [Hq.out]; rfl, hO2.below Hb3.out, ?_, fun b hb hn => (Hs3.out b).trans ((Hs2.out b).trans ((Ho1.out b hn).trans (Below.heap_alloc w _ b hb)))⟩
  have hx := hbx.size
  exact (hbx.trans (Hb2.out.mono (by omega))).trans (Hb3.out.mono (by omega))

set_option maxHeartbeats 1000000 in
theorem heldArena_z (n : Nat) (A : Option Addr) (c lo k : Nat) (w : World) (hn : n ≤ 16) (hk : k ≤ 1000) (h : OwnZ w lo A n k n) :
    Calls Try.prog 23 #[.agg #[.slice A n c, .slice none 0 0, .slice none 0 0], .int .i64 (k : Int)] w fun r w' => r = .returned (.int .i64 ((k + n * 3 : Nat) : Int)) ∧ Below w.heap.size w w' := by
  have hm := heldSlotS_z n A c lo k _ hn hk (h.alloc (.cells #[.slice A n c, .slice none 0 0, .slice none 0 0] 30))
  have hmi := fun (q : Nat) (hq : q ≤ 1048) (w : World) => heldIntS_c 0 none 0 0 q w (by omega) (OwnI.none_ _ _ _ _)
  have Hm := Lib.hid hm
  have Hmi := Lib.hid hmi
  clear hm hmi
  go_enter Try.func23, Try.ntmps23
  go_wp2_with fail
  refine Hm.out.mono ?_
  rintro r w1 ⟨rfl, rfl⟩
  obtain ⟨q, hq⟩ : ∃ q : Nat, k + n * 3 = q := ⟨_, rfl⟩
  rw [hq]
  have Hq := Lib.hid hq
  have hqb : q ≤ 1048 := by omega
  have hq0 : decide ((q : Int) < 0) = false := decide_eq_false (by omega)
  clear hq Hm
  go_wp2_with fail
  refine (Hmi.out q hqb _).mono ?_
  rintro r w2 ⟨rfl, rfl⟩
  go_wp2_with fail
  refine (Hmi.out q hqb _).mono ?_
  rintro r w3 ⟨rfl, rfl⟩
  go_wp2
  go_ret
  exact ⟨by rw [Hq.out]; rfl, blw1 _ _⟩

/-- slots as they are made -/
def zs (n : Nat) : List Sl := List.replicate n ⟨false, 0, 0, []⟩
theorem zs_len (n : Nat) : (zs n).length = n := by simp [zs]
theorem zs_sz (n : Nat) : arSz ⟨zs n, [], []⟩ = n := by
  unfold arSz slsSz zs
  have : ∀ m : Nat, ((List.replicate m (Sl.mk false 0 0 [])).map slSz).sum = 0 := fun m => by
    induction m with
    | zero => rfl
    | succ m ih => rw [List.replicate_succ, List.map_cons, List.sum_cons, ih]; rfl
  rw [this]
  simp
def zcs (n : Nat) : Array Value := madeCells #[.bool false, .int .i64 0, .int .i64 0, .slice none 0 0] (n * 4)
theorem zcs_size (n : Nat) : (zcs n).size = n * 4 := size_madeCells _ _
theorem zcs_at {n i : Nat} (hi : i < n) : (zcs n)[i * 4]? = some (.bool false) ∧ (zcs n)[i * 4 + 1]? = some (.int .i64 0) ∧ (zcs n)[i * 4 + 2]? = some (.int .i64 0) ∧ (zcs n)[i * 4 + 3]? = some (.slice none 0 0) := by
  have h : ∀ j, j < 4 → (zcs n)[i * 4 + j]? = some ((#[.bool false, .int .i64 0, .int .i64 0, .slice none 0 0] : Array Value)[j]!) := fun j hj => by
    unfold zcs madeCells
    rw [Array.getElem?_map, Array.getElem?_eq_getElem (by simp; omega)]
    simp only [Array.getElem_range, Option.map_some]
    congr 2
    show (i * 4 + j) % 4 = j
    omega
  exact ⟨h 0 (by omega), h 1 (by omega), h 2 (by omega), h 3 (by omega)⟩
theorem zcs_row {w : World} {L g n : Nat} (hb : Blk w g 67 (zcs n)) (hL : L ≤ g) (hn : n ≤ 16) : SlL w L w.heap.size (some ⟨g, 0, none⟩) (zs n) := by
  have h : RowP (SlV w L w.heap.size) (zcs n) (zs n) (zs n).length := fun i hi _ => by
    rw [zs_len] at hi
    obtain ⟨a, b, c, d⟩ := zcs_at hi
    refine ⟨_, _, _, _, a, b, c, d, ?_⟩
    have e : (zs n)[i]'(by rw [zs_len]; exact hi) = ⟨false, 0, 0, []⟩ := by simp [zs]
    rw [e]
    exact ⟨rfl, rfl, rfl, none, 0, rfl, Row4.none_ _ _ _ _ _⟩
  exact h.row (by rw [zs_len]; unfold maxLen; omega) hb hL
theorem zcs_own {w : World} {lo g n : Nat} (hb : Blk w g 67 (zcs n)) (hL : lo ≤ g) (k : Nat) : OwnZ w lo (some ⟨g, 0, none⟩) n k 0 := fun _ =>
  ⟨g, _, rfl, hb, hL, zcs_size n, fun i hi => (zcs_at hi).2.2.2, fun i hi => by omega⟩

/-- what ArenaNew answers -/
def NewA (n : Nat) (b : Bool) (w : World) (e : Ending) (w' : World) : Prop :=
  ∃ A, e = .returned (.tuple #[.agg #[.slice A n n, .slice none 0 0, .slice none 0 0], .bool b]) ∧ (n = 0 → A = none) ∧ OwnZ w' w.heap.size A n 1 0 ∧ SlL w' w.heap.size w'.heap.size A (zs n) ∧ Below w.heap.size w w'
def newN (x : Int) : Nat := if 1 ≤ x ∧ x ≤ 16 then x.toNat else 0
def newB (x : Int) : Bool := decide (1 ≤ x ∧ x ≤ 16)
theorem newN_le (x : Int) : newN x ≤ 16 := by unfold newN; split <;> omega
theorem NewA.no {w w' : World} (hb : Below w.heap.size w w') : NewA 0 false w (.returned (.tuple #[.agg #[.slice none 0 0, .slice none 0 0, .slice none 0 0], .bool false])) w' :=
  ⟨none, rfl, fun _ => rfl, fun h => absurd h (by omega), Row4.none_ _ _ _ _ _, hb⟩
theorem NewA.yes {w w' : World} {n g : Nat} (h1 : 1 ≤ n) (hn : n ≤ 16) (hg : w.heap.size ≤ g) (hB : Blk w' g 67 (zcs n)) (hb : Below w.heap.size w w') :
    NewA n true w (.returned (.tuple #[.agg #[.slice (some ⟨g, 0, none⟩) n n, .slice none 0 0, .slice none 0 0], .bool true])) w' :=
  ⟨_, rfl, fun h => by omega, zcs_own hB hg 1, zcs_row hB hg hn, hb⟩

theorem makeZ (n : Nat) (hn : n ≤ 16) (u : World) : (Instr.makeSlice 28 (.int .i64 (n : Int)) (.int .i64 (n : Int))).run Try.prog u =
    .ok (.slice (some ⟨u.heap.size, 0, none⟩) n n) (u.alloc (.cells (zcs n) 67)) := by
  obtain ⟨i0, hi, hz0, hz1, hz2⟩ := info_parts infoSl
  have h := run_make (P := Try.prog) u 28 67 i0 (.agg #[.bool false, .int .i64 0, .int .i64 0, .slice none 0 0]) Try.underlying28 hi hz0 .i64 .i64 (n : Int) (n : Int) (by omega) (Int.le_refl _) (by rw [hz2]; omega) (by omega)
  rw [Int.toNat_natCast] at h
  simpa [hz1, Value.cells, zcs] using h

set_option maxHeartbeats 1000000 in
theorem specArenaNew_c (x : Int) (w : World) : Calls Try.prog 20 #[.int .i64 x] w (NewA (newN x) (newB x) w) := by
  by_cases h1 : x < 1
  · have e1 : newN x = 0 := by unfold newN; rw [if_neg (by omega)]
    have e2 : newB x = false := decide_eq_false (by omega)
    rw [e1, e2]
    go_enter Try.func20, Try.ntmps20
    go_wp2
    refine bodyPost_ret (v := .tuple #[.agg #[.slice none 0 0, .slice none 0 0, .slice none 0 0], .bool false]) (by simp [results, Try.results20, go_sem]) rfl (NewA.no (blw1 _ _))
  have h1' : 1 ≤ x := by omega
  clear h1
  by_cases h2 : 16 < x
  · have e1 : newN x = 0 := by unfold newN; rw [if_neg (by omega)]
    have e2 : newB x = false := decide_eq_false (by omega)
    rw [e1, e2]
    go_enter Try.func20, Try.ntmps20
    go_wp2
    refine bodyPost_ret (v := .tuple #[.agg #[.slice none 0 0, .slice none 0 0, .slice none 0 0], .bool false]) (by simp [results, Try.results20, go_sem]) rfl (NewA.no (blw1 _ _))
  have h2' : x ≤ 16 := by omega
  clear h2
  have e1 : newN x = x.toNat := by unfold newN; rw [if_pos (by omega)]
  have e2 : newB x = true := decide_eq_true (by omega)
  rw [e1, e2]
  obtain ⟨n, rfl⟩ : ∃ n : Nat, x = n := ⟨x.toNat, by omega⟩
  rw [Int.toNat_natCast]
  have hmk := makeZ n (by omega)
  clear e1 e2
  go_enter Try.func20, Try.ntmps20
  go_wp2
  refine bodyPost_ret (v := .tuple #[.agg #[.slice (some ⟨w.heap.size + 1, 0, none⟩) n n, .slice none 0 0, .slice none 0 0], .bool true]) (by simp [results, Try.results20, go_sem]) rfl ?_
  refine NewA.yes (by omega) (by omega) (Nat.le_succ _) ?_ (((Below.refl _ _).alloc (Nat.le_refl _) _).alloc (by simp) _)
  have := Blk.new (w.alloc (.cells #[.slice (some ⟨w.heap.size + 1, 0, none⟩) n n, .slice none 0 0, .slice none 0 0] 30)) 67 (zcs n)
  rw [World.size_alloc] at this
  exact this

theorem sizeOk_c (x : Int) (w : World) : Calls Try.prog 65 #[.int .i64 x] w fun e w' => e = .returned (.bool (newB x)) ∧ w' = w := by
  unfold newB
  by_cases h1 : 1 ≤ x
  · by_cases h2 : x ≤ 16
    · have e2 : decide (1 ≤ x ∧ x ≤ 16) = true := decide_eq_true ⟨h1, h2⟩
      rw [e2]
      go_enter Try.func65, Try.ntmps65
      go_wp2
      go_ret
      exact ⟨rfl, rfl⟩
    · have e2 : decide (1 ≤ x ∧ x ≤ 16) = false := decide_eq_false (fun h => h2 h.2)
      rw [e2]
      go_enter Try.func65, Try.ntmps65
      go_wp2
      go_ret
      exact ⟨rfl, rfl⟩
  · have e2 : decide (1 ≤ x ∧ x ≤ 16) = false := decide_eq_false (fun h => h1 h.1)
    rw [e2]
    go_enter Try.func65, Try.ntmps65
    go_wp2
    go_ret
    exact ⟨rfl, rfl⟩

set_option maxHeartbeats 1000000 in
theorem implArenaNew_c (x : Int) (w : World) : Calls Try.prog 21 #[.int .i64 x] w (NewA (newN x) (newB x) w) := by
  have hsz := fun w' => sizeOk_c x w'
  by_cases h2 : 1 ≤ x ∧ x ≤ 16
  · obtain ⟨h1', h2'⟩ := h2
    have e1 : newN x = x.toNat := by unfold newN; rw [if_pos (by omega)]
    have e2 : newB x = true := decide_eq_true (by omega)
    rw [e1, e2]
    rw [e2] at hsz
    obtain ⟨n, rfl⟩ : ∃ n : Nat, x = n := ⟨x.toNat, by omega⟩
    rw [Int.toNat_natCast]
    have hmk := makeZ n (by omega)
    have Hsz := Lib.hid hsz
    clear e1 e2 hsz
    go_enter Try.func21, Try.ntmps21
    go_wp2_with fail
    refine (Hsz.out _).mono ?_
    rintro r w' ⟨rfl, rfl⟩
    go_wp2
    refine bodyPost_ret (v := .tuple #[.agg #[.slice (some ⟨w.heap.size + 1, 0, none⟩) n n, .slice none 0 0, .slice none 0 0], .bool true]) (by simp [results, Try.results21, go_sem]) rfl ?_
    refine NewA.yes (by omega) (by omega) (Nat.le_succ _) ?_ (((Below.refl _ _).alloc (Nat.le_refl _) _).alloc (by simp) _)
    have := Blk.new (w.alloc (.cells #[.slice (some ⟨w.heap.size + 1, 0, none⟩) n n, .slice none 0 0, .slice none 0 0] 30)) 67 (zcs n)
    rw [World.size_alloc] at this
    exact this
  · have e1 : newN x = 0 := by unfold newN; rw [if_neg h2]
    have e2 : newB x = false := decide_eq_false h2
    rw [e1, e2]
    rw [e2] at hsz
    have Hsz := Lib.hid hsz
    clear e1 e2 hsz h2
    go_enter Try.func21, Try.ntmps21
    go_wp2_with fail
    refine (Hsz.out _).mono ?_
    rintro r w' ⟨rfl, rfl⟩
    go_wp2
    refine bodyPost_ret (v := .tuple #[.agg #[.slice none 0 0, .slice none 0 0, .slice none 0 0], .bool false]) (by simp [results, Try.results21, go_sem]) rfl (NewA.no (blw1 _ _))
end Go.Proofs.Ytdaajeocpccnmaa
