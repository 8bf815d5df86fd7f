/-
  The model's l1one at what begins no word and no number.
-/
import Derived.Test.YtmejbmfopdfbjaaSpecOne
namespace Go.Proofs.Ytmejbmfopdfbjaa
open Go.RowKit Go.Shelf
set_option linter.unusedVariables false

theorem tokOne_sign {s : List UInt8} (h0 : 0 < s.length) (h1 : small s[0] = false) (h2 : digit s[0] = false) : (tokOne s).2.2 = sgn s[0] ∧ (sgn s[0] = true → tokOne s = (⟨3, 0, 0, [s[0]]⟩, 1, true)) := by
  cases hg : sgn s[0]
  · exact ⟨by rw [tokOne_none h0 h1 h2 hg], fun h => by simp at h⟩
  · exact ⟨by rw [tokOne_sgn h0 h1 h2 hg], fun _ => tokOne_sgn h0 h1 h2 hg⟩

set_option maxRecDepth 100000 in
set_option maxHeartbeats 8000000 in
theorem l1one_sign (b s : List UInt8) (a : Addr) (cp B k : Nat) (w : World) (hB : B ≤ w.heap.size) (hlb : b.length ≤ 1048576) (hcp : b.length ≤ cp) (hk : k < b.length) (h : RB w B (some a) b)
    (hs0 : 0 < s.length) (hsg : s[0] = b[k]) (hsm : small s[0] = false) (hsd : digit s[0] = false) :
    Calls Try.prog 42 #[.slice (some a) b.length cp, .int .i64 k] w (LoP s k w) := by
  have hto := tokOne_sign hs0 hsm hsd
  obtain ⟨ad, e, hbk, hcell⟩ := h.at_ hk
  injection e with e
  subst e
  rw [← hsg] at hcell
  obtain ⟨x, hx⟩ : ∃ x, s[0] = x := ⟨_, rfl⟩
  rw [hx] at hto hsm hsd hcell
  have hb3 : ∀ o1 o2 o3, Below w.heap.size w (((w.alloc o1).alloc o2).alloc o3) := fun o1 o2 o3 => (((Below.refl _ _).alloc (Nat.le_refl _) _).alloc (by simp) _).alloc (by simp; omega) _
  have hb2 : ∀ o1 o2, Below w.heap.size w ((w.alloc o1).alloc o2) := fun o1 o2 => ((Below.refl _ _).alloc (Nat.le_refl _) _).alloc (by simp) _
  have c0 := fun o1 o2 => (hb2 o1 o2).cell (p := a.add k) (by rw [block_of_add]; omega) |>.trans hcell
  have c1 := fun o1 o2 o3 => (hb3 o1 o2 o3).cell (p := a.add k) (by rw [block_of_add]; omega) |>.trans hcell
  have Hs := Lib.hid hsm
  have Hd := Lib.hid hsd
  have Hto := Lib.hid hto
  have Hx := Lib.hid hx
  clear hsm hsd hto hx hsg
  go_enter Try.func42, Try.ntmps42
  go_wp2_with (first
    | (go_at_call 65; refine (l1small_c _ false Hs.out _).mono ?_; rintro e w' ⟨rfl, rfl⟩)
    | (go_at_call 67; refine (l1digit_c _ false Hd.out _).mono ?_; rintro e w' ⟨rfl, rfl⟩))
  obtain ⟨U, hU⟩ : ∃ U, ((w.alloc (.cells #[.int .i64 0, .int .i64 0, .int .i64 0, .slice none 0 0] 78)).alloc (.cells #[.int .i64 3, .int .i64 k, .int .i64 0, .slice (some ⟨w.heap.size + 1 + 1, 0, none⟩) 1 1] 78)).alloc (.cells #[.int .u8 (x.toNat : Int)] 5) = U := ⟨_, rfl⟩
  rw [hU]
  have KXU : Blk U w.heap.size 78 #[.int .i64 0, .int .i64 0, .int .i64 0, .slice none 0 0] := by rw [← hU]; exact ((Blk.new w _ _).alloc _).alloc _
  have KYU : Blk U (w.heap.size + 1) 78 #[.int .i64 3, .int .i64 k, .int .i64 0, .slice (some ⟨w.heap.size + 1 + 1, 0, none⟩) 1 1] := by
    have := (Blk.new (w.alloc (.cells #[.int .i64 0, .int .i64 0, .int .i64 0, .slice none 0 0] 78)) 78 #[.int .i64 3, .int .i64 k, .int .i64 0, .slice (some ⟨w.heap.size + 1 + 1, 0, none⟩) 1 1]).alloc (.cells #[.int .u8 (x.toNat : Int)] 5)
    rw [World.size_alloc] at this
    rw [← hU]; exact this
  have KTU : Blk U (w.heap.size + 1 + 1) 5 #[.int .u8 (x.toNat : Int)] := by
    have := Blk.new ((w.alloc (.cells #[.int .i64 0, .int .i64 0, .int .i64 0, .slice none 0 0] 78)).alloc (.cells #[.int .i64 3, .int .i64 k, .int .i64 0, .slice (some ⟨w.heap.size + 1 + 1, 0, none⟩) 1 1] 78)) 5 #[.int .u8 (x.toNat : Int)]
    rw [World.size_alloc, World.size_alloc] at this
    rw [← hU]; exact this
  have hbU : Below w.heap.size w U := by rw [← hU]; exact hb3 _ _ _
  have cU : U.cell? (a.add k) = some (.int .u8 (x.toNat : Int)) := by rw [← hU]; exact c1 _ _ _
  have htU : TxS U (w.heap.size + 1 + 1) (w.heap.size + 1 + 1) (some ⟨w.heap.size + 1 + 1, 0, none⟩) [x] := fun _ => ⟨rfl, Nat.le_refl _, _, KTU, fun j u hj => by
    cases j with
    | zero => simpa [vb] using hj
    | succ j => simp [vb] at hj⟩
  have HtU := Lib.hid htU
  have HbU := Lib.hid hbU
  have y0 := KYU.cell_of 0 (v := .int .i64 3) rfl
  have y1 := KYU.cell_of 1 (v := .int .i64 k) rfl
  have y2 := KYU.cell_of 2 (v := .int .i64 0) rfl
  have y3 := KYU.cell_of 3 (v := .slice (some ⟨w.heap.size + 1 + 1, 0, none⟩) 1 1) rfl
  have x0 := KXU.cell_of 0 (v := .int .i64 0) rfl
  have x1 := KXU.cell_of 1 (v := .int .i64 0) rfl
  have x2 := KXU.cell_of 2 (v := .int .i64 0) rfl
  have x3 := KXU.cell_of 3 (v := .slice none 0 0) rfl
  have xz0 := KXU.frozen 0
  have xz1 := KXU.frozen 1
  have xz2 := KXU.frozen 2
  have xz3 := KXU.frozen 3
  clear hU htU hbU c0 c1 hb2 hb3 hcell
  go_region_with (go_at_call 69; refine (l1sign_c _ _).mono ?_; rintro e w' ⟨rfl, rfl⟩)
  all_goals
    go_wp2
    refine bodyPost_ret (v := .tuple #[.agg #[.int .i64 3, .int .i64 k, .int .i64 0, .slice (some ⟨w.heap.size + 1 + 1, 0, none⟩) 1 1], .int .i64 ((k : Int) + 1), .bool (sgn x)]) (by simp [results, Try.results42, go_sem, Act.put, x0, x1, x2, x3]) rfl ?_
    refine ⟨3, 0, some ⟨w.heap.size + 1 + 1, 0, none⟩, 1, w.heap.size + 1 + 1, [x], (k : Int) + 1, by rw [Hto.out.1]; rfl, ?_, ?_, fun ht => ?_⟩
    · exact ((show TxS (U.drewN 1) (w.heap.size + 1 + 1) (w.heap.size + 1 + 1) (some ⟨w.heap.size + 1 + 1, 0, none⟩) [x] from HtU.out).box (by omega) _ _ _ _).less (by omega)
    · exact ((((below_drewN HbU.out 1).setCell (by simp) _).setCell (by simp) _).setCell (by simp) _).setCell (by simp) _
    · rw [Hto.out.1] at ht
      rw [Hto.out.2 ht]
      exact ⟨rfl, by dsimp only; omega⟩
end Go.Proofs.Ytmejbmfopdfbjaa
