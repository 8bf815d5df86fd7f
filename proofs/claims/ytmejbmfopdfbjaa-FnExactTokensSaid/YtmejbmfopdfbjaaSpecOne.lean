/-
  The model's l1one: what stands at a place.
-/
import Derived.Test.YtmejbmfopdfbjaaTokRow
import Derived.Test.YtmejbmfopdfbjaaKept
import Derived.Deep.RegionWith
namespace Go.Proofs.Ytmejbmfopdfbjaa
open Go.RowKit Go.Shelf
set_option linter.unusedVariables false

theorem copiedT {wr w3 : World} {nm : List UInt8} {v2 : Value} (h0 : 0 < nm.length) (hown2 : w3.ownsRow wr.heap.size 5 1 v2 (0 + nm.length) ([] ++ vb nm)) (hg2 : (wr.alloc (.cells #[] 5)).grownBy w3 (Value.slice (some ⟨wr.heap.size, 0, none⟩) 0 0).ownBlock) :
    ∃ g2 cap2, v2 = .slice (some ⟨g2, 0, none⟩) nm.length cap2 ∧ TxS w3 wr.heap.size g2 (some ⟨g2, 0, none⟩) nm ∧ Below wr.heap.size wr w3 ∧ wr.heap.size ≤ g2 ∧ g2 < w3.heap.size := by
  have hb0 : Below wr.heap.size wr (wr.alloc (.cells #[] 5)) := (Below.refl _ _).alloc (Nat.le_refl _) _
  rw [Nat.zero_add, List.nil_append] at hown2
  have hbn : Below wr.heap.size wr w3 := hb0.grown hg2 (by simp) (fun g hg => by
    have h3 : (Value.slice (some ⟨wr.heap.size, 0, none⟩) 0 0).ownBlock = some g := hg
    simp [Value.ownBlock] at h3
    omega)
  rcases hown2.2 with ⟨h1, h2⟩ | ⟨g2, cap2, cur2, hv2, hge, hbk, _, _, _, htk⟩
  · omega
  · have hbk' : Blk w3 g2 5 cur2 := hbk
    refine ⟨g2, cap2, hv2, fun _ => ⟨rfl, hge, cur2, hbk, fun j u hu => ?_⟩, hbn, hge, hbk'.lt⟩
    rw [← htk, List.getElem?_take] at hu
    split at hu
    · simpa using hu
    · cases hu
theorem TxS.rb {w : World} {lo g : Nat} {A : Option Addr} {l : List UInt8} (h : TxS w lo g A l) : RB w w.heap.size A l := by
  refine ⟨by simp [vb], fun hn => ?_⟩
  obtain ⟨eA, hlo, tc, hB', ht⟩ := h hn
  refine ⟨_, eA, hB'.lt, fun j u hu => ?_⟩
  rw [show (Addr.add ⟨g, 0, none⟩ j) = ⟨g, j, none⟩ by unfold Addr.add; split <;> simp_all]
  rw [hB'.cell]; exact ht j u hu

theorem TxS.far {w : World} {lo g : Nat} {A : Option Addr} {e : List UInt8} (h : TxS w lo g A e) {p : Addr} (hp : p.block < lo) (u : Value) : TxS (w.setCell p u) lo g A e := fun h0 => by
  obtain ⟨e1, e2, tc, hb', ht⟩ := h h0
  exact ⟨e1, e2, tc, hb'.far (by omega) u, ht⟩

/-- what l1one tells of the place k: whether a token stands there, and, if so, it and its end -/
def LoP (s : List UInt8) (k : Nat) (w : World) (r : Ending) (w' : World) : Prop :=
  ∃ (kd n : Int) (A' : Option Addr) (c' g : Nat) (text : List UInt8) (ln : Int), r = .returned (.tuple #[.agg #[.int .i64 kd, .int .i64 k, .int .i64 n, .slice A' text.length c'], .int .i64 ln, .bool (tokOne s).2.2]) ∧ TxS w' w.heap.size g A' text ∧ Below w.heap.size w w' ∧
    ((tokOne s).2.2 = true → (⟨kd, (k : Int), n, text⟩ : Tok) = placed (tokOne s).1 k ∧ ln = ((k + (tokOne s).2.1 : Nat) : Int))

set_option maxRecDepth 100000 in
set_option maxHeartbeats 8000000 in
theorem l1one_small (b s : List UInt8) (a : Addr) (cp B k : Nat) (w : World) (hB : B ≤ w.heap.size) (hlb : b.length ≤ 1048576) (hcp : b.length ≤ cp) (hk : k < b.length) (h : RB w B (some a) b)
    (hsl : s.length = b.length - k) (hsg : ∀ j (hj : j < s.length) (hj' : k + j < b.length), s[j] = b[k + j]) (hR : RB w B (some (a.add k)) s) (hs0 : 0 < s.length) (hsm : small s[0] = true) :
    Calls Try.prog 42 #[.slice (some a) b.length cp, .int .i64 k] w (LoP s k w) := by
  have hs : small b[k] = true := by rw [← hsm, hsg 0 hs0 (by omega)]; rfl
  have hto := tokOne_small hs0 hsm
  obtain ⟨ad, e, hbk, hcell⟩ := h.at_ hk
  injection e with e
  subst e
  have hb2 : ∀ o1 o2, Below w.heap.size w ((w.alloc o1).alloc o2) := fun o1 o2 => ((Below.refl _ _).alloc (Nat.le_refl _) _).alloc (by simp) _
  have c0 := fun o1 o2 => (hb2 o1 o2).cell (p := a.add k) (by rw [block_of_add]; omega) |>.trans hcell
  have Hs := Lib.hid hs
  have Hsm := Lib.hid hsm
  have Hto := Lib.hid hto
  have Hsg := Lib.hid hsg
  obtain ⟨i1, hj, hy0, hy1, hy2⟩ := info_parts infoU8
  clear hs hsm hto hsg
  go_enter Try.func42, Try.ntmps42
  go_wp2_with (go_at_call 65; refine (l1small_c _ true Hs.out _).mono ?_; rintro e w' ⟨rfl, rfl⟩)
  go_loopw [7] (fun i wr => ∃ (j : Nat), 1 ≤ j ∧ j ≤ s.length ∧ i = .int .i64 ((k + j : Nat) : Int) ∧ wr = (w.alloc (.cells #[.int .i64 0, .int .i64 0, .int .i64 0, .slice none 0 0] 78)).alloc (.cells #[.int .i64 0, .int .i64 k, .int .i64 0, .slice none 0 0] 78) ∧ Hid ((s.take j).all small = true)) (fun i _ => b.length - (intOf i).toNat)
  case atStart => exact ⟨1, by omega, by omega, by go_num, rfl, Lib.hid (by
    rw [List.take_one]
    cases s with
    | nil => simp at hs0
    | cons x r => simpa using Hsm.out)⟩
  case round =>
    obtain ⟨j, hj1, hjs, rfl, rfl, hall⟩ := hrel
    by_cases hlt : j < s.length
    · have hkj : k + j < b.length := by omega
      obtain ⟨ad, e, _, hck⟩ := (h.below ((hb2 (.cells #[.int .i64 0, .int .i64 0, .int .i64 0, .slice none 0 0] 78) (.cells #[.int .i64 0, .int .i64 k, .int .i64 0, .slice none 0 0] 78)).mono hB)).at_ hkj
      injection e with e
      subst e
      rw [← Hsg.out j hlt hkj] at hck
      cases hsj : small s[j]
      case true =>
        have Hsj := Lib.hid hsj
        clear hsj
        go_wp2_with (go_at_call 65; refine (l1small_c _ true Hsj.out _).mono ?_; rintro e w' ⟨rfl, rfl⟩)
        go_roundw
        case rel => exact ⟨j + 1, by omega, by omega, by go_num, by trivial, Lib.hid (all_take hall.out hlt Hsj.out)⟩
        case measure => simp [intOf]; omega
      case false =>
        have Hsj := Lib.hid hsj
        clear hsj
        have hrun : run small s = j := run_stop hall.out hlt Hsj.out
        have hto2 := Hto.out
        rw [hrun] at hto2
        have hlen : (s.take j).length = j := by rw [List.length_take]; omega
        have hRj : RB ((((w.alloc (.cells #[.int .i64 0, .int .i64 0, .int .i64 0, .slice none 0 0] 78)).alloc (.cells #[.int .i64 1, .int .i64 k, .int .i64 0, .slice none 0 0] 78))).alloc (.cells #[] 5)) B (some (a.add k)) (s.take j) := ((hR.below ((hb2 (.cells #[.int .i64 0, .int .i64 0, .int .i64 0, .slice none 0 0] 78) (.cells #[.int .i64 1, .int .i64 k, .int .i64 0, .slice none 0 0] 78)).mono hB)).alloc (by simp; omega) _).take2 j
        have hcs : ∀ q u, (vb (s.take j))[q]? = some u → ((((w.alloc (.cells #[.int .i64 0, .int .i64 0, .int .i64 0, .slice none 0 0] 78)).alloc (.cells #[.int .i64 1, .int .i64 k, .int .i64 0, .slice none 0 0] 78))).alloc (.cells #[] 5)).cell? ((a.add k).add q) = some u := fun q u hq => by
          obtain ⟨ad', e, _, hc⟩ := hRj.2 (by omega)
          injection e with e
          subst e
          exact hc q u hq
        obtain ⟨V, hV⟩ : ∃ V, (w.alloc (.cells #[.int .i64 0, .int .i64 0, .int .i64 0, .slice none 0 0] 78)).alloc (.cells #[.int .i64 1, .int .i64 k, .int .i64 0, .slice none 0 0] 78) = V := ⟨_, rfl⟩
        have hVs : V.heap.size = w.heap.size + 1 + 1 := by rw [← hV]; simp
        have hVb : Below w.heap.size w V := by rw [← hV]; exact hb2 _ _
        have KX : Blk V w.heap.size 78 #[.int .i64 0, .int .i64 0, .int .i64 0, .slice none 0 0] := by rw [← hV]; exact (Blk.new w _ _).alloc _
        have KY : Blk V (w.heap.size + 1) 78 #[.int .i64 1, .int .i64 k, .int .i64 0, .slice none 0 0] := by
          have := Blk.new (w.alloc (.cells #[.int .i64 0, .int .i64 0, .int .i64 0, .slice none 0 0] 78)) 78 #[.int .i64 1, .int .i64 k, .int .i64 0, .slice none 0 0]
          rw [World.size_alloc] at this
          rw [← hV]; exact this
        have hO : (V.alloc (.cells #[] 5)).ownsRow V.heap.size 5 1 (.slice (some ⟨V.heap.size, 0, none⟩) 0 0) 0 [] :=
          ⟨rfl, .inr ⟨V.heap.size, 0, #[], rfl, Nat.le_refl _, Blk.new V _ _, Nat.le_refl _, Nat.zero_le _, rfl, rfl⟩⟩
        rw [hV] at hcs
        have HcsV := Lib.hid hcs
        have HOV := Lib.hid hO
        have HV := Lib.hid hV
        have Hto2 := Lib.hid hto2
        have Hlen := Lib.hid hlen
        have hOw : ((w.alloc (.cells #[.int .i64 0, .int .i64 0, .int .i64 0, .slice none 0 0] 78)).alloc (.cells #[.int .i64 1, .int .i64 k, .int .i64 0, .slice none 0 0] 78) |>.alloc (.cells #[] 5)).ownsRow (w.heap.size + 1 + 1) 5 1 (.slice (some ⟨w.heap.size + 1 + 1, 0, none⟩) 0 0) 0 [] := by
          rw [hV, ← hVs]; exact hO
        have hcsw : ∀ q u, (vb (s.take j))[q]? = some u → ((((w.alloc (.cells #[.int .i64 0, .int .i64 0, .int .i64 0, .slice none 0 0] 78)).alloc (.cells #[.int .i64 1, .int .i64 k, .int .i64 0, .slice none 0 0] 78))).alloc (.cells #[] 5)).cell? ((a.add k).add q) = some u := by rw [hV]; exact hcs
        have HOw := Lib.hid hOw
        have Hcsw := Lib.hid hcsw
        have hkc1 : k < cp := by omega
        have hkc2 : k + j ≤ cp := by omega
        have hkc3 : (k : Int) + (j : Int) ≤ cp := by omega
        have hkc4 : (k : Int) ≤ (k : Int) + (j : Int) := by omega
        have hj6 : j ≤ 1048576 := by omega
        have Hkj : Hid (k + j - k = j) := Lib.hid (by omega)
        clear hrun hto2 hlen hRj hcs hV hO hOw hcsw
        go_wp2_with (first
          | (go_at_call 65; refine (l1small_c _ false Hsj.out _).mono ?_; rintro e w' ⟨rfl, rfl⟩)
          | (at_builtin; refine wpList_append_own _ rfl (.tmp 34) (.tmp 38) 22 rfl (w.heap.size + 1 + 1) 5 i1 _ 1 1 Try.underlying22 hj hy0 hy1 hy2 rfl (by omega) _ _ _ rfl HOw.out (a.add k) (k + j - k) (cp - k) (vb (s.take j)) rfl (by rw [vb_len, Hlen.out, Nat.mul_one, Hkj.out]) Hcsw.out (fun u hu => by obtain ⟨b, _, rfl⟩ := List.mem_map.1 hu; rfl) (by unfold maxLen; omega) (by omega) (by simp) ?_; intro v2 w3 hown2 hg2 _; rw [Hkj.out] at hown2; obtain ⟨g2, cap2, hv2, htx, hb3, hge2, hgl2⟩ := copiedT (wr := V) (nm := s.take j) (by rw [Hlen.out]; omega) (by rw [Hlen.out, hVs]; exact hown2) (by rw [hVs]; have := hg2; rw [HV.out] at this; exact this); rw [Hlen.out] at hv2; subst hv2; have KY3 := KY.below hb3 KY.lt; have n3 := KY3.cell_of 3 (v := .slice none 0 0) rfl; have z3 := KY3.frozen 3; have Htx := Lib.hid htx; have Hb3 := Lib.hid hb3; have HKY := Lib.hid KY3; clear hown2 hg2 htx hb3 KY3))
        have HKX3 := Lib.hid (KX.below Hb3.out KX.lt)
        have hs3 := Hb3.out.size
        obtain ⟨U, hU⟩ : ∃ U, w3.setCell ⟨w.heap.size + 1, 3, none⟩ (.slice (some ⟨g2, 0, none⟩) j cap2) = U := ⟨_, rfl⟩
        have hUs : U.heap.size = w3.heap.size := by rw [← hU]; simp
        have KYU : Blk U (w.heap.size + 1) 78 #[.int .i64 1, .int .i64 k, .int .i64 0, .slice (some ⟨g2, 0, none⟩) j cap2] := by rw [← hU]; exact HKY.out.set_ 3 _
        have KXU : Blk U w.heap.size 78 #[.int .i64 0, .int .i64 0, .int .i64 0, .slice none 0 0] := by rw [← hU]; exact HKX3.out.far (by simp) _
        have htU : TxS U V.heap.size g2 (some ⟨g2, 0, none⟩) (s.take j) := by rw [← hU]; exact Htx.out.far (by simp; omega) _
        have hbU : Below w.heap.size w U := by rw [← hU]; exact (hVb.trans (Hb3.out.mono (by omega))).setCell (by simp) _
        rw [hU]
        have hwo := fun m => specWordOk_c (s.take j) (some ⟨g2, 0, none⟩) cap2 U.heap.size (U.drewN m) (by rw [Hlen.out]; omega) (htU.rb.drewN m)
        rw [Hlen.out] at hwo
        have Hwo := Lib.hid hwo
        have HtU := Lib.hid htU
        have HbU := Lib.hid hbU
        have y0 := KYU.cell_of 0 (v := .int .i64 1) rfl
        have y1 := KYU.cell_of 1 (v := .int .i64 k) rfl
        have y2 := KYU.cell_of 2 (v := .int .i64 0) rfl
        have y3 := KYU.cell_of 3 (v := .slice (some ⟨g2, 0, none⟩) j cap2) rfl
        have x0 := KXU.cell_of 0 (v := .int .i64 0) rfl
        have x1 := KXU.cell_of 1 (v := .int .i64 0) rfl
        have x2 := KXU.cell_of 2 (v := .int .i64 0) rfl
        have x3 := KXU.cell_of 3 (v := .slice none 0 0) rfl
        have xz0 := KXU.frozen 0
        have xz1 := KXU.frozen 1
        have xz2 := KXU.frozen 2
        have xz3 := KXU.frozen 3
        clear hU hwo htU hbU n3 z3
        go_region_with (go_at_call 66; refine (Hwo.out 1).mono ?_; rintro e w' ⟨rfl, rfl⟩)
        all_goals
          have dx0 : (U.drewN 1).cell? ⟨w.heap.size, 0, none⟩ = some (.int .i64 0) := x0
          have dx1 : (U.drewN 1).cell? ⟨w.heap.size, 1, none⟩ = some (.int .i64 0) := x1
          have dx2 : (U.drewN 1).cell? ⟨w.heap.size, 2, none⟩ = some (.int .i64 0) := x2
          have dx3 : (U.drewN 1).cell? ⟨w.heap.size, 3, none⟩ = some (.slice none 0 0) := x3
          go_wp2
          refine bodyPost_ret (v := .tuple #[.agg #[.int .i64 1, .int .i64 k, .int .i64 0, .slice (some ⟨g2, 0, none⟩) j cap2], .int .i64 ((k : Int) + (j : Int)), .bool (wordOk (s.take j))]) (by simp [results, Try.results42, go_sem, Act.put, dx0, dx1, dx2, dx3]) rfl ?_
          refine ⟨1, 0, some ⟨g2, 0, none⟩, cap2, g2, s.take j, (k : Int) + j, by rw [Hto2.out, Hlen.out], ?_, ?_, fun _ => ⟨by rw [Hto2.out]; rfl, by rw [Hto2.out]; dsimp only; omega⟩⟩
          · exact ((show TxS (U.drewN 1) V.heap.size g2 (some ⟨g2, 0, none⟩) (s.take j) from HtU.out).box (by omega) _ _ _ _).less (by omega)
          · exact ((((below_drewN HbU.out 1).setCell (by simp) _).setCell (by simp) _).setCell (by simp) _).setCell (by simp) _
    · have hkj : ¬ (k : Int) + (j : Int) < b.length := by omega
      have hrun : run small s = j := by
        have e : j = s.length := by omega
        rw [e]
        exact run_all (by have := hall.out; rw [e] at this; exact this)
      have hto2 := Hto.out
      rw [hrun] at hto2
      have hlen : (s.take j).length = j := by rw [List.length_take]; omega
      have hRj : RB ((((w.alloc (.cells #[.int .i64 0, .int .i64 0, .int .i64 0, .slice none 0 0] 78)).alloc (.cells #[.int .i64 1, .int .i64 k, .int .i64 0, .slice none 0 0] 78))).alloc (.cells #[] 5)) B (some (a.add k)) (s.take j) := ((hR.below ((hb2 (.cells #[.int .i64 0, .int .i64 0, .int .i64 0, .slice none 0 0] 78) (.cells #[.int .i64 1, .int .i64 k, .int .i64 0, .slice none 0 0] 78)).mono hB)).alloc (by simp; omega) _).take2 j
      have hcs : ∀ q u, (vb (s.take j))[q]? = some u → ((((w.alloc (.cells #[.int .i64 0, .int .i64 0, .int .i64 0, .slice none 0 0] 78)).alloc (.cells #[.int .i64 1, .int .i64 k, .int .i64 0, .slice none 0 0] 78))).alloc (.cells #[] 5)).cell? ((a.add k).add q) = some u := fun q u hq => by
        obtain ⟨ad', e, _, hc⟩ := hRj.2 (by omega)
        injection e with e
        subst e
        exact hc q u hq
      obtain ⟨V, hV⟩ : ∃ V, (w.alloc (.cells #[.int .i64 0, .int .i64 0, .int .i64 0, .slice none 0 0] 78)).alloc (.cells #[.int .i64 1, .int .i64 k, .int .i64 0, .slice none 0 0] 78) = V := ⟨_, rfl⟩
      have hVs : V.heap.size = w.heap.size + 1 + 1 := by rw [← hV]; simp
      have hVb : Below w.heap.size w V := by rw [← hV]; exact hb2 _ _
      have KX : Blk V w.heap.size 78 #[.int .i64 0, .int .i64 0, .int .i64 0, .slice none 0 0] := by rw [← hV]; exact (Blk.new w _ _).alloc _
      have KY : Blk V (w.heap.size + 1) 78 #[.int .i64 1, .int .i64 k, .int .i64 0, .slice none 0 0] := by
        have := Blk.new (w.alloc (.cells #[.int .i64 0, .int .i64 0, .int .i64 0, .slice none 0 0] 78)) 78 #[.int .i64 1, .int .i64 k, .int .i64 0, .slice none 0 0]
        rw [World.size_alloc] at this
        rw [← hV]; exact this
      have hO : (V.alloc (.cells #[] 5)).ownsRow V.heap.size 5 1 (.slice (some ⟨V.heap.size, 0, none⟩) 0 0) 0 [] :=
        ⟨rfl, .inr ⟨V.heap.size, 0, #[], rfl, Nat.le_refl _, Blk.new V _ _, Nat.le_refl _, Nat.zero_le _, rfl, rfl⟩⟩
      rw [hV] at hcs
      have HcsV := Lib.hid hcs
      have HOV := Lib.hid hO
      have HV := Lib.hid hV
      have Hto2 := Lib.hid hto2
      have Hlen := Lib.hid hlen
      have hOw : ((w.alloc (.cells #[.int .i64 0, .int .i64 0, .int .i64 0, .slice none 0 0] 78)).alloc (.cells #[.int .i64 1, .int .i64 k, .int .i64 0, .slice none 0 0] 78) |>.alloc (.cells #[] 5)).ownsRow (w.heap.size + 1 + 1) 5 1 (.slice (some ⟨w.heap.size + 1 + 1, 0, none⟩) 0 0) 0 [] := by
        rw [hV, ← hVs]; exact hO
      have hcsw : ∀ q u, (vb (s.take j))[q]? = some u → ((((w.alloc (.cells #[.int .i64 0, .int .i64 0, .int .i64 0, .slice none 0 0] 78)).alloc (.cells #[.int .i64 1, .int .i64 k, .int .i64 0, .slice none 0 0] 78))).alloc (.cells #[] 5)).cell? ((a.add k).add q) = some u := by rw [hV]; exact hcs
      have HOw := Lib.hid hOw
      have Hcsw := Lib.hid hcsw
      have hkc1 : k < cp := by omega
      have hkc2 : k + j ≤ cp := by omega
      have hkc3 : (k : Int) + (j : Int) ≤ cp := by omega
      have hkc4 : (k : Int) ≤ (k : Int) + (j : Int) := by omega
      have hj6 : j ≤ 1048576 := by omega
      have Hkj : Hid (k + j - k = j) := Lib.hid (by omega)
      clear hrun hto2 hlen hRj hcs hV hO hOw hcsw
      go_wp2_with (first
        | (fail)
        | (at_builtin; refine wpList_append_own _ rfl (.tmp 34) (.tmp 38) 22 rfl (w.heap.size + 1 + 1) 5 i1 _ 1 1 Try.underlying22 hj hy0 hy1 hy2 rfl (by omega) _ _ _ rfl HOw.out (a.add k) (k + j - k) (cp - k) (vb (s.take j)) rfl (by rw [vb_len, Hlen.out, Nat.mul_one, Hkj.out]) Hcsw.out (fun u hu => by obtain ⟨b, _, rfl⟩ := List.mem_map.1 hu; rfl) (by unfold maxLen; omega) (by omega) (by simp) ?_; intro v2 w3 hown2 hg2 _; rw [Hkj.out] at hown2; obtain ⟨g2, cap2, hv2, htx, hb3, hge2, hgl2⟩ := copiedT (wr := V) (nm := s.take j) (by rw [Hlen.out]; omega) (by rw [Hlen.out, hVs]; exact hown2) (by rw [hVs]; have := hg2; rw [HV.out] at this; exact this); rw [Hlen.out] at hv2; subst hv2; have KY3 := KY.below hb3 KY.lt; have n3 := KY3.cell_of 3 (v := .slice none 0 0) rfl; have z3 := KY3.frozen 3; have Htx := Lib.hid htx; have Hb3 := Lib.hid hb3; have HKY := Lib.hid KY3; clear hown2 hg2 htx hb3 KY3))
      have HKX3 := Lib.hid (KX.below Hb3.out KX.lt)
      have hs3 := Hb3.out.size
      obtain ⟨U, hU⟩ : ∃ U, w3.setCell ⟨w.heap.size + 1, 3, none⟩ (.slice (some ⟨g2, 0, none⟩) j cap2) = U := ⟨_, rfl⟩
      have hUs : U.heap.size = w3.heap.size := by rw [← hU]; simp
      have KYU : Blk U (w.heap.size + 1) 78 #[.int .i64 1, .int .i64 k, .int .i64 0, .slice (some ⟨g2, 0, none⟩) j cap2] := by rw [← hU]; exact HKY.out.set_ 3 _
      have KXU : Blk U w.heap.size 78 #[.int .i64 0, .int .i64 0, .int .i64 0, .slice none 0 0] := by rw [← hU]; exact HKX3.out.far (by simp) _
      have htU : TxS U V.heap.size g2 (some ⟨g2, 0, none⟩) (s.take j) := by rw [← hU]; exact Htx.out.far (by simp; omega) _
      have hbU : Below w.heap.size w U := by rw [← hU]; exact (hVb.trans (Hb3.out.mono (by omega))).setCell (by simp) _
      rw [hU]
      have hwo := fun m => specWordOk_c (s.take j) (some ⟨g2, 0, none⟩) cap2 U.heap.size (U.drewN m) (by rw [Hlen.out]; omega) (htU.rb.drewN m)
      rw [Hlen.out] at hwo
      have Hwo := Lib.hid hwo
      have HtU := Lib.hid htU
      have HbU := Lib.hid hbU
      have y0 := KYU.cell_of 0 (v := .int .i64 1) rfl
      have y1 := KYU.cell_of 1 (v := .int .i64 k) rfl
      have y2 := KYU.cell_of 2 (v := .int .i64 0) rfl
      have y3 := KYU.cell_of 3 (v := .slice (some ⟨g2, 0, none⟩) j cap2) rfl
      have x0 := KXU.cell_of 0 (v := .int .i64 0) rfl
      have x1 := KXU.cell_of 1 (v := .int .i64 0) rfl
      have x2 := KXU.cell_of 2 (v := .int .i64 0) rfl
      have x3 := KXU.cell_of 3 (v := .slice none 0 0) rfl
      have xz0 := KXU.frozen 0
      have xz1 := KXU.frozen 1
      have xz2 := KXU.frozen 2
      have xz3 := KXU.frozen 3
      clear hU hwo htU hbU n3 z3
      go_region_with (go_at_call 66; refine (Hwo.out 1).mono ?_; rintro e w' ⟨rfl, rfl⟩)
      all_goals
        have dx0 : (U.drewN 1).cell? ⟨w.heap.size, 0, none⟩ = some (.int .i64 0) := x0
        have dx1 : (U.drewN 1).cell? ⟨w.heap.size, 1, none⟩ = some (.int .i64 0) := x1
        have dx2 : (U.drewN 1).cell? ⟨w.heap.size, 2, none⟩ = some (.int .i64 0) := x2
        have dx3 : (U.drewN 1).cell? ⟨w.heap.size, 3, none⟩ = some (.slice none 0 0) := x3
        go_wp2
        refine bodyPost_ret (v := .tuple #[.agg #[.int .i64 1, .int .i64 k, .int .i64 0, .slice (some ⟨g2, 0, none⟩) j cap2], .int .i64 ((k : Int) + (j : Int)), .bool (wordOk (s.take j))]) (by simp [results, Try.results42, go_sem, Act.put, dx0, dx1, dx2, dx3]) rfl ?_
        refine ⟨1, 0, some ⟨g2, 0, none⟩, cap2, g2, s.take j, (k : Int) + j, by rw [Hto2.out, Hlen.out], ?_, ?_, fun _ => ⟨by rw [Hto2.out]; rfl, by rw [Hto2.out]; dsimp only; omega⟩⟩
        · exact ((show TxS (U.drewN 1) V.heap.size g2 (some ⟨g2, 0, none⟩) (s.take j) from HtU.out).box (by omega) _ _ _ _).less (by omega)
        · exact ((((below_drewN HbU.out 1).setCell (by simp) _).setCell (by simp) _).setCell (by simp) _).setCell (by simp) _
end Go.Proofs.Ytmejbmfopdfbjaa
