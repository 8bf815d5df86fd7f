/-
  The program's Drop.
-/
import Derived.Test.YtfmlgpnjckamjaaRecountJ
import Derived.Test.YtfmlgpnjckamjaaTallyD
namespace Go.Proofs.Ytfmlgpnjckamjaa
open Go.RowKit
set_option linter.unusedVariables false
set_option linter.unusedSimpArgs false
def dropT (a : Ar) (k n : Int) : Ar := ⟨a.slots, dropQ a.queue k n, a.purple⟩
def dropB (a : Ar) (k n g : Int) : Bool := chgB a (dropT a k n) k n g
def dropA (a : Ar) (k n g : Int) : Ar := chgA a (dropT a k n) k n g
theorem dropQ_len (Q : List Int) (k n : Int) : (dropQ Q k n).length ≤ Q.length + 1 := by
  unfold dropQ
  split <;> simp
theorem dropT_sz {S : List Sl} {Q P : List Int} {k n : Int} (h : arSz ⟨S, Q, P⟩ ≤ 0x100000) : arSz ⟨S, dropQ Q k n, P⟩ ≤ 1050000 := by
  have := dropQ_len Q k n
  unfold arSz at h ⊢
  dsimp only at h ⊢
  omega
theorem dropA_sz {a : Ar} {k n g : Int} (h : arSz a ≤ 0x100000) : arSz (dropA a k n g) ≤ 1050000 := by
  unfold dropA chgA
  split
  · split
    · exact dropT_sz h
    · omega
  · unfold arSz slsSz; simp
section
variable (S : List Sl) (Q P : List Int) (A0 A1 A2 : Option Addr) (c0 c1 c2 L B : Nat) (w : World)
set_option maxHeartbeats 1000000 in
theorem implDrop_c (k n gn : Int) (hB : B ≤ w.heap.size) (h : ArL w L B A0 A1 A2 ⟨S, Q, P⟩) (hsz : arSz ⟨S, Q, P⟩ ≤ 0x100000) :
    Calls Try.prog 23 #[.agg #[.slice A0 S.length c0, .slice A1 Q.length c1, .slice A2 P.length c2], .agg #[.int .i64 k, .int .i64 n, .int .i64 gn]] w fun e w' => ∃ v,
      e = .returned (.tuple #[v, .bool (dropB ⟨S, Q, P⟩ k n gn)]) ∧ ArAns w' w.heap.size (dropA ⟨S, Q, P⟩ k n gn) v ∧ Below w.heap.size w w' := by
  obtain ⟨R, hR⟩ : ∃ R, R = dropA ⟨S, Q, P⟩ k n gn := ⟨_, rfl⟩
  obtain ⟨r, hr⟩ : ∃ r, r = dropB ⟨S, Q, P⟩ k n gn := ⟨_, rfl⟩
  have hbW : Below w.heap.size w (((w.alloc (.cells #[.slice A0 S.length c0, .slice A1 Q.length c1, .slice A2 P.length c2] 32)).alloc (.cells #[.int .i64 k, .int .i64 n, .int .i64 gn] 43)).alloc (.cells #[.slice none 0 0, .slice none 0 0, .slice none 0 0] 32)) := (((Below.refl _ _).alloc (Nat.le_refl _) _).alloc (by simp) _).alloc (by simp; omega) _
  have hKR : Blk (((w.alloc (.cells #[.slice A0 S.length c0, .slice A1 Q.length c1, .slice A2 P.length c2] 32)).alloc (.cells #[.int .i64 k, .int .i64 n, .int .i64 gn] 43)).alloc (.cells #[.slice none 0 0, .slice none 0 0, .slice none 0 0] 32)) (w.heap.size + 2) 32 #[.slice none 0 0, .slice none 0 0, .slice none 0 0] := by
    have := Blk.new ((w.alloc (.cells #[.slice A0 S.length c0, .slice A1 Q.length c1, .slice A2 P.length c2] 32)).alloc (.cells #[.int .i64 k, .int .i64 n, .int .i64 gn] 43)) 32 #[.slice none 0 0, .slice none 0 0, .slice none 0 0]
    rw [World.size_alloc, World.size_alloc] at this
    exact this
  have hsz2 : (((w.alloc (.cells #[.slice A0 S.length c0, .slice A1 Q.length c1, .slice A2 P.length c2] 32)).alloc (.cells #[.int .i64 k, .int .i64 n, .int .i64 gn] 43)).alloc (.cells #[.slice none 0 0, .slice none 0 0, .slice none 0 0] 32)).heap.size = w.heap.size + 3 := by simp
  have hc := recountedJ_c S Q P A0 A1 A2 c0 c1 c2 L B (((w.alloc (.cells #[.slice A0 S.length c0, .slice A1 Q.length c1, .slice A2 P.length c2] 32)).alloc (.cells #[.int .i64 k, .int .i64 n, .int .i64 gn] 43)).alloc (.cells #[.slice none 0 0, .slice none 0 0, .slice none 0 0] 32)) 52 _ _ Try.func52 (by kernel_rfl) rfl S (dropQ Q k n) P k n gn (Nat.le_trans hB hbW.size) (h.below (hbW.mono hB)) (Nat.le_trans hsz (by decide)) (fun _ => dropT_sz hsz) (fun hok hv W bt lo ht => (drop_c S Q P bt lo _ k n gn W (by have := (arSz_len (Nat.le_trans hsz (by decide : (0x100000 : Nat) ≤ 1050000))).1.2.1; dsimp only at this; omega) ht).mono fun e w' ⟨h1, h2, h3⟩ => ⟨h1, ⟨_, h2.toQ⟩, h3⟩)
  rw [show chgB ⟨S, Q, P⟩ ⟨S, dropQ Q k n, P⟩ k n gn = r from hr.symm, show chgA ⟨S, Q, P⟩ ⟨S, dropQ Q k n, P⟩ k n gn = R from hR.symm] at hc
  rw [← hR, ← hr]
  have Hc := Lib.hid hc
  have HKR := Lib.hid hKR
  have HbW := Lib.hid hbW
  have Hs2 := Lib.hid hsz2
  clear hR hr hbW hKR hc h hsz hsz2
  go_enter Try.func23, Try.ntmps23
  go_wp2_with fail
  refine Hc.out.mono ?_
  rintro e w6 ⟨v, rfl, ⟨T0, T1, T2, d0, d1, d2, g, fb, nb, g1, g2, rfl, hO, hl⟩, hb6⟩
  rw [Hs2.out] at hO hb6
  have hs6 : w.heap.size + 3 ≤ w6.heap.size := by have := hb6.size; rw [Hs2.out] at this; exact this
  have HKR6 := Lib.hid (HKR.out.below hb6 (by omega))
  have Hb6 := Lib.hid (HbW.out.trans (hb6.mono (by omega)))
  have HO := Lib.hid hO
  have Hl := Lib.hid hl
  have m0 := HKR6.out.cel 0 rfl
  have m1 := HKR6.out.cel 1 rfl
  have m2 := HKR6.out.cel 2 rfl
  have y0 : w6.frozen? ⟨w.heap.size + 2, 0, none⟩ = false := HKR6.out.frozen 0
  have y1 : w6.frozen? ⟨w.heap.size + 2, 1, none⟩ = false := HKR6.out.frozen 1
  have y2 : w6.frozen? ⟨w.heap.size + 2, 2, none⟩ = false := HKR6.out.frozen 2
  clear hO hl hb6 HKR HbW Hc Hs2
  go_wp2_with fail
  refine bodyPost_ret (v := .tuple #[.agg #[.slice T0 R.slots.length d0, .slice T1 R.queue.length d1, .slice T2 R.purple.length d2], .bool r]) (by simp [results, Try.results23, go_sem, m0, m1, m2]) rfl
    ⟨.agg #[.slice T0 R.slots.length d0, .slice T1 R.queue.length d1, .slice T2 R.purple.length d2], rfl, ArAns.mono (ArAns.store d0 d1 d2 _ _ _ HO.out (fun b hb => ⟨Hl.out b hb, fun e => by have := HO.out.low b hb; omega⟩)) (by omega), below_store Hb6.out (by omega) _ _ _⟩
end
end Go.Proofs.Ytfmlgpnjckamjaa
