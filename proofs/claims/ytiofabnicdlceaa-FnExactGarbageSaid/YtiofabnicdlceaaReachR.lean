/-
  Whom roots reach, of the program.
-/
import Derived.Test.YtiofabnicdlceaaReachI
namespace Go.Proofs.Ytiofabnicdlceaa
open Go.RowKit
set_option linter.unusedVariables false
set_option linter.unusedSimpArgs false

set_option maxRecDepth 100000 in
set_option maxHeartbeats 4000000 in
theorem reached_c (a : Ar) (A LA A1 A2 : Option Addr) (c ln lc c1 c2 : Nat) (l : List Vl) (VA : Option Addr) (vc LV BV : Nat) (w : World) (hsz : arSz a ≤ 1048576) (hok : arOk a = true) (hro : rootsA a.slots l = true)
    (h : SlL w 0 w.heap.size A a.slots) (hBV : BV ≤ w.heap.size) (hv : VlL w LV BV VA l) :
    Calls Try.prog 42 #[.agg #[.slice A a.slots.length c, .slice LA ln lc, .slice A1 a.queue.length c1, .slice A2 a.purple.length c2], .slice VA l.length vc] w fun e w' => ∃ v, e = .returned v ∧ SetV w' w.heap.size v (reachL a.slots (refsV l l.length)) ∧ Below w.heap.size w w' := by
  have hbR := blw1 w (.cells #[.slice A a.slots.length c, .slice LA ln lc, .slice A1 a.queue.length c1, .slice A2 a.purple.length c2] 66)
  have hl5 := (rootsA_at hro).1
  have hrl := refsV_le l l.length
  have hrin := refsV_in (rootsA_at hro).2
  obtain ⟨hS1, hS16, -⟩ := arOk_at hok
  have HS := Lib.hid (InS.of_ok hok)
  have hsl : slsSz a.slots ≤ 1048576 := by unfold arSz at hsz; omega
  obtain ⟨F, hF⟩ : ∃ f, f = refsV l l.length := ⟨_, rfl⟩
  have Hra := Lib.hid (fun x => refsAmong_c l VA vc LV BV ((w.alloc (.cells #[.slice A a.slots.length c, .slice LA ln lc, .slice A1 a.queue.length c1, .slice A2 a.purple.length c2] 66)).drewN x) (Nat.le_trans hBV hbR.size) (by omega) ((hv.below (hbR.mono hBV)).keep (w' := (w.alloc (.cells #[.slice A a.slots.length c, .slice LA ln lc, .slice A1 a.queue.length c1, .slice A2 a.purple.length c2] 66)).drewN x) fun _ _ _ => rfl))
  rw [← hF] at Hra hrl hrin
  have hFin : ∀ x ∈ F, 0 ≤ x ∧ x < (a.slots.length : Int) := fun x hx => hrin.at_mem hx
  have HFin := Lib.hid hFin
  have HK := Lib.hid (Blk.new w 66 #[.slice A a.slots.length c, .slice LA ln lc, .slice A1 a.queue.length c1, .slice A2 a.purple.length c2])
  have Hb := Lib.hid hbR
  have H := Lib.hid h
  have Hsl := Lib.hid hsl
  rw [← hF]
  clear hF h hsz hok hro hv hbR hrin hFin hsl
  go_enter Try.func42, Try.ntmps42
  have k0 := HK.out.cel 0 (v := .slice A a.slots.length c) rfl
  have k1 := HK.out.cel 1 (v := .slice LA ln lc) rfl
  have k2 := HK.out.cel 2 (v := .slice A1 a.queue.length c1) rfl
  have k3 := HK.out.cel 3 (v := .slice A2 a.purple.length c2) rfl
  go_upto_region 1 with fail
  go_region_with (first
    | (go_at_call 78; refine (Hra.out 1).mono ?_; rintro e w1 ⟨FA, fc, rfl, hio, hb1⟩; have hb01 : Below (w.heap.size + 1) (w.alloc (.cells #[.slice A a.slots.length c, .slice LA ln lc, .slice A1 a.queue.length c1, .slice A2 a.purple.length c2] 66)) w1 := ⟨hb1.os, hb1.tape, hb1.output, by simpa using hb1.size, fun k hk => hb1.block k (by simpa using hk)⟩; have K1 := HK.out.below hb01 (Nat.lt_succ_self _); have k0 := K1.cel 0 (v := .slice A a.slots.length c) rfl; have k1 := K1.cel 1 (v := .slice LA ln lc) rfl; have k2 := K1.cel 2 (v := .slice A1 a.queue.length c1) rfl; have k3 := K1.cel 3 (v := .slice A2 a.purple.length c2) rfl; have hb0 : Below w.heap.size w w1 := Hb.out.trans (hb01.mono (Nat.le_succ _)); have Hb0 := Lib.hid hb0; have Hre := Lib.hid (reachable_c a.slots F A FA c fc 0 w.heap.size _ w1.heap.size (.slice LA ln lc) (.slice A1 a.queue.length c1) (.slice A2 a.purple.length c2) rfl rfl rfl w1 Hsl.out hS16 HS.out hb0.size (Nat.le_refl _) (H.out.below hb0) (hio.ilg (by unfold maxLen; omega)) (by omega) HFin.out); clear hio hb1 hb01 K1 hb0 Hra)
    | (go_at_call 77; refine Hre.out.mono ?_; rintro e w2 ⟨v, rfl, hs, hb2⟩; obtain ⟨SA, sc, rfl⟩ := hs.form; have Hq := Lib.hid (And.intro (hs.lo_le Hb0.out.size) (Hb0.out.trans (hb2.mono Hb0.out.size))); clear hs hb2 Hre))
  all_goals
    go_wp2
    go_ret
    exact ⟨_, rfl, Hq.out.1, Hq.out.2⟩

/-- marks in the first k places -/
def Upto (m : List Bool) (O : List Bool) (N k : Nat) : Prop := m.length = N ∧ ∀ j, j < k → gO m j = gO O j
theorem Upto.start (O : List Bool) (N : Nat) : Upto (List.replicate N false) O N 0 := ⟨by simp, fun j hj => by omega⟩
theorem gO_set_at {m : List Bool} {i j : Nat} {b : Bool} (h : i < m.length) : gO (m.set i b) j = if j = i then b else gO m j := by
  unfold gO
  rw [List.getD_eq_getElem?_getD, List.getD_eq_getElem?_getD]
  by_cases e : j = i
  · subst e
    rw [if_pos rfl, List.getElem?_set_self h]; rfl
  · rw [if_neg e, List.getElem?_set_ne (by omega)]
theorem Upto.step {m O : List Bool} {N k : Nat} (h : Upto m O N k) (hk : k < N) : Upto (m.set k (gO O k)) O N (k + 1) := by
  refine ⟨by simpa using h.1, fun j hj => ?_⟩
  rw [gO_set_at (by rw [h.1]; exact hk)]
  by_cases e : j = k
  · rw [if_pos e, e]
  · rw [if_neg e]; exact h.2 j (by omega)
theorem Upto.eq {m O : List Bool} {N : Nat} (h : Upto m O N N) (hl : O.length = N) : m = O := gO_ext (by rw [h.1, hl]) fun j hj => by rw [h.2 j (by rw [← h.1]; exact hj)]

end Go.Proofs.Ytiofabnicdlceaa
