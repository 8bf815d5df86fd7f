/-
  The model's drop over an arena in a box: the queue grows.
-/
import Derived.Test.YtfmlgpnjckamjaaOwnGrow
import Derived.Test.YtfmlgpnjckamjaaDropI
import Derived.Deep.RegionHeld3
namespace Go.Proofs.Ytfmlgpnjckamjaa
open Go.RowKit
set_option linter.unusedVariables false
set_option linter.unusedSimpArgs false
/-- an arena of the call's own in a box: its queue and purple grow -/
def BoxJ (w : World) (lo bt : Nat) (a : Ar) : Prop :=
  ∃ (A0 A1 A2 : Option Addr) (c0 c1 c2 g : Nat) (fb : Nat → Nat) (nb : Nat → Nat → Nat) (g1 g2 : Nat),
    Blk w bt 32 #[.slice A0 a.slots.length c0, .slice A1 a.queue.length c1, .slice A2 a.purple.length c2] ∧
    lo ≤ bt ∧ ArnM.OwnAr w lo A0 A1 A2 a g fb nb g1 g2 ∧ (∀ b, ArnM.asOf a g fb nb g1 g2 b → b < w.heap.size ∧ ¬ b = bt) ∧ RowQ w lo A1 A2 c1 c2 g1 g2 a.queue a.purple
theorem RowQ.cap {w : World} {lo c1 c2 g1 g2 : Nat} {A1 A2 : Option Addr} {Q P : List Int} (h : RowQ w lo A1 A2 c1 c2 g1 g2 Q P) : P.length ≤ c2 := by
  obtain ⟨A, c, e, hc⟩ := h.p.form
  cases e
  exact hc

set_option maxRecDepth 100000 in
set_option maxHeartbeats 4000000 in
theorem l5drop_yes (S : List Sl) (Q P : List Int) (bt lo : Nat) (n gn : Int) (w : World) (hQ : Q.length ≤ 10000000) (h : BoxJ w lo bt ⟨S, Q, P⟩) :
    Calls Try.prog 51 #[.pointer (some ⟨bt, 0, none⟩), .agg #[.int .i64 2, .int .i64 n, .int .i64 gn]] w fun e w' => (∃ z, e = .returned z) ∧ BoxJ w' lo bt ⟨S, Q ++ [n], P⟩ ∧ Below lo w w' := by
  obtain ⟨A0, A1, A2, c0, c1, c2, g, fb, nb, g1, g2, hK, hlo, hO, hl, hR⟩ := h
  dsimp only at hK hR
  have hbW := CopyOf.blw1 w (.cells #[.int .i64 2, .int .i64 n, .int .i64 gn] 43)
  have hlt := hK.lt
  have hlow : lo ≤ w.heap.size := by omega
  obtain ⟨X, hX⟩ : ∃ X, X = w.alloc (.cells #[.int .i64 2, .int .i64 n, .int .i64 gn] 43) := ⟨_, rfl⟩
  obtain ⟨gv, hgv⟩ : ∃ v, v = w.heap.size := ⟨_, rfl⟩
  rw [← hX] at hbW
  have HS0 : Hid (Blk X bt 32 #[.slice A0 S.length c0, .slice A1 Q.length c1, .slice A2 P.length c2] ∧ Blk X gv 43 #[.int .i64 2, .int .i64 n, .int .i64 gn]) := Lib.hid ⟨hK.below hbW hK.lt, by rw [hX, hgv]; exact Blk.new w _ _⟩
  have HXR := Lib.hid (hR.below hbW)
  have HXO := Lib.hid (hO.apart (S := fun _ => False) (Apart.of_below hbW) (fun _ _ h => h))
  have HXl := Lib.hid (fun b (hb : ArnM.asOf ⟨S, Q, P⟩ g fb nb g1 g2 b) => Nat.lt_of_lt_of_le (hl b hb).1 hbW.size)
  have Hbt := Lib.hid hlo
  have Hne := Lib.hid (fun b (hb : ArnM.asOf ⟨S, Q, P⟩ g fb nb g1 g2 b) => (hl b hb).2)
  have HXB := Lib.hid (hbW.mono hlow)
  have hloX : lo ≤ X.heap.size := Nat.le_trans hlow hbW.size
  have HX := Lib.hid hX
  have v0 := HS0.out.2.cel 0 (v := .int .i64 2) rfl
  rw [hX, hgv] at v0
  have Hgv := Lib.hid hgv
  clear hX hbW hK hO hl hR hlt hgv
  go_enter Try.func51, Try.ntmps51
  go_upto_region 2 with fail
  rw [← HX.out, ← Hgv.out]
  refine wp_region_noPanic ?_
  refine wp_region_held_drew (S := (fun W => Blk W gv 43 #[.int .i64 2, .int .i64 n, .int .i64 gn])) (by kernel_rfl) ?_ (fun hHeld => ?_)
  · exact HS0.out.2
  have p1 := HS0.out.1.cel 1 (v := .slice A1 Q.length c1) rfl
  refine wpAnyH_take (i := 0) (oi := _) (v := ?_) rfl (by kernel_rfl) (by kernel_rfl) (by kernel_rfl) (fun _ _ _ h => h) (Or.inl ⟨by rfl, ?_⟩) (by assumption) ?_
  rotate_left
  focus
    intro w hSw
    have qs2 := hSw.cel 1 (v := .int .i64 n) rfl
    go_simp
    try with_reducible rfl
  try simp only [List.getElem_toArray, List.getElem_cons_succ, List.getElem_cons_zero, Act.put, List.setIfInBounds_toArray, List.set_cons_zero, List.set_cons_succ]
  refine wpAnyH_take (i := 1) (oi := _) (v := ?_) rfl (by kernel_rfl) (by kernel_rfl) (by kernel_rfl) (fun _ _ _ h => h) (Or.inl ⟨by rfl, ?_⟩) (by assumption) ?_
  rotate_left
  focus
    intro w hSw
    have qs2 := hSw.cel 1 (v := .int .i64 n) rfl
    go_simp
    try with_reducible rfl
  try simp only [List.getElem_toArray, List.getElem_cons_succ, List.getElem_cons_zero, Act.put, List.setIfInBounds_toArray, List.set_cons_zero, List.set_cons_succ]
  refine wpAnyH_take (i := 2) (oi := _) (v := ?_) rfl (by kernel_rfl) (by kernel_rfl) (by kernel_rfl) (fun _ _ _ h => h) (Or.inl ⟨by rfl, ?_⟩) (by assumption) ?_
  rotate_left
  focus
    intro w hSw
    have qs2 := hSw.cel 1 (v := .int .i64 n) rfl
    go_simp
    try with_reducible rfl
  try simp only [List.getElem_toArray, List.getElem_cons_succ, List.getElem_cons_zero, Act.put, List.setIfInBounds_toArray, List.set_cons_zero, List.set_cons_succ]
  refine wpAnyH_take (i := 3) (oi := _) (v := ?_) rfl (by kernel_rfl) (by kernel_rfl) (by kernel_rfl) (fun _ _ _ h => h) (Or.inl ⟨by rfl, ?_⟩) (by assumption) ?_
  rotate_left
  focus
    intro w hSw
    have qs2 := hSw.cel 1 (v := .int .i64 n) rfl
    go_simp
    try with_reducible rfl
  try simp only [List.getElem_toArray, List.getElem_cons_succ, List.getElem_cons_zero, Act.put, List.setIfInBounds_toArray, List.set_cons_zero, List.set_cons_succ]
  refine wpAnyH_take (i := 5) (oi := _) (v := ?_) rfl (by kernel_rfl) (by kernel_rfl) (by kernel_rfl) (fun _ _ _ h => h) (Or.inl ⟨by rfl, ?_⟩) (by assumption) ?_
  rotate_left
  focus
    intro w hSw
    have qs2 := hSw.cel 1 (v := .int .i64 n) rfl
    go_simp
    try with_reducible rfl
  try simp only [List.getElem_toArray, List.getElem_cons_succ, List.getElem_cons_zero, Act.put, List.setIfInBounds_toArray, List.set_cons_zero, List.set_cons_succ]
  refine wpAnyH_take (i := 6) (oi := _) (v := ?_) rfl (by kernel_rfl) (by kernel_rfl) (by kernel_rfl) (fun _ _ _ h => h) (Or.inl ⟨by rfl, ?_⟩) (by assumption) ?_
  rotate_left
  focus
    intro w hSw
    have qs2 := hSw.cel 1 (v := .int .i64 n) rfl
    go_simp
    try with_reducible rfl
  try simp only [List.getElem_toArray, List.getElem_cons_succ, List.getElem_cons_zero, Act.put, List.setIfInBounds_toArray, List.set_cons_zero, List.set_cons_succ]
  refine wpAnyH_ready (rs := [4, 7]) (by kernel_rfl) (by simp) ?_
  refine AllReadyH.cons (o := _) rfl (fun K hK => ?_) ?_
  · go_simp
    refine hK.out _ _ ?_ (fun hHeld => ?_)
    · exact HS0.out.2
    · clear hK K
      try simp only [List.getElem_toArray, List.getElem_cons_succ, List.getElem_cons_zero, Act.put, List.setIfInBounds_toArray, List.set_cons_zero, List.set_cons_succ]
      refine wpAnyH_ready (rs := [7]) (by kernel_rfl) (by simp) ?_
      refine AllReadyH.cons (o := _) rfl (fun K hK => ?_) ?_
      · go_simp
        obtain ⟨Y, hY⟩ : ∃ x, x = (X.alloc (.cells #[.int .i64 n] 3)).drew := ⟨_, rfl⟩
        rw [← hY]
        have HYS : Hid (Blk Y bt 32 #[.slice A0 S.length c0, .slice A1 Q.length c1, .slice A2 P.length c2] ∧ Blk Y gv 43 #[.int .i64 2, .int .i64 n, .int .i64 gn]) := Lib.hid (hY ▸ ⟨(HS0.out.1.alloc _).drew, (HS0.out.2.alloc _).drew⟩)
        have HYn : Hid (Blk Y X.heap.size 3 #[.int .i64 n]) := Lib.hid (hY ▸ (Blk.new X 3 #[.int .i64 n]).drew)
        have HYR : Hid (RowQ Y lo A1 A2 c1 c2 g1 g2 Q P) := Lib.hid (hY ▸ HXR.out.below ((Below.refl _ X).alloc (Nat.le_refl _) _).drew)
        have HYO : Hid (ArnM.OwnAr Y lo A0 A1 A2 ⟨S, Q, P⟩ g fb nb g1 g2) := Lib.hid (hY ▸ HXO.out.apart (S := fun _ => False) (Apart.of_below ((Below.refl _ X).alloc (Nat.le_refl _) _).drew) (fun _ _ h => h))
        have HYB : Hid (Below lo w Y) := Lib.hid (hY ▸ (HXB.out.alloc hloX _).drew)
        have HYl : Hid (∀ b, ArnM.asOf ⟨S, Q, P⟩ g fb nb g1 g2 b → b < Y.heap.size) := Lib.hid (fun b hb => by have := HXl.out b hb; rw [hY]; show b < (X.alloc _).heap.size; rw [World.size_alloc]; omega)
        have hloY : lo ≤ Y.heap.size := Nat.le_trans hlow HYB.out.size
        clear hY
        refine hK.out _ _ ?_ (fun hHeld => ?_)
        · exact HYS.out.2
        · clear hK K
          try simp only [List.getElem_toArray, List.getElem_cons_succ, List.getElem_cons_zero, Act.put, List.setIfInBounds_toArray, List.set_cons_zero, List.set_cons_succ]
          refine wpAnyH_ready (rs := [8]) (by kernel_rfl) (by simp) ?_
          refine AllReadyH.cons (o := _) rfl (fun K hK => ?_) ?_
          · refine AppI.wp_intK (.tmp 11) (.tmp 14) rfl HYR.out.q HYn.out hQ hloY (by simp [Act.eval, Act.put]) (by simp [Act.eval, Act.put]) ?_
            intro B1 d1 Z hq hg hn
            obtain ⟨Q1, hQ1⟩ : ∃ q, q = Q ++ [n] := ⟨_, rfl⟩
            rw [← hQ1] at hq hn ⊢
            have HQ1 := Lib.hid hQ1
            clear hQ1
            obtain ⟨h1, HO1, HR1, Hl1⟩ := HYO.out.grow HYR.out HYl.out hg hq hn
            have hZS : Blk Z bt 32 #[.slice A0 S.length c0, .slice A1 Q.length c1, .slice A2 P.length c2] ∧ Blk Z gv 43 #[.int .i64 2, .int .i64 n, .int .i64 gn] := ⟨(hg.block bt HYS.out.1.lt (fun e => (HYR.out.ne HYS.out.1 (by decide)).1 e.symm)).trans HYS.out.1, (hg.block gv HYS.out.2.lt (fun e => (HYR.out.ne HYS.out.2 (by decide)).1 e.symm)).trans HYS.out.2⟩
            have hZB := HYR.out.q.grown HYB.out hloY hg
            have hst := Apart.setCell (S := fun b => b = bt) (p := ⟨bt, 1, none⟩) (Apart.refl _ Z) rfl (.slice B1 Q1.length d1)
            have hne : ∀ b, ArnM.asOf ⟨S, Q1, P⟩ g fb nb h1 g2 b → ¬ b = bt := fun b hb e => by
              rcases hb with hb | ⟨h0, rfl⟩ | ⟨h0, rfl⟩
              · exact Hne.out b (.inl hb) e
              · exact (HR1.ne hZS.1 (by decide)).1 (by rw [← e]; exact HR1.q1 h0)
              · exact (HR1.ne hZS.1 (by decide)).2 (by rw [← e]; exact HR1.p1 h0)
            have HZ2 := Lib.hid (show Blk (Z.setCell ⟨bt, 1, none⟩ (.slice B1 Q1.length d1)) bt 32 #[.slice A0 S.length c0, .slice B1 Q1.length d1, .slice A2 P.length c2] ∧ Blk (Z.setCell ⟨bt, 1, none⟩ (.slice B1 Q1.length d1)) gv 43 #[.int .i64 2, .int .i64 n, .int .i64 gn] from ⟨hZS.1.set_ 1 _, hZS.2.far (p := ⟨bt, 1, none⟩) (hZS.2.ne_ hZS.1 (by decide)) _⟩)
            have HZO := Lib.hid (HO1.apart hst hne)
            have HZne := Lib.hid hne
            have HZR := Lib.hid (HR1.far hZS.1 (by decide) 1 (.slice B1 Q1.length d1))
            have HZB2 := Lib.hid (hZB.setCell (p := ⟨bt, 1, none⟩) Hbt.out (.slice B1 Q1.length d1))
            have HZS := Lib.hid hZS
            have Hl1 := Lib.hid Hl1
            clear hq hg hn hZS hZB hst hne HO1 HR1
            refine hK.out _ _ ?_ (fun hHeld => ?_)
            · exact HZS.out.2
            · clear hK K
              try simp only [List.getElem_toArray, List.getElem_cons_succ, List.getElem_cons_zero, Act.put, List.setIfInBounds_toArray, List.set_cons_zero, List.set_cons_succ]
              refine wpAnyH_take (i := 9) (oi := _) (v := ?_) rfl (by kernel_rfl) (by kernel_rfl) (by kernel_rfl) (fun _ _ _ h => h) (Or.inl ⟨by rfl, ?_⟩) (by assumption) ?_
              rotate_left
              focus
                intro w hSw
                have qs2 := hSw.cel 1 (v := .int .i64 n) rfl
                go_simp
                try with_reducible rfl
              try simp only [List.getElem_toArray, List.getElem_cons_succ, List.getElem_cons_zero, Act.put, List.setIfInBounds_toArray, List.set_cons_zero, List.set_cons_succ]
              refine wpAnyH_take (i := 10) (oi := _) (v := ?_) rfl (by kernel_rfl) (by kernel_rfl) (by kernel_rfl) (fun _ _ _ h => h) (Or.inl ⟨by rfl, ?_⟩) (by assumption) ?_
              rotate_left
              focus
                intro w hSw
                have qs2 := hSw.cel 1 (v := .int .i64 n) rfl
                go_simp
                try with_reducible rfl
              try simp only [List.getElem_toArray, List.getElem_cons_succ, List.getElem_cons_zero, Act.put, List.setIfInBounds_toArray, List.set_cons_zero, List.set_cons_succ]
              refine wpAnyH_ready (rs := [11]) (by kernel_rfl) (by simp) ?_
              refine AllReadyH.cons (o := _) rfl (fun K hK => ?_) ?_
              · have x1 := HZS.out.1.cel 1 (v := .slice A1 Q.length c1) rfl
                have z1 : Z.frozen? ⟨bt, 1, none⟩ = false := HZS.out.1.frozen 1
                go_simp
                refine hK.out _ _ ?_ (fun hHeld => ?_)
                · exact HZ2.out.2
                · clear hK K
                  try simp only [List.getElem_toArray, List.getElem_cons_succ, List.getElem_cons_zero, Act.put, List.setIfInBounds_toArray, List.set_cons_zero, List.set_cons_succ]
                  refine wpAnyH_done (by kernel_rfl) ?_ _
                  refine NoPanic.normal ?_
                  try go_wp2
                  refine bodyPost_end (results_none rfl _ _ _) rfl ?_
                  rw [← HQ1.out]
                  refine ⟨⟨_, rfl⟩, ⟨A0, B1, A2, c0, d1, c2, g, fb, nb, h1, g2, HZ2.out.1, Hbt.out, HZO.out, fun b hb => ⟨by rw [World.size_setCell]; exact Hl1.out b hb, HZne.out b hb⟩, HZR.out⟩, HZB2.out⟩
              exact AllReadyH.nil
          exact AllReadyH.nil
      exact AllReadyH.nil
  refine AllReadyH.cons (o := _) rfl (fun K hK => ?_) ?_
  · go_simp
    obtain ⟨Y, hY⟩ : ∃ x, x = (X.alloc (.cells #[.int .i64 n] 3)).drew := ⟨_, rfl⟩
    rw [← hY]
    have HYS : Hid (Blk Y bt 32 #[.slice A0 S.length c0, .slice A1 Q.length c1, .slice A2 P.length c2] ∧ Blk Y gv 43 #[.int .i64 2, .int .i64 n, .int .i64 gn]) := Lib.hid (hY ▸ ⟨(HS0.out.1.alloc _).drew, (HS0.out.2.alloc _).drew⟩)
    have HYn : Hid (Blk Y X.heap.size 3 #[.int .i64 n]) := Lib.hid (hY ▸ (Blk.new X 3 #[.int .i64 n]).drew)
    have HYR : Hid (RowQ Y lo A1 A2 c1 c2 g1 g2 Q P) := Lib.hid (hY ▸ HXR.out.below ((Below.refl _ X).alloc (Nat.le_refl _) _).drew)
    have HYO : Hid (ArnM.OwnAr Y lo A0 A1 A2 ⟨S, Q, P⟩ g fb nb g1 g2) := Lib.hid (hY ▸ HXO.out.apart (S := fun _ => False) (Apart.of_below ((Below.refl _ X).alloc (Nat.le_refl _) _).drew) (fun _ _ h => h))
    have HYB : Hid (Below lo w Y) := Lib.hid (hY ▸ (HXB.out.alloc hloX _).drew)
    have HYl : Hid (∀ b, ArnM.asOf ⟨S, Q, P⟩ g fb nb g1 g2 b → b < Y.heap.size) := Lib.hid (fun b hb => by have := HXl.out b hb; rw [hY]; show b < (X.alloc _).heap.size; rw [World.size_alloc]; omega)
    have hloY : lo ≤ Y.heap.size := Nat.le_trans hlow HYB.out.size
    clear hY
    have p2 := HYS.out.1.cel 1 (v := .slice A1 Q.length c1) rfl
    refine hK.out _ _ ?_ (fun hHeld => ?_)
    · exact HYS.out.2
    · clear hK K
      try simp only [List.getElem_toArray, List.getElem_cons_succ, List.getElem_cons_zero, Act.put, List.setIfInBounds_toArray, List.set_cons_zero, List.set_cons_succ]
      refine wpAnyH_ready (rs := [4]) (by kernel_rfl) (by simp) ?_
      refine AllReadyH.cons (o := _) rfl (fun K hK => ?_) ?_
      · go_simp
        refine hK.out _ _ ?_ (fun hHeld => ?_)
        · exact HYS.out.2
        · clear hK K
          try simp only [List.getElem_toArray, List.getElem_cons_succ, List.getElem_cons_zero, Act.put, List.setIfInBounds_toArray, List.set_cons_zero, List.set_cons_succ]
          refine wpAnyH_ready (rs := [8]) (by kernel_rfl) (by simp) ?_
          refine AllReadyH.cons (o := _) rfl (fun K hK => ?_) ?_
          · refine AppI.wp_intK (.tmp 11) (.tmp 14) rfl HYR.out.q HYn.out hQ hloY (by simp [Act.eval, Act.put]) (by simp [Act.eval, Act.put]) ?_
            intro B1 d1 Z hq hg hn
            obtain ⟨Q1, hQ1⟩ : ∃ q, q = Q ++ [n] := ⟨_, rfl⟩
            rw [← hQ1] at hq hn ⊢
            have HQ1 := Lib.hid hQ1
            clear hQ1
            obtain ⟨h1, HO1, HR1, Hl1⟩ := HYO.out.grow HYR.out HYl.out hg hq hn
            have hZS : Blk Z bt 32 #[.slice A0 S.length c0, .slice A1 Q.length c1, .slice A2 P.length c2] ∧ Blk Z gv 43 #[.int .i64 2, .int .i64 n, .int .i64 gn] := ⟨(hg.block bt HYS.out.1.lt (fun e => (HYR.out.ne HYS.out.1 (by decide)).1 e.symm)).trans HYS.out.1, (hg.block gv HYS.out.2.lt (fun e => (HYR.out.ne HYS.out.2 (by decide)).1 e.symm)).trans HYS.out.2⟩
            have hZB := HYR.out.q.grown HYB.out hloY hg
            have hst := Apart.setCell (S := fun b => b = bt) (p := ⟨bt, 1, none⟩) (Apart.refl _ Z) rfl (.slice B1 Q1.length d1)
            have hne : ∀ b, ArnM.asOf ⟨S, Q1, P⟩ g fb nb h1 g2 b → ¬ b = bt := fun b hb e => by
              rcases hb with hb | ⟨h0, rfl⟩ | ⟨h0, rfl⟩
              · exact Hne.out b (.inl hb) e
              · exact (HR1.ne hZS.1 (by decide)).1 (by rw [← e]; exact HR1.q1 h0)
              · exact (HR1.ne hZS.1 (by decide)).2 (by rw [← e]; exact HR1.p1 h0)
            have HZ2 := Lib.hid (show Blk (Z.setCell ⟨bt, 1, none⟩ (.slice B1 Q1.length d1)) bt 32 #[.slice A0 S.length c0, .slice B1 Q1.length d1, .slice A2 P.length c2] ∧ Blk (Z.setCell ⟨bt, 1, none⟩ (.slice B1 Q1.length d1)) gv 43 #[.int .i64 2, .int .i64 n, .int .i64 gn] from ⟨hZS.1.set_ 1 _, hZS.2.far (p := ⟨bt, 1, none⟩) (hZS.2.ne_ hZS.1 (by decide)) _⟩)
            have HZO := Lib.hid (HO1.apart hst hne)
            have HZne := Lib.hid hne
            have HZR := Lib.hid (HR1.far hZS.1 (by decide) 1 (.slice B1 Q1.length d1))
            have HZB2 := Lib.hid (hZB.setCell (p := ⟨bt, 1, none⟩) Hbt.out (.slice B1 Q1.length d1))
            have HZS := Lib.hid hZS
            have Hl1 := Lib.hid Hl1
            clear hq hg hn hZS hZB hst hne HO1 HR1
            refine hK.out _ _ ?_ (fun hHeld => ?_)
            · exact HZS.out.2
            · clear hK K
              try simp only [List.getElem_toArray, List.getElem_cons_succ, List.getElem_cons_zero, Act.put, List.setIfInBounds_toArray, List.set_cons_zero, List.set_cons_succ]
              refine wpAnyH_take (i := 9) (oi := _) (v := ?_) rfl (by kernel_rfl) (by kernel_rfl) (by kernel_rfl) (fun _ _ _ h => h) (Or.inl ⟨by rfl, ?_⟩) (by assumption) ?_
              rotate_left
              focus
                intro w hSw
                have qs2 := hSw.cel 1 (v := .int .i64 n) rfl
                go_simp
                try with_reducible rfl
              try simp only [List.getElem_toArray, List.getElem_cons_succ, List.getElem_cons_zero, Act.put, List.setIfInBounds_toArray, List.set_cons_zero, List.set_cons_succ]
              refine wpAnyH_take (i := 10) (oi := _) (v := ?_) rfl (by kernel_rfl) (by kernel_rfl) (by kernel_rfl) (fun _ _ _ h => h) (Or.inl ⟨by rfl, ?_⟩) (by assumption) ?_
              rotate_left
              focus
                intro w hSw
                have qs2 := hSw.cel 1 (v := .int .i64 n) rfl
                go_simp
                try with_reducible rfl
              try simp only [List.getElem_toArray, List.getElem_cons_succ, List.getElem_cons_zero, Act.put, List.setIfInBounds_toArray, List.set_cons_zero, List.set_cons_succ]
              refine wpAnyH_ready (rs := [11]) (by kernel_rfl) (by simp) ?_
              refine AllReadyH.cons (o := _) rfl (fun K hK => ?_) ?_
              · have x1 := HZS.out.1.cel 1 (v := .slice A1 Q.length c1) rfl
                have z1 : Z.frozen? ⟨bt, 1, none⟩ = false := HZS.out.1.frozen 1
                go_simp
                refine hK.out _ _ ?_ (fun hHeld => ?_)
                · exact HZ2.out.2
                · clear hK K
                  try simp only [List.getElem_toArray, List.getElem_cons_succ, List.getElem_cons_zero, Act.put, List.setIfInBounds_toArray, List.set_cons_zero, List.set_cons_succ]
                  refine wpAnyH_done (by kernel_rfl) ?_ _
                  refine NoPanic.normal ?_
                  try go_wp2
                  refine bodyPost_end (results_none rfl _ _ _) rfl ?_
                  rw [← HQ1.out]
                  refine ⟨⟨_, rfl⟩, ⟨A0, B1, A2, c0, d1, c2, g, fb, nb, h1, g2, HZ2.out.1, Hbt.out, HZO.out, fun b hb => ⟨by rw [World.size_setCell]; exact Hl1.out b hb, HZne.out b hb⟩, HZR.out⟩, HZB2.out⟩
              exact AllReadyH.nil
          exact AllReadyH.nil
      exact AllReadyH.nil
  exact AllReadyH.nil

set_option maxHeartbeats 1000000 in
theorem l5drop_no (S : List Sl) (Q P : List Int) (bt lo : Nat) (k n gn : Int) (hk : ¬ k = 2) (w : World) (h : BoxJ w lo bt ⟨S, Q, P⟩) :
    Calls Try.prog 51 #[.pointer (some ⟨bt, 0, none⟩), .agg #[.int .i64 k, .int .i64 n, .int .i64 gn]] w fun e w' => (∃ z, e = .returned z) ∧ BoxJ w' lo bt ⟨S, Q, P⟩ ∧ Below lo w w' := by
  obtain ⟨A0, A1, A2, c0, c1, c2, g, fb, nb, g1, g2, hK, hlo, hO, hl, hR⟩ := h
  dsimp only at hK hR
  have hbW := CopyOf.blw1 w (.cells #[.int .i64 k, .int .i64 n, .int .i64 gn] 43)
  have hlt := hK.lt
  have hKV := Blk.new w 43 #[.int .i64 k, .int .i64 n, .int .i64 gn]
  have HK1 := Lib.hid (hK.below hbW hK.lt)
  have HO1 := Lib.hid (hO.apart (S := fun _ => False) (Apart.of_below hbW) (fun _ _ h => h))
  have HR1 := Lib.hid (hR.below hbW)
  have Hl1 := Lib.hid hl
  have HbW := Lib.hid hbW
  have v0 := hKV.cel 0 (v := .int .i64 k) rfl
  have hd : (k == 2) = false := by simpa using hk
  clear hKV hK hO hbW hl hR
  go_enter Try.func51, Try.ntmps51
  go_wp2
  refine bodyPost_end (results_none rfl _ _ _) rfl ?_
  exact ⟨⟨_, rfl⟩, ⟨_, _, _, _, _, _, _, _, _, _, _, HK1.out, hlo, HO1.out, fun b hb => ⟨by have := (Hl1.out b hb).1; simp; omega, (Hl1.out b hb).2⟩, HR1.out⟩, HbW.out.mono (by omega)⟩
theorem l5drop_c (S : List Sl) (Q P : List Int) (bt lo : Nat) (k n gn : Int) (w : World) (hQ : Q.length ≤ 10000000) (h : BoxJ w lo bt ⟨S, Q, P⟩) :
    Calls Try.prog 51 #[.pointer (some ⟨bt, 0, none⟩), .agg #[.int .i64 k, .int .i64 n, .int .i64 gn]] w fun e w' => (∃ z, e = .returned z) ∧ BoxJ w' lo bt ⟨S, dropQ Q k n, P⟩ ∧ Below lo w w' := by
  by_cases hk : k = 2
  · subst hk
    rw [show dropQ Q 2 n = Q ++ [n] from if_pos rfl]
    exact l5drop_yes S Q P bt lo n gn w hQ h
  · rw [show dropQ Q k n = Q from if_neg hk]
    exact l5drop_no S Q P bt lo k n gn hk w h
end Go.Proofs.Ytfmlgpnjckamjaa
