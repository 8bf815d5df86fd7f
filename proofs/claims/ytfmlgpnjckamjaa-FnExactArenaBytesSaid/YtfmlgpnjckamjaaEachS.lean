/-
  A writer of slots ranges over them.
-/
import Derived.Test.YtfmlgpnjckamjaaEachD
namespace Go.Proofs.Ytfmlgpnjckamjaa
open Go.RowKit Go.Shelf RgB
set_option linter.unusedVariables false
set_option linter.unusedSimpArgs false
namespace Frz
attribute [local go_sem] Oper.semAt_some
def ElSl (W : World) (L n : Nat) (x : Value) (e : Sl) : Prop := ∃ A c, x = .agg #[.bool e.live, .int .i64 e.gen, .int .i64 e.count, .slice A e.fs.length c] ∧ FdL W L n A e.fs
/-- slices.Values hands on a function over a box -/
theorem valuesSl_c (A : Option Addr) (a c : Nat) (w : World) :
    Calls Try.prog 133 #[.slice A a c] w fun e w' => e = .returned (.func (.func 151) #[] #[.pointer (some ⟨w.heap.size, 0, none⟩)]) ∧ w' = w.alloc (.cells #[.slice A a c] 30) := by
  go_enter Try.func133, Try.ntmps133
  go_wp2
  go_ret
  exact ⟨rfl, rfl⟩
set_option maxRecDepth 100000 in
set_option maxHeartbeats 4000000 in
theorem valuesSl_seq (xs : List Sl) (n b Bl L0 : Nat) (A : Option Addr) (c : Nat) (w : World) (hm : xs.length ≤ 1050000) (hn : n ≤ w.heap.size) (hBl : Bl < w.heap.size) (hc : w.cell? ⟨Bl, 0, none⟩ = some (.slice A xs.length c)) (h : SlL w L0 n A xs) :
    SeqG Try.prog 151 #[.pointer (some ⟨Bl, 0, none⟩)] (fun x : Nat × Value => #[x.2]) n b T8 (fun x W => ∃ h : x.1 < xs.length, ElSl W L0 n x.2 xs[x.1]) (fun ks => Pre xs.length ks ∧ ks.length = xs.length) (Pre xs.length) w := by
  intro l m J Jx W hW hb hJ hJx hY h0
  have hcW : W.cell? ⟨Bl, 0, none⟩ = some (.slice A xs.length c) := (hW.cell (p := ⟨Bl, 0, none⟩) hBl).trans hc
  have HI := Lib.hid (h.below (hW.mono hn))
  have HY := Lib.hid hY
  have HJ := Lib.hid hJ
  clear hY hJ h
  refine callsIn_of_wp Try.func151 rfl trivial ?_ rfl
  simp only [Try.ntmps151, List.size_toArray, List.length_cons, List.length_nil, Nat.reduceAdd, Nat.reduceSub, Array.replicate_succ, Array.replicate_zero, List.push_toArray, List.append_toArray, List.nil_append, List.cons_append]
  gi_wp2
  gi_loopw [7] (fun i wr => ∃ (k : Nat) (ks : List (Nat × Value)), k ≤ xs.length ∧ i = .int .i64 k ∧ ks.length = k ∧ Hid (Pre xs.length ks) ∧ J ks wr ∧ KB n b T8 W wr) (fun i _ => xs.length - (intOf i).toNat)
  case atStart => exact ⟨0, [], Nat.zero_le _, rfl, rfl, Lib.hid (Pre.nil _), h0, KB.refl _ _ _ _⟩
  case round =>
    obtain ⟨k, ks, hk, rfl, hkl, hpre, hJk, hkb⟩ := hrel
    have hIr := HI.out.below (hkb.below (Nat.le_trans hn hW.size))
    by_cases hlt : k < xs.length
    · obtain ⟨ad, rfl, _, hbk, hat⟩ := hIr.2 (by omega)
      obtain ⟨v0, v1, v2, v3, ⟨q0, q1, q2, q3⟩, rfl, rfl, rfl, FA, fc, rfl, hF⟩ := hat k hlt
      have hbx := blOne wr (.cells #[.bool xs[k].live, .int .i64 xs[k].gen, .int .i64 xs[k].count, .slice FA xs[k].fs.length fc] 90)
      obtain ⟨fn, tmps, assign, body, hy, hR⟩ := HY.out (m - 1) ks (ks.length, .agg #[.bool xs[k].live, .int .i64 xs[k].gen, .int .i64 xs[k].count, .slice FA xs[k].fs.length fc]) (wr.alloc (.cells #[.bool xs[k].live, .int .i64 xs[k].gen, .int .i64 xs[k].count, .slice FA xs[k].fs.length fc] 90)) (HJ.out _ _ _ hJk (Ext.of hbx (by have := hkb.size; omega))) (hpre.out.snoc (by omega) _) ⟨by omega, by subst hkl; exact ⟨FA, fc, rfl, hF.below (hbx.mono (by have := hkb.size; have := hW.size; omega))⟩⟩
      have hWW := KB.of hbx n b T8
      have Hpr := Lib.hid (hpre.out.snoc (u := .agg #[.bool xs[k].live, .int .i64 xs[k].gen, .int .i64 xs[k].count, .slice FA xs[k].fs.length fc]) (by omega))
      clear hat hpre hIr
      dsimp only at hy
      gi_wp2_with fail
      refine ⟨fun hd => by simp [Fence.wide] at hd, ?_⟩
      refine hR.mono ?_
      rintro r W3 (⟨rfl, hJ3, hk3⟩ | ⟨rfl, hx3, hk3⟩)
      · have Hk := Lib.hid ((hkb.trans hWW).trans hk3)
        clear hy hR
        gi_wp2
        go_roundw
        case rel => exact ⟨k + 1, _, by omega, by go_num, by simp; omega, Hpr, hJ3, Hk.out⟩
        case measure => simp [intOf]; omega
      · clear hy hR
        gi_wp2
        refine bodyPost_ret (v := .tuple #[]) (by simp [results, Try.results151, go_sem]) rfl ?_
        exact ⟨⟨_, rfl⟩, .inr ⟨_, Hpr.out, hx3⟩⟩
    · gi_wp2
      go_end0
      exact ⟨⟨_, rfl⟩, .inl ⟨ks, ⟨hpre.out, by omega⟩, hJk⟩⟩
set_option maxRecDepth 100000 in
set_option maxHeartbeats 4000000 in
theorem eachSl_c (l : List UInt8) (v : Value) (xs : List Sl) (A : Option Addr) (c L0 B0 B M : Nat) (w : World) (hB : B ≤ w.heap.size) (hB0 : B0 ≤ B) (hm : xs.length ≤ 1050000) (hI : SlL w L0 B0 A xs) (hO : OwnT w B v l)
    (hM : M ≤ 140737400000000) (hlen : ∀ k, k ≤ xs.length → l.length + (catTo slB xs k).length ≤ M)
    (hcall : ∀ k (hk : k < xs.length) (u : Value) (x : List UInt8) (v : Value) (W : World), B ≤ W.heap.size → x.length ≤ M → ElSl W L0 B u xs[k] → OwnT W B v x →
      Calls Try.prog 75 #[v, u] W fun e w' => ∃ A c, e = .returned (.slice A (x ++ slB xs[k]).length c) ∧ OwnT w' B (.slice A (x ++ slB xs[k]).length c) (x ++ slB xs[k]) ∧ Say B W w') :
    Calls Try.prog 104 #[.func (.func 75) #[] #[], v, .slice A xs.length c] w fun e w' => ∃ A c, e = .returned (.slice A (l ++ catTo slB xs xs.length).length c) ∧ OwnT w' B (.slice A (l ++ catTo slB xs xs.length).length c) (l ++ catTo slB xs xs.length) ∧ Say B w w' := by
  obtain ⟨A0, c0, rfl, _⟩ := hO.form
  obtain ⟨w2, hw2⟩ : ∃ x, x = ((w.alloc (.cells #[.func (.func 75) #[] #[]] 105)).alloc (.cells #[.slice A0 l.length c0] 27)) := ⟨_, rfl⟩
  have hS2 : Say B w w2 := hw2 ▸ ((Say.refl B w).alloc hB _).alloc (by simp; omega) _
  have hsz2 : w2.heap.size = w.heap.size + 2 := by rw [hw2]; simp
  have hKw : Blk w2 w.heap.size 105 #[.func (.func 75) #[] #[]] := hw2 ▸ (Blk.new w _ _).alloc _
  have hKb : Blk w2 (w.heap.size + 1) 27 #[.slice A0 l.length c0] := by
    have := Blk.new (w.alloc (.cells #[.func (.func 75) #[] #[]] 105)) 27 #[.slice A0 l.length c0]
    rw [World.size_alloc] at this
    exact hw2 ▸ this
  have hO2 : OwnT w2 B (.slice A0 l.length c0) l := hw2 ▸ (hO.alloc _).alloc _
  have hI2 := hI.below (hS2.below.mono hB0)
  have Hw2 := Lib.hid hw2
  have HS2 := Lib.hid hS2
  have HKw := Lib.hid hKw
  have HKb := Lib.hid hKb
  have HO2 := Lib.hid hO2
  have HI2 := Lib.hid hI2
  have Hcall := Lib.hid hcall
  have Hlen := Lib.hid hlen
  clear hO hI hS2 hKw hKb hO2 hI2 hw2 hcall hlen
  refine (callsIn_wide (n := 3)).1 ?_
  refine callsIn_of_wp_marks Try.func104 rfl trivial ?_ rfl
  simp only [Try.ntmps104, List.size_toArray, List.length_cons, List.length_nil, Nat.reduceAdd, Nat.reduceSub, Array.replicate_succ, Array.replicate_zero, List.push_toArray, List.append_toArray, List.nil_append, List.cons_append]
  gi_wp2_with fail
  refine ⟨trivial, ?_⟩
  gi_at_call 133
  refine (callsIn_wide.2 (valuesSl_c A xs.length c _)).mono ?_
  rintro r w3 ⟨rfl, rfl⟩
  rw [← Hw2.out]
  obtain ⟨V, hV⟩ : ∃ V, V = w2.alloc (.cells #[.slice A xs.length c] 30) := ⟨_, rfl⟩
  have hbV : Below w2.heap.size w2 V := hV ▸ blOne w2 _
  have hVs : V.heap.size = w2.heap.size + 1 := by rw [hV]; simp
  have hVc : V.cell? ⟨w.heap.size + 2, 0, none⟩ = some (.slice A xs.length c) := by rw [hV, ← hsz2]; exact (Blk.new w2 30 #[.slice A xs.length c]).cel 0 rfl
  rw [← hV]
  have hseq := valuesSl_seq xs B (V.heap.size + 2) (w.heap.size + 2) L0 A c V hm (by omega) (by omega) hVc ((HI2.out.below (hbV.mono (by omega))).more (Nat.le_refl _) hB0)
  have hKwV := HKw.out.below hbV (by omega)
  have hKbV := HKb.out.below hbV (by omega)
  have hOV := HO2.out.below hbV
  have hSV : Say B w V := HS2.out.trans (Say.of hbV (by omega))
  clear hV hVc hbV
  gi_wp2_with fail
  refine range_good (gf := 151) (lb := #[.pointer (some ⟨w.heap.size + 2, 0, none⟩)]) rfl (enters_of Try.func151 (by kernel_rfl) rfl) (n := B) (by omega) hseq (fun _ => rfl)
    (fun pre Z => ∃ (Az : Option Addr) (x : List UInt8) (cz : Nat), x = l ++ catTo slB xs pre.length ∧ Blk Z (w.heap.size + 1) 27 #[.slice Az x.length cz] ∧ OwnT Z B (.slice Az x.length cz) x ∧ Blk Z w.heap.size 105 #[.func (.func 75) #[] #[]] ∧ Say B w Z)
    (fun c pre Z => False)
    (fun x Za Zb hx hb => by
      obtain ⟨Az, y, cz, h1, h2, h3, h4, h5⟩ := hx
      exact ⟨Az, y, cz, h1, h2.below hb.below (by omega), ownT_ext h3 hb, h4.below hb.below (by omega), say_ext h5 hb (by omega) (by omega)⟩)
    (fun c x A B' hx hb => hx)
    ⟨A0, l, c0, by simp [catTo_zero], hKbV, hOV, hKwV, hSV⟩ ?round ?done ?stop
  case stop => rintro D c pre W hD hS hx; exact hx.elim
  case done =>
    rintro D ks Z hD ⟨hS, hkl⟩ ⟨Az, x, cz, hx, hgb, hOz, hgw, hY⟩ hK
    have n0 := hgb.cel 0 (v := .slice Az x.length cz) rfl
    have HOz := Lib.hid hOz
    have HY := Lib.hid hY
    rw [hkl] at hx
    have Hx := Lib.hid hx
    clear hOz hY hx hgb hgw
    gi_wp2
    refine ⟨by simp, .inl ⟨_, _, rfl, run_takeDeferred hK, ?_⟩⟩
    refine ⟨.slice Az x.length cz, by simp [results, Try.results104, go_sem], ?_⟩
    rw [← Hx.out]
    exact ⟨Az, cz, rfl, ownT_ext HOz.out (Ext.put_def (s := 0) (o := .deferred none) (Nat.zero_le _) hK), say_put HY.out (by omega) (by omega) (.deferred none)⟩
  case round =>
    rintro l' m' pre ⟨k, u⟩ Z K hZs ⟨Az, x, cz, hx, hgb, hOz, hgw, hY⟩ hsp ⟨hlt, hel⟩ hcont
    obtain ⟨hk, hlt2⟩ := hsp.last
    dsimp only at hk hlt hel
    subst hk
    obtain ⟨FA, fc, rfl, hF⟩ := hel
    gi_wp2
    refine hcont _ _ (blOne _ _) ?_
    intro B' hAB hszB hoth
    have hZB := (Ext.of (s := V.heap.size) (T := T8) (blOne Z (.cells #[.bool xs[pre.length].live, .int .i64 xs[pre.length].gen, .int .i64 xs[pre.length].count, .slice FA xs[pre.length].fs.length fc] 90)) (by omega)).trans hAB
    have hKs : Blk B' Z.heap.size 90 #[.bool xs[pre.length].live, .int .i64 xs[pre.length].gen, .int .i64 xs[pre.length].count, .slice FA xs[pre.length].fs.length fc] := (hoth Z.heap.size (by omega)).trans (Blk.new Z _ _)
    have hel : True := trivial
    have HY' := Lib.hid (say_ext hY hZB (by omega) (by omega))
    have hgb' := hgb.below hZB.below (by omega)
    have hgw' := hgw.below hZB.below (by omega)
    have hxl := Hlen.out pre.length (by omega)
    have hxe : x.length = l.length + (catTo slB xs pre.length).length := by rw [hx, List.length_append]
    have hZsz := hZB.size
    have Hc := Lib.hid (Hcall.out pre.length hlt (.agg #[.bool xs[pre.length].live, .int .i64 xs[pre.length].gen, .int .i64 xs[pre.length].count, .slice FA xs[pre.length].fs.length fc]) x (.slice Az x.length cz) B' (by omega) (by omega) (⟨FA, fc, rfl, hF.below (hZB.below.mono (by omega))⟩) (ownT_ext hOz hZB))
    obtain ⟨y, hy⟩ : ∃ y, x ++ slB xs[pre.length] = y := ⟨_, rfl⟩
    rw [hy] at Hc
    have Hye := Lib.hid (show y = l ++ catTo slB xs (pre ++ [(pre.length, (.agg #[.bool xs[pre.length].live, .int .i64 xs[pre.length].gen, .int .i64 xs[pre.length].count, .slice FA xs[pre.length].fs.length fc] : Value))]).length by rw [List.length_append, List.length_singleton, catTo_succ hlt, ← hy, hx, List.append_assoc])
    have w0 := hgw'.cel 0 (v := .func (.func 75) #[] #[]) rfl
    have n0 := hgb'.cel 0 (v := .slice Az x.length cz) rfl
    have s0 := hKs.cel 0 (v := .bool xs[pre.length].live) rfl
    have s1 := hKs.cel 1 (v := .int .i64 xs[pre.length].gen) rfl
    have s2 := hKs.cel 2 (v := .int .i64 xs[pre.length].count) rfl
    have s3 := hKs.cel 3 (v := .slice FA xs[pre.length].fs.length fc) rfl
    have HB' := Lib.hid hgb'
    have HB3 := Lib.hid hgb'
    have HW' := Lib.hid hgw'
    clear hcont hx hgb hOz hgw hY hsp hel hxe hxl hy hoth hAB hgb' hgw'
    gi_wp2_with fail
    refine ⟨trivial, fun hd => by simp [Fence.wide] at hd, ?_⟩
    gi_at_call 75
    refine (CallsIn.inRound l' (callsIn_wide.2 Hc.out)).mono ?_
    rintro r Z2 ⟨A2, c2, rfl, hO2, hY2⟩
    have hgb2 := HB'.out.say hY2 (by decide)
    have hgw2 := HW'.out.say hY2 (by decide)
    have n1 := hgb2.cel 0 (v := .slice Az x.length cz) rfl
    have z1 : Z2.frozen? ⟨w.heap.size + 1, 0, none⟩ = false := hgb2.frozen 0
    have Hgb2 := Lib.hid hgb2
    have Hgw2 := Lib.hid hgw2
    have HO2 := Lib.hid hO2
    have HY2 := Lib.hid hY2
    clear hgb2 hgw2 hO2 hY2 n0 w0 Hc HB' HW'
    gi_wp2
    refine ⟨((KB.trans (KB.refl B V.heap.size T8 B') (kb_of_say HY2.out)).set_ (p := ⟨w.heap.size + 1, 0, none⟩) (by simp; omega) (.inl (by simp; omega)) (no_pro (show Blk B' (w.heap.size + 1) 27 _ from HB3.out) (by decide)) _), ?_⟩
    refine ⟨A2, y, c2, Hye.out, Hgb2.out.set_ 0 _, ?_, Hgw2.out.far (p := ⟨w.heap.size + 1, 0, none⟩) (by simp) _, say_set (HY'.out.trans HY2.out) (by simp) (by simp; omega) _⟩
    exact ownsT.keep HO2.out fun k hk => Below.heap_setCell Z2 ⟨w.heap.size + 1, 0, none⟩ _ k (fun e => by
      obtain ⟨cc, fz, e2⟩ := OwnT.kind HO2.out k hk
      have e3 : Z2.heap[w.heap.size + 1]? = _ := Hgb2.out
      rw [e] at e2
      rw [e2] at e3
      injection e3 with e3
      injection e3 with _ e3 _
      exact absurd e3 (by decide))
end Frz
end Go.Proofs.Ytfmlgpnjckamjaa
