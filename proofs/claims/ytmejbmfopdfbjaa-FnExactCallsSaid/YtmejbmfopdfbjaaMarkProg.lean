/-
  Marks all over a program's copy: the laws' own functions.
-/
import Derived.Test.YtmejbmfopdfbjaaMark
namespace Go.Proofs.Ytmejbmfopdfbjaa
open Go.RowKit Go.Shelf
set_option linter.unusedVariables false

theorem MkC.u8_ (x : UInt8) (n : Nat) : MkC (some (.int .u8 x.toNat)) (some (.int .u8 ((n % 256 : Nat) : Int))) :=
  .inr (.inr ⟨x, UInt8.ofNat n, rfl, by simp⟩)
theorem MkC.i64_ (x y : Int) : MkC (some (.int .i64 x)) (some (.int .i64 y)) := .inr (.inl ⟨x, y, rfl, rfl⟩)

set_option maxHeartbeats 1000000 in
theorem markByteS_m (l : List UInt8) (A : Option Addr) (c L B k : Nat) (w : World) (hl : l.length ≤ 4294967296) (hk : k ≤ 1099511627776) (hT : Thaw L B w) (h : RBL w L B A l) :
    Calls Try.prog 20 #[.slice A l.length c, .int .i64 (k : Int)] w fun r w' => r = .returned (.int .i64 ((k + l.length : Nat) : Int)) ∧ Mk L B w w' ∧ Thaw L B w' := by
  go_enter Try.func20, Try.ntmps20
  go_wp2
  go_loopw [1, 5] (fun s i wr => ∃ (m : Nat), m ≤ l.length ∧ i = .int .i64 m ∧ s = .int .i64 ((k + m : Nat) : Int) ∧ Mk L B w wr ∧ Thaw L B wr) (fun _ i _ => l.length - (intOf i).toNat)
  case atStart => exact ⟨0, Nat.zero_le _, rfl, rfl, Mk.refl _ _ _, hT⟩
  case round =>
    obtain ⟨m, hm, rfl, rfl, hmk, hTr⟩ := hrel
    by_cases hlt : m < l.length
    · obtain ⟨l', hl', hR'⟩ := h.mk_ hmk
      obtain ⟨ad, rfl, hb, hc0⟩ := hR'.1.at_ (k := m) (by omega)
      obtain ⟨ad', e, hL⟩ := hR'.2 (by omega)
      injection e with e
      subst e
      have hLm : L ≤ (ad.add m).block := by rw [block_of_add]; exact hL
      have hBm : (ad.add m).block < B := by rw [block_of_add]; exact hb
      have hf0 := thaw_frozen hTr hLm hBm
      have hst := fun n => Mk.set_ hLm hBm hc0 (MkC.u8_ (l'[m]'(by omega)) n)
      have Hst := Lib.hid hst
      clear hst hR'
      go_wp2
      go_roundw
      case rel =>
        refine ⟨m + 1, by omega, by go_num, by go_num, ?_, hTr.set_ _ _⟩
        have e9 : (((k : Int) + (m : Int)) % 256) = (((k + m) % 256 : Nat) : Int) := by omega
        rw [e9]
        exact hmk.trans (Hst.out (k + m))
      case measure => simp [intOf]; omega
    · go_wp2
      go_ret
      have : m = l.length := by omega
      subst this
      exact ⟨rfl, hmk, hTr⟩

theorem markByteS_i (l : List UInt8) (A : Option Addr) (c L B k : Nat) (ki : Int) (w : World) (hki : ki = (k : Nat)) (hl : l.length ≤ 4294967296) (hk : k ≤ 1099511627776) (hT : Thaw L B w) (h : RBL w L B A l) :
    Calls Try.prog 20 #[.slice A l.length c, .int .i64 ki] w fun r w' => r = .returned (.int .i64 ((k + l.length : Nat) : Int)) ∧ Mk L B w w' ∧ Thaw L B w' := by
  subst hki; exact markByteS_m l A c L B k w hl hk hT h
def MkEs (l : List Ex) : Prop := ∀ (A : Option Addr) (c L B k : Nat) (w : World), k + mkExs l ≤ 1073741824 → Thaw L B w → ExL w L B A l →
  Calls Try.prog 64 #[.slice A l.length c, .int .i64 (k : Int)] w fun r w' => r = .returned (.int .i64 ((k + mkExs l : Nat) : Int)) ∧ Mk L B w w' ∧ Thaw L B w'
theorem mkExs_get {l : List Ex} {i : Nat} (hi : i < l.length) : mkExs (l.take i) + mkEx l[i] ≤ mkExs l := by
  rw [← mkExs_step hi, mkExs_sum, mkExs_sum]
  conv => rhs; rw [← List.take_append_drop (i + 1) l]
  rw [List.map_append, List.sum_append]
  omega

set_option maxRecDepth 100000 in
set_option maxHeartbeats 4000000 in
theorem markExS_of (N : Nat) (ih : ∀ l, mkExs l < N → MkEs l) (l : List Ex) (hN : mkExs l ≤ N) : MkEs l := by
  intro A c L B k w hsz hT h
  have hn := h.1
  unfold maxLen at hn
  have Ih := Lib.hid ih
  clear ih
  go_enter Try.func64, Try.ntmps64
  go_wp2
  go_loopw [1, 5] (fun s i wr => ∃ (m q : Nat), m ≤ l.length ∧ i = .int .i64 m ∧ s = .int .i64 (q : Int) ∧ q = k + mkExs (l.take m) ∧ Mk L B w wr ∧ Thaw L B wr) (fun _ i _ => l.length - (intOf i).toNat)
  case atStart => exact ⟨0, k, Nat.zero_le _, rfl, rfl, by simp [mkExs], Mk.refl _ _ _, hT⟩
  case round =>
    obtain ⟨m, q, hm, rfl, rfl, hq, hmk, hTr⟩ := hrel
    by_cases hlt : m < l.length
    · obtain ⟨lr, hlr, hxr, hsame⟩ := ExL.marked hmk h
      have hltr : m < lr.length := by omega
      have hsm := hsame m hlt hltr
      have hget := mkExs_get hlt
      have hstep := mkExs_step hlt
      obtain ⟨ad, rfl, hL, hb, hat⟩ := hxr.2 (by omega)
      obtain ⟨v0, v1, v2, v3, ⟨c0, c1, c2, c3⟩, hv⟩ := hat m hltr
      obtain ⟨kk, nn, name, args, hle⟩ : ∃ kk nn name args, lr[m] = .mk kk nn name args := by cases lr[m]; exact ⟨_, _, _, _, rfl⟩
      rw [hle] at hv hsm
      rw [mkEx_mk] at hsm
      obtain ⟨xA, xc, xA', xc', rfl, rfl, rfl, rfl, xR, xm, xx⟩ := hv.open_
      have hbl : (ad.add (m * 4)).block = ad.block := block_of_add _ _
      have hLm : L ≤ (ad.add (m * 4)).block := by rw [hbl]; exact hL
      have hBm : (ad.add (m * 4)).block < B := by rw [hbl]; exact hb
      have m1 := Mk.set_ (v := .int .i64 (q : Int)) hLm hBm c0 (MkC.i64_ _ _)
      have T1 := hTr.set_ (ad.add (m * 4)) (.int .i64 (q : Int))
      obtain ⟨y1, d1⟩ := (m1.cell _).i64 c1
      have m2 := Mk.set_ (p := ⟨(ad.add (m * 4)).block, (ad.add (m * 4)).off + 1, none⟩) (v := .int .i64 ((q : Int) + 1)) hLm hBm d1 (MkC.i64_ _ _)
      have T2 := T1.set_ ⟨(ad.add (m * 4)).block, (ad.add (m * 4)).off + 1, none⟩ (.int .i64 ((q : Int) + 1))
      have m12 := m1.trans m2
      have f0 := thaw_frozen hTr hLm hBm
      have f1 := thaw_frozen (p := ⟨(ad.add (m * 4)).block, (ad.add (m * 4)).off + 1, none⟩) T1 hLm hBm
      have d2 := (m12.cell _).slice c2
      have d3 := (m12.cell _).slice c3
      obtain ⟨nm, hnl, hR2⟩ := xR.mk_ m12
      have hby := markByteS_i nm xA xc L B (q + 2) ((q : Int) + 1 + 1) _ (by omega) (by omega) (by omega) T2 hR2
      rw [hnl] at hby
      have Hby := Lib.hid hby
      have Xx := Lib.hid xx
      have M12 := Lib.hid m12
      have hqb : q ≤ 2147483648 := by omega
      have hnl8 : name.length ≤ 1073741824 := by omega
      have Hq := Lib.hid hq
      have Bx := Lib.hid (And.intro hLm hBm)
      clear hby xx m1 m2 m12 hR2 xR hat hv hle hbl hq hLm hBm
      go_wp2_with fail
      refine Hby.out.mono ?_
      rintro r w3 ⟨rfl, m3, T3⟩
      have m13 := M12.out.trans m3
      have d3' := (m3.cell _).slice d3
      obtain ⟨ar, hal, hx3, hs3⟩ := ExL.marked m13 Xx.out
      have hsz3 := mkExs_eq hal hs3
      have hq' := Hq.out
      have hca := Ih.out ar (by omega) xA' xc' L B (q + 2 + name.length) w3 (by omega) T3 hx3
      rw [hal, hsz3] at hca
      have Hca := Lib.hid hca
      have M13 := Lib.hid m13
      have Sm := Lib.hid (And.intro hsm hstep)
      clear hca hx3 hs3 hsz3 m3 m13 d2 d3 f0 f1 c0 c1 c2 c3 Hby hq' d1 hsm hstep hget
      go_wp2_with fail
      have hqi : ((q + 2 + name.length : Nat) : Int) = (q : Int) + 2 + (name.length : Int) := by omega
      rw [hqi] at Hca
      refine Hca.out.mono ?_
      rintro r w4 ⟨rfl, m4, T4⟩
      clear hqi d3' Hca
      go_wp2
      go_roundw
      case rel =>
        refine ⟨m + 1, q + 2 + name.length + mkExs args, by omega, by go_num, by go_num, ?_, hmk.trans (M13.out.trans m4), T4⟩
        have h1 := Sm.out.1
        have h2 := Sm.out.2
        have h3 := Hq.out
        omega
      case measure => simp [intOf]; omega
    · go_wp2
      go_ret
      have : m = l.length := by omega
      rw [this, List.take_length] at hq
      exact ⟨by rw [hq]; rfl, hmk, hTr⟩

theorem markExS_c (l : List Ex) : MkEs l := by
  have key : ∀ N, ∀ l, mkExs l < N → MkEs l := by
    intro N
    induction N with
    | zero => intro l h; omega
    | succ N ih => intro l h; exact markExS_of N ih l (by omega)
  exact key (mkExs l + 1) l (by omega)

theorem markExS_i (l : List Ex) (A : Option Addr) (c L B k : Nat) (ki : Int) (w : World) (hki : ki = (k : Nat)) (hsz : k + mkExs l ≤ 1073741824) (hT : Thaw L B w) (h : ExL w L B A l) :
    Calls Try.prog 64 #[.slice A l.length c, .int .i64 ki] w fun r w' => r = .returned (.int .i64 ((k + mkExs l : Nat) : Int)) ∧ Mk L B w w' ∧ Thaw L B w' := by
  subst hki; exact markExS_c l A c L B k w hsz hT h
theorem mkSts_get {l : List St} {i : Nat} (hi : i < l.length) : mkSts (l.take i) + mkSt l[i] ≤ mkSts l := by
  rw [← mkSts_step hi, mkSts_sum, mkSts_sum]
  conv => rhs; rw [← List.take_append_drop (i + 1) l]
  rw [List.map_append, List.sum_append]
  omega
def MkSs (l : List St) : Prop := ∀ (A : Option Addr) (c L B k : Nat) (ki : Int) (w : World), ki = (k : Nat) → k + mkSts l ≤ 1073741824 → Thaw L B w → StL w L B A l →
  Calls Try.prog 40 #[.slice A l.length c, .int .i64 ki] w fun r w' => r = .returned (.int .i64 ((k + mkSts l : Nat) : Int)) ∧ Mk L B w w' ∧ Thaw L B w'

set_option maxRecDepth 100000 in
set_option maxHeartbeats 8000000 in
theorem markStS_of (N : Nat) (ih : ∀ l, mkSts l < N → MkSs l) (l : List St) (hN : mkSts l ≤ N) : MkSs l := by
  intro A c L B k ki w hki hsz hT h
  subst hki
  have hn := h.1
  unfold maxLen at hn
  have Ih := Lib.hid ih
  clear ih
  go_enter Try.func40, Try.ntmps40
  go_wp2
  go_loopw [1, 5] (fun s i wr => ∃ (m q : Nat), m ≤ l.length ∧ i = .int .i64 m ∧ s = .int .i64 (q : Int) ∧ Hid (q = k + mkSts (l.take m)) ∧ Mk L B w wr ∧ Thaw L B wr) (fun _ i _ => l.length - (intOf i).toNat)
  case atStart => exact ⟨0, k, Nat.zero_le _, rfl, rfl, Lib.hid (by simp [mkSts]), Mk.refl _ _ _, hT⟩
  case round =>
    obtain ⟨m, q, hm, rfl, rfl, Hq, hmk, hTr⟩ := hrel
    by_cases hlt : m < l.length
    · obtain ⟨lr, hlr, hxr, hsame⟩ := StL.marked hmk h
      have hltr : m < lr.length := by omega
      have hsm := hsame m hlt hltr
      have hget := mkSts_get hlt
      have hstep := mkSts_step hlt
      obtain ⟨ad, rfl, hL, hb, hat⟩ := hxr.2 (by omega)
      obtain ⟨vs, hcells, hv⟩ := hat m hltr
      obtain ⟨kk, name, e, f, body, els, hle⟩ : ∃ kk name e f body els, lr[m] = .mk kk name e f body els := by cases lr[m]; exact ⟨_, _, _, _, _, _, rfl⟩
      rw [hle] at hv hsm
      obtain ⟨sA, sc, e0, e1, e2, e3, f0, f1, f2, f3, A1, c1, A2, c2, rfl, hR, hmn, he, hf, hb1, hb2⟩ := hv.open_
      obtain ⟨ek, en, enm, ear, rfl⟩ : ∃ ek en enm ear, e = .mk ek en enm ear := by cases e; exact ⟨_, _, _, _, rfl⟩
      obtain ⟨fk, fn, fnm, far, rfl⟩ : ∃ ek en enm ear, f = .mk ek en enm ear := by cases f; exact ⟨_, _, _, _, rfl⟩
      rw [mkSt_mk, mkEx_mk, mkEx_mk] at hsm
      obtain ⟨xA, xc, xA', xc', rfl, rfl, rfl, rfl, eR, em, ex⟩ := he.open_
      obtain ⟨yA, yc, yA', yc', rfl, rfl, rfl, rfl, fR, fm, fx⟩ := hf.open_
      have hLm : L ≤ (ad.add (m * 12)).block := by rw [block_of_add]; exact hL
      have hBm : (ad.add (m * 12)).block < B := by rw [block_of_add]; exact hb
      have q0 := hcells 0 _ rfl
      have q1 := hcells 1 _ rfl
      have q2 := hcells 2 _ rfl
      have q3 := hcells 3 _ rfl
      have q4 := hcells 4 _ rfl
      have q5 := hcells 5 _ rfl
      have q6 := hcells 6 _ rfl
      have q7 := hcells 7 _ rfl
      have q8 := hcells 8 _ rfl
      have q9 := hcells 9 _ rfl
      have q10 := hcells 10 _ rfl
      have q11 := hcells 11 _ rfl
      simp only [if_true, Nat.reduceEqDiff, if_false] at q0 q1 q2 q3 q4 q5 q6 q7 q8 q9 q10 q11
      have hqb : q + (1 + name.length + (2 + enm.length + mkExs ear) + (2 + fnm.length + mkExs far) + mkSts body + mkSts els) ≤ 1073741824 := by have := Hq.out; omega
      have hszN : mkSts body < N ∧ mkSts els < N := by omega
      have hqk : q ≤ 1073741824 ∧ name.length ≤ 1073741824 ∧ enm.length ≤ 1073741824 ∧ fnm.length ≤ 1073741824 := by omega
      have hqk1 := hqk.1
      have hqk2 := hqk.2.1
      have hqk3 := hqk.2.2.1
      have hqk4 := hqk.2.2.2
      have Sm := Lib.hid (And.intro hsm hstep)
      have Qb := Lib.hid hqb
      have Q := Lib.hid (And.intro q0 (And.intro q1 (And.intro q2 (And.intro q3 (And.intro q4 (And.intro q5 (And.intro q6 (And.intro q7 (And.intro q8 (And.intro q9 (And.intro q10 q11)))))))))))
      have D := Lib.hid (And.intro hR (And.intro eR (And.intro ex (And.intro fR (And.intro fx (And.intro hb1 hb2))))))
      have Bx := Lib.hid (And.intro hLm hBm)
      have mA := Mk.set_ (p := (ad.add (m * 12))) (v := .int .i64 (q : Int)) hLm hBm q0 (MkC.i64_ _ _)
      have TA := hTr.set_ (ad.add (m * 12)) (.int .i64 (q : Int))
      have z0 := thaw_frozen hTr hLm hBm
      have aN := (mA.cell _).slice q1
      obtain ⟨nm1, hn1, hR1⟩ := hR.mk_ mA
      have hcN := markByteS_i nm1 sA sc L B (q + 1) ((q : Int) + 1) _ (by omega) (by omega) (by omega) TA hR1
      rw [hn1] at hcN
      have HcN := Lib.hid hcN
      have MA := Lib.hid mA
      clear hcN mA hR1 hR eR ex fR fx hb1 hb2 he hf hat hv hle hsm hstep hqb hcells q1 q2 q3 q4 q5 q6 q7 q8 q9 q10 q11 hget hsame hLm hBm hqk
      go_wp2_with fail
      refine HcN.out.mono ?_
      rintro r w1 ⟨rfl, m1, T1⟩
      have M1 := Lib.hid (MA.out.trans m1)
      obtain ⟨u1, hu1⟩ : ∃ u : Nat, q + 1 + name.length = u := ⟨_, rfl⟩
      rw [hu1]
      have U1 := Lib.hid hu1
      have hub1 : u1 ≤ 1073741824 := by have := Qb.out; omega
      clear HcN hu1 aN z0 q0 m1
      obtain ⟨ee0, ke0⟩ := (M1.out.cell _).i64 (Q.out.2.2.1)
      obtain ⟨ee1, ke1⟩ := (M1.out.cell _).i64 (Q.out.2.2.2.1)
      have me0 := Mk.set_ (p := ⟨(ad.add (m * 12)).block, (ad.add (m * 12)).off + 2, none⟩) (v := .int .i64 (u1 : Int)) Bx.out.1 Bx.out.2 ke0 (MkC.i64_ _ _)
      have Te0 := T1.set_ ⟨(ad.add (m * 12)).block, (ad.add (m * 12)).off + 2, none⟩ (.int .i64 (u1 : Int))
      obtain ⟨ge1, le1⟩ := (me0.cell _).i64 ke1
      have me1 := Mk.set_ (p := ⟨(ad.add (m * 12)).block, (ad.add (m * 12)).off + 3, none⟩) (v := .int .i64 ((u1 : Int) + 1)) Bx.out.1 Bx.out.2 le1 (MkC.i64_ _ _)
      have Te1 := Te0.set_ ⟨(ad.add (m * 12)).block, (ad.add (m * 12)).off + 3, none⟩ (.int .i64 ((u1 : Int) + 1))
      have ze0 := thaw_frozen (p := ⟨(ad.add (m * 12)).block, (ad.add (m * 12)).off + 2, none⟩) T1 Bx.out.1 Bx.out.2
      have ze1 := thaw_frozen (p := ⟨(ad.add (m * 12)).block, (ad.add (m * 12)).off + 3, none⟩) Te0 Bx.out.1 Bx.out.2
      have Me := Lib.hid ((M1.out.trans me0).trans me1)
      have cen := (Me.out.cell _).slice (Q.out.2.2.2.2.1)
      obtain ⟨nme, hne, hRe⟩ := (D.out.2.1).mk_ Me.out
      have hce := markByteS_i nme xA xc L B (u1 + 2) ((u1 : Int) + 1 + 1) _ (by omega) (by omega) (by omega) Te1 hRe
      rw [hne] at hce
      have Hce := Lib.hid hce
      clear hce me0 me1 hRe
      go_wp2_with fail
      refine Hce.out.mono ?_
      rintro r wen ⟨rfl, men, Ten⟩
      have Men := Lib.hid (Me.out.trans men)
      obtain ⟨u2, hu2⟩ : ∃ u : Nat, u1 + 2 + enm.length = u := ⟨_, rfl⟩
      rw [hu2]
      have U2 := Lib.hid hu2
      have hub2 : u2 ≤ 1073741824 := by have := Qb.out; have := U1.out; have := U2.out; omega
      have cea := (Men.out.cell _).slice (Q.out.2.2.2.2.2.1)
      obtain ⟨are, hae, hXe, hse⟩ := ExL.marked Men.out (D.out.2.2.1)
      have hsse := mkExs_eq hae hse
      have hcxe := markExS_i are xA' xc' L B u2 (u2 : Int) wen rfl (by have := Qb.out; have := U1.out; have := U2.out; omega) Ten hXe
      rw [hae, hsse] at hcxe
      have Hcxe := Lib.hid hcxe
      clear hcxe hXe hse hsse cen Hce ze0 ze1 ke0 ke1 le1 men hu2
      go_wp2_with fail
      refine Hcxe.out.mono ?_
      rintro r wex ⟨rfl, mex, Tex⟩
      have Mex := Lib.hid (Men.out.trans mex)
      obtain ⟨u3, hu3⟩ : ∃ u : Nat, u2 + mkExs ear = u := ⟨_, rfl⟩
      rw [hu3]
      have U3 := Lib.hid hu3
      have hub3 : u3 ≤ 1073741824 := by have := Qb.out; have := U1.out; have := U2.out; have := U3.out; omega
      clear cea Hcxe mex hu3
      obtain ⟨ef0, kf0⟩ := (Mex.out.cell _).i64 (Q.out.2.2.2.2.2.2.1)
      obtain ⟨ef1, kf1⟩ := (Mex.out.cell _).i64 (Q.out.2.2.2.2.2.2.2.1)
      have mf0 := Mk.set_ (p := ⟨(ad.add (m * 12)).block, (ad.add (m * 12)).off + 6, none⟩) (v := .int .i64 (u3 : Int)) Bx.out.1 Bx.out.2 kf0 (MkC.i64_ _ _)
      have Tf0 := Tex.set_ ⟨(ad.add (m * 12)).block, (ad.add (m * 12)).off + 6, none⟩ (.int .i64 (u3 : Int))
      obtain ⟨gf1, lf1⟩ := (mf0.cell _).i64 kf1
      have mf1 := Mk.set_ (p := ⟨(ad.add (m * 12)).block, (ad.add (m * 12)).off + 7, none⟩) (v := .int .i64 ((u3 : Int) + 1)) Bx.out.1 Bx.out.2 lf1 (MkC.i64_ _ _)
      have Tf1 := Tf0.set_ ⟨(ad.add (m * 12)).block, (ad.add (m * 12)).off + 7, none⟩ (.int .i64 ((u3 : Int) + 1))
      have zf0 := thaw_frozen (p := ⟨(ad.add (m * 12)).block, (ad.add (m * 12)).off + 6, none⟩) Tex Bx.out.1 Bx.out.2
      have zf1 := thaw_frozen (p := ⟨(ad.add (m * 12)).block, (ad.add (m * 12)).off + 7, none⟩) Tf0 Bx.out.1 Bx.out.2
      have Mf := Lib.hid ((Mex.out.trans mf0).trans mf1)
      have cfn := (Mf.out.cell _).slice (Q.out.2.2.2.2.2.2.2.2.1)
      obtain ⟨nmf, hnf, hRf⟩ := (D.out.2.2.2.1).mk_ Mf.out
      have hcf := markByteS_i nmf yA yc L B (u3 + 2) ((u3 : Int) + 1 + 1) _ (by omega) (by omega) (by omega) Tf1 hRf
      rw [hnf] at hcf
      have Hcf := Lib.hid hcf
      clear hcf mf0 mf1 hRf
      go_wp2_with fail
      refine Hcf.out.mono ?_
      rintro r wfn ⟨rfl, mfn, Tfn⟩
      have Mfn := Lib.hid (Mf.out.trans mfn)
      obtain ⟨u4, hu4⟩ : ∃ u : Nat, u3 + 2 + fnm.length = u := ⟨_, rfl⟩
      rw [hu4]
      have U4 := Lib.hid hu4
      have hub4 : u4 ≤ 1073741824 := by have := Qb.out; have := U1.out; have := U2.out; have := U3.out; have := U4.out; omega
      have cfa := (Mfn.out.cell _).slice (Q.out.2.2.2.2.2.2.2.2.2.1)
      obtain ⟨arf, haf, hXf, hsf⟩ := ExL.marked Mfn.out (D.out.2.2.2.2.1)
      have hssf := mkExs_eq haf hsf
      have hcxf := markExS_i arf yA' yc' L B u4 (u4 : Int) wfn rfl (by have := Qb.out; have := U1.out; have := U2.out; have := U3.out; have := U4.out; omega) Tfn hXf
      rw [haf, hssf] at hcxf
      have Hcxf := Lib.hid hcxf
      clear hcxf hXf hsf hssf cfn Hcf zf0 zf1 kf0 kf1 lf1 mfn hu4
      go_wp2_with fail
      refine Hcxf.out.mono ?_
      rintro r wfx ⟨rfl, mfx, Tfx⟩
      have Mfx := Lib.hid (Mfn.out.trans mfx)
      obtain ⟨u5, hu5⟩ : ∃ u : Nat, u4 + mkExs far = u := ⟨_, rfl⟩
      rw [hu5]
      have U5 := Lib.hid hu5
      have hub5 : u5 ≤ 1073741824 := by have := Qb.out; have := U1.out; have := U2.out; have := U3.out; have := U4.out; have := U5.out; omega
      clear cfa Hcxf mfx hu5
      have cb := (Mfx.out.cell _).slice (Q.out.2.2.2.2.2.2.2.2.2.2.1)
      obtain ⟨bb, hblb, hXb, hsb⟩ := StL.marked Mfx.out (D.out.2.2.2.2.2.1)
      have hssb := mkSts_eq hblb hsb
      have hcb := Ih.out bb (by rw [hssb]; exact hszN.1) A1 c1 L B u5 (u5 : Int) wfx rfl (by have := Qb.out; have := U1.out; have := U2.out; have := U3.out; have := U4.out; have := U5.out; omega) Tfx hXb
      rw [hblb, hssb] at hcb
      have Hcb := Lib.hid hcb
      clear hcb hXb hsb hssb
      go_wp2_with fail
      refine Hcb.out.mono ?_
      rintro r wb ⟨rfl, mb, Tb⟩
      have Mb := Lib.hid (Mfx.out.trans mb)
      obtain ⟨u6, hu6⟩ : ∃ u : Nat, u5 + mkSts body = u := ⟨_, rfl⟩
      rw [hu6]
      have U6 := Lib.hid hu6
      have hub6 : u6 ≤ 1073741824 := by have := Qb.out; have := U1.out; have := U2.out; have := U3.out; have := U4.out; have := U5.out; have := U6.out; omega
      clear cb Hcb mb hu6
      have cl := (Mb.out.cell _).slice (Q.out.2.2.2.2.2.2.2.2.2.2.2)
      obtain ⟨bl, hbll, hXl, hsl⟩ := StL.marked Mb.out (D.out.2.2.2.2.2.2)
      have hssl := mkSts_eq hbll hsl
      have hcl := Ih.out bl (by rw [hssl]; exact hszN.2) A2 c2 L B u6 (u6 : Int) wb rfl (by have := Qb.out; have := U1.out; have := U2.out; have := U3.out; have := U4.out; have := U5.out; have := U6.out; omega) Tb hXl
      rw [hbll, hssl] at hcl
      have Hcl := Lib.hid hcl
      clear hcl hXl hsl hssl
      go_wp2_with fail
      refine Hcl.out.mono ?_
      rintro r wl ⟨rfl, ml, Tl⟩
      have Ml := Lib.hid (Mb.out.trans ml)
      obtain ⟨u7, hu7⟩ : ∃ u : Nat, u6 + mkSts els = u := ⟨_, rfl⟩
      rw [hu7]
      have U7 := Lib.hid hu7
      have hub7 : u7 ≤ 1073741824 := by have := Qb.out; have := U1.out; have := U2.out; have := U3.out; have := U4.out; have := U5.out; have := U6.out; have := U7.out; omega
      clear cl Hcl ml hu7
      go_wp2
      go_roundw
      case rel =>
        refine ⟨m + 1, u7, by omega, by go_num, rfl, Lib.hid ?_, hmk.trans Ml.out, Tl⟩
        have h0 := Hq.out
        have h1 := Sm.out.1
        have h2 := Sm.out.2
        have g1 := U1.out; have g2 := U2.out; have g3 := U3.out; have g4 := U4.out; have g5 := U5.out; have g6 := U6.out; have g7 := U7.out
        omega
      case measure => simp [intOf]; omega
    · go_wp2
      go_ret
      have hml : m = l.length := by omega
      have h0 := Hq.out
      rw [hml, List.take_length] at h0
      exact ⟨by rw [h0]; rfl, hmk, hTr⟩
theorem markStS_c (l : List St) : MkSs l := by
  have key : ∀ N, ∀ l, mkSts l < N → MkSs l := by
    intro N
    induction N with
    | zero => intro l h; omega
    | succ N ih => intro l h; exact markStS_of N ih l (by omega)
  exact key (mkSts l + 1) l (by omega)
end Go.Proofs.Ytmejbmfopdfbjaa
