/-
  The model's walk in depth: l4mark.
-/
import Derived.Test.YtiofabnicdlceaaReach
namespace Go.Proofs.Ytiofabnicdlceaa
open Go.RowKit
set_option linter.unusedVariables false
set_option linter.unusedSimpArgs false

/-- what l4mark leaves -/
def MarkQ (S : List Sl) (m : List Bool) (i gB : Nat) (w : World) (e : Ending) (w' : World) : Prop :=
  ∃ v m', e = .returned v ∧ Dps S m m' i ∧ Blk w' gB 4 (vo m').toArray ∧ Apart (fun k => k = gB) w w'

set_option maxRecDepth 100000 in
set_option maxHeartbeats 8000000 in
theorem l4mark_c (a : Ar) (A0 A1 A2 : Option Addr) (c0 c1 c2 L B gB : Nat) (hsz : arSz a ≤ 1048576) (hS : InS a.slots) (hg : gB < L ∨ B ≤ gB) : ∀ (u : Nat) (m : List Bool) (i : Nat) (w : World), unO m ≤ u → i < a.slots.length → m.length = a.slots.length → B ≤ w.heap.size → ArL w L B A0 A1 A2 a → Blk w gB 4 (vo m).toArray →
    Calls Try.prog 68 #[.agg #[.slice A0 a.slots.length c0, .slice A1 a.queue.length c1, .slice A2 a.purple.length c2], .slice (some ⟨gB, 0, none⟩) a.slots.length a.slots.length, .int .i64 (i : Int)] w (MarkQ a.slots m i gB w) := by
  obtain ⟨S, Q, P⟩ := a
  dsimp only
  intro u
  induction u with
  | zero =>
    intro m i w hu hi hm hB h hb
    have hgi : gO m i = true := by
      cases e : gO m i
      · have := unO_set (by omega) e
        omega
      · rfl
    have q0 : (w.alloc (.cells #[.slice A0 S.length c0, .slice A1 Q.length c1, .slice A2 P.length c2] 32)).cell? ⟨gB, i, none⟩ = some (.bool true) := by
      rw [(hb.alloc _).cell]
      have : (vo m)[i]? = some (.bool true) := by rw [vo_get, List.getElem?_eq_getElem (by omega), ← gO_get (by omega), hgi]; rfl
      simpa using this
    have Hq : Hid (MarkQ S m i gB w (.returned (.tuple #[])) (w.alloc (.cells #[.slice A0 S.length c0, .slice A1 Q.length c1, .slice A2 P.length c2] 32))) := Lib.hid ⟨_, m, rfl, Dps.stay hgi, hb.alloc _, (Apart.refl _ _).alloc _⟩
    clear hu hm hb h hgi
    go_enter Try.func68, Try.ntmps68
    go_wp2
    refine bodyPost_end (results_none rfl _ _ _) rfl ?_
    exact Hq.out
  | succ u ih =>
    intro m i w hu hi hm hB h hb
    cases hgi : gO m i
    case true =>
      have q0 : (w.alloc (.cells #[.slice A0 S.length c0, .slice A1 Q.length c1, .slice A2 P.length c2] 32)).cell? ⟨gB, i, none⟩ = some (.bool true) := by
        rw [(hb.alloc _).cell]
        have : (vo m)[i]? = some (.bool true) := by rw [vo_get, List.getElem?_eq_getElem (by omega), ← gO_get (by omega), hgi]; rfl
        simpa using this
      have Hq : Hid (MarkQ S m i gB w (.returned (.tuple #[])) (w.alloc (.cells #[.slice A0 S.length c0, .slice A1 Q.length c1, .slice A2 P.length c2] 32))) := Lib.hid ⟨_, m, rfl, Dps.stay hgi, hb.alloc _, (Apart.refl _ _).alloc _⟩
      clear hu hm hb h hgi
      go_enter Try.func68, Try.ntmps68
      go_wp2
      refine bodyPost_end (results_none rfl _ _ _) rfl ?_
      exact Hq.out
    case false =>
      have hfz : S[i].fs.length ≤ 1048576 := slots_fs hsz hi
      have hS : InS S := hS
      have hin : ∀ k (hk : k < S[i].fs.length), S[i].fs[k].k = 2 → ∃ n : Nat, S[i].fs[k].n = (n : Int) ∧ n < S.length ∧ (n : Int) ∈ kidsOf S i := fun k hk h2 => by
        have hm : S[i].fs[k].n ∈ kidsOf S i := by
          rw [kidsOf_get hi]
          unfold refsTo
          rw [List.take_length, List.mem_map]
          exact ⟨S[i].fs[k], List.mem_filter.2 ⟨List.getElem_mem hk, by simpa using h2⟩, rfl⟩
        have h3 := hS i hi _ hm
        exact ⟨S[i].fs[k].n.toNat, by omega, by omega, by rw [show ((S[i].fs[k].n.toNat : Nat) : Int) = S[i].fs[k].n by omega]; exact hm⟩
      have hbA := hb.alloc (.cells #[.slice A0 S.length c0, .slice A1 Q.length c1, .slice A2 P.length c2] 32)
      have q0 : (w.alloc (.cells #[.slice A0 S.length c0, .slice A1 Q.length c1, .slice A2 P.length c2] 32)).cell? ⟨gB, i, none⟩ = some (.bool false) := by
        rw [hbA.cell]
        have : (vo m)[i]? = some (.bool false) := by rw [vo_get, List.getElem?_eq_getElem (by omega), ← gO_get (by omega), hgi]; rfl
        simpa using this
      have f0 : (w.alloc (.cells #[.slice A0 S.length c0, .slice A1 Q.length c1, .slice A2 P.length c2] 32)).frozen? ⟨gB, i, none⟩ = false := hbA.frozen i
      have Hb1 : Hid (Blk ((w.alloc (.cells #[.slice A0 S.length c0, .slice A1 Q.length c1, .slice A2 P.length c2] 32)).setCell ⟨gB, i, none⟩ (.bool true)) gB 4 (vo (m.set i true)).toArray) := Lib.hid (by
        have h1 := hbA.set_ i (.bool true)
        rwa [vo_set] at h1)
      have hgl := hb.lt
      have Hk1 : Hid (Blk ((w.alloc (.cells #[.slice A0 S.length c0, .slice A1 Q.length c1, .slice A2 P.length c2] 32)).setCell ⟨gB, i, none⟩ (.bool true)) w.heap.size 32 #[.slice A0 S.length c0, .slice A1 Q.length c1, .slice A2 P.length c2]) := Lib.hid ((Blk.new w 32 #[.slice A0 S.length c0, .slice A1 Q.length c1, .slice A2 P.length c2]).far (p := ⟨gB, i, none⟩) (by simp; omega) _)
      have Ha1 : Hid (Apart (fun k => k = gB) w ((w.alloc (.cells #[.slice A0 S.length c0, .slice A1 Q.length c1, .slice A2 P.length c2] 32)).setCell ⟨gB, i, none⟩ (.bool true))) := Lib.hid (((Apart.refl (fun k => k = gB) w).alloc _).setCell rfl _)
      have Hd1 : Hid (Dpk S S[i].fs m (m.set i true) i 0) := Lib.hid (Dpk.start (by omega))
      have H := Lib.hid h
      have Hin := Lib.hid hin
      have Hgi := Lib.hid hgi
      have Hm := Lib.hid hm
      have Hu := Lib.hid hu
      have Hih := Lib.hid ih
      have HG := Lib.hid (And.intro hgl hg)
      obtain ⟨fs, hfs⟩ : ∃ f, f = S[i].fs := ⟨_, rfl⟩
      rw [← hfs] at hfz Hd1
      have Hfs := Lib.hid hfs
      clear hfs h hin hgi hm hu ih hb hbA hgl hS hsz hg
      go_enter Try.func68, Try.ntmps68
      go_wp2_with fail
      go_loopw [6] (fun x wr => ∃ (k : Nat) (mk : List Bool), k ≤ fs.length ∧ x = .int .i64 k ∧ Hid (Dpk S fs m mk i k) ∧ Hid (Blk wr gB 4 (vo mk).toArray) ∧ Hid (Blk wr w.heap.size 32 #[.slice A0 S.length c0, .slice A1 Q.length c1, .slice A2 P.length c2]) ∧ Hid (Apart (fun k => k = gB) w wr)) (fun x _ => fs.length - (intOf x).toNat)
      case atStart => exact ⟨0, _, Nat.zero_le _, rfl, Hd1, Hb1, Hk1, Ha1⟩
      case round =>
        obtain ⟨k, mk, hk, rfl, hd, hbR, hkR, haR⟩ := hrel
        have hsw := haR.out.size
        have hBr : B ≤ wr.heap.size := Nat.le_trans hB hsw
        have hL : ArL wr L B A0 A1 A2 ⟨S, Q, P⟩ := H.out.keep (fun p h1 h2 => World.cell?_of_block (haR.out.block p.block (by omega) (by rcases HG.out.2 with h | h <;> omega)))
        obtain ⟨ad, rfl, _, hbk, hat⟩ := hL.1.2 (by simp only; omega)
        obtain ⟨x0, x1, x2, x3, ⟨d0, d1, d2, d3⟩, rfl, rfl, rfl, FA, fc, rfl, hF⟩ := hat i hi
        dsimp only at d3 hF
        rw [← Hfs.out] at d3 hF
        have p0 := hkR.out.cel 0 (v := .slice (some ad) S.length c0) rfl
        have HL := Lib.hid hL
        clear hat d0 d1 d2 hL
        by_cases hlt : k < fs.length
        · obtain ⟨fd, rfl, _, hfb, hfat⟩ := hF.2 (by omega)
          obtain ⟨y0, y1, y2, y3, ⟨f0, f1, f2, f3⟩, NA, nc, rfl, -, -, rfl, rfl, rfl⟩ := hfat k hlt
          have Hsk := Lib.hid (fun h => hd.out.skip hlt h)
          have Hst : Hid (∀ (m' : List Bool) (n : Nat), fs[k].k = 2 → fs[k].n = (n : Int) → (n : Int) ∈ kidsOf S i → Dps S mk m' n → Dpk S fs m m' i (k + 1)) := Lib.hid (by
            have e := Hfs.out
            subst e
            exact fun m' n h2 hn hmem hdd => hd.out.step hi hlt h2 hn hdd hmem)
          have Hin2 : Hid (fs[k].k = 2 → ∃ n : Nat, fs[k].n = (n : Int) ∧ n < S.length ∧ (n : Int) ∈ kidsOf S i) := Lib.hid (by
            have e := Hfs.out
            subst e
            exact Hin.out k hlt)
          obtain ⟨fk, hfk⟩ : ∃ f, f = fs[k].k := ⟨_, rfl⟩
          obtain ⟨fn, hfn⟩ : ∃ f, f = fs[k].n := ⟨_, rfl⟩
          obtain ⟨fg, hfg⟩ : ∃ f, f = fs[k].g := ⟨_, rfl⟩
          rw [← hfk] at f1 Hsk Hst Hin2
          rw [← hfn] at f2 Hst Hin2
          rw [← hfg] at f3
          clear hfat hF hfk hfn hfg f0
          have hmk := hd.out.len
          have hbo := blw1 wr (.cells #[.int .i64 fk, .int .i64 fn, .int .i64 fg] 60)
          have hk4 := hkR.out.below hbo hkR.out.lt
          by_cases he : fk = 2
          · subst he
            obtain ⟨n, rfl, hnS, hnm⟩ := Hin2.out rfl
            have Hc := Lib.hid (Hih.out mk n (wr.alloc (.cells #[.int .i64 2, .int .i64 (n : Int), .int .i64 fg] 60)) (by have := hd.out.un (by have := Hm.out; omega) Hgi.out; have := Hu.out; omega) hnS (by rw [hmk]; exact Hm.out) (Nat.le_trans hBr hbo.size) (HL.out.below (hbo.mono hBr)) (hbR.out.alloc _))
            have Ha4 := Lib.hid (haR.out.alloc (.cells #[.int .i64 2, .int .i64 (n : Int), .int .i64 fg] 60))
            have Hk4 := Lib.hid hk4
            have k0 := hk4.cel 0 (v := .slice (some ad) S.length c0) rfl
            have k1 := hk4.cel 1 (v := .slice A1 Q.length c1) rfl
            have k2 := hk4.cel 2 (v := .slice A2 P.length c2) rfl
            clear hbo hk4 hmk Hsk Hin2 hd hbR hkR haR HL Hih
            go_wp2_with fail
            refine Hc.out.mono ?_
            rintro e w5 ⟨v, m', rfl, hdd, hb5, ha5⟩
            have Hd5 := Lib.hid (Hst.out m' n (by trivial) (by first | rfl | trivial) hnm hdd)
            have Hb5 := Lib.hid hb5
            have Ha5 := Lib.hid (Ha4.out.trans ha5)
            have Hk5 := Lib.hid (Hk4.out.apart ha5 (by have := HG.out.1; omega))
            clear hdd hb5 ha5 Hc Hst k0 k1 k2 Hk4 Ha4
            go_wp2
            go_roundw
            case rel => exact ⟨k + 1, m', by omega, by go_num, Hd5, Hb5, Hk5, Ha5⟩
            case measure => simp [intOf]; omega
          · have Hd5 := Lib.hid (Hsk.out he)
            have Hb5 := Lib.hid (hbR.out.alloc (.cells #[.int .i64 fk, .int .i64 fn, .int .i64 fg] 60))
            have Hk5 := Lib.hid hk4
            have Ha5 := Lib.hid (haR.out.alloc (.cells #[.int .i64 fk, .int .i64 fn, .int .i64 fg] 60))
            clear hbo hk4 hmk Hsk Hst Hin2 hd hbR hkR haR HL
            go_wp2
            go_roundw
            case rel => exact ⟨k + 1, mk, by omega, by go_num, Hd5, Hb5, Hk5, Ha5⟩
            case measure => simp [intOf]; omega
        · obtain rfl : k = fs.length := by omega
          have Hq : Hid (MarkQ S m i gB w (.returned (.tuple #[])) wr) := Lib.hid ⟨_, mk, rfl, (by have e := Hfs.out; subst e; exact hd.out.fin hi), hbR.out, haR.out⟩
          clear hF hd hbR hkR haR HL
          go_wp2
          refine bodyPost_end (results_none rfl _ _ _) rfl ?_
          exact Hq.out
end Go.Proofs.Ytiofabnicdlceaa
