/-
  A slot's children, of the program.
-/
import Derived.Test.YtiofabnicdlceaaRoomAt
import Derived.Test.YtiofabnicdlceaaOkAt
import Derived.Test.YtiofabnicdlceaaVals
namespace Go.Proofs.Ytiofabnicdlceaa
open Go.RowKit
set_option linter.unusedVariables false
set_option linter.unusedSimpArgs false

theorem infoVl : (Try.prog.info? 60).map (fun i => (i.zero, i.size, i.bytes)) = some (some (.agg #[.int .i64 0, .int .i64 0, .int .i64 0]), 3, 24) := by kernel_rfl

set_option maxRecDepth 100000 in
set_option maxHeartbeats 2000000 in
theorem slotKids_c (s : Sl) (FA : Option Addr) (fc L B : Nat) (w : World) (hB : B ≤ w.heap.size) (hl : s.fs.length ≤ 1048576) (h : FdL w L B FA s.fs) :
    Calls Try.prog 84 #[.agg #[.bool s.live, .int .i64 s.gen, .int .i64 s.count, .slice FA s.fs.length fc]] w (AnsI w (refsTo s.fs s.fs.length)) := by
  obtain ⟨i0, hi, hz0, hz1, hz2⟩ := info_parts infoVl
  obtain ⟨fs, hfs⟩ : ∃ f, f = s.fs := ⟨_, rfl⟩
  rw [← hfs] at h hl
  rw [← hfs]
  obtain ⟨sl, hsl⟩ : ∃ f, f = s.live := ⟨_, rfl⟩
  obtain ⟨gn, hgn⟩ : ∃ f, f = s.gen := ⟨_, rfl⟩
  obtain ⟨ct, hct⟩ : ∃ f, f = s.count := ⟨_, rfl⟩
  rw [← hsl, ← hgn, ← hct]
  clear hsl hgn hct hfs
  have hbr := blw1 w (.cells #[.bool sl, .int .i64 gn, .int .i64 ct, .slice FA fs.length fc] 107)
  have H := Lib.hid (h.below (hbr.mono hB))
  have Hb := Lib.hid hbr
  clear h hbr
  go_enter Try.func84, Try.ntmps84
  go_wp2_with fail
  generalize hW : w.alloc (.cells #[.bool sl, .int .i64 gn, .int .i64 ct, .slice FA fs.length fc] 107) = W
  rw [hW] at H Hb
  have hWs : w.heap.size ≤ W.heap.size := by rw [← hW]; simp
  have HWs := Lib.hid hWs
  clear hW hWs
  go_loopw [3, 9] (fun n i wr => ∃ k : Nat, k ≤ fs.length ∧ i = .int .i64 k ∧ Hid (VRow wr W.heap.size n (valsTo fs k)) ∧ Below W.heap.size W wr) (fun _ i _ => fs.length - (intOf i).toNat)
  case atStart => exact ⟨0, Nat.zero_le _, rfl, Lib.hid (VRow.nil _ _), Below.refl _ _⟩
  case round =>
    obtain ⟨k, hk, rfl, hrow, hbl⟩ := hrel
    obtain ⟨A', c', rfl, hlc⟩ := hrow.out.form
    have hll := valsTo_len hk
    have hws := hbl.size
    by_cases hlt : k < fs.length
    · obtain ⟨ad, rfl, _, hbk, hat⟩ := (H.out.below (hbl.mono (Nat.le_trans hB HWs.out))).2 (by omega)
      obtain ⟨y0, y1, y2, y3, ⟨f0, f1, f2, f3⟩, NA, nc, rfl, -, -, rfl, rfl, rfl⟩ := hat k hlt
      have Hn := Lib.hid (valsTo_succ hlt)
      obtain ⟨fk, hfk⟩ : ∃ f, f = fs[k].k := ⟨_, rfl⟩
      obtain ⟨fn, hfn⟩ : ∃ f, f = fs[k].n := ⟨_, rfl⟩
      obtain ⟨fg, hfg⟩ : ∃ f, f = fs[k].g := ⟨_, rfl⟩
      obtain ⟨nl, hnl⟩ : ∃ f, f = fs[k].name.length := ⟨_, rfl⟩
      rw [← hnl] at f0
      rw [← hfk] at f1 Hn
      rw [← hfn] at f2 Hn
      rw [← hfg] at f3 Hn
      clear hat hfk hfn hfg hnl
      have hr1 := hrow.out.alloc (.cells #[.slice NA nl nc, .int .i64 fk, .int .i64 fn, .int .i64 fg] 98)
      have hbl1 := hbl.trans ((blw1 wr (.cells #[.slice NA nl nc, .int .i64 fk, .int .i64 fn, .int .i64 fg] 98)).mono hws)
      have HO := Lib.hid (hr1.alloc (.cells #[.int .i64 fk, .int .i64 fn, .int .i64 fg] 60))
      have hcell : ∀ j u, [Value.int .i64 fk, .int .i64 fn, .int .i64 fg][j]? = some u → ((wr.alloc (.cells #[.slice NA nl nc, .int .i64 fk, .int .i64 fn, .int .i64 fg] 98)).alloc (.cells #[.int .i64 fk, .int .i64 fn, .int .i64 fg] 60)).cell? ((⟨wr.heap.size + 1, 0, none⟩ : Addr).add j) = some u := fun j u hj => by
        have hB2 := Blk.new (wr.alloc (.cells #[.slice NA nl nc, .int .i64 fk, .int .i64 fn, .int .i64 fg] 98)) 60 #[.int .i64 fk, .int .i64 fn, .int .i64 fg]
        rw [World.size_alloc] at hB2
        rw [add_zero_, hB2.cell]
        simpa using hj
      have Hcell := Lib.hid hcell
      have Hbl1 := Lib.hid hbl1
      clear hr1 hbl hbl1 hcell
      go_wp2_with (at_builtin; refine wpList_append_own _ rfl (.tmp 13) (.tmp 16) 34 rfl W.heap.size 60 i0 _ 3 24 Try.underlying34 hi hz0 hz1 hz2 rfl (by omega) _ _ _ rfl HO.out ⟨wr.heap.size + 1, 0, none⟩ 1 1 [.int .i64 fk, .int .i64 fn, .int .i64 fg] rfl rfl Hcell.out (by simp [Value.oneCell']) (by unfold maxLen; omega) (by omega) (by simp; omega) ?_; intro v' w4 hown' hgrow _)
      have hbn : Below W.heap.size W w4 := HO.out.grown (Hbl1.out.alloc (by simp; omega) _) (by simp; omega) hgrow
      have Hnew := Lib.hid (VRow.snoc (x := ⟨fk, fn, fg⟩) hown')
      have Hbn := Lib.hid hbn
      clear hown' hgrow hbn HO Hcell Hbl1
      go_roundw
      case rel => exact ⟨k + 1, by omega, by go_num, by rw [Hn.out]; exact Hnew, Hbn.out⟩
      case measure => simp [intOf]; omega
    · obtain rfl : k = fs.length := by omega
      have hrow := hrow.out
      have hrv := refsV_vals fs
      obtain ⟨vs, hvs⟩ : ∃ v, v = valsTo fs fs.length := ⟨_, rfl⟩
      rw [← hvs] at hrow hll hrv hlc
      rw [← hvs]
      have hr := refsAmong_c vs A' c' W.heap.size wr.heap.size wr (Nat.le_refl _) (by omega) (hrow.vl (by unfold maxLen; omega))
      rw [hrv] at hr
      clear hvs hrv hll
      have Hr := Lib.hid hr
      have Hbw := Lib.hid (Hb.out.trans (hbl.mono HWs.out))
      clear hr hbl
      go_wp2_with fail
      refine Hr.out.mono ?_
      rintro e w2 ⟨A2, c2, rfl, ho, hb2⟩
      have Hb3 := Lib.hid (Hbw.out.trans (hb2.mono Hbw.out.size))
      have Ho := Lib.hid (ho.lo_le Hbw.out.size)
      clear ho hb2 Hr
      go_wp2
      go_ret
      exact ⟨_, _, rfl, Ho.out, Hb3.out⟩
theorem slots_fs {a : Ar} (h : arSz a ≤ 1048576) {k : Nat} (hk : k < a.slots.length) : a.slots[k].fs.length ≤ 1048576 := by
  have h1 : sumIn slSz a.slots (k + 1) ≤ sumIn slSz a.slots a.slots.length := by
    unfold sumIn
    rw [List.take_length]
    conv => rhs; rw [← List.take_append_drop (k + 1) a.slots, List.map_append, List.sum_append]
    omega
  have h2 := sumIn_step slSz hk
  have h3 : sumIn slSz a.slots a.slots.length = (a.slots.map slSz).sum := by unfold sumIn; rw [List.take_length]
  have h4 : a.slots[k].fs.length ≤ slSz a.slots[k] := by unfold slSz fsSz; omega
  unfold arSz slsSz at h
  omega
end Go.Proofs.Ytiofabnicdlceaa
