/-
  At every arena, value and name GetField answers as its model, and writes into no argument. No condition.
-/
import Derived.Test.YtmjpcgainoflbaaGetI
import Derived.Test.YtmjpcgainoflbaaStep
import Derived.Test.YtmjpcgainoflbaaArnTo
import Derived.Test.YtmjpcgainoflbaaArnEq
import Derived.Test.YtmjpcgainoflbaaArnSz
import Derived.Test.YtmjpcgainoflbaaArnOpen
import Derived.Test.YtmjpcgainoflbaaBytes
import Derived.Test.YtmjpcgainoflbaaOpen
namespace Go.Proofs.Ytmjpcgainoflbaa
open Go.ChangeShapes Go.WideShapes Go.ChangeAt Go.RowKit
set_option linter.unusedVariables false
set_option linter.unusedSimpArgs false
namespace GetFieldLaw

set_option maxRecDepth 100000 in
set_option maxHeartbeats 16000000 in
theorem walk (a : Ar) (A0 A1 A2 : Option Addr) (c0 c1 c2 : Nat) (k n g : Int) (b : List UInt8) (NA : Option Addr) (nc : Nat) (w : World) (hR : ArL w 0 w.heap.size A0 A1 A2 a) (hN : RB w w.heap.size NA b) (hbm : b.length ≤ maxLen) :
    Calls Try.prog 3 #[.agg #[.slice A0 a.slots.length c0, .slice A1 a.queue.length c1, .slice A2 a.purple.length c2], .agg #[.int .i64 k, .int .i64 n, .int .i64 g], .slice NA b.length nc] w fun e w' => e = .returned (.bool true) ∧ Below w.heap.size w w' := by
  have hbA : Below w.heap.size w ((w.alloc (.cells #[.slice A0 a.slots.length c0, .slice A1 a.queue.length c1, .slice A2 a.purple.length c2] 25)).alloc (.cells #[.int .i64 k, .int .i64 n, .int .i64 g] 27)) := ((Below.refl _ _).alloc (Nat.le_refl _) _).alloc (by simp) _
  have HbA := Lib.hid hbA
  unfold maxLen at hbm
  by_cases hb5 : 1048576 < b.length
  · clear hR hN hbA
    go_enter Try.func3, Try.ntmps3
    go_wp2
    go_ret
    exact ⟨rfl, HbA.out⟩
  have hbl : b.length ≤ 1048576 := by omega
  have KA : Blk ((w.alloc (.cells #[.slice A0 a.slots.length c0, .slice A1 a.queue.length c1, .slice A2 a.purple.length c2] 25)).alloc (.cells #[.int .i64 k, .int .i64 n, .int .i64 g] 27)) w.heap.size 25 #[.slice A0 a.slots.length c0, .slice A1 a.queue.length c1, .slice A2 a.purple.length c2] := (Blk.new w 25 #[.slice A0 a.slots.length c0, .slice A1 a.queue.length c1, .slice A2 a.purple.length c2]).alloc _
  have KV : Blk ((w.alloc (.cells #[.slice A0 a.slots.length c0, .slice A1 a.queue.length c1, .slice A2 a.purple.length c2] 25)).alloc (.cells #[.int .i64 k, .int .i64 n, .int .i64 g] 27)) (w.heap.size + 1) 27 #[.int .i64 k, .int .i64 n, .int .i64 g] := by
    have := Blk.new (w.alloc (.cells #[.slice A0 a.slots.length c0, .slice A1 a.queue.length c1, .slice A2 a.purple.length c2] 25)) 27 #[.int .i64 k, .int .i64 n, .int .i64 g]
    simpa using this
  have Hsz := Lib.hid (szArena_c a A0 A1 A2 c0 c1 c2 0 w.heap.size 1048576 ((w.alloc (.cells #[.slice A0 a.slots.length c0, .slice A1 a.queue.length c1, .slice A2 a.purple.length c2] 25)).alloc (.cells #[.int .i64 k, .int .i64 n, .int .i64 g] 27)) (by simp; omega) (by omega) (by omega) (hR.below hbA))
  have HR := Lib.hid hR
  have HN := Lib.hid hN
  have HKA := Lib.hid KA
  have HKV := Lib.hid KV
  clear hR hN hbA KA KV
  go_enter Try.func3, Try.ntmps3
  go_wp2_with fail
  refine Hsz.out.mono ?_
  rintro e w0 ⟨r, rfl, hr1, hr2, hr3, hbx⟩
  have hb0 := HbA.out.trans (hbx.mono HbA.out.size)
  have KA0 := HKA.out.below hbx HKA.out.lt
  have KV0 := HKV.out.below hbx HKV.out.lt
  have Hb0 := Lib.hid hb0
  by_cases hr : r < 0
  · clear hr3 hb0 KA0 KV0 hbx Hsz HbA HKA HKV
    go_wp2
    go_ret
    exact ⟨rfl, Hb0.out⟩
  have hr' : 0 ≤ r := by omega
  have hsz : arSz a ≤ 1048576 := by have := hr3 hr'; omega
  have hr0 : decide (r < 0) = false := decide_eq_false hr
  have hspec := fun A0 A1 A2 c0 c1 c2 L B w => specGetField_c a A0 A1 A2 c0 c1 c2 L B w k n g b
  have himpl := fun A0 A1 A2 c0 c1 c2 L B w => implGetField_c a A0 A1 A2 c0 c1 c2 L B w k n g b
  obtain ⟨⟨gk, gn, gg⟩, hge⟩ : ∃ x, getA a k n g b = x := ⟨_, rfl⟩
  obtain ⟨ok, hoke⟩ : ∃ x, getOk a k n g b = x := ⟨_, rfl⟩
  simp only [hge, hoke] at hspec himpl
  have Hspec := Lib.hid hspec
  have Himpl := Lib.hid himpl
  have Hta := Lib.hid (fun W (hW : Below w0.heap.size w0 W) => toArena_c a A0 A1 A2 c0 c1 c2 0 w.heap.size W (Nat.le_trans hb0.size hW.size) hsz ((HR.out.below hb0).below (hW.mono hb0.size)))
  have Htv := Lib.hid (fun W => toVal_c k n g W)
  have Htb := Lib.hid (fun W (hW : Below w0.heap.size w0 W) => toByteS_c b NA nc w.heap.size W (by omega) (Nat.le_trans hb0.size hW.size) ((HN.out.below hb0).below (hW.mono hb0.size)))
  obtain ⟨qA0, qA1, qA2⟩ := KA0.four3
  obtain ⟨qV0, qV1, qV2⟩ := KV0.four3
  have pA := fun o => (KA0.alloc o).four3
  have pV := fun o => (KV0.alloc o).four3
  have HKA0 := Lib.hid KA0
  have HKV0 := Lib.hid KV0
  have Hszz := Lib.hid hsz
  have HbP := Lib.hid (Below.refl w0.heap.size w0)
  clear hspec himpl hge hoke hr3 hbx KA0 KV0 hb0 Hsz HbA HKA HKV hr hsz
  go_upto_region 7 with fail
  go_cut [8, 9] (fun p q wx => ∃ gb : Nat, p = .pointer (some ⟨gb, 0, none⟩) ∧ q = .bool ok ∧ Hid (Below w0.heap.size w0 wx) ∧ Hid (Blk wx gb 30 #[.int .i64 gk, .int .i64 gn, .int .i64 gg]))
  case first =>
    have HKA0 := Lib.hid HKA0.out.drew
    have HKV0 := Lib.hid HKV0.out.drew
    have HbP := Lib.hid (show Below w0.heap.size w0 w0.drew from on_d (n := 1) HbP.out)
    refine wp_region_noPanic ?_
    refine wp_region_held_drew (S := (fun W => Blk W w.heap.size 25 #[.slice A0 a.slots.length c0, .slice A1 a.queue.length c1, .slice A2 a.purple.length c2] ∧ Blk W (w.heap.size + 1) 27 #[.int .i64 k, .int .i64 n, .int .i64 g])) (by kernel_rfl) ?_ (fun hHeld => ?_)
    · exact ⟨HKA0.out, HKV0.out⟩
    refine wpAnyH_take (i := 0) (oi := _) (v := ?_) rfl (by kernel_rfl) (by kernel_rfl) (by kernel_rfl) (fun _ _ _ h => h) (Or.inl ⟨by rfl, ?_⟩) (by assumption) ?_
    rotate_left
    focus
      intro w hSw
      obtain ⟨qs1, qs2⟩ := hSw
      obtain ⟨qs10, qs11, qs12⟩ := qs1.four3
      obtain ⟨qs20, qs21, qs22⟩ := qs2.four3
      go_simp
      try with_reducible rfl
    try simp only [List.getElem_toArray, List.getElem_cons_succ, List.getElem_cons_zero, Act.put, List.setIfInBounds_toArray, List.set_cons_zero, List.set_cons_succ]
    refine wpAnyH_take (i := 2) (oi := _) (v := ?_) rfl (by kernel_rfl) (by kernel_rfl) (by kernel_rfl) (fun _ _ _ h => h) (Or.inl ⟨by rfl, ?_⟩) (by assumption) ?_
    rotate_left
    focus
      intro w hSw
      obtain ⟨qs1, qs2⟩ := hSw
      obtain ⟨qs10, qs11, qs12⟩ := qs1.four3
      obtain ⟨qs20, qs21, qs22⟩ := qs2.four3
      go_simp
      try with_reducible rfl
    try simp only [List.getElem_toArray, List.getElem_cons_succ, List.getElem_cons_zero, Act.put, List.setIfInBounds_toArray, List.set_cons_zero, List.set_cons_succ]
    refine wpAnyH_take (i := 4) (oi := _) (v := ?_) rfl (by kernel_rfl) (by kernel_rfl) (by kernel_rfl) (fun _ _ _ h => h) (Or.inl ⟨by rfl, ?_⟩) (by assumption) ?_
    rotate_left
    focus
      intro w hSw
      obtain ⟨qs1, qs2⟩ := hSw
      obtain ⟨qs10, qs11, qs12⟩ := qs1.four3
      obtain ⟨qs20, qs21, qs22⟩ := qs2.four3
      go_simp
      try with_reducible rfl
    try simp only [List.getElem_toArray, List.getElem_cons_succ, List.getElem_cons_zero, Act.put, List.setIfInBounds_toArray, List.set_cons_zero, List.set_cons_succ]
    refine wpAnyH_ready (rs := [1, 10]) (by kernel_rfl) (by simp) ?_
    refine AllReadyH.cons (o := _) rfl (fun K hK => ?_) ?_
    · go_simp
      refine Calls.mono (Hta.out w0.drew HbP.out) ?_
      rintro e w1 ⟨s0, s1, s2, rfl, hL1, hb⟩
      have hst := hb
      have HKA0 := Lib.hid (HKA0.out.below hst HKA0.out.lt)
      have HKV0 := Lib.hid (HKV0.out.below hst HKV0.out.lt)
      have HbP := Lib.hid (HbP.out.trans (hst.mono HbP.out.size))
      have HL1 := Lib.hid hL1
      have Hs1 := Lib.hid (Nat.le_refl w1.heap.size)
      clear hst hb hL1
      refine hK.out _ _ ?_ (fun hHeld => ?_)
      · exact ⟨HKA0.out, HKV0.out⟩
      · clear hK K
        try simp only [List.getElem_toArray, List.getElem_cons_succ, List.getElem_cons_zero, Act.put, List.setIfInBounds_toArray, List.set_cons_zero, List.set_cons_succ]
        refine wpAnyH_ready (rs := [3, 10]) (by kernel_rfl) (by simp) ?_
        refine AllReadyH.cons (o := _) rfl (fun K hK => ?_) ?_
        · go_simp
          refine Calls.mono (Htv.out w1) ?_
          rintro e w2 ⟨rfl, hb⟩
          have hst := hb
          have HKA0 := Lib.hid (HKA0.out.below hst HKA0.out.lt)
          have HKV0 := Lib.hid (HKV0.out.below hst HKV0.out.lt)
          have HbP := Lib.hid (HbP.out.trans (hst.mono HbP.out.size))
          have HL1 := Lib.hid (HL1.out.below (hst.mono Hs1.out))
          have Hs1 := Lib.hid (Nat.le_trans Hs1.out hst.size)
          clear hst hb
          refine hK.out _ _ ?_ (fun hHeld => ?_)
          · exact ⟨HKA0.out, HKV0.out⟩
          · clear hK K
            try simp only [List.getElem_toArray, List.getElem_cons_succ, List.getElem_cons_zero, Act.put, List.setIfInBounds_toArray, List.set_cons_zero, List.set_cons_succ]
            refine wpAnyH_ready (rs := [5, 10]) (by kernel_rfl) (by simp) ?_
            refine AllReadyH.cons (o := _) rfl (fun K hK => ?_) ?_
            · go_simp
              refine Calls.mono (Htb.out w2 HbP.out) ?_
              rintro e w3 ⟨sb, rfl, hKb, _, _, hb⟩
              have hst := hb
              have HKA0 := Lib.hid (HKA0.out.below hst HKA0.out.lt)
              have HKV0 := Lib.hid (HKV0.out.below hst HKV0.out.lt)
              have HbP := Lib.hid (HbP.out.trans (hst.mono HbP.out.size))
              have HL1 := Lib.hid (HL1.out.below (hst.mono Hs1.out))
              have Hs1 := Lib.hid (Nat.le_trans Hs1.out hst.size)
              have HN3 := Lib.hid (RB.of_blk hKb hKb.lt)
              have Hs3 := Lib.hid (Nat.le_refl w3.heap.size)
              clear hst hb hKb
              refine hK.out _ _ ?_ (fun hHeld => ?_)
              · exact ⟨HKA0.out, HKV0.out⟩
              · clear hK K
                try simp only [List.getElem_toArray, List.getElem_cons_succ, List.getElem_cons_zero, Act.put, List.setIfInBounds_toArray, List.set_cons_zero, List.set_cons_succ]
                refine wpAnyH_ready (rs := [6, 10]) (by kernel_rfl) (by simp) ?_
                refine AllReadyH.cons (o := _) rfl (fun K hK => ?_) ?_
                · go_simp
                  refine Calls.mono (Hspec.out (some ⟨s0, 0, none⟩) (some ⟨s1, 0, none⟩) (some ⟨s2, 0, none⟩) a.slots.length a.queue.length a.purple.length _ w1.heap.size w3 (some ⟨sb, 0, none⟩) b.length w3.heap.size Hs1.out Hs3.out HL1.out Hszz.out (Nat.le_refl _) HN3.out hbl) ?_
                  rintro e w4 ⟨rfl, hb⟩
                  have hst := hb
                  have HKA0 := Lib.hid (HKA0.out.below hst HKA0.out.lt)
                  have HKV0 := Lib.hid (HKV0.out.below hst HKV0.out.lt)
                  have HbP := Lib.hid (HbP.out.trans (hst.mono HbP.out.size))
                  have HL1 := Lib.hid (HL1.out.below (hst.mono Hs1.out))
                  have Hs1 := Lib.hid (Nat.le_trans Hs1.out hst.size)
                  have HN3 := Lib.hid (HN3.out.below (hst.mono Hs3.out))
                  have Hs3 := Lib.hid (Nat.le_trans Hs3.out hst.size)
                  clear hst hb
                  refine hK.out _ _ ?_ (fun hHeld => ?_)
                  · exact ⟨HKA0.out, HKV0.out⟩
                  · clear hK K
                    try simp only [List.getElem_toArray, List.getElem_cons_succ, List.getElem_cons_zero, Act.put, List.setIfInBounds_toArray, List.set_cons_zero, List.set_cons_succ]
                    refine wpAnyH_take (i := 7) (oi := _) (v := ?_) rfl (by kernel_rfl) (by kernel_rfl) (by kernel_rfl) (fun _ _ _ h => h) (Or.inl ⟨by rfl, ?_⟩) (by assumption) ?_
                    rotate_left
                    focus
                      intro w hSw
                      obtain ⟨qs1, qs2⟩ := hSw
                      obtain ⟨qs10, qs11, qs12⟩ := qs1.four3
                      obtain ⟨qs20, qs21, qs22⟩ := qs2.four3
                      go_simp
                      try with_reducible rfl
                    try simp only [List.getElem_toArray, List.getElem_cons_succ, List.getElem_cons_zero, Act.put, List.setIfInBounds_toArray, List.set_cons_zero, List.set_cons_succ]
                    refine wpAnyH_take (i := 8) (oi := _) (v := ?_) rfl (by kernel_rfl) (by kernel_rfl) (by kernel_rfl) (fun _ _ _ h => h) (Or.inl ⟨by rfl, ?_⟩) (by assumption) ?_
                    rotate_left
                    focus
                      intro w hSw
                      obtain ⟨qs1, qs2⟩ := hSw
                      obtain ⟨qs10, qs11, qs12⟩ := qs1.four3
                      obtain ⟨qs20, qs21, qs22⟩ := qs2.four3
                      go_simp
                      try with_reducible rfl
                    try simp only [List.getElem_toArray, List.getElem_cons_succ, List.getElem_cons_zero, Act.put, List.setIfInBounds_toArray, List.set_cons_zero, List.set_cons_succ]
                    refine wpAnyH_take (i := 9) (oi := _) (v := ?_) rfl (by kernel_rfl) (by kernel_rfl) (by kernel_rfl) (fun _ _ _ h => h) (Or.inl ⟨by rfl, ?_⟩) (by assumption) ?_
                    rotate_left
                    focus
                      intro w hSw
                      obtain ⟨qs1, qs2⟩ := hSw
                      obtain ⟨qs10, qs11, qs12⟩ := qs1.four3
                      obtain ⟨qs20, qs21, qs22⟩ := qs2.four3
                      go_simp
                      try with_reducible rfl
                    try simp only [List.getElem_toArray, List.getElem_cons_succ, List.getElem_cons_zero, Act.put, List.setIfInBounds_toArray, List.set_cons_zero, List.set_cons_succ]
                    refine wpAnyH_ready (rs := [10]) (by kernel_rfl) (by simp) ?_
                    refine AllReadyH.cons (o := _) rfl (fun K hK => ?_) ?_
                    · go_simp
                      have hst := blw1 w4 (.cells #[.int .i64 0, .int .i64 0, .int .i64 0] 30)
                      have hbox0 : Hid (Blk (w4.alloc (.cells #[.int .i64 0, .int .i64 0, .int .i64 0] 30)) (w4.heap.size) 30 #[.int .i64 0, .int .i64 0, .int .i64 0]) := Lib.hid (by have := Blk.new w4 30 #[.int .i64 0, .int .i64 0, .int .i64 0]; first | exact this | (rwa [World.size_alloc] at this))
                      have hge0 : Hid (w0.heap.size ≤ w4.heap.size) := Lib.hid (by have := HbP.out.size; first | exact this | (rwa [World.size_alloc] at this))
                      have HKA0p0 := HKA0
                      have HKV0p0 := HKV0
                      have HbPp0 := HbP
                      have HKA0 := Lib.hid (HKA0.out.below hst HKA0.out.lt)
                      have HKV0 := Lib.hid (HKV0.out.below hst HKV0.out.lt)
                      have HbP := Lib.hid (HbP.out.trans (hst.mono HbP.out.size))
                      have HL1 := Lib.hid (HL1.out.below (hst.mono Hs1.out))
                      have Hs1 := Lib.hid (Nat.le_trans Hs1.out hst.size)
                      have HN3 := Lib.hid (HN3.out.below (hst.mono Hs3.out))
                      have Hs3 := Lib.hid (Nat.le_trans Hs3.out hst.size)
                      clear hst
                      refine hK.out _ _ ?_ (fun hHeld => ?_)
                      · exact ⟨HKA0.out, HKV0.out⟩
                      · clear hK K
                        try simp only [List.getElem_toArray, List.getElem_cons_succ, List.getElem_cons_zero, Act.put, List.setIfInBounds_toArray, List.set_cons_zero, List.set_cons_succ]
                        refine wpAnyH_ready (rs := [11]) (by kernel_rfl) (by simp) ?_
                        refine AllReadyH.cons (o := _) rfl (fun K hK => ?_) ?_
                        · have z00 := hbox0.out.cel 0 rfl
                          have y00 := hbox0.out.frozen 0
                          have z01 := hbox0.out.cel 1 rfl
                          have y01 := hbox0.out.frozen 1
                          have z02 := hbox0.out.cel 2 rfl
                          have y02 := hbox0.out.frozen 2
                          go_simp
                          have HKA0 := Lib.hid (HKA0p0.out.alloc (.cells #[.int .i64 gk, .int .i64 gn, .int .i64 gg] 30))
                          have HKV0 := Lib.hid (HKV0p0.out.alloc (.cells #[.int .i64 gk, .int .i64 gn, .int .i64 gg] 30))
                          have HbP := Lib.hid (HbPp0.out.alloc HbPp0.out.size (.cells #[.int .i64 gk, .int .i64 gn, .int .i64 gg] 30))
                          have hbox0 : Hid (Blk (w4.alloc (.cells #[.int .i64 gk, .int .i64 gn, .int .i64 gg] 30)) (w4.heap.size) 30 #[.int .i64 gk, .int .i64 gn, .int .i64 gg]) := Lib.hid (by have := Blk.new w4 30 #[.int .i64 gk, .int .i64 gn, .int .i64 gg]; first | exact this | (rwa [World.size_alloc] at this))
                          refine hK.out _ _ ?_ (fun hHeld => ?_)
                          · exact ⟨HKA0.out, HKV0.out⟩
                          · clear hK K
                            try simp only [List.getElem_toArray, List.getElem_cons_succ, List.getElem_cons_zero, Act.put, List.setIfInBounds_toArray, List.set_cons_zero, List.set_cons_succ]
                            refine wpAnyH_take (i := 12) (oi := _) (v := ?_) rfl (by kernel_rfl) (by kernel_rfl) (by kernel_rfl) (fun _ _ _ h => h) (Or.inl ⟨by rfl, ?_⟩) (by assumption) ?_
                            rotate_left
                            focus
                              intro w hSw
                              obtain ⟨qs1, qs2⟩ := hSw
                              obtain ⟨qs10, qs11, qs12⟩ := qs1.four3
                              obtain ⟨qs20, qs21, qs22⟩ := qs2.four3
                              go_simp
                              try with_reducible rfl
                            try simp only [List.getElem_toArray, List.getElem_cons_succ, List.getElem_cons_zero, Act.put, List.setIfInBounds_toArray, List.set_cons_zero, List.set_cons_succ]
                            refine wpAnyH_done (by kernel_rfl) ?_ _
                            refine NoPanic.normal ?_
                            try go_wp2_with fail
                            go_meet
                            case rel => exact ⟨_, rfl, rfl, HbP, hbox0⟩
                        exact AllReadyH.nil
                    exact AllReadyH.nil
                refine AllReadyH.cons (o := _) rfl (fun K hK => ?_) ?_
                · go_simp
                  have hst := blw1 w3 (.cells #[.int .i64 0, .int .i64 0, .int .i64 0] 30)
                  have hbox0 : Hid (Blk (w3.alloc (.cells #[.int .i64 0, .int .i64 0, .int .i64 0] 30)) (w3.heap.size) 30 #[.int .i64 0, .int .i64 0, .int .i64 0]) := Lib.hid (by have := Blk.new w3 30 #[.int .i64 0, .int .i64 0, .int .i64 0]; first | exact this | (rwa [World.size_alloc] at this))
                  have hge0 : Hid (w0.heap.size ≤ w3.heap.size) := Lib.hid (by have := HbP.out.size; first | exact this | (rwa [World.size_alloc] at this))
                  have HKA0p0 := HKA0
                  have HKV0p0 := HKV0
                  have HbPp0 := HbP
                  have HKA0 := Lib.hid (HKA0.out.below hst HKA0.out.lt)
                  have HKV0 := Lib.hid (HKV0.out.below hst HKV0.out.lt)
                  have HbP := Lib.hid (HbP.out.trans (hst.mono HbP.out.size))
                  have HL1 := Lib.hid (HL1.out.below (hst.mono Hs1.out))
                  have Hs1 := Lib.hid (Nat.le_trans Hs1.out hst.size)
                  have HN3 := Lib.hid (HN3.out.below (hst.mono Hs3.out))
                  have Hs3 := Lib.hid (Nat.le_trans Hs3.out hst.size)
                  clear hst
                  refine hK.out _ _ ?_ (fun hHeld => ?_)
                  · exact ⟨HKA0.out, HKV0.out⟩
                  · clear hK K
                    try simp only [List.getElem_toArray, List.getElem_cons_succ, List.getElem_cons_zero, Act.put, List.setIfInBounds_toArray, List.set_cons_zero, List.set_cons_succ]
                    refine wpAnyH_ready (rs := [6]) (by kernel_rfl) (by simp) ?_
                    refine AllReadyH.cons (o := _) rfl (fun K hK => ?_) ?_
                    · go_simp
                      refine Calls.mono (Hspec.out (some ⟨s0, 0, none⟩) (some ⟨s1, 0, none⟩) (some ⟨s2, 0, none⟩) a.slots.length a.queue.length a.purple.length _ w1.heap.size (w3.alloc (.cells #[.int .i64 0, .int .i64 0, .int .i64 0] 30)) (some ⟨sb, 0, none⟩) b.length w3.heap.size Hs1.out Hs3.out HL1.out Hszz.out (Nat.le_refl _) HN3.out hbl) ?_
                      rintro e w4 ⟨rfl, hb⟩
                      have hst := hb
                      have HKA0 := Lib.hid (HKA0.out.below hst HKA0.out.lt)
                      have HKV0 := Lib.hid (HKV0.out.below hst HKV0.out.lt)
                      have HbP := Lib.hid (HbP.out.trans (hst.mono HbP.out.size))
                      have HL1 := Lib.hid (HL1.out.below (hst.mono Hs1.out))
                      have Hs1 := Lib.hid (Nat.le_trans Hs1.out hst.size)
                      have HN3 := Lib.hid (HN3.out.below (hst.mono Hs3.out))
                      have Hs3 := Lib.hid (Nat.le_trans Hs3.out hst.size)
                      have hbox0 := Lib.hid (hbox0.out.below hst hbox0.out.lt)
                      clear hst hb
                      refine hK.out _ _ ?_ (fun hHeld => ?_)
                      · exact ⟨HKA0.out, HKV0.out⟩
                      · clear hK K
                        try simp only [List.getElem_toArray, List.getElem_cons_succ, List.getElem_cons_zero, Act.put, List.setIfInBounds_toArray, List.set_cons_zero, List.set_cons_succ]
                        refine wpAnyH_take (i := 7) (oi := _) (v := ?_) rfl (by kernel_rfl) (by kernel_rfl) (by kernel_rfl) (fun _ _ _ h => h) (Or.inl ⟨by rfl, ?_⟩) (by assumption) ?_
                        rotate_left
                        focus
                          intro w hSw
                          obtain ⟨qs1, qs2⟩ := hSw
                          obtain ⟨qs10, qs11, qs12⟩ := qs1.four3
                          obtain ⟨qs20, qs21, qs22⟩ := qs2.four3
                          go_simp
                          try with_reducible rfl
                        try simp only [List.getElem_toArray, List.getElem_cons_succ, List.getElem_cons_zero, Act.put, List.setIfInBounds_toArray, List.set_cons_zero, List.set_cons_succ]
                        refine wpAnyH_take (i := 8) (oi := _) (v := ?_) rfl (by kernel_rfl) (by kernel_rfl) (by kernel_rfl) (fun _ _ _ h => h) (Or.inl ⟨by rfl, ?_⟩) (by assumption) ?_
                        rotate_left
                        focus
                          intro w hSw
                          obtain ⟨qs1, qs2⟩ := hSw
                          obtain ⟨qs10, qs11, qs12⟩ := qs1.four3
                          obtain ⟨qs20, qs21, qs22⟩ := qs2.four3
                          go_simp
                          try with_reducible rfl
                        try simp only [List.getElem_toArray, List.getElem_cons_succ, List.getElem_cons_zero, Act.put, List.setIfInBounds_toArray, List.set_cons_zero, List.set_cons_succ]
                        refine wpAnyH_take (i := 9) (oi := _) (v := ?_) rfl (by kernel_rfl) (by kernel_rfl) (by kernel_rfl) (fun _ _ _ h => h) (Or.inl ⟨by rfl, ?_⟩) (by assumption) ?_
                        rotate_left
                        focus
                          intro w hSw
                          obtain ⟨qs1, qs2⟩ := hSw
                          obtain ⟨qs10, qs11, qs12⟩ := qs1.four3
                          obtain ⟨qs20, qs21, qs22⟩ := qs2.four3
                          go_simp
                          try with_reducible rfl
                        try simp only [List.getElem_toArray, List.getElem_cons_succ, List.getElem_cons_zero, Act.put, List.setIfInBounds_toArray, List.set_cons_zero, List.set_cons_succ]
                        refine wpAnyH_ready (rs := [11]) (by kernel_rfl) (by simp) ?_
                        refine AllReadyH.cons (o := _) rfl (fun K hK => ?_) ?_
                        · have z00 := hbox0.out.cel 0 rfl
                          have y00 := hbox0.out.frozen 0
                          have z01 := hbox0.out.cel 1 rfl
                          have y01 := hbox0.out.frozen 1
                          have z02 := hbox0.out.cel 2 rfl
                          have y02 := hbox0.out.frozen 2
                          go_simp
                          have HKA0 := Lib.hid (((HKA0.out.far (p := ⟨w3.heap.size, 0, none⟩) (Blk.ne_ HKA0.out hbox0.out (by decide)) (.int .i64 gk)).far (p := ⟨w3.heap.size, 1, none⟩) (Blk.ne_ HKA0.out hbox0.out (by decide)) (.int .i64 gn)).far (p := ⟨w3.heap.size, 2, none⟩) (Blk.ne_ HKA0.out hbox0.out (by decide)) (.int .i64 gg))
                          have HKV0 := Lib.hid (((HKV0.out.far (p := ⟨w3.heap.size, 0, none⟩) (Blk.ne_ HKV0.out hbox0.out (by decide)) (.int .i64 gk)).far (p := ⟨w3.heap.size, 1, none⟩) (Blk.ne_ HKV0.out hbox0.out (by decide)) (.int .i64 gn)).far (p := ⟨w3.heap.size, 2, none⟩) (Blk.ne_ HKV0.out hbox0.out (by decide)) (.int .i64 gg))
                          have HbP := Lib.hid (((HbP.out.setCell (p := ⟨w3.heap.size, 0, none⟩) hge0.out (.int .i64 gk)).setCell (p := ⟨w3.heap.size, 1, none⟩) hge0.out (.int .i64 gn)).setCell (p := ⟨w3.heap.size, 2, none⟩) hge0.out (.int .i64 gg))
                          have hbox0 := Lib.hid (((hbox0.out.set_ 0 (.int .i64 gk)).set_ 1 (.int .i64 gn)).set_ 2 (.int .i64 gg))
                          refine hK.out _ _ ?_ (fun hHeld => ?_)
                          · exact ⟨HKA0.out, HKV0.out⟩
                          · clear hK K
                            try simp only [List.getElem_toArray, List.getElem_cons_succ, List.getElem_cons_zero, Act.put, List.setIfInBounds_toArray, List.set_cons_zero, List.set_cons_succ]
                            refine wpAnyH_take (i := 12) (oi := _) (v := ?_) rfl (by kernel_rfl) (by kernel_rfl) (by kernel_rfl) (fun _ _ _ h => h) (Or.inl ⟨by rfl, ?_⟩) (by assumption) ?_
                            rotate_left
                            focus
                              intro w hSw
                              obtain ⟨qs1, qs2⟩ := hSw
                              obtain ⟨qs10, qs11, qs12⟩ := qs1.four3
                              obtain ⟨qs20, qs21, qs22⟩ := qs2.four3
                              go_simp
                              try with_reducible rfl
                            try simp only [List.getElem_toArray, List.getElem_cons_succ, List.getElem_cons_zero, Act.put, List.setIfInBounds_toArray, List.set_cons_zero, List.set_cons_succ]
                            refine wpAnyH_done (by kernel_rfl) ?_ _
                            refine NoPanic.normal ?_
                            try go_wp2_with fail
                            go_meet
                            case rel => exact ⟨_, rfl, rfl, HbP, hbox0⟩
                        exact AllReadyH.nil
                    exact AllReadyH.nil
                exact AllReadyH.nil
            refine AllReadyH.cons (o := _) rfl (fun K hK => ?_) ?_
            · go_simp
              have hst := blw1 w2 (.cells #[.int .i64 0, .int .i64 0, .int .i64 0] 30)
              have hbox0 : Hid (Blk (w2.alloc (.cells #[.int .i64 0, .int .i64 0, .int .i64 0] 30)) (w2.heap.size) 30 #[.int .i64 0, .int .i64 0, .int .i64 0]) := Lib.hid (by have := Blk.new w2 30 #[.int .i64 0, .int .i64 0, .int .i64 0]; first | exact this | (rwa [World.size_alloc] at this))
              have hge0 : Hid (w0.heap.size ≤ w2.heap.size) := Lib.hid (by have := HbP.out.size; first | exact this | (rwa [World.size_alloc] at this))
              have HKA0p0 := HKA0
              have HKV0p0 := HKV0
              have HbPp0 := HbP
              have HKA0 := Lib.hid (HKA0.out.below hst HKA0.out.lt)
              have HKV0 := Lib.hid (HKV0.out.below hst HKV0.out.lt)
              have HbP := Lib.hid (HbP.out.trans (hst.mono HbP.out.size))
              have HL1 := Lib.hid (HL1.out.below (hst.mono Hs1.out))
              have Hs1 := Lib.hid (Nat.le_trans Hs1.out hst.size)
              clear hst
              refine hK.out _ _ ?_ (fun hHeld => ?_)
              · exact ⟨HKA0.out, HKV0.out⟩
              · clear hK K
                try simp only [List.getElem_toArray, List.getElem_cons_succ, List.getElem_cons_zero, Act.put, List.setIfInBounds_toArray, List.set_cons_zero, List.set_cons_succ]
                refine wpAnyH_ready (rs := [5]) (by kernel_rfl) (by simp) ?_
                refine AllReadyH.cons (o := _) rfl (fun K hK => ?_) ?_
                · go_simp
                  refine Calls.mono (Htb.out (w2.alloc (.cells #[.int .i64 0, .int .i64 0, .int .i64 0] 30)) HbP.out) ?_
                  rintro e w3 ⟨sb, rfl, hKb, _, _, hb⟩
                  have hst := hb
                  have HKA0 := Lib.hid (HKA0.out.below hst HKA0.out.lt)
                  have HKV0 := Lib.hid (HKV0.out.below hst HKV0.out.lt)
                  have HbP := Lib.hid (HbP.out.trans (hst.mono HbP.out.size))
                  have HL1 := Lib.hid (HL1.out.below (hst.mono Hs1.out))
                  have Hs1 := Lib.hid (Nat.le_trans Hs1.out hst.size)
                  have hbox0 := Lib.hid (hbox0.out.below hst hbox0.out.lt)
                  have HN3 := Lib.hid (RB.of_blk hKb hKb.lt)
                  have Hs3 := Lib.hid (Nat.le_refl w3.heap.size)
                  clear hst hb hKb
                  refine hK.out _ _ ?_ (fun hHeld => ?_)
                  · exact ⟨HKA0.out, HKV0.out⟩
                  · clear hK K
                    try simp only [List.getElem_toArray, List.getElem_cons_succ, List.getElem_cons_zero, Act.put, List.setIfInBounds_toArray, List.set_cons_zero, List.set_cons_succ]
                    refine wpAnyH_ready (rs := [6]) (by kernel_rfl) (by simp) ?_
                    refine AllReadyH.cons (o := _) rfl (fun K hK => ?_) ?_
                    · go_simp
                      refine Calls.mono (Hspec.out (some ⟨s0, 0, none⟩) (some ⟨s1, 0, none⟩) (some ⟨s2, 0, none⟩) a.slots.length a.queue.length a.purple.length _ w1.heap.size w3 (some ⟨sb, 0, none⟩) b.length w3.heap.size Hs1.out Hs3.out HL1.out Hszz.out (Nat.le_refl _) HN3.out hbl) ?_
                      rintro e w4 ⟨rfl, hb⟩
                      have hst := hb
                      have HKA0 := Lib.hid (HKA0.out.below hst HKA0.out.lt)
                      have HKV0 := Lib.hid (HKV0.out.below hst HKV0.out.lt)
                      have HbP := Lib.hid (HbP.out.trans (hst.mono HbP.out.size))
                      have HL1 := Lib.hid (HL1.out.below (hst.mono Hs1.out))
                      have Hs1 := Lib.hid (Nat.le_trans Hs1.out hst.size)
                      have hbox0 := Lib.hid (hbox0.out.below hst hbox0.out.lt)
                      have HN3 := Lib.hid (HN3.out.below (hst.mono Hs3.out))
                      have Hs3 := Lib.hid (Nat.le_trans Hs3.out hst.size)
                      clear hst hb
                      refine hK.out _ _ ?_ (fun hHeld => ?_)
                      · exact ⟨HKA0.out, HKV0.out⟩
                      · clear hK K
                        try simp only [List.getElem_toArray, List.getElem_cons_succ, List.getElem_cons_zero, Act.put, List.setIfInBounds_toArray, List.set_cons_zero, List.set_cons_succ]
                        refine wpAnyH_take (i := 7) (oi := _) (v := ?_) rfl (by kernel_rfl) (by kernel_rfl) (by kernel_rfl) (fun _ _ _ h => h) (Or.inl ⟨by rfl, ?_⟩) (by assumption) ?_
                        rotate_left
                        focus
                          intro w hSw
                          obtain ⟨qs1, qs2⟩ := hSw
                          obtain ⟨qs10, qs11, qs12⟩ := qs1.four3
                          obtain ⟨qs20, qs21, qs22⟩ := qs2.four3
                          go_simp
                          try with_reducible rfl
                        try simp only [List.getElem_toArray, List.getElem_cons_succ, List.getElem_cons_zero, Act.put, List.setIfInBounds_toArray, List.set_cons_zero, List.set_cons_succ]
                        refine wpAnyH_take (i := 8) (oi := _) (v := ?_) rfl (by kernel_rfl) (by kernel_rfl) (by kernel_rfl) (fun _ _ _ h => h) (Or.inl ⟨by rfl, ?_⟩) (by assumption) ?_
                        rotate_left
                        focus
                          intro w hSw
                          obtain ⟨qs1, qs2⟩ := hSw
                          obtain ⟨qs10, qs11, qs12⟩ := qs1.four3
                          obtain ⟨qs20, qs21, qs22⟩ := qs2.four3
                          go_simp
                          try with_reducible rfl
                        try simp only [List.getElem_toArray, List.getElem_cons_succ, List.getElem_cons_zero, Act.put, List.setIfInBounds_toArray, List.set_cons_zero, List.set_cons_succ]
                        refine wpAnyH_take (i := 9) (oi := _) (v := ?_) rfl (by kernel_rfl) (by kernel_rfl) (by kernel_rfl) (fun _ _ _ h => h) (Or.inl ⟨by rfl, ?_⟩) (by assumption) ?_
                        rotate_left
                        focus
                          intro w hSw
                          obtain ⟨qs1, qs2⟩ := hSw
                          obtain ⟨qs10, qs11, qs12⟩ := qs1.four3
                          obtain ⟨qs20, qs21, qs22⟩ := qs2.four3
                          go_simp
                          try with_reducible rfl
                        try simp only [List.getElem_toArray, List.getElem_cons_succ, List.getElem_cons_zero, Act.put, List.setIfInBounds_toArray, List.set_cons_zero, List.set_cons_succ]
                        refine wpAnyH_ready (rs := [11]) (by kernel_rfl) (by simp) ?_
                        refine AllReadyH.cons (o := _) rfl (fun K hK => ?_) ?_
                        · have z00 := hbox0.out.cel 0 rfl
                          have y00 := hbox0.out.frozen 0
                          have z01 := hbox0.out.cel 1 rfl
                          have y01 := hbox0.out.frozen 1
                          have z02 := hbox0.out.cel 2 rfl
                          have y02 := hbox0.out.frozen 2
                          go_simp
                          have HKA0 := Lib.hid (((HKA0.out.far (p := ⟨w2.heap.size, 0, none⟩) (Blk.ne_ HKA0.out hbox0.out (by decide)) (.int .i64 gk)).far (p := ⟨w2.heap.size, 1, none⟩) (Blk.ne_ HKA0.out hbox0.out (by decide)) (.int .i64 gn)).far (p := ⟨w2.heap.size, 2, none⟩) (Blk.ne_ HKA0.out hbox0.out (by decide)) (.int .i64 gg))
                          have HKV0 := Lib.hid (((HKV0.out.far (p := ⟨w2.heap.size, 0, none⟩) (Blk.ne_ HKV0.out hbox0.out (by decide)) (.int .i64 gk)).far (p := ⟨w2.heap.size, 1, none⟩) (Blk.ne_ HKV0.out hbox0.out (by decide)) (.int .i64 gn)).far (p := ⟨w2.heap.size, 2, none⟩) (Blk.ne_ HKV0.out hbox0.out (by decide)) (.int .i64 gg))
                          have HbP := Lib.hid (((HbP.out.setCell (p := ⟨w2.heap.size, 0, none⟩) hge0.out (.int .i64 gk)).setCell (p := ⟨w2.heap.size, 1, none⟩) hge0.out (.int .i64 gn)).setCell (p := ⟨w2.heap.size, 2, none⟩) hge0.out (.int .i64 gg))
                          have hbox0 := Lib.hid (((hbox0.out.set_ 0 (.int .i64 gk)).set_ 1 (.int .i64 gn)).set_ 2 (.int .i64 gg))
                          refine hK.out _ _ ?_ (fun hHeld => ?_)
                          · exact ⟨HKA0.out, HKV0.out⟩
                          · clear hK K
                            try simp only [List.getElem_toArray, List.getElem_cons_succ, List.getElem_cons_zero, Act.put, List.setIfInBounds_toArray, List.set_cons_zero, List.set_cons_succ]
                            refine wpAnyH_take (i := 12) (oi := _) (v := ?_) rfl (by kernel_rfl) (by kernel_rfl) (by kernel_rfl) (fun _ _ _ h => h) (Or.inl ⟨by rfl, ?_⟩) (by assumption) ?_
                            rotate_left
                            focus
                              intro w hSw
                              obtain ⟨qs1, qs2⟩ := hSw
                              obtain ⟨qs10, qs11, qs12⟩ := qs1.four3
                              obtain ⟨qs20, qs21, qs22⟩ := qs2.four3
                              go_simp
                              try with_reducible rfl
                            try simp only [List.getElem_toArray, List.getElem_cons_succ, List.getElem_cons_zero, Act.put, List.setIfInBounds_toArray, List.set_cons_zero, List.set_cons_succ]
                            refine wpAnyH_done (by kernel_rfl) ?_ _
                            refine NoPanic.normal ?_
                            try go_wp2_with fail
                            go_meet
                            case rel => exact ⟨_, rfl, rfl, HbP, hbox0⟩
                        exact AllReadyH.nil
                    exact AllReadyH.nil
                exact AllReadyH.nil
            exact AllReadyH.nil
        refine AllReadyH.cons (o := _) rfl (fun K hK => ?_) ?_
        · go_simp
          have hst := blw1 w1 (.cells #[.int .i64 0, .int .i64 0, .int .i64 0] 30)
          have hbox0 : Hid (Blk (w1.alloc (.cells #[.int .i64 0, .int .i64 0, .int .i64 0] 30)) (w1.heap.size) 30 #[.int .i64 0, .int .i64 0, .int .i64 0]) := Lib.hid (by have := Blk.new w1 30 #[.int .i64 0, .int .i64 0, .int .i64 0]; first | exact this | (rwa [World.size_alloc] at this))
          have hge0 : Hid (w0.heap.size ≤ w1.heap.size) := Lib.hid (by have := HbP.out.size; first | exact this | (rwa [World.size_alloc] at this))
          have HKA0p0 := HKA0
          have HKV0p0 := HKV0
          have HbPp0 := HbP
          have HKA0 := Lib.hid (HKA0.out.below hst HKA0.out.lt)
          have HKV0 := Lib.hid (HKV0.out.below hst HKV0.out.lt)
          have HbP := Lib.hid (HbP.out.trans (hst.mono HbP.out.size))
          have HL1 := Lib.hid (HL1.out.below (hst.mono Hs1.out))
          have Hs1 := Lib.hid (Nat.le_trans Hs1.out hst.size)
          clear hst
          refine hK.out _ _ ?_ (fun hHeld => ?_)
          · exact ⟨HKA0.out, HKV0.out⟩
          · clear hK K
            try simp only [List.getElem_toArray, List.getElem_cons_succ, List.getElem_cons_zero, Act.put, List.setIfInBounds_toArray, List.set_cons_zero, List.set_cons_succ]
            refine wpAnyH_ready (rs := [3]) (by kernel_rfl) (by simp) ?_
            refine AllReadyH.cons (o := _) rfl (fun K hK => ?_) ?_
            · go_simp
              refine Calls.mono (Htv.out (w1.alloc (.cells #[.int .i64 0, .int .i64 0, .int .i64 0] 30))) ?_
              rintro e w2 ⟨rfl, hb⟩
              have hst := hb
              have HKA0 := Lib.hid (HKA0.out.below hst HKA0.out.lt)
              have HKV0 := Lib.hid (HKV0.out.below hst HKV0.out.lt)
              have HbP := Lib.hid (HbP.out.trans (hst.mono HbP.out.size))
              have HL1 := Lib.hid (HL1.out.below (hst.mono Hs1.out))
              have Hs1 := Lib.hid (Nat.le_trans Hs1.out hst.size)
              have hbox0 := Lib.hid (hbox0.out.below hst hbox0.out.lt)
              clear hst hb
              refine hK.out _ _ ?_ (fun hHeld => ?_)
              · exact ⟨HKA0.out, HKV0.out⟩
              · clear hK K
                try simp only [List.getElem_toArray, List.getElem_cons_succ, List.getElem_cons_zero, Act.put, List.setIfInBounds_toArray, List.set_cons_zero, List.set_cons_succ]
                refine wpAnyH_ready (rs := [5]) (by kernel_rfl) (by simp) ?_
                refine AllReadyH.cons (o := _) rfl (fun K hK => ?_) ?_
                · go_simp
                  refine Calls.mono (Htb.out w2 HbP.out) ?_
                  rintro e w3 ⟨sb, rfl, hKb, _, _, hb⟩
                  have hst := hb
                  have HKA0 := Lib.hid (HKA0.out.below hst HKA0.out.lt)
                  have HKV0 := Lib.hid (HKV0.out.below hst HKV0.out.lt)
                  have HbP := Lib.hid (HbP.out.trans (hst.mono HbP.out.size))
                  have HL1 := Lib.hid (HL1.out.below (hst.mono Hs1.out))
                  have Hs1 := Lib.hid (Nat.le_trans Hs1.out hst.size)
                  have hbox0 := Lib.hid (hbox0.out.below hst hbox0.out.lt)
                  have HN3 := Lib.hid (RB.of_blk hKb hKb.lt)
                  have Hs3 := Lib.hid (Nat.le_refl w3.heap.size)
                  clear hst hb hKb
                  refine hK.out _ _ ?_ (fun hHeld => ?_)
                  · exact ⟨HKA0.out, HKV0.out⟩
                  · clear hK K
                    try simp only [List.getElem_toArray, List.getElem_cons_succ, List.getElem_cons_zero, Act.put, List.setIfInBounds_toArray, List.set_cons_zero, List.set_cons_succ]
                    refine wpAnyH_ready (rs := [6]) (by kernel_rfl) (by simp) ?_
                    refine AllReadyH.cons (o := _) rfl (fun K hK => ?_) ?_
                    · go_simp
                      refine Calls.mono (Hspec.out (some ⟨s0, 0, none⟩) (some ⟨s1, 0, none⟩) (some ⟨s2, 0, none⟩) a.slots.length a.queue.length a.purple.length _ w1.heap.size w3 (some ⟨sb, 0, none⟩) b.length w3.heap.size Hs1.out Hs3.out HL1.out Hszz.out (Nat.le_refl _) HN3.out hbl) ?_
                      rintro e w4 ⟨rfl, hb⟩
                      have hst := hb
                      have HKA0 := Lib.hid (HKA0.out.below hst HKA0.out.lt)
                      have HKV0 := Lib.hid (HKV0.out.below hst HKV0.out.lt)
                      have HbP := Lib.hid (HbP.out.trans (hst.mono HbP.out.size))
                      have HL1 := Lib.hid (HL1.out.below (hst.mono Hs1.out))
                      have Hs1 := Lib.hid (Nat.le_trans Hs1.out hst.size)
                      have hbox0 := Lib.hid (hbox0.out.below hst hbox0.out.lt)
                      have HN3 := Lib.hid (HN3.out.below (hst.mono Hs3.out))
                      have Hs3 := Lib.hid (Nat.le_trans Hs3.out hst.size)
                      clear hst hb
                      refine hK.out _ _ ?_ (fun hHeld => ?_)
                      · exact ⟨HKA0.out, HKV0.out⟩
                      · clear hK K
                        try simp only [List.getElem_toArray, List.getElem_cons_succ, List.getElem_cons_zero, Act.put, List.setIfInBounds_toArray, List.set_cons_zero, List.set_cons_succ]
                        refine wpAnyH_take (i := 7) (oi := _) (v := ?_) rfl (by kernel_rfl) (by kernel_rfl) (by kernel_rfl) (fun _ _ _ h => h) (Or.inl ⟨by rfl, ?_⟩) (by assumption) ?_
                        rotate_left
                        focus
                          intro w hSw
                          obtain ⟨qs1, qs2⟩ := hSw
                          obtain ⟨qs10, qs11, qs12⟩ := qs1.four3
                          obtain ⟨qs20, qs21, qs22⟩ := qs2.four3
                          go_simp
                          try with_reducible rfl
                        try simp only [List.getElem_toArray, List.getElem_cons_succ, List.getElem_cons_zero, Act.put, List.setIfInBounds_toArray, List.set_cons_zero, List.set_cons_succ]
                        refine wpAnyH_take (i := 8) (oi := _) (v := ?_) rfl (by kernel_rfl) (by kernel_rfl) (by kernel_rfl) (fun _ _ _ h => h) (Or.inl ⟨by rfl, ?_⟩) (by assumption) ?_
                        rotate_left
                        focus
                          intro w hSw
                          obtain ⟨qs1, qs2⟩ := hSw
                          obtain ⟨qs10, qs11, qs12⟩ := qs1.four3
                          obtain ⟨qs20, qs21, qs22⟩ := qs2.four3
                          go_simp
                          try with_reducible rfl
                        try simp only [List.getElem_toArray, List.getElem_cons_succ, List.getElem_cons_zero, Act.put, List.setIfInBounds_toArray, List.set_cons_zero, List.set_cons_succ]
                        refine wpAnyH_take (i := 9) (oi := _) (v := ?_) rfl (by kernel_rfl) (by kernel_rfl) (by kernel_rfl) (fun _ _ _ h => h) (Or.inl ⟨by rfl, ?_⟩) (by assumption) ?_
                        rotate_left
                        focus
                          intro w hSw
                          obtain ⟨qs1, qs2⟩ := hSw
                          obtain ⟨qs10, qs11, qs12⟩ := qs1.four3
                          obtain ⟨qs20, qs21, qs22⟩ := qs2.four3
                          go_simp
                          try with_reducible rfl
                        try simp only [List.getElem_toArray, List.getElem_cons_succ, List.getElem_cons_zero, Act.put, List.setIfInBounds_toArray, List.set_cons_zero, List.set_cons_succ]
                        refine wpAnyH_ready (rs := [11]) (by kernel_rfl) (by simp) ?_
                        refine AllReadyH.cons (o := _) rfl (fun K hK => ?_) ?_
                        · have z00 := hbox0.out.cel 0 rfl
                          have y00 := hbox0.out.frozen 0
                          have z01 := hbox0.out.cel 1 rfl
                          have y01 := hbox0.out.frozen 1
                          have z02 := hbox0.out.cel 2 rfl
                          have y02 := hbox0.out.frozen 2
                          go_simp
                          have HKA0 := Lib.hid (((HKA0.out.far (p := ⟨w1.heap.size, 0, none⟩) (Blk.ne_ HKA0.out hbox0.out (by decide)) (.int .i64 gk)).far (p := ⟨w1.heap.size, 1, none⟩) (Blk.ne_ HKA0.out hbox0.out (by decide)) (.int .i64 gn)).far (p := ⟨w1.heap.size, 2, none⟩) (Blk.ne_ HKA0.out hbox0.out (by decide)) (.int .i64 gg))
                          have HKV0 := Lib.hid (((HKV0.out.far (p := ⟨w1.heap.size, 0, none⟩) (Blk.ne_ HKV0.out hbox0.out (by decide)) (.int .i64 gk)).far (p := ⟨w1.heap.size, 1, none⟩) (Blk.ne_ HKV0.out hbox0.out (by decide)) (.int .i64 gn)).far (p := ⟨w1.heap.size, 2, none⟩) (Blk.ne_ HKV0.out hbox0.out (by decide)) (.int .i64 gg))
                          have HbP := Lib.hid (((HbP.out.setCell (p := ⟨w1.heap.size, 0, none⟩) hge0.out (.int .i64 gk)).setCell (p := ⟨w1.heap.size, 1, none⟩) hge0.out (.int .i64 gn)).setCell (p := ⟨w1.heap.size, 2, none⟩) hge0.out (.int .i64 gg))
                          have hbox0 := Lib.hid (((hbox0.out.set_ 0 (.int .i64 gk)).set_ 1 (.int .i64 gn)).set_ 2 (.int .i64 gg))
                          refine hK.out _ _ ?_ (fun hHeld => ?_)
                          · exact ⟨HKA0.out, HKV0.out⟩
                          · clear hK K
                            try simp only [List.getElem_toArray, List.getElem_cons_succ, List.getElem_cons_zero, Act.put, List.setIfInBounds_toArray, List.set_cons_zero, List.set_cons_succ]
                            refine wpAnyH_take (i := 12) (oi := _) (v := ?_) rfl (by kernel_rfl) (by kernel_rfl) (by kernel_rfl) (fun _ _ _ h => h) (Or.inl ⟨by rfl, ?_⟩) (by assumption) ?_
                            rotate_left
                            focus
                              intro w hSw
                              obtain ⟨qs1, qs2⟩ := hSw
                              obtain ⟨qs10, qs11, qs12⟩ := qs1.four3
                              obtain ⟨qs20, qs21, qs22⟩ := qs2.four3
                              go_simp
                              try with_reducible rfl
                            try simp only [List.getElem_toArray, List.getElem_cons_succ, List.getElem_cons_zero, Act.put, List.setIfInBounds_toArray, List.set_cons_zero, List.set_cons_succ]
                            refine wpAnyH_done (by kernel_rfl) ?_ _
                            refine NoPanic.normal ?_
                            try go_wp2_with fail
                            go_meet
                            case rel => exact ⟨_, rfl, rfl, HbP, hbox0⟩
                        exact AllReadyH.nil
                    exact AllReadyH.nil
                exact AllReadyH.nil
            exact AllReadyH.nil
        exact AllReadyH.nil
    refine AllReadyH.cons (o := _) rfl (fun K hK => ?_) ?_
    · go_simp
      have hst := blw1 w0.drew (.cells #[.int .i64 0, .int .i64 0, .int .i64 0] 30)
      have hbox0 : Hid (Blk (w0.drew.alloc (.cells #[.int .i64 0, .int .i64 0, .int .i64 0] 30)) (w0.heap.size) 30 #[.int .i64 0, .int .i64 0, .int .i64 0]) := Lib.hid (by have := Blk.new w0.drew 30 #[.int .i64 0, .int .i64 0, .int .i64 0]; first | exact this | (rwa [World.size_alloc] at this))
      have hge0 : Hid (w0.heap.size ≤ w0.heap.size) := Lib.hid (by have := HbP.out.size; first | exact this | (rwa [World.size_alloc] at this))
      have HKA0p0 := HKA0
      have HKV0p0 := HKV0
      have HbPp0 := HbP
      have HKA0 := Lib.hid (HKA0.out.below hst HKA0.out.lt)
      have HKV0 := Lib.hid (HKV0.out.below hst HKV0.out.lt)
      have HbP := Lib.hid (HbP.out.trans (hst.mono HbP.out.size))
      clear hst
      refine hK.out _ _ ?_ (fun hHeld => ?_)
      · exact ⟨HKA0.out, HKV0.out⟩
      · clear hK K
        try simp only [List.getElem_toArray, List.getElem_cons_succ, List.getElem_cons_zero, Act.put, List.setIfInBounds_toArray, List.set_cons_zero, List.set_cons_succ]
        refine wpAnyH_ready (rs := [1]) (by kernel_rfl) (by simp) ?_
        refine AllReadyH.cons (o := _) rfl (fun K hK => ?_) ?_
        · go_simp
          refine Calls.mono (Hta.out (w0.drew.alloc (.cells #[.int .i64 0, .int .i64 0, .int .i64 0] 30)) HbP.out) ?_
          rintro e w1 ⟨s0, s1, s2, rfl, hL1, hb⟩
          have hst := hb
          have HKA0 := Lib.hid (HKA0.out.below hst HKA0.out.lt)
          have HKV0 := Lib.hid (HKV0.out.below hst HKV0.out.lt)
          have HbP := Lib.hid (HbP.out.trans (hst.mono HbP.out.size))
          have hbox0 := Lib.hid (hbox0.out.below hst hbox0.out.lt)
          have HL1 := Lib.hid hL1
          have Hs1 := Lib.hid (Nat.le_refl w1.heap.size)
          clear hst hb hL1
          refine hK.out _ _ ?_ (fun hHeld => ?_)
          · exact ⟨HKA0.out, HKV0.out⟩
          · clear hK K
            try simp only [List.getElem_toArray, List.getElem_cons_succ, List.getElem_cons_zero, Act.put, List.setIfInBounds_toArray, List.set_cons_zero, List.set_cons_succ]
            refine wpAnyH_ready (rs := [3]) (by kernel_rfl) (by simp) ?_
            refine AllReadyH.cons (o := _) rfl (fun K hK => ?_) ?_
            · go_simp
              refine Calls.mono (Htv.out w1) ?_
              rintro e w2 ⟨rfl, hb⟩
              have hst := hb
              have HKA0 := Lib.hid (HKA0.out.below hst HKA0.out.lt)
              have HKV0 := Lib.hid (HKV0.out.below hst HKV0.out.lt)
              have HbP := Lib.hid (HbP.out.trans (hst.mono HbP.out.size))
              have hbox0 := Lib.hid (hbox0.out.below hst hbox0.out.lt)
              have HL1 := Lib.hid (HL1.out.below (hst.mono Hs1.out))
              have Hs1 := Lib.hid (Nat.le_trans Hs1.out hst.size)
              clear hst hb
              refine hK.out _ _ ?_ (fun hHeld => ?_)
              · exact ⟨HKA0.out, HKV0.out⟩
              · clear hK K
                try simp only [List.getElem_toArray, List.getElem_cons_succ, List.getElem_cons_zero, Act.put, List.setIfInBounds_toArray, List.set_cons_zero, List.set_cons_succ]
                refine wpAnyH_ready (rs := [5]) (by kernel_rfl) (by simp) ?_
                refine AllReadyH.cons (o := _) rfl (fun K hK => ?_) ?_
                · go_simp
                  refine Calls.mono (Htb.out w2 HbP.out) ?_
                  rintro e w3 ⟨sb, rfl, hKb, _, _, hb⟩
                  have hst := hb
                  have HKA0 := Lib.hid (HKA0.out.below hst HKA0.out.lt)
                  have HKV0 := Lib.hid (HKV0.out.below hst HKV0.out.lt)
                  have HbP := Lib.hid (HbP.out.trans (hst.mono HbP.out.size))
                  have hbox0 := Lib.hid (hbox0.out.below hst hbox0.out.lt)
                  have HL1 := Lib.hid (HL1.out.below (hst.mono Hs1.out))
                  have Hs1 := Lib.hid (Nat.le_trans Hs1.out hst.size)
                  have HN3 := Lib.hid (RB.of_blk hKb hKb.lt)
                  have Hs3 := Lib.hid (Nat.le_refl w3.heap.size)
                  clear hst hb hKb
                  refine hK.out _ _ ?_ (fun hHeld => ?_)
                  · exact ⟨HKA0.out, HKV0.out⟩
                  · clear hK K
                    try simp only [List.getElem_toArray, List.getElem_cons_succ, List.getElem_cons_zero, Act.put, List.setIfInBounds_toArray, List.set_cons_zero, List.set_cons_succ]
                    refine wpAnyH_ready (rs := [6]) (by kernel_rfl) (by simp) ?_
                    refine AllReadyH.cons (o := _) rfl (fun K hK => ?_) ?_
                    · go_simp
                      refine Calls.mono (Hspec.out (some ⟨s0, 0, none⟩) (some ⟨s1, 0, none⟩) (some ⟨s2, 0, none⟩) a.slots.length a.queue.length a.purple.length _ w1.heap.size w3 (some ⟨sb, 0, none⟩) b.length w3.heap.size Hs1.out Hs3.out HL1.out Hszz.out (Nat.le_refl _) HN3.out hbl) ?_
                      rintro e w4 ⟨rfl, hb⟩
                      have hst := hb
                      have HKA0 := Lib.hid (HKA0.out.below hst HKA0.out.lt)
                      have HKV0 := Lib.hid (HKV0.out.below hst HKV0.out.lt)
                      have HbP := Lib.hid (HbP.out.trans (hst.mono HbP.out.size))
                      have hbox0 := Lib.hid (hbox0.out.below hst hbox0.out.lt)
                      have HL1 := Lib.hid (HL1.out.below (hst.mono Hs1.out))
                      have Hs1 := Lib.hid (Nat.le_trans Hs1.out hst.size)
                      have HN3 := Lib.hid (HN3.out.below (hst.mono Hs3.out))
                      have Hs3 := Lib.hid (Nat.le_trans Hs3.out hst.size)
                      clear hst hb
                      refine hK.out _ _ ?_ (fun hHeld => ?_)
                      · exact ⟨HKA0.out, HKV0.out⟩
                      · clear hK K
                        try simp only [List.getElem_toArray, List.getElem_cons_succ, List.getElem_cons_zero, Act.put, List.setIfInBounds_toArray, List.set_cons_zero, List.set_cons_succ]
                        refine wpAnyH_take (i := 7) (oi := _) (v := ?_) rfl (by kernel_rfl) (by kernel_rfl) (by kernel_rfl) (fun _ _ _ h => h) (Or.inl ⟨by rfl, ?_⟩) (by assumption) ?_
                        rotate_left
                        focus
                          intro w hSw
                          obtain ⟨qs1, qs2⟩ := hSw
                          obtain ⟨qs10, qs11, qs12⟩ := qs1.four3
                          obtain ⟨qs20, qs21, qs22⟩ := qs2.four3
                          go_simp
                          try with_reducible rfl
                        try simp only [List.getElem_toArray, List.getElem_cons_succ, List.getElem_cons_zero, Act.put, List.setIfInBounds_toArray, List.set_cons_zero, List.set_cons_succ]
                        refine wpAnyH_take (i := 8) (oi := _) (v := ?_) rfl (by kernel_rfl) (by kernel_rfl) (by kernel_rfl) (fun _ _ _ h => h) (Or.inl ⟨by rfl, ?_⟩) (by assumption) ?_
                        rotate_left
                        focus
                          intro w hSw
                          obtain ⟨qs1, qs2⟩ := hSw
                          obtain ⟨qs10, qs11, qs12⟩ := qs1.four3
                          obtain ⟨qs20, qs21, qs22⟩ := qs2.four3
                          go_simp
                          try with_reducible rfl
                        try simp only [List.getElem_toArray, List.getElem_cons_succ, List.getElem_cons_zero, Act.put, List.setIfInBounds_toArray, List.set_cons_zero, List.set_cons_succ]
                        refine wpAnyH_take (i := 9) (oi := _) (v := ?_) rfl (by kernel_rfl) (by kernel_rfl) (by kernel_rfl) (fun _ _ _ h => h) (Or.inl ⟨by rfl, ?_⟩) (by assumption) ?_
                        rotate_left
                        focus
                          intro w hSw
                          obtain ⟨qs1, qs2⟩ := hSw
                          obtain ⟨qs10, qs11, qs12⟩ := qs1.four3
                          obtain ⟨qs20, qs21, qs22⟩ := qs2.four3
                          go_simp
                          try with_reducible rfl
                        try simp only [List.getElem_toArray, List.getElem_cons_succ, List.getElem_cons_zero, Act.put, List.setIfInBounds_toArray, List.set_cons_zero, List.set_cons_succ]
                        refine wpAnyH_ready (rs := [11]) (by kernel_rfl) (by simp) ?_
                        refine AllReadyH.cons (o := _) rfl (fun K hK => ?_) ?_
                        · have z00 := hbox0.out.cel 0 rfl
                          have y00 := hbox0.out.frozen 0
                          have z01 := hbox0.out.cel 1 rfl
                          have y01 := hbox0.out.frozen 1
                          have z02 := hbox0.out.cel 2 rfl
                          have y02 := hbox0.out.frozen 2
                          go_simp
                          have HKA0 := Lib.hid (((HKA0.out.far (p := ⟨w0.heap.size, 0, none⟩) (Blk.ne_ HKA0.out hbox0.out (by decide)) (.int .i64 gk)).far (p := ⟨w0.heap.size, 1, none⟩) (Blk.ne_ HKA0.out hbox0.out (by decide)) (.int .i64 gn)).far (p := ⟨w0.heap.size, 2, none⟩) (Blk.ne_ HKA0.out hbox0.out (by decide)) (.int .i64 gg))
                          have HKV0 := Lib.hid (((HKV0.out.far (p := ⟨w0.heap.size, 0, none⟩) (Blk.ne_ HKV0.out hbox0.out (by decide)) (.int .i64 gk)).far (p := ⟨w0.heap.size, 1, none⟩) (Blk.ne_ HKV0.out hbox0.out (by decide)) (.int .i64 gn)).far (p := ⟨w0.heap.size, 2, none⟩) (Blk.ne_ HKV0.out hbox0.out (by decide)) (.int .i64 gg))
                          have HbP := Lib.hid (((HbP.out.setCell (p := ⟨w0.heap.size, 0, none⟩) hge0.out (.int .i64 gk)).setCell (p := ⟨w0.heap.size, 1, none⟩) hge0.out (.int .i64 gn)).setCell (p := ⟨w0.heap.size, 2, none⟩) hge0.out (.int .i64 gg))
                          have hbox0 := Lib.hid (((hbox0.out.set_ 0 (.int .i64 gk)).set_ 1 (.int .i64 gn)).set_ 2 (.int .i64 gg))
                          refine hK.out _ _ ?_ (fun hHeld => ?_)
                          · exact ⟨HKA0.out, HKV0.out⟩
                          · clear hK K
                            try simp only [List.getElem_toArray, List.getElem_cons_succ, List.getElem_cons_zero, Act.put, List.setIfInBounds_toArray, List.set_cons_zero, List.set_cons_succ]
                            refine wpAnyH_take (i := 12) (oi := _) (v := ?_) rfl (by kernel_rfl) (by kernel_rfl) (by kernel_rfl) (fun _ _ _ h => h) (Or.inl ⟨by rfl, ?_⟩) (by assumption) ?_
                            rotate_left
                            focus
                              intro w hSw
                              obtain ⟨qs1, qs2⟩ := hSw
                              obtain ⟨qs10, qs11, qs12⟩ := qs1.four3
                              obtain ⟨qs20, qs21, qs22⟩ := qs2.four3
                              go_simp
                              try with_reducible rfl
                            try simp only [List.getElem_toArray, List.getElem_cons_succ, List.getElem_cons_zero, Act.put, List.setIfInBounds_toArray, List.set_cons_zero, List.set_cons_succ]
                            refine wpAnyH_done (by kernel_rfl) ?_ _
                            refine NoPanic.normal ?_
                            try go_wp2_with fail
                            go_meet
                            case rel => exact ⟨_, rfl, rfl, HbP, hbox0⟩
                        exact AllReadyH.nil
                    exact AllReadyH.nil
                exact AllReadyH.nil
            exact AllReadyH.nil
        exact AllReadyH.nil
    exact AllReadyH.nil
  case rest =>
    obtain ⟨gb, rfl, rfl, hbc, hbv⟩ := hcut
    obtain ⟨wq, hwq⟩ : ∃ x, x = wc := ⟨_, rfl⟩
    subst hwq
    have KA := HKA0.out.below hbc.out HKA0.out.lt
    have KV := HKV0.out.below hbc.out HKV0.out.lt
    obtain ⟨qA0, qA1, qA2⟩ := KA.four3
    have Hbq := Lib.hid (Hb0.out.trans (hbc.out.mono Hb0.out.size))
    have Ht := Lib.hid (Hta.out wq hbc.out)
    have HKAq := Lib.hid KA
    have HKVq := Lib.hid KV
    clear KA KV HKA0 HKV0 pA pV qV0 qV1 qV2 HbP
    go_wp2_with fail
    refine Ht.out.mono ?_
    rintro e w1 ⟨x0, x1, x2, rfl, hL1, hb1⟩
    have hbX := blw1 w1 (.cells #[.slice (some ⟨x0, 0, none⟩) a.slots.length a.slots.length, .slice (some ⟨x1, 0, none⟩) a.queue.length a.queue.length, .slice (some ⟨x2, 0, none⟩) a.purple.length a.purple.length] 35)
    have hqX := hb1.trans (hbX.mono hb1.size)
    have HKX := Lib.hid (Blk.new w1 35 #[.slice (some ⟨x0, 0, none⟩) a.slots.length a.slots.length, .slice (some ⟨x1, 0, none⟩) a.queue.length a.queue.length, .slice (some ⟨x2, 0, none⟩) a.purple.length a.purple.length])
    have HKA1 := Lib.hid ((HKAq.out.below hb1 HKAq.out.lt).below hbX (Nat.lt_of_lt_of_le HKAq.out.lt hb1.size))
    have HKV1 := Lib.hid ((HKVq.out.below hb1 HKVq.out.lt).below hbX (Nat.lt_of_lt_of_le HKVq.out.lt hb1.size))
    have HKG := Lib.hid ((hbv.out.below hb1 hbv.out.lt).below hbX (Nat.lt_of_lt_of_le hbv.out.lt hb1.size))
    have hL1' := (hL1.more (L' := w0.heap.size) hbc.out.size (Nat.le_refl _)).below hbX
    have Hb1 := Lib.hid (hbc.out.trans (hqX.mono hbc.out.size))
    have HL1 := Lib.hid hL1'
    have Hs1 := Lib.hid hbX.size
    have Htq := Lib.hid (Htb.out (w1.alloc (.cells #[.slice (some ⟨x0, 0, none⟩) a.slots.length a.slots.length, .slice (some ⟨x1, 0, none⟩) a.queue.length a.queue.length, .slice (some ⟨x2, 0, none⟩) a.purple.length a.purple.length] 35)) Hb1.out)
    clear hL1 hL1' hb1 hbX hqX Ht HKAq HKVq hbv hbc Hbq qA0 qA1 qA2 Hta
    go_wp2_with fail
    refine Htq.out.mono ?_
    rintro e w2 ⟨xb, rfl, hKb, _, _, hb⟩
    have hst := hb
    have HKA0 := Lib.hid (HKA1.out.below hst HKA1.out.lt)
    have HKV0 := Lib.hid (HKV1.out.below hst HKV1.out.lt)
    have HKX := Lib.hid (HKX.out.below hst HKX.out.lt)
    have HKG := Lib.hid (HKG.out.below hst HKG.out.lt)
    have HL1 := Lib.hid (HL1.out.below (hst.mono Hs1.out))
    have Hs1 := Lib.hid (Nat.le_trans Hs1.out hst.size)
    have HN3 := Lib.hid (RB.of_blk hKb hKb.lt)
    have Hs3 := Lib.hid (Nat.le_refl w2.heap.size)
    have Hb2 := Lib.hid (Hb1.out.trans (hst.mono Hb1.out.size))
    have HbP := Lib.hid (Below.refl w2.heap.size w2)
    have HKA9 := HKA0
    have HKV9 := HKV0
    have HKX9 := HKX
    have HL9 := HL1
    have Hs9 := Hs1
    have HN9 := HN3
    clear hst hb hKb Htq HKA1 HKV1 Hb1
    go_upto_region 10 with fail
    go_cut [12, 13] (fun p q wx => ∃ gb : Nat, p = .pointer (some ⟨gb, 0, none⟩) ∧ q = .bool ok ∧ Hid (Below w2.heap.size w2 wx) ∧ Hid (Blk wx gb 30 #[.int .i64 gk, .int .i64 gn, .int .i64 gg]))
    case first =>
      clear HKA9 HKV9 HKX9 HL9 Hs9 HN9 HKG
      have HKA0 := Lib.hid HKA0.out.drew
      have HKV0 := Lib.hid HKV0.out.drew
      have HKX := Lib.hid HKX.out.drew
      have HL1 := Lib.hid (HL1.out.keep (w' := w2.drew) (fun _ _ _ => rfl))
      have HN3 := Lib.hid HN3.out.drew
      have HbP := Lib.hid (show Below w2.heap.size w2 w2.drew from on_d (n := 1) HbP.out)
      refine wp_region_noPanic ?_
      refine wp_region_held_drew (S := (fun W => Blk W w.heap.size 25 #[.slice A0 a.slots.length c0, .slice A1 a.queue.length c1, .slice A2 a.purple.length c2] ∧ Blk W (w.heap.size + 1) 27 #[.int .i64 k, .int .i64 n, .int .i64 g] ∧ Blk W w1.heap.size 35 #[.slice (some ⟨x0, 0, none⟩) a.slots.length a.slots.length, .slice (some ⟨x1, 0, none⟩) a.queue.length a.queue.length, .slice (some ⟨x2, 0, none⟩) a.purple.length a.purple.length])) (by kernel_rfl) ?_ (fun hHeld => ?_)
      · exact ⟨HKA0.out, HKV0.out, HKX.out⟩
      refine wpAnyH_take (i := 0) (oi := _) (v := ?_) rfl (by kernel_rfl) (by kernel_rfl) (by kernel_rfl) (fun _ _ _ h => h) (Or.inl ⟨by rfl, ?_⟩) (by assumption) ?_
      rotate_left
      focus
        intro w hSw
        obtain ⟨qs1, qs2, qs3⟩ := hSw
        obtain ⟨qs10, qs11, qs12⟩ := qs1.four3
        obtain ⟨qs20, qs21, qs22⟩ := qs2.four3
        obtain ⟨qs30, qs31, qs32⟩ := qs3.four3
        go_simp
        try with_reducible rfl
      try simp only [List.getElem_toArray, List.getElem_cons_succ, List.getElem_cons_zero, Act.put, List.setIfInBounds_toArray, List.set_cons_zero, List.set_cons_succ]
      refine wpAnyH_take (i := 1) (oi := _) (v := ?_) rfl (by kernel_rfl) (by kernel_rfl) (by kernel_rfl) (fun _ _ _ h => h) (Or.inl ⟨by rfl, ?_⟩) (by assumption) ?_
      rotate_left
      focus
        intro w hSw
        obtain ⟨qs1, qs2, qs3⟩ := hSw
        obtain ⟨qs10, qs11, qs12⟩ := qs1.four3
        obtain ⟨qs20, qs21, qs22⟩ := qs2.four3
        obtain ⟨qs30, qs31, qs32⟩ := qs3.four3
        go_simp
        try with_reducible rfl
      try simp only [List.getElem_toArray, List.getElem_cons_succ, List.getElem_cons_zero, Act.put, List.setIfInBounds_toArray, List.set_cons_zero, List.set_cons_succ]
      refine wpAnyH_take (i := 3) (oi := _) (v := ?_) rfl (by kernel_rfl) (by kernel_rfl) (by kernel_rfl) (fun _ _ _ h => h) (Or.inl ⟨by rfl, ?_⟩) (by assumption) ?_
      rotate_left
      focus
        intro w hSw
        obtain ⟨qs1, qs2, qs3⟩ := hSw
        obtain ⟨qs10, qs11, qs12⟩ := qs1.four3
        obtain ⟨qs20, qs21, qs22⟩ := qs2.four3
        obtain ⟨qs30, qs31, qs32⟩ := qs3.four3
        go_simp
        try with_reducible rfl
      try simp only [List.getElem_toArray, List.getElem_cons_succ, List.getElem_cons_zero, Act.put, List.setIfInBounds_toArray, List.set_cons_zero, List.set_cons_succ]
      refine wpAnyH_ready (rs := [2, 8]) (by kernel_rfl) (by simp) ?_
      refine AllReadyH.cons (o := _) rfl (fun K hK => ?_) ?_
      · go_simp
        refine Calls.mono (Htv.out w2.drew) ?_
        rintro e w3 ⟨rfl, hb⟩
        have hst := hb
        have HKA0 := Lib.hid (HKA0.out.below hst HKA0.out.lt)
        have HKV0 := Lib.hid (HKV0.out.below hst HKV0.out.lt)
        have HKX := Lib.hid (HKX.out.below hst HKX.out.lt)
        have HL1 := Lib.hid (HL1.out.below (hst.mono Hs1.out))
        have Hs1 := Lib.hid (Nat.le_trans Hs1.out hst.size)
        have HN3 := Lib.hid (HN3.out.below (hst.mono Hs3.out))
        have Hs3 := Lib.hid (Nat.le_trans Hs3.out hst.size)
        have HbP := Lib.hid (HbP.out.trans (hst.mono HbP.out.size))
        clear hst hb
        refine hK.out _ _ ?_ (fun hHeld => ?_)
        · exact ⟨HKA0.out, HKV0.out, HKX.out⟩
        · clear hK K
          try simp only [List.getElem_toArray, List.getElem_cons_succ, List.getElem_cons_zero, Act.put, List.setIfInBounds_toArray, List.set_cons_zero, List.set_cons_succ]
          refine wpAnyH_ready (rs := [4, 8]) (by kernel_rfl) (by simp) ?_
          refine AllReadyH.cons (o := _) rfl (fun K hK => ?_) ?_
          · go_simp
            refine Calls.mono (Himpl.out (some ⟨x0, 0, none⟩) (some ⟨x1, 0, none⟩) (some ⟨x2, 0, none⟩) a.slots.length a.queue.length a.purple.length w0.heap.size w1.heap.size w3 (some ⟨xb, 0, none⟩) b.length w2.heap.size Hs1.out Hs3.out HL1.out Hszz.out HN3.out hbl) ?_
            rintro e w4 ⟨rfl, hb⟩
            have hst := hb
            have HKA0 := Lib.hid (HKA0.out.below hst HKA0.out.lt)
            have HKV0 := Lib.hid (HKV0.out.below hst HKV0.out.lt)
            have HKX := Lib.hid (HKX.out.below hst HKX.out.lt)
            have HL1 := Lib.hid (HL1.out.below (hst.mono Hs1.out))
            have Hs1 := Lib.hid (Nat.le_trans Hs1.out hst.size)
            have HN3 := Lib.hid (HN3.out.below (hst.mono Hs3.out))
            have Hs3 := Lib.hid (Nat.le_trans Hs3.out hst.size)
            have HbP := Lib.hid (HbP.out.trans (hst.mono HbP.out.size))
            clear hst hb
            refine hK.out _ _ ?_ (fun hHeld => ?_)
            · exact ⟨HKA0.out, HKV0.out, HKX.out⟩
            · clear hK K
              try simp only [List.getElem_toArray, List.getElem_cons_succ, List.getElem_cons_zero, Act.put, List.setIfInBounds_toArray, List.set_cons_zero, List.set_cons_succ]
              refine wpAnyH_take (i := 5) (oi := _) (v := ?_) rfl (by kernel_rfl) (by kernel_rfl) (by kernel_rfl) (fun _ _ _ h => h) (Or.inl ⟨by rfl, ?_⟩) (by assumption) ?_
              rotate_left
              focus
                intro w hSw
                obtain ⟨qs1, qs2, qs3⟩ := hSw
                obtain ⟨qs10, qs11, qs12⟩ := qs1.four3
                obtain ⟨qs20, qs21, qs22⟩ := qs2.four3
                obtain ⟨qs30, qs31, qs32⟩ := qs3.four3
                go_simp
                try with_reducible rfl
              try simp only [List.getElem_toArray, List.getElem_cons_succ, List.getElem_cons_zero, Act.put, List.setIfInBounds_toArray, List.set_cons_zero, List.set_cons_succ]
              refine wpAnyH_take (i := 6) (oi := _) (v := ?_) rfl (by kernel_rfl) (by kernel_rfl) (by kernel_rfl) (fun _ _ _ h => h) (Or.inl ⟨by rfl, ?_⟩) (by assumption) ?_
              rotate_left
              focus
                intro w hSw
                obtain ⟨qs1, qs2, qs3⟩ := hSw
                obtain ⟨qs10, qs11, qs12⟩ := qs1.four3
                obtain ⟨qs20, qs21, qs22⟩ := qs2.four3
                obtain ⟨qs30, qs31, qs32⟩ := qs3.four3
                go_simp
                try with_reducible rfl
              try simp only [List.getElem_toArray, List.getElem_cons_succ, List.getElem_cons_zero, Act.put, List.setIfInBounds_toArray, List.set_cons_zero, List.set_cons_succ]
              refine wpAnyH_take (i := 7) (oi := _) (v := ?_) rfl (by kernel_rfl) (by kernel_rfl) (by kernel_rfl) (fun _ _ _ h => h) (Or.inl ⟨by rfl, ?_⟩) (by assumption) ?_
              rotate_left
              focus
                intro w hSw
                obtain ⟨qs1, qs2, qs3⟩ := hSw
                obtain ⟨qs10, qs11, qs12⟩ := qs1.four3
                obtain ⟨qs20, qs21, qs22⟩ := qs2.four3
                obtain ⟨qs30, qs31, qs32⟩ := qs3.four3
                go_simp
                try with_reducible rfl
              try simp only [List.getElem_toArray, List.getElem_cons_succ, List.getElem_cons_zero, Act.put, List.setIfInBounds_toArray, List.set_cons_zero, List.set_cons_succ]
              refine wpAnyH_ready (rs := [8]) (by kernel_rfl) (by simp) ?_
              refine AllReadyH.cons (o := _) rfl (fun K hK => ?_) ?_
              · go_simp
                have hst := blw1 w4 (.cells #[.int .i64 0, .int .i64 0, .int .i64 0] 30)
                have hbox0 : Hid (Blk (w4.alloc (.cells #[.int .i64 0, .int .i64 0, .int .i64 0] 30)) (w4.heap.size) 30 #[.int .i64 0, .int .i64 0, .int .i64 0]) := Lib.hid (by have := Blk.new w4 30 #[.int .i64 0, .int .i64 0, .int .i64 0]; first | exact this | (rwa [World.size_alloc] at this))
                have hge0 : Hid (w2.heap.size ≤ w4.heap.size) := Lib.hid (by have := HbP.out.size; first | exact this | (rwa [World.size_alloc] at this))
                have HKA0p0 := HKA0
                have HKV0p0 := HKV0
                have HKXp0 := HKX
                have HbPp0 := HbP
                have HKA0 := Lib.hid (HKA0.out.below hst HKA0.out.lt)
                have HKV0 := Lib.hid (HKV0.out.below hst HKV0.out.lt)
                have HKX := Lib.hid (HKX.out.below hst HKX.out.lt)
                have HL1 := Lib.hid (HL1.out.below (hst.mono Hs1.out))
                have Hs1 := Lib.hid (Nat.le_trans Hs1.out hst.size)
                have HN3 := Lib.hid (HN3.out.below (hst.mono Hs3.out))
                have Hs3 := Lib.hid (Nat.le_trans Hs3.out hst.size)
                have HbP := Lib.hid (HbP.out.trans (hst.mono HbP.out.size))
                clear hst
                refine hK.out _ _ ?_ (fun hHeld => ?_)
                · exact ⟨HKA0.out, HKV0.out, HKX.out⟩
                · clear hK K
                  try simp only [List.getElem_toArray, List.getElem_cons_succ, List.getElem_cons_zero, Act.put, List.setIfInBounds_toArray, List.set_cons_zero, List.set_cons_succ]
                  refine wpAnyH_ready (rs := [9]) (by kernel_rfl) (by simp) ?_
                  refine AllReadyH.cons (o := _) rfl (fun K hK => ?_) ?_
                  · have z00 := hbox0.out.cel 0 rfl
                    have y00 := hbox0.out.frozen 0
                    have z01 := hbox0.out.cel 1 rfl
                    have y01 := hbox0.out.frozen 1
                    have z02 := hbox0.out.cel 2 rfl
                    have y02 := hbox0.out.frozen 2
                    go_simp
                    have HKA0 := Lib.hid (HKA0p0.out.alloc (.cells #[.int .i64 gk, .int .i64 gn, .int .i64 gg] 30))
                    have HKV0 := Lib.hid (HKV0p0.out.alloc (.cells #[.int .i64 gk, .int .i64 gn, .int .i64 gg] 30))
                    have HKX := Lib.hid (HKXp0.out.alloc (.cells #[.int .i64 gk, .int .i64 gn, .int .i64 gg] 30))
                    have HbP := Lib.hid (HbPp0.out.alloc HbPp0.out.size (.cells #[.int .i64 gk, .int .i64 gn, .int .i64 gg] 30))
                    have hbox0 : Hid (Blk (w4.alloc (.cells #[.int .i64 gk, .int .i64 gn, .int .i64 gg] 30)) (w4.heap.size) 30 #[.int .i64 gk, .int .i64 gn, .int .i64 gg]) := Lib.hid (by have := Blk.new w4 30 #[.int .i64 gk, .int .i64 gn, .int .i64 gg]; first | exact this | (rwa [World.size_alloc] at this))
                    refine hK.out _ _ ?_ (fun hHeld => ?_)
                    · exact ⟨HKA0.out, HKV0.out, HKX.out⟩
                    · clear hK K
                      try simp only [List.getElem_toArray, List.getElem_cons_succ, List.getElem_cons_zero, Act.put, List.setIfInBounds_toArray, List.set_cons_zero, List.set_cons_succ]
                      refine wpAnyH_take (i := 10) (oi := _) (v := ?_) rfl (by kernel_rfl) (by kernel_rfl) (by kernel_rfl) (fun _ _ _ h => h) (Or.inl ⟨by rfl, ?_⟩) (by assumption) ?_
                      rotate_left
                      focus
                        intro w hSw
                        obtain ⟨qs1, qs2, qs3⟩ := hSw
                        obtain ⟨qs10, qs11, qs12⟩ := qs1.four3
                        obtain ⟨qs20, qs21, qs22⟩ := qs2.four3
                        obtain ⟨qs30, qs31, qs32⟩ := qs3.four3
                        go_simp
                        try with_reducible rfl
                      try simp only [List.getElem_toArray, List.getElem_cons_succ, List.getElem_cons_zero, Act.put, List.setIfInBounds_toArray, List.set_cons_zero, List.set_cons_succ]
                      refine wpAnyH_done (by kernel_rfl) ?_ _
                      refine NoPanic.normal ?_
                      try go_wp2_with fail
                      go_meet
                      case rel => exact ⟨_, rfl, rfl, HbP, hbox0⟩
                  exact AllReadyH.nil
              exact AllReadyH.nil
          refine AllReadyH.cons (o := _) rfl (fun K hK => ?_) ?_
          · go_simp
            have hst := blw1 w3 (.cells #[.int .i64 0, .int .i64 0, .int .i64 0] 30)
            have hbox0 : Hid (Blk (w3.alloc (.cells #[.int .i64 0, .int .i64 0, .int .i64 0] 30)) (w3.heap.size) 30 #[.int .i64 0, .int .i64 0, .int .i64 0]) := Lib.hid (by have := Blk.new w3 30 #[.int .i64 0, .int .i64 0, .int .i64 0]; first | exact this | (rwa [World.size_alloc] at this))
            have hge0 : Hid (w2.heap.size ≤ w3.heap.size) := Lib.hid (by have := HbP.out.size; first | exact this | (rwa [World.size_alloc] at this))
            have HKA0p0 := HKA0
            have HKV0p0 := HKV0
            have HKXp0 := HKX
            have HbPp0 := HbP
            have HKA0 := Lib.hid (HKA0.out.below hst HKA0.out.lt)
            have HKV0 := Lib.hid (HKV0.out.below hst HKV0.out.lt)
            have HKX := Lib.hid (HKX.out.below hst HKX.out.lt)
            have HL1 := Lib.hid (HL1.out.below (hst.mono Hs1.out))
            have Hs1 := Lib.hid (Nat.le_trans Hs1.out hst.size)
            have HN3 := Lib.hid (HN3.out.below (hst.mono Hs3.out))
            have Hs3 := Lib.hid (Nat.le_trans Hs3.out hst.size)
            have HbP := Lib.hid (HbP.out.trans (hst.mono HbP.out.size))
            clear hst
            refine hK.out _ _ ?_ (fun hHeld => ?_)
            · exact ⟨HKA0.out, HKV0.out, HKX.out⟩
            · clear hK K
              try simp only [List.getElem_toArray, List.getElem_cons_succ, List.getElem_cons_zero, Act.put, List.setIfInBounds_toArray, List.set_cons_zero, List.set_cons_succ]
              refine wpAnyH_ready (rs := [4]) (by kernel_rfl) (by simp) ?_
              refine AllReadyH.cons (o := _) rfl (fun K hK => ?_) ?_
              · go_simp
                refine Calls.mono (Himpl.out (some ⟨x0, 0, none⟩) (some ⟨x1, 0, none⟩) (some ⟨x2, 0, none⟩) a.slots.length a.queue.length a.purple.length w0.heap.size w1.heap.size (w3.alloc (.cells #[.int .i64 0, .int .i64 0, .int .i64 0] 30)) (some ⟨xb, 0, none⟩) b.length w2.heap.size Hs1.out Hs3.out HL1.out Hszz.out HN3.out hbl) ?_
                rintro e w4 ⟨rfl, hb⟩
                have hst := hb
                have HKA0 := Lib.hid (HKA0.out.below hst HKA0.out.lt)
                have HKV0 := Lib.hid (HKV0.out.below hst HKV0.out.lt)
                have HKX := Lib.hid (HKX.out.below hst HKX.out.lt)
                have HL1 := Lib.hid (HL1.out.below (hst.mono Hs1.out))
                have Hs1 := Lib.hid (Nat.le_trans Hs1.out hst.size)
                have HN3 := Lib.hid (HN3.out.below (hst.mono Hs3.out))
                have Hs3 := Lib.hid (Nat.le_trans Hs3.out hst.size)
                have HbP := Lib.hid (HbP.out.trans (hst.mono HbP.out.size))
                have hbox0 := Lib.hid (hbox0.out.below hst hbox0.out.lt)
                clear hst hb
                refine hK.out _ _ ?_ (fun hHeld => ?_)
                · exact ⟨HKA0.out, HKV0.out, HKX.out⟩
                · clear hK K
                  try simp only [List.getElem_toArray, List.getElem_cons_succ, List.getElem_cons_zero, Act.put, List.setIfInBounds_toArray, List.set_cons_zero, List.set_cons_succ]
                  refine wpAnyH_take (i := 5) (oi := _) (v := ?_) rfl (by kernel_rfl) (by kernel_rfl) (by kernel_rfl) (fun _ _ _ h => h) (Or.inl ⟨by rfl, ?_⟩) (by assumption) ?_
                  rotate_left
                  focus
                    intro w hSw
                    obtain ⟨qs1, qs2, qs3⟩ := hSw
                    obtain ⟨qs10, qs11, qs12⟩ := qs1.four3
                    obtain ⟨qs20, qs21, qs22⟩ := qs2.four3
                    obtain ⟨qs30, qs31, qs32⟩ := qs3.four3
                    go_simp
                    try with_reducible rfl
                  try simp only [List.getElem_toArray, List.getElem_cons_succ, List.getElem_cons_zero, Act.put, List.setIfInBounds_toArray, List.set_cons_zero, List.set_cons_succ]
                  refine wpAnyH_take (i := 6) (oi := _) (v := ?_) rfl (by kernel_rfl) (by kernel_rfl) (by kernel_rfl) (fun _ _ _ h => h) (Or.inl ⟨by rfl, ?_⟩) (by assumption) ?_
                  rotate_left
                  focus
                    intro w hSw
                    obtain ⟨qs1, qs2, qs3⟩ := hSw
                    obtain ⟨qs10, qs11, qs12⟩ := qs1.four3
                    obtain ⟨qs20, qs21, qs22⟩ := qs2.four3
                    obtain ⟨qs30, qs31, qs32⟩ := qs3.four3
                    go_simp
                    try with_reducible rfl
                  try simp only [List.getElem_toArray, List.getElem_cons_succ, List.getElem_cons_zero, Act.put, List.setIfInBounds_toArray, List.set_cons_zero, List.set_cons_succ]
                  refine wpAnyH_take (i := 7) (oi := _) (v := ?_) rfl (by kernel_rfl) (by kernel_rfl) (by kernel_rfl) (fun _ _ _ h => h) (Or.inl ⟨by rfl, ?_⟩) (by assumption) ?_
                  rotate_left
                  focus
                    intro w hSw
                    obtain ⟨qs1, qs2, qs3⟩ := hSw
                    obtain ⟨qs10, qs11, qs12⟩ := qs1.four3
                    obtain ⟨qs20, qs21, qs22⟩ := qs2.four3
                    obtain ⟨qs30, qs31, qs32⟩ := qs3.four3
                    go_simp
                    try with_reducible rfl
                  try simp only [List.getElem_toArray, List.getElem_cons_succ, List.getElem_cons_zero, Act.put, List.setIfInBounds_toArray, List.set_cons_zero, List.set_cons_succ]
                  refine wpAnyH_ready (rs := [9]) (by kernel_rfl) (by simp) ?_
                  refine AllReadyH.cons (o := _) rfl (fun K hK => ?_) ?_
                  · have z00 := hbox0.out.cel 0 rfl
                    have y00 := hbox0.out.frozen 0
                    have z01 := hbox0.out.cel 1 rfl
                    have y01 := hbox0.out.frozen 1
                    have z02 := hbox0.out.cel 2 rfl
                    have y02 := hbox0.out.frozen 2
                    go_simp
                    have HKA0 := Lib.hid (((HKA0.out.far (p := ⟨w3.heap.size, 0, none⟩) (Blk.ne_ HKA0.out hbox0.out (by decide)) (.int .i64 gk)).far (p := ⟨w3.heap.size, 1, none⟩) (Blk.ne_ HKA0.out hbox0.out (by decide)) (.int .i64 gn)).far (p := ⟨w3.heap.size, 2, none⟩) (Blk.ne_ HKA0.out hbox0.out (by decide)) (.int .i64 gg))
                    have HKV0 := Lib.hid (((HKV0.out.far (p := ⟨w3.heap.size, 0, none⟩) (Blk.ne_ HKV0.out hbox0.out (by decide)) (.int .i64 gk)).far (p := ⟨w3.heap.size, 1, none⟩) (Blk.ne_ HKV0.out hbox0.out (by decide)) (.int .i64 gn)).far (p := ⟨w3.heap.size, 2, none⟩) (Blk.ne_ HKV0.out hbox0.out (by decide)) (.int .i64 gg))
                    have HKX := Lib.hid (((HKX.out.far (p := ⟨w3.heap.size, 0, none⟩) (Blk.ne_ HKX.out hbox0.out (by decide)) (.int .i64 gk)).far (p := ⟨w3.heap.size, 1, none⟩) (Blk.ne_ HKX.out hbox0.out (by decide)) (.int .i64 gn)).far (p := ⟨w3.heap.size, 2, none⟩) (Blk.ne_ HKX.out hbox0.out (by decide)) (.int .i64 gg))
                    have HbP := Lib.hid (((HbP.out.setCell (p := ⟨w3.heap.size, 0, none⟩) hge0.out (.int .i64 gk)).setCell (p := ⟨w3.heap.size, 1, none⟩) hge0.out (.int .i64 gn)).setCell (p := ⟨w3.heap.size, 2, none⟩) hge0.out (.int .i64 gg))
                    have hbox0 := Lib.hid (((hbox0.out.set_ 0 (.int .i64 gk)).set_ 1 (.int .i64 gn)).set_ 2 (.int .i64 gg))
                    refine hK.out _ _ ?_ (fun hHeld => ?_)
                    · exact ⟨HKA0.out, HKV0.out, HKX.out⟩
                    · clear hK K
                      try simp only [List.getElem_toArray, List.getElem_cons_succ, List.getElem_cons_zero, Act.put, List.setIfInBounds_toArray, List.set_cons_zero, List.set_cons_succ]
                      refine wpAnyH_take (i := 10) (oi := _) (v := ?_) rfl (by kernel_rfl) (by kernel_rfl) (by kernel_rfl) (fun _ _ _ h => h) (Or.inl ⟨by rfl, ?_⟩) (by assumption) ?_
                      rotate_left
                      focus
                        intro w hSw
                        obtain ⟨qs1, qs2, qs3⟩ := hSw
                        obtain ⟨qs10, qs11, qs12⟩ := qs1.four3
                        obtain ⟨qs20, qs21, qs22⟩ := qs2.four3
                        obtain ⟨qs30, qs31, qs32⟩ := qs3.four3
                        go_simp
                        try with_reducible rfl
                      try simp only [List.getElem_toArray, List.getElem_cons_succ, List.getElem_cons_zero, Act.put, List.setIfInBounds_toArray, List.set_cons_zero, List.set_cons_succ]
                      refine wpAnyH_done (by kernel_rfl) ?_ _
                      refine NoPanic.normal ?_
                      try go_wp2_with fail
                      go_meet
                      case rel => exact ⟨_, rfl, rfl, HbP, hbox0⟩
                  exact AllReadyH.nil
              exact AllReadyH.nil
          exact AllReadyH.nil
      refine AllReadyH.cons (o := _) rfl (fun K hK => ?_) ?_
      · go_simp
        have hst := blw1 w2.drew (.cells #[.int .i64 0, .int .i64 0, .int .i64 0] 30)
        have hbox0 : Hid (Blk (w2.drew.alloc (.cells #[.int .i64 0, .int .i64 0, .int .i64 0] 30)) (w2.heap.size) 30 #[.int .i64 0, .int .i64 0, .int .i64 0]) := Lib.hid (by have := Blk.new w2.drew 30 #[.int .i64 0, .int .i64 0, .int .i64 0]; first | exact this | (rwa [World.size_alloc] at this))
        have hge0 : Hid (w2.heap.size ≤ w2.heap.size) := Lib.hid (by have := HbP.out.size; first | exact this | (rwa [World.size_alloc] at this))
        have HKA0p0 := HKA0
        have HKV0p0 := HKV0
        have HKXp0 := HKX
        have HbPp0 := HbP
        have HKA0 := Lib.hid (HKA0.out.below hst HKA0.out.lt)
        have HKV0 := Lib.hid (HKV0.out.below hst HKV0.out.lt)
        have HKX := Lib.hid (HKX.out.below hst HKX.out.lt)
        have HL1 := Lib.hid (HL1.out.below (hst.mono Hs1.out))
        have Hs1 := Lib.hid (Nat.le_trans Hs1.out hst.size)
        have HN3 := Lib.hid (HN3.out.below (hst.mono Hs3.out))
        have Hs3 := Lib.hid (Nat.le_trans Hs3.out hst.size)
        have HbP := Lib.hid (HbP.out.trans (hst.mono HbP.out.size))
        clear hst
        refine hK.out _ _ ?_ (fun hHeld => ?_)
        · exact ⟨HKA0.out, HKV0.out, HKX.out⟩
        · clear hK K
          try simp only [List.getElem_toArray, List.getElem_cons_succ, List.getElem_cons_zero, Act.put, List.setIfInBounds_toArray, List.set_cons_zero, List.set_cons_succ]
          refine wpAnyH_ready (rs := [2]) (by kernel_rfl) (by simp) ?_
          refine AllReadyH.cons (o := _) rfl (fun K hK => ?_) ?_
          · go_simp
            refine Calls.mono (Htv.out (w2.drew.alloc (.cells #[.int .i64 0, .int .i64 0, .int .i64 0] 30))) ?_
            rintro e w3 ⟨rfl, hb⟩
            have hst := hb
            have HKA0 := Lib.hid (HKA0.out.below hst HKA0.out.lt)
            have HKV0 := Lib.hid (HKV0.out.below hst HKV0.out.lt)
            have HKX := Lib.hid (HKX.out.below hst HKX.out.lt)
            have HL1 := Lib.hid (HL1.out.below (hst.mono Hs1.out))
            have Hs1 := Lib.hid (Nat.le_trans Hs1.out hst.size)
            have HN3 := Lib.hid (HN3.out.below (hst.mono Hs3.out))
            have Hs3 := Lib.hid (Nat.le_trans Hs3.out hst.size)
            have HbP := Lib.hid (HbP.out.trans (hst.mono HbP.out.size))
            have hbox0 := Lib.hid (hbox0.out.below hst hbox0.out.lt)
            clear hst hb
            refine hK.out _ _ ?_ (fun hHeld => ?_)
            · exact ⟨HKA0.out, HKV0.out, HKX.out⟩
            · clear hK K
              try simp only [List.getElem_toArray, List.getElem_cons_succ, List.getElem_cons_zero, Act.put, List.setIfInBounds_toArray, List.set_cons_zero, List.set_cons_succ]
              refine wpAnyH_ready (rs := [4]) (by kernel_rfl) (by simp) ?_
              refine AllReadyH.cons (o := _) rfl (fun K hK => ?_) ?_
              · go_simp
                refine Calls.mono (Himpl.out (some ⟨x0, 0, none⟩) (some ⟨x1, 0, none⟩) (some ⟨x2, 0, none⟩) a.slots.length a.queue.length a.purple.length w0.heap.size w1.heap.size w3 (some ⟨xb, 0, none⟩) b.length w2.heap.size Hs1.out Hs3.out HL1.out Hszz.out HN3.out hbl) ?_
                rintro e w4 ⟨rfl, hb⟩
                have hst := hb
                have HKA0 := Lib.hid (HKA0.out.below hst HKA0.out.lt)
                have HKV0 := Lib.hid (HKV0.out.below hst HKV0.out.lt)
                have HKX := Lib.hid (HKX.out.below hst HKX.out.lt)
                have HL1 := Lib.hid (HL1.out.below (hst.mono Hs1.out))
                have Hs1 := Lib.hid (Nat.le_trans Hs1.out hst.size)
                have HN3 := Lib.hid (HN3.out.below (hst.mono Hs3.out))
                have Hs3 := Lib.hid (Nat.le_trans Hs3.out hst.size)
                have HbP := Lib.hid (HbP.out.trans (hst.mono HbP.out.size))
                have hbox0 := Lib.hid (hbox0.out.below hst hbox0.out.lt)
                clear hst hb
                refine hK.out _ _ ?_ (fun hHeld => ?_)
                · exact ⟨HKA0.out, HKV0.out, HKX.out⟩
                · clear hK K
                  try simp only [List.getElem_toArray, List.getElem_cons_succ, List.getElem_cons_zero, Act.put, List.setIfInBounds_toArray, List.set_cons_zero, List.set_cons_succ]
                  refine wpAnyH_take (i := 5) (oi := _) (v := ?_) rfl (by kernel_rfl) (by kernel_rfl) (by kernel_rfl) (fun _ _ _ h => h) (Or.inl ⟨by rfl, ?_⟩) (by assumption) ?_
                  rotate_left
                  focus
                    intro w hSw
                    obtain ⟨qs1, qs2, qs3⟩ := hSw
                    obtain ⟨qs10, qs11, qs12⟩ := qs1.four3
                    obtain ⟨qs20, qs21, qs22⟩ := qs2.four3
                    obtain ⟨qs30, qs31, qs32⟩ := qs3.four3
                    go_simp
                    try with_reducible rfl
                  try simp only [List.getElem_toArray, List.getElem_cons_succ, List.getElem_cons_zero, Act.put, List.setIfInBounds_toArray, List.set_cons_zero, List.set_cons_succ]
                  refine wpAnyH_take (i := 6) (oi := _) (v := ?_) rfl (by kernel_rfl) (by kernel_rfl) (by kernel_rfl) (fun _ _ _ h => h) (Or.inl ⟨by rfl, ?_⟩) (by assumption) ?_
                  rotate_left
                  focus
                    intro w hSw
                    obtain ⟨qs1, qs2, qs3⟩ := hSw
                    obtain ⟨qs10, qs11, qs12⟩ := qs1.four3
                    obtain ⟨qs20, qs21, qs22⟩ := qs2.four3
                    obtain ⟨qs30, qs31, qs32⟩ := qs3.four3
                    go_simp
                    try with_reducible rfl
                  try simp only [List.getElem_toArray, List.getElem_cons_succ, List.getElem_cons_zero, Act.put, List.setIfInBounds_toArray, List.set_cons_zero, List.set_cons_succ]
                  refine wpAnyH_take (i := 7) (oi := _) (v := ?_) rfl (by kernel_rfl) (by kernel_rfl) (by kernel_rfl) (fun _ _ _ h => h) (Or.inl ⟨by rfl, ?_⟩) (by assumption) ?_
                  rotate_left
                  focus
                    intro w hSw
                    obtain ⟨qs1, qs2, qs3⟩ := hSw
                    obtain ⟨qs10, qs11, qs12⟩ := qs1.four3
                    obtain ⟨qs20, qs21, qs22⟩ := qs2.four3
                    obtain ⟨qs30, qs31, qs32⟩ := qs3.four3
                    go_simp
                    try with_reducible rfl
                  try simp only [List.getElem_toArray, List.getElem_cons_succ, List.getElem_cons_zero, Act.put, List.setIfInBounds_toArray, List.set_cons_zero, List.set_cons_succ]
                  refine wpAnyH_ready (rs := [9]) (by kernel_rfl) (by simp) ?_
                  refine AllReadyH.cons (o := _) rfl (fun K hK => ?_) ?_
                  · have z00 := hbox0.out.cel 0 rfl
                    have y00 := hbox0.out.frozen 0
                    have z01 := hbox0.out.cel 1 rfl
                    have y01 := hbox0.out.frozen 1
                    have z02 := hbox0.out.cel 2 rfl
                    have y02 := hbox0.out.frozen 2
                    go_simp
                    have HKA0 := Lib.hid (((HKA0.out.far (p := ⟨w2.heap.size, 0, none⟩) (Blk.ne_ HKA0.out hbox0.out (by decide)) (.int .i64 gk)).far (p := ⟨w2.heap.size, 1, none⟩) (Blk.ne_ HKA0.out hbox0.out (by decide)) (.int .i64 gn)).far (p := ⟨w2.heap.size, 2, none⟩) (Blk.ne_ HKA0.out hbox0.out (by decide)) (.int .i64 gg))
                    have HKV0 := Lib.hid (((HKV0.out.far (p := ⟨w2.heap.size, 0, none⟩) (Blk.ne_ HKV0.out hbox0.out (by decide)) (.int .i64 gk)).far (p := ⟨w2.heap.size, 1, none⟩) (Blk.ne_ HKV0.out hbox0.out (by decide)) (.int .i64 gn)).far (p := ⟨w2.heap.size, 2, none⟩) (Blk.ne_ HKV0.out hbox0.out (by decide)) (.int .i64 gg))
                    have HKX := Lib.hid (((HKX.out.far (p := ⟨w2.heap.size, 0, none⟩) (Blk.ne_ HKX.out hbox0.out (by decide)) (.int .i64 gk)).far (p := ⟨w2.heap.size, 1, none⟩) (Blk.ne_ HKX.out hbox0.out (by decide)) (.int .i64 gn)).far (p := ⟨w2.heap.size, 2, none⟩) (Blk.ne_ HKX.out hbox0.out (by decide)) (.int .i64 gg))
                    have HbP := Lib.hid (((HbP.out.setCell (p := ⟨w2.heap.size, 0, none⟩) hge0.out (.int .i64 gk)).setCell (p := ⟨w2.heap.size, 1, none⟩) hge0.out (.int .i64 gn)).setCell (p := ⟨w2.heap.size, 2, none⟩) hge0.out (.int .i64 gg))
                    have hbox0 := Lib.hid (((hbox0.out.set_ 0 (.int .i64 gk)).set_ 1 (.int .i64 gn)).set_ 2 (.int .i64 gg))
                    refine hK.out _ _ ?_ (fun hHeld => ?_)
                    · exact ⟨HKA0.out, HKV0.out, HKX.out⟩
                    · clear hK K
                      try simp only [List.getElem_toArray, List.getElem_cons_succ, List.getElem_cons_zero, Act.put, List.setIfInBounds_toArray, List.set_cons_zero, List.set_cons_succ]
                      refine wpAnyH_take (i := 10) (oi := _) (v := ?_) rfl (by kernel_rfl) (by kernel_rfl) (by kernel_rfl) (fun _ _ _ h => h) (Or.inl ⟨by rfl, ?_⟩) (by assumption) ?_
                      rotate_left
                      focus
                        intro w hSw
                        obtain ⟨qs1, qs2, qs3⟩ := hSw
                        obtain ⟨qs10, qs11, qs12⟩ := qs1.four3
                        obtain ⟨qs20, qs21, qs22⟩ := qs2.four3
                        obtain ⟨qs30, qs31, qs32⟩ := qs3.four3
                        go_simp
                        try with_reducible rfl
                      try simp only [List.getElem_toArray, List.getElem_cons_succ, List.getElem_cons_zero, Act.put, List.setIfInBounds_toArray, List.set_cons_zero, List.set_cons_succ]
                      refine wpAnyH_done (by kernel_rfl) ?_ _
                      refine NoPanic.normal ?_
                      try go_wp2_with fail
                      go_meet
                      case rel => exact ⟨_, rfl, rfl, HbP, hbox0⟩
                  exact AllReadyH.nil
              exact AllReadyH.nil
          exact AllReadyH.nil
      exact AllReadyH.nil
    case rest =>
      obtain ⟨gi, rfl, rfl, hbc, hbv⟩ := hcut
      obtain ⟨wq, hwq⟩ : ∃ x, x = wc := ⟨_, rfl⟩
      subst hwq
      have KG := HKG.out.below hbc.out HKG.out.lt
      obtain ⟨g0, g1, g2⟩ := KG.four3
      obtain ⟨i0, i1, i2⟩ := hbv.out.four3
      have HKA := Lib.hid (HKA9.out.below hbc.out HKA9.out.lt)
      have HKX := Lib.hid (HKX9.out.below hbc.out HKX9.out.lt)
      have HL := Lib.hid (HL9.out.below (hbc.out.mono Hs9.out))
      have Hsl := Lib.hid (Nat.le_trans Hs9.out hbc.out.size)
      have HNq := Lib.hid (HN9.out.below hbc.out)
      have Hs2q := Lib.hid hbc.out.size
      have Hbq := Lib.hid (Hb2.out.trans (hbc.out.mono Hb2.out.size))
      clear KG HKG hbv hbc HKA9 HKV9 HKX9 HL9 Hs9 HN9 HKA0 HKV0 HL1 Hs1 HN3 Hs3 HbP Hb2
      have Hev := Lib.hid (eqVal_c gk gn gg wq)
      go_wp2_with fail
      refine Hev.out.mono ?_
      rintro e w5 ⟨rfl, hb⟩
      have HKA5 := Lib.hid (HKA.out.below hb HKA.out.lt)
      have HKX5 := Lib.hid (HKX.out.below hb HKX.out.lt)
      have HL5 := Lib.hid (HL.out.below (hb.mono Hsl.out))
      have Hs5 := Lib.hid (Nat.le_trans Hsl.out hb.size)
      have HN5 := Lib.hid (HNq.out.below (hb.mono Hs2q.out))
      have Hs25 := Lib.hid (Nat.le_trans Hs2q.out hb.size)
      have Hb5 := Lib.hid (Hbq.out.trans (hb.mono Hbq.out.size))
      have H05 := Lib.hid (Hb0.out.trans (Hb5.out.mono Hb0.out.size))
      have Ht := Lib.hid (fun m => toArena_c a A0 A1 A2 c0 c1 c2 0 w.heap.size (w5.drewN m) H05.out.size Hszz.out ((HR.out.below H05.out).keep (w' := w5.drewN m) fun _ _ _ => rfl))
      obtain ⟨qA0, qA1, qA2⟩ := HKA5.out.four3
      obtain ⟨qX0, qX1, qX2⟩ := HKX5.out.four3
      have hne : (ok != ok) = false := by cases ok <;> rfl
      clear hb g0 g1 g2 i0 i1 i2 HKA HKX HL Hsl HNq Hs2q Hbq Hev
      go_upto_region 13 with fail
      go_cut [57] (fun b wx => b = .bool false ∧ Hid (Below w5.heap.size w5 wx))
      case first =>
        go_region_with (first
          | (go_at_call 12; refine (Ht.out 1).mono ?_; rintro e w6 ⟨y0, y1, y2, rfl, hL6, hb6⟩; have hb56 : Below w5.heap.size w5 w6 := ⟨hb6.os, hb6.tape, hb6.output, hb6.size, hb6.block⟩; obtain ⟨qY0, qY1, qY2⟩ := (HKX5.out.below hb56 HKX5.out.lt).four3; have Heq := Lib.hid (eqArena_c a (some ⟨x0, 0, none⟩) (some ⟨x1, 0, none⟩) (some ⟨x2, 0, none⟩) (some ⟨y0, 0, none⟩) (some ⟨y1, 0, none⟩) (some ⟨y2, 0, none⟩) a.slots.length a.queue.length a.purple.length a.slots.length a.queue.length a.purple.length _ w1.heap.size _ w6.heap.size w6 (Nat.le_trans Hs5.out hb56.size) (Nat.le_refl _) Hszz.out (HL5.out.below (hb56.mono Hs5.out)) hL6); have Hb56 := Lib.hid hb56; clear hL6 hb6 hb56 Ht)
          | (go_at_call 17; refine Heq.out.mono ?_; rintro e w7 ⟨rfl, hb7⟩))
        all_goals
          try go_wp2_with fail
          go_meet
          case rel => exact ⟨by simp, Lib.hid (Hb56.out.trans (hb7.mono Hb56.out.size))⟩
      case rest =>
        obtain ⟨rfl, hb57⟩ := hcut
        obtain ⟨w7, hw7⟩ : ∃ x, x = wc := ⟨_, rfl⟩
        subst hw7
        have h07 := Hb5.out.trans (hb57.out.mono Hb5.out.size)
        have Htq := Lib.hid (Htb.out w7 h07)
        have HN7 := Lib.hid (HN5.out.below (hb57.out.mono Hs25.out))
        have Hs27 := Lib.hid (Nat.le_trans Hs25.out hb57.out.size)
        have H07 := Lib.hid (H05.out.trans (hb57.out.mono H05.out.size))
        clear hb57 h07 Ht qA0 qA1 qA2 qX0 qX1 qX2 HKA5 HKX5 HL5 Hs5 HN5 Hs25 Hb5 H05
        go_wp2_with fail
        refine Htq.out.mono ?_
        rintro e w8 ⟨yb, rfl, hKy, _, _, hb8⟩
        have Heb := Lib.hid (eqByteS_c b (some ⟨xb, 0, none⟩) (some ⟨yb, 0, none⟩) b.length b.length w2.heap.size w8.heap.size w8 (by omega) (HN7.out.below (hb8.mono Hs27.out)) (RB.of_blk hKy hKy.lt))
        have H08 := Lib.hid (H07.out.trans (hb8.mono H07.out.size))
        clear hKy hb8 Htq HN7 Hs27 H07
        go_wp2_with fail
        refine Heb.out.mono ?_
        rintro e w9 ⟨rfl, n9, rfl⟩
        go_wp2
        go_ret
        exact ⟨rfl, blw_drewN H08.out n9⟩
set_option maxRecDepth 100000 in
theorem lifted (os : Os) (started : os.Started) (H : Type) (enc : TypeId × Value → H) :
    ReturnsInHanded {} Try.checked os 3 .any (Rows.fnExactGetFieldSpec.pre6 enc Try.prog Try.f3 Rows.fnExactGetFieldRow.domain false) (Rows.fnExactGetFieldSpec.post enc Try.prog Try.f3 false true false false) := by
  refine returnsInHanded_of_change (C := Try.checked) (s := Rows.fnExactGetFieldSpec) own started (by kernel_rfl) Try.func3
    (ChangeSpec.witness6 (enc := enc) (C := Try.checked) (s := Rows.fnExactGetFieldSpec) false ⟨#[], #[.agg #[.slice none 0 0, .slice none 0 0, .slice none 0 0], .agg #[.int .i64 0, .int .i64 0, .int .i64 0], .slice none 0 0], []⟩ 8 (by kernel_rfl) (by kernel_rfl) (by kernel_rfl) (by kernel_rfl)) ?_
  intro W base args ds gs before hval hW _ _
  have hW' := hW
  obtain ⟨p, q, hA0, hV, rfl, hfz, hnd⟩ := hW
  have hA : DataW.TrodAll enc Try.prog W 0 (fun _ => true) true Try.f3.params.toList args.toList ds p := hA0
  replace hval : ∀ (j : Nat) t v, Try.f3.params[j]? = some t → args[j]? = some v → Value.okWide Try.prog W .any base t v := hval
  rw [Try.params3] at hA hval
  obtain ⟨v0, vs0, d0, ds0, p0, q0, hargs0, rfl, rfl, h0, r0⟩ := trodAll_cons hA
  obtain ⟨v1, vs1, d1, ds1, p1, q1, hargs1, rfl, rfl, h1, r1⟩ := trodAll_cons r0
  obtain ⟨v2, vs2, d2, ds2, p2, q2, hargs2, rfl, rfl, h2, r2⟩ := trodAll_cons r1
  obtain ⟨rfl, rfl, rfl⟩ := trodAll_nil r2
  obtain rfl : args = #[v0, v1, v2] := by cases args; simp_all
  obtain ⟨rfl, rfl⟩ := trodVars_none hV
  obtain ⟨A0, A1, A2, a, c0, c1, c2, rfl, hR⟩ := ArnOpen.open_arena (hval 0 25 v0 rfl rfl) h0
  obtain ⟨k, n, g, rfl⟩ := ArnOpen.open_val (hval 1 27 v1 rfl rfl) h1
  obtain ⟨An, b, cn, rfl, hln, hRn⟩ := open_bytes Try.underlying28 Try.underlying5 cellsU8 (hval 2 28 v2 rfl rfl) h2
  refine (walk a A0 A1 A2 c0 c1 c2 k n g b An cn W hR hRn hln).mono fun e W' ⟨he, hb⟩ => ?_
  subst he
  exact ⟨_, rfl, post_read hW' rfl rfl rfl rfl rfl Try.underlying4 laidOut (by kernel_rfl) hb⟩

theorem proved : Rows.FnExactGetFieldSaid :=
  OpenClaim.holds_of_wide 3 Try.f3 rfl rfl rfl rfl rfl rfl rfl ⟨rfl, rfl, rfl, rfl, rfl⟩ rfl rfl rfl rfl rfl (by kernel_rfl) Try.func3 (by kernel_rfl)
    (of_decide_eq_true (by kernel_rfl)) (by unfold Func.isWrapper; first | (rw [if_pos (by decide +kernel)]; kernel_rfl) | (rw [if_neg (by decide +kernel)]; exact ⟨rfl, rfl⟩))
    (fun os started H enc _ => lifted os started H enc)
end GetFieldLaw
end Go.Proofs.Ytmjpcgainoflbaa
