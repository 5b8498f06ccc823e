/-
  Both tables held against one another (the law's same). Nothing here is a statement of the seed.
-/
import Derived.Test.YtigalcmhongleaaGtDoZ
set_option linter.unusedSimpArgs false
set_option linter.unusedVariables false
namespace Go.Proofs.Ytigalcmhongleaa.GL
open Go.RowKit WM NR OM OR GA GF
set_option maxHeartbeats 4000000
set_option maxRecDepth 10000
theorem same_any {PT : Rep} (hP : GP PT) {S : Nat → Prop} {w : World} {v : Value} {f : Tb} (h : PT S w v f) : Calls Try.prog 11 #[v, tV f] w fun e u => e = .returned (.bool true) ∧ Below w.heap.size w u := by
  have HX := Lib.hid (Whole.new w 32 (tC f))
  have HB := Lib.hid (below_new w (.cells (tC f) 32))
  have HK := Lib.hid (fun (u : World) (hb : Below w.heap.size w u) => hP.keep h hb.size (fun g hg => hb.block g (hP.lt h g hg)))
  have CG := Lib.hid (fun (u : World) (hb : Below w.heap.size w u) (i : Int) => hP.get i (HK.out u hb))
  have CF := Lib.hid (fun (u : World) (hb : Below w.heap.size w u) => hP.fre (HK.out u hb))
  have RG := Lib.hid (fun (u : World) (i : Int) => refGet_any (w := u) (f := f) i)
  have RF := Lib.hid (fun (u : World) => refFree_any (w := u) (f := f))
  generalize freeM f = FR at *
  clear hP h HK
  go_enter Try.func11, Try.ntmps11
  go_upto_region 1 with fail
  generalize w.alloc (.cells (tC f) 32) = W at *
  go_wp2_with fail
  go_loopw [5] (fun i wr => ∃ k : Int, -1 ≤ k ∧ k ≤ 9 ∧ i = .int .i64 k ∧ Hid (Whole wr w.heap.size 32 (tC f) ∧ Below w.heap.size w wr)) (fun i _ => (9 - intOf i).toNat)
  case atStart => exact ⟨-1, by omega, by omega, rfl, Lib.hid ⟨HX.out, HB.out⟩⟩
  case round =>
    obtain ⟨k, hk1, hk2, rfl, HJ⟩ := hrel
    have hbd : Below wr.heap.size wr wr.drew := (Below.refl _ _).drew
    have HD := Lib.hid (And.intro (HJ.out.1.belowS hbd) HJ.out.2.drew)
    clear HX HB hbd
    by_cases hlt : k ≤ 8
    · go_upto_region 4 with fail
      obtain ⟨RB, hRB⟩ : ∃ q, q = getM f k := ⟨_, rfl⟩
      have CG := Lib.hid (fun (u : World) (hb : Below w.heap.size w u) => CG.out u hb k)
      have RG := Lib.hid (fun (u : World) => RG.out u k)
      rw [← hRB] at CG RG
      clear hRB CF RF
      refine wp_region_held_drew (S := fun u => Whole u w.heap.size 32 (tC f) ∧ Below w.heap.size w u) (by kernel_rfl) HD.out (fun hHeld => ?_)
      refine wpAnyH_take (i := 0) (v := ?yavv0) rfl (by kernel_rfl) (by kernel_rfl) (by kernel_rfl) (fun _ _ _ h => h) (Or.inl ⟨by rfl, ?yahy0⟩) (by assumption) ?yarest0
      case yahy0 =>
        intro u hSu
        go_simp
        try with_reducible rfl
      try simp only [Act.put, List.getElem_toArray, List.getElem_cons_succ, List.getElem_cons_zero, List.setIfInBounds_toArray, List.set_cons_zero, List.set_cons_succ]
      refine wpAnyH_take (i := 1) (v := ?yavv1) rfl (by kernel_rfl) (by kernel_rfl) (by kernel_rfl) (fun _ _ _ h => h) (Or.inl ⟨by rfl, ?yahy1⟩) (by assumption) ?yarest1
      case yahy1 =>
        intro u hSu
        go_simp
        try with_reducible rfl
      try simp only [Act.put, List.getElem_toArray, List.getElem_cons_succ, List.getElem_cons_zero, List.setIfInBounds_toArray, List.set_cons_zero, List.set_cons_succ]
      refine wpAnyH_take (i := 3) (v := _) rfl (by kernel_rfl) (by kernel_rfl) (by kernel_rfl) (fun _ _ _ h => h) ((yl_T rfl (.tmp 3) rfl rfl (fun u h => h.1))) (by assumption) ?yarest3
      try simp only [Act.put, List.getElem_toArray, List.getElem_cons_succ, List.getElem_cons_zero, List.setIfInBounds_toArray, List.set_cons_zero, List.set_cons_succ]
      refine wpAnyH_take (i := 4) (v := ?yavv4) rfl (by kernel_rfl) (by kernel_rfl) (by kernel_rfl) (fun _ _ _ h => h) (Or.inl ⟨by rfl, ?yahy4⟩) (by assumption) ?yarest4
      case yahy4 =>
        intro u hSu
        go_simp
        try with_reducible rfl
      try simp only [Act.put, List.getElem_toArray, List.getElem_cons_succ, List.getElem_cons_zero, List.setIfInBounds_toArray, List.set_cons_zero, List.set_cons_succ]
      refine wpAnyH_ready (rs := [2]) (by kernel_rfl) (by simp) ?_
      refine AllReadyH.cons rfl (fun K hK => ?_) AllReadyH.nil
      (go_simp; go_at_call 17; (with_reducible refine (CG.out _ HD.out.2).mono ?_); rintro e w2 ⟨rfl, hB⟩; have J2 := And.intro (HD.out.1.belowS hB) (HD.out.2.trans (hB.mono HD.out.2.size)); clear hB)
      refine hK.out _ _ ?ybhS2 (fun hHeld => ?ybrest2)
      case ybhS2 => exact J2
      clear hK K
      try simp only [Act.put, List.getElem_toArray, List.getElem_cons_succ, List.getElem_cons_zero, List.setIfInBounds_toArray, List.set_cons_zero, List.set_cons_succ]
      refine wpAnyH_ready (rs := [5]) (by kernel_rfl) (by simp) ?_
      refine AllReadyH.cons rfl (fun K hK => ?_) AllReadyH.nil
      (go_simp; go_at_call 23; (with_reducible refine (RG.out _).mono ?_); rintro e w3 ⟨rfl, hB⟩; have J3 := And.intro (J2.1.belowS hB) (J2.2.trans (hB.mono J2.2.size)); clear hB)
      refine hK.out _ _ ?ychS5 (fun hHeld => ?ycrest5)
      case ychS5 => exact J3
      clear hK K
      try simp only [Act.put, List.getElem_toArray, List.getElem_cons_succ, List.getElem_cons_zero, List.setIfInBounds_toArray, List.set_cons_zero, List.set_cons_succ]
      refine wpAnyH_take (i := 6) (v := ?ycvv6) rfl (by kernel_rfl) (by kernel_rfl) (by kernel_rfl) (fun _ _ _ h => h) (Or.inl ⟨by rfl, ?ychy6⟩) (by assumption) ?ycrest6
      case ychy6 =>
        intro u hSu
        go_simp
        try with_reducible rfl
      try simp only [Act.put, List.getElem_toArray, List.getElem_cons_succ, List.getElem_cons_zero, List.setIfInBounds_toArray, List.set_cons_zero, List.set_cons_succ]
      refine wpAnyH_done (by kernel_rfl) ?_ _
      go_wp2_with fail
      go_roundw
      case rel => exact ⟨k + 1, by omega, by omega, by go_num, Lib.hid J3⟩
      case measure => simp [intOf]; omega
    · obtain rfl : k = 9 := by omega
      go_upto_region 6 with fail
      clear CG RG
      refine wp_region_held_drew (S := fun u => Whole u w.heap.size 32 (tC f) ∧ Below w.heap.size w u) (by kernel_rfl) HD.out (fun hHeld => ?_)
      refine wpAnyH_take (i := 0) (v := ?ydvv0) rfl (by kernel_rfl) (by kernel_rfl) (by kernel_rfl) (fun _ _ _ h => h) (Or.inl ⟨by rfl, ?ydhy0⟩) (by assumption) ?ydrest0
      case ydhy0 =>
        intro u hSu
        go_simp
        try with_reducible rfl
      try simp only [Act.put, List.getElem_toArray, List.getElem_cons_succ, List.getElem_cons_zero, List.setIfInBounds_toArray, List.set_cons_zero, List.set_cons_succ]
      refine wpAnyH_take (i := 2) (v := _) rfl (by kernel_rfl) (by kernel_rfl) (by kernel_rfl) (fun _ _ _ h => h) ((yl_T rfl (.tmp 3) rfl rfl (fun u h => h.1))) (by assumption) ?ydrest2
      try simp only [Act.put, List.getElem_toArray, List.getElem_cons_succ, List.getElem_cons_zero, List.setIfInBounds_toArray, List.set_cons_zero, List.set_cons_succ]
      refine wpAnyH_ready (rs := [1]) (by kernel_rfl) (by simp) ?_
      refine AllReadyH.cons rfl (fun K hK => ?_) AllReadyH.nil
      (go_simp; go_at_call 18; (with_reducible refine (CF.out _ HD.out.2).mono ?_); rintro e w2 ⟨rfl, hB⟩; have J2 := And.intro (HD.out.1.belowS hB) (HD.out.2.trans (hB.mono HD.out.2.size)); clear hB)
      refine hK.out _ _ ?yehS1 (fun hHeld => ?yerest1)
      case yehS1 => exact J2
      clear hK K
      try simp only [Act.put, List.getElem_toArray, List.getElem_cons_succ, List.getElem_cons_zero, List.setIfInBounds_toArray, List.set_cons_zero, List.set_cons_succ]
      refine wpAnyH_ready (rs := [3]) (by kernel_rfl) (by simp) ?_
      refine AllReadyH.cons rfl (fun K hK => ?_) AllReadyH.nil
      (go_simp; go_at_call 24; (with_reducible refine (RF.out _).mono ?_); rintro e w3 ⟨rfl, hB⟩; have J3 := And.intro (J2.1.belowS hB) (J2.2.trans (hB.mono J2.2.size)); clear hB)
      refine hK.out _ _ ?yfhS3 (fun hHeld => ?yfrest3)
      case yfhS3 => exact J3
      clear hK K
      try simp only [Act.put, List.getElem_toArray, List.getElem_cons_succ, List.getElem_cons_zero, List.setIfInBounds_toArray, List.set_cons_zero, List.set_cons_succ]
      refine wpAnyH_take (i := 4) (v := ?yfvv4) rfl (by kernel_rfl) (by kernel_rfl) (by kernel_rfl) (fun _ _ _ h => h) (Or.inl ⟨by rfl, ?yfhy4⟩) (by assumption) ?yfrest4
      case yfhy4 =>
        intro u hSu
        go_simp
        try with_reducible rfl
      try simp only [Act.put, List.getElem_toArray, List.getElem_cons_succ, List.getElem_cons_zero, List.setIfInBounds_toArray, List.set_cons_zero, List.set_cons_succ]
      refine wpAnyH_take (i := 5) (v := ?yfvv5) rfl (by kernel_rfl) (by kernel_rfl) (by kernel_rfl) (fun _ _ _ h => h) (Or.inl ⟨by rfl, ?yfhy5⟩) (by assumption) ?yfrest5
      case yfhy5 =>
        intro u hSu
        go_simp
        try with_reducible rfl
      try simp only [Act.put, List.getElem_toArray, List.getElem_cons_succ, List.getElem_cons_zero, List.setIfInBounds_toArray, List.set_cons_zero, List.set_cons_succ]
      refine wpAnyH_done (by kernel_rfl) ?_ _
      go_wp2_with fail
      go_ret
      exact ⟨rfl, J3.2⟩
end Go.Proofs.Ytigalcmhongleaa.GL
