/-
  Joined texts: MemRef3, MemBox, MemWith, MemTurn. Nothing here is a statement of the seed.
-/
import Derived.Test.YtihcellcdkhadaaGreatMemB
import Derived.Deep.RegionHeld3
import Derived.Deep.CutRange
set_option linter.unusedSimpArgs false
set_option linter.unusedVariables false
/-
  Words loaded from the reference's memory. Nothing here is a statement of the seed.
-/
namespace Go.Proofs.YtihcellcdkhadaaGreat.MF
open Go.RowKit PM PR PF MM MR

abbrev RT (b : Nat) (G : Nat → Int) (gr n c gw m d : Nat) (w : World) : Prop :=
  w.cell? ⟨b, 0, none⟩ = some (.int .u32 (G 0)) ∧ w.cell? ⟨b, 1, none⟩ = some (.int .u32 (G 1)) ∧ w.cell? ⟨b, 2, none⟩ = some (.int .u32 (G 2)) ∧ w.cell? ⟨b, 3, none⟩ = some (.int .u32 (G 3)) ∧ w.cell? ⟨b, 4, none⟩ = some (.int .u32 (G 4)) ∧ w.cell? ⟨b, 5, none⟩ = some (.int .u32 (G 5)) ∧
    w.cell? ⟨b, 6, none⟩ = some (.int .u32 (G 6)) ∧ w.cell? ⟨b, 7, none⟩ = some (.int .u32 (G 7)) ∧ w.cell? ⟨b, 8, none⟩ = some (.slice (some ⟨gr, 0, none⟩) n c) ∧ w.cell? ⟨b, 9, none⟩ = some (.slice (some ⟨gw, 0, none⟩) m d)
theorem rt_go {w u : World} {b : Nat} {G : Nat → Int} {gr n c gw m d : Nat} (h : RT b G gr n c gw m d w) (h1 : b < w.heap.size) (hb : Below w.heap.size w u) : RT b G gr n c gw m d u := by
  have c := fun i => hb.cell (p := ⟨b, i, none⟩) h1
  obtain ⟨c0, c1, c2, c3, c4, c5, c6, c7, c8, c9⟩ := h
  exact ⟨(c _).trans c0, (c _).trans c1, (c _).trans c2, (c _).trans c3, (c _).trans c4, (c _).trans c5, (c _).trans c6, (c _).trans c7, (c _).trans c8, (c _).trans c9⟩
section
variable {w : World} {gr c gw d : Nat} {M : Mm}
set_option maxHeartbeats 2000000 in
theorem refLoad_any (h : Rm w gr c gw d M) (ok : MOk M) (a ep : Int) (ha : 0 ≤ a ∧ a ≤ 4294967295) : Calls Tryz.prog 39 #[rV M.gt gr M.pg.length c gw M.ws.length d, .int .u32 a, .int .u64 ep] w fun e w' =>
    e = .returned (.tuple #[.int .u32 (loadW M a ep), .bool (loadB M a ep)]) ∧ Below w.heap.size w w' := by
  have h16 := ok.w16
  have h256 := ok.p256
  have hm : M.ws.length ≤ 4096 := by omega
  have hb0 := below_new w (.cells (rCs M.gt gr M.pg.length c gw M.ws.length d) 36)
  have BW := Whole.new w 36 (rCs M.gt gr M.pg.length c gw M.ws.length d)
  have CP := Lib.hid (fun u (hb : Below w.heap.size w u) => refPeek_any (h.belowS hb) ok a ha)
  by_cases h1 : a < 80
  · rw [show loadB M a ep = true by simp [loadB, h1], show loadW M a ep = peek M a by simp [loadW, loadB, h1]]
    clear h ok h16
    generalize peek M a = x at *
    generalize M.pg.length = n at *
    generalize M.ws.length = m at *
    generalize M.gt = G at *
    go_enter Tryz.func39, Tryz.ntmps39
    go_wp2_with fail
    obtain ⟨c0, c1, c2, c3, c4, c5, c6, c7, c8, c9⟩ := box_cells BW
    have d1 : decide (a < 80) = true := decide_eq_true h1
    have hbd := hb0.drew
    generalize hWW : w.alloc (.cells (rCs G gr n c gw m d) 36) = W at *
    clear hWW
    go_quiet (fail)
    have hbq := IF.below_drewN hb0 nq
    go_wp2_with (go_at_call 46; (with_reducible refine (CP.out _ hbq).mono ?_); rintro e w1 ⟨rfl, hb⟩)
    exact bodyPost_ret (v := .tuple #[.int .u32 x, .bool true]) (by simp [results, Tryz.results39, go_sem]) rfl ⟨rfl, below_of hbq hb⟩
  · have hB : loadB M a ep = (thereB M a && seenB (pageAt M a) ep) := by simp [loadB, h1]
    unfold loadW
    rw [hB]
    have CO := Lib.hid (fun w => refPageOf_any a ha w)
    have CG := Lib.hid (fun u (hb : Below w.heap.size w u) => refGet_any (c := c) (h.belowS hb).row h256 (pageOf a))
    rw [show gP M.pg (pageOf a) = pageAt M a from rfl] at CG
    have CR := Lib.hid (refReads_any (pageAt M a) ep)
    have CT := Lib.hid (refThere_any M.gt gr M.pg.length c gw M.ws.length d hm a ha)
    rw [show decide (80 ≤ a ∧ a < 80 + (M.ws.length : Int)) = thereB M a from rfl] at CT
    clear h ok h16 hB h256 hm
    generalize peek M a = x at *
    generalize pageOf a = i at *
    generalize seenB (pageAt M a) ep = b at *
    generalize thereB M a = bt at *
    generalize pageAt M a = q at *
    generalize M.pg.length = n at *
    generalize M.ws.length = m at *
    generalize M.gt = G at *
    obtain ⟨st, ex, wr, ow, epp⟩ := q
    change Hid (∀ u, Below w.heap.size w u → Calls _ _ _ u fun e w' => e = .returned (pgV st ex wr ow epp) ∧ _) at CG
    change Hid (Says _ _ #[pgV st ex wr ow epp, _] _) at CR
    go_enter Tryz.func39, Tryz.ntmps39
    go_wp2_with fail
    obtain ⟨c0, c1, c2, c3, c4, c5, c6, c7, c8, c9⟩ := box_cells BW
    have d1 : decide (a < 80) = false := decide_eq_false (by omega)
    have hbd := hb0.drew
    have hbl := BW.lt
    generalize hWW : w.alloc (.cells (rCs G gr n c gw m d) 36) = W at *
    clear hWW
    have K00 : RT w.heap.size G gr n c gw m d W := ⟨c0, c1, c2, c3, c4, c5, c6, c7, c8, c9⟩
    have K0 : RT w.heap.size G gr n c gw m d W.drew := K00
    clear c0 c1 c2 c3 c4 c5 c6 c7 c8 c9
    cases bt
    · refine wp_region_held_drew (S := fun u => RT w.heap.size G gr n c gw m d u) (by kernel_rfl) K0 (fun hHeld => ?_)
      refine wpAnyH_take (i := 0) (v := ?avv0) rfl (by kernel_rfl) (by kernel_rfl) (by kernel_rfl) (fun _ _ _ h => h) (Or.inl ⟨by rfl, ?ahy0⟩) (by assumption) ?arest0
      case ahy0 =>
        intro u hSu
        obtain ⟨s0, s1, s2, s3, s4, s5, s6, s7, s8, s9⟩ := hSu
        go_simp
        try with_reducible rfl
      try simp only [Act.put, List.getElem_toArray, List.getElem_cons_succ, List.getElem_cons_zero, List.setIfInBounds_toArray, List.set_cons_zero, List.set_cons_succ]
      refine wpAnyH_take (i := 1) (v := ?avv1) rfl (by kernel_rfl) (by kernel_rfl) (by kernel_rfl) (fun _ _ _ h => h) (Or.inl ⟨by rfl, ?ahy1⟩) (by assumption) ?arest1
      case ahy1 =>
        intro u hSu
        obtain ⟨s0, s1, s2, s3, s4, s5, s6, s7, s8, s9⟩ := hSu
        go_simp
        try with_reducible rfl
      try simp only [Act.put, List.getElem_toArray, List.getElem_cons_succ, List.getElem_cons_zero, List.setIfInBounds_toArray, List.set_cons_zero, List.set_cons_succ]
      refine wpAnyH_take (i := 2) (v := ?avv2) rfl (by kernel_rfl) (by kernel_rfl) (by kernel_rfl) (fun _ _ _ h => h) (Or.inl ⟨by rfl, ?ahy2⟩) (by assumption) ?arest2
      case ahy2 =>
        intro u hSu
        obtain ⟨s0, s1, s2, s3, s4, s5, s6, s7, s8, s9⟩ := hSu
        go_simp
        try with_reducible rfl
      try simp only [Act.put, List.getElem_toArray, List.getElem_cons_succ, List.getElem_cons_zero, List.setIfInBounds_toArray, List.set_cons_zero, List.set_cons_succ]
      refine wpAnyH_take (i := 3) (v := ?avv3) rfl (by kernel_rfl) (by kernel_rfl) (by kernel_rfl) (fun _ _ _ h => h) (Or.inl ⟨by rfl, ?ahy3⟩) (by assumption) ?arest3
      case ahy3 =>
        intro u hSu
        obtain ⟨s0, s1, s2, s3, s4, s5, s6, s7, s8, s9⟩ := hSu
        go_simp
        try with_reducible rfl
      try simp only [Act.put, List.getElem_toArray, List.getElem_cons_succ, List.getElem_cons_zero, List.setIfInBounds_toArray, List.set_cons_zero, List.set_cons_succ]
      refine wpAnyH_take (i := 4) (v := ?avv4) rfl (by kernel_rfl) (by kernel_rfl) (by kernel_rfl) (fun _ _ _ h => h) (Or.inl ⟨by rfl, ?ahy4⟩) (by assumption) ?arest4
      case ahy4 =>
        intro u hSu
        obtain ⟨s0, s1, s2, s3, s4, s5, s6, s7, s8, s9⟩ := hSu
        go_simp
        try with_reducible rfl
      try simp only [Act.put, List.getElem_toArray, List.getElem_cons_succ, List.getElem_cons_zero, List.setIfInBounds_toArray, List.set_cons_zero, List.set_cons_succ]
      refine wpAnyH_ready (rs := [5]) (by kernel_rfl) (by simp) ?_
      refine AllReadyH.cons rfl (fun K hK => ?_) AllReadyH.nil
      (go_simp; go_at_call 58; (with_reducible refine (CT.out.at _).mono ?_); rintro e w4 ⟨rfl, hb4⟩; have hB4 := below_drew_next hb4; have K4 := rt_go K00 hbl hB4)
      refine hK.out _ _ ?ahS5 (fun hHeld => ?arest5)
      case ahS5 => first | exact K7 | exact K6 | exact K4
      clear hK K
      try simp only [Act.put, List.getElem_toArray, List.getElem_cons_succ, List.getElem_cons_zero, List.setIfInBounds_toArray, List.set_cons_zero, List.set_cons_succ]
      refine wpAnyH_take (i := 6) (v := ?avv6) rfl (by kernel_rfl) (by kernel_rfl) (by kernel_rfl) (fun _ _ _ h => h) (Or.inl ⟨by rfl, ?ahy6⟩) (by assumption) ?arest6
      case ahy6 =>
        intro u hSu
        obtain ⟨s0, s1, s2, s3, s4, s5, s6, s7, s8, s9⟩ := hSu
        go_simp
        try with_reducible rfl
      try simp only [Act.put, List.getElem_toArray, List.getElem_cons_succ, List.getElem_cons_zero, List.setIfInBounds_toArray, List.set_cons_zero, List.set_cons_succ]
      refine wpAnyH_take (i := 7) (v := undef) rfl (by kernel_rfl) (by kernel_rfl) (by kernel_rfl) (fun _ _ _ h => h) (Or.inr ⟨by rfl, rfl⟩) (by assumption) ?arest7
      try simp only [Act.put, List.getElem_toArray, List.getElem_cons_succ, List.getElem_cons_zero, List.setIfInBounds_toArray, List.set_cons_zero, List.set_cons_succ]
      refine wpAnyH_take (i := 8) (v := undef) rfl (by kernel_rfl) (by kernel_rfl) (by kernel_rfl) (fun _ _ _ h => h) (Or.inr ⟨by rfl, rfl⟩) (by assumption) ?arest8
      try simp only [Act.put, List.getElem_toArray, List.getElem_cons_succ, List.getElem_cons_zero, List.setIfInBounds_toArray, List.set_cons_zero, List.set_cons_succ]
      refine wpAnyH_take (i := 9) (v := undef) rfl (by kernel_rfl) (by kernel_rfl) (by kernel_rfl) (fun _ _ _ h => h) (Or.inr ⟨by rfl, rfl⟩) (by assumption) ?arest9
      try simp only [Act.put, List.getElem_toArray, List.getElem_cons_succ, List.getElem_cons_zero, List.setIfInBounds_toArray, List.set_cons_zero, List.set_cons_succ]
      refine wpAnyH_take (i := 10) (v := undef) rfl (by kernel_rfl) (by kernel_rfl) (by kernel_rfl) (fun _ _ _ h => h) (Or.inr ⟨by rfl, rfl⟩) (by assumption) ?arest10
      try simp only [Act.put, List.getElem_toArray, List.getElem_cons_succ, List.getElem_cons_zero, List.setIfInBounds_toArray, List.set_cons_zero, List.set_cons_succ]
      refine wpAnyH_take (i := 11) (v := undef) rfl (by kernel_rfl) (by kernel_rfl) (by kernel_rfl) (fun _ _ _ h => h) (Or.inr ⟨by rfl, rfl⟩) (by assumption) ?arest11
      try simp only [Act.put, List.getElem_toArray, List.getElem_cons_succ, List.getElem_cons_zero, List.setIfInBounds_toArray, List.set_cons_zero, List.set_cons_succ]
      refine wpAnyH_take (i := 12) (v := undef) rfl (by kernel_rfl) (by kernel_rfl) (by kernel_rfl) (fun _ _ _ h => h) (Or.inr ⟨by rfl, rfl⟩) (by assumption) ?arest12
      try simp only [Act.put, List.getElem_toArray, List.getElem_cons_succ, List.getElem_cons_zero, List.setIfInBounds_toArray, List.set_cons_zero, List.set_cons_succ]
      refine wpAnyH_take (i := 13) (v := undef) rfl (by kernel_rfl) (by kernel_rfl) (by kernel_rfl) (fun _ _ _ h => h) (Or.inr ⟨by rfl, rfl⟩) (by assumption) ?arest13
      try simp only [Act.put, List.getElem_toArray, List.getElem_cons_succ, List.getElem_cons_zero, List.setIfInBounds_toArray, List.set_cons_zero, List.set_cons_succ]
      refine wpAnyH_take (i := 14) (v := ?avv14) rfl (by kernel_rfl) (by kernel_rfl) (by kernel_rfl) (fun _ _ _ h => h) (Or.inl ⟨by rfl, ?ahy14⟩) (by assumption) ?arest14
      case ahy14 =>
        intro u hSu
        obtain ⟨s0, s1, s2, s3, s4, s5, s6, s7, s8, s9⟩ := hSu
        go_simp
        try with_reducible rfl
      try simp only [Act.put, List.getElem_toArray, List.getElem_cons_succ, List.getElem_cons_zero, List.setIfInBounds_toArray, List.set_cons_zero, List.set_cons_succ]
      refine wpAnyH_take (i := 15) (v := ?avv15) rfl (by kernel_rfl) (by kernel_rfl) (by kernel_rfl) (fun _ _ _ h => h) (Or.inl ⟨by rfl, ?ahy15⟩) (by assumption) ?arest15
      case ahy15 =>
        intro u hSu
        obtain ⟨s0, s1, s2, s3, s4, s5, s6, s7, s8, s9⟩ := hSu
        go_simp
        try with_reducible rfl
      try simp only [Act.put, List.getElem_toArray, List.getElem_cons_succ, List.getElem_cons_zero, List.setIfInBounds_toArray, List.set_cons_zero, List.set_cons_succ]
      refine wpAnyH_done (by kernel_rfl) ?_ _
      go_wp2_with fail
      exact bodyPost_ret (v := .tuple #[.int .u32 0, .bool false]) (by simp [results, Tryz.results39, go_sem]) rfl ⟨rfl, below_of hb0 hB4⟩
    · refine wp_region_held_drew (S := fun u => RT w.heap.size G gr n c gw m d u) (by kernel_rfl) K0 (fun hHeld => ?_)
      refine wpAnyH_take (i := 0) (v := ?bvv0) rfl (by kernel_rfl) (by kernel_rfl) (by kernel_rfl) (fun _ _ _ h => h) (Or.inl ⟨by rfl, ?bhy0⟩) (by assumption) ?brest0
      case bhy0 =>
        intro u hSu
        obtain ⟨s0, s1, s2, s3, s4, s5, s6, s7, s8, s9⟩ := hSu
        go_simp
        try with_reducible rfl
      try simp only [Act.put, List.getElem_toArray, List.getElem_cons_succ, List.getElem_cons_zero, List.setIfInBounds_toArray, List.set_cons_zero, List.set_cons_succ]
      refine wpAnyH_take (i := 1) (v := ?bvv1) rfl (by kernel_rfl) (by kernel_rfl) (by kernel_rfl) (fun _ _ _ h => h) (Or.inl ⟨by rfl, ?bhy1⟩) (by assumption) ?brest1
      case bhy1 =>
        intro u hSu
        obtain ⟨s0, s1, s2, s3, s4, s5, s6, s7, s8, s9⟩ := hSu
        go_simp
        try with_reducible rfl
      try simp only [Act.put, List.getElem_toArray, List.getElem_cons_succ, List.getElem_cons_zero, List.setIfInBounds_toArray, List.set_cons_zero, List.set_cons_succ]
      refine wpAnyH_take (i := 2) (v := ?bvv2) rfl (by kernel_rfl) (by kernel_rfl) (by kernel_rfl) (fun _ _ _ h => h) (Or.inl ⟨by rfl, ?bhy2⟩) (by assumption) ?brest2
      case bhy2 =>
        intro u hSu
        obtain ⟨s0, s1, s2, s3, s4, s5, s6, s7, s8, s9⟩ := hSu
        go_simp
        try with_reducible rfl
      try simp only [Act.put, List.getElem_toArray, List.getElem_cons_succ, List.getElem_cons_zero, List.setIfInBounds_toArray, List.set_cons_zero, List.set_cons_succ]
      refine wpAnyH_take (i := 3) (v := ?bvv3) rfl (by kernel_rfl) (by kernel_rfl) (by kernel_rfl) (fun _ _ _ h => h) (Or.inl ⟨by rfl, ?bhy3⟩) (by assumption) ?brest3
      case bhy3 =>
        intro u hSu
        obtain ⟨s0, s1, s2, s3, s4, s5, s6, s7, s8, s9⟩ := hSu
        go_simp
        try with_reducible rfl
      try simp only [Act.put, List.getElem_toArray, List.getElem_cons_succ, List.getElem_cons_zero, List.setIfInBounds_toArray, List.set_cons_zero, List.set_cons_succ]
      refine wpAnyH_take (i := 4) (v := ?bvv4) rfl (by kernel_rfl) (by kernel_rfl) (by kernel_rfl) (fun _ _ _ h => h) (Or.inl ⟨by rfl, ?bhy4⟩) (by assumption) ?brest4
      case bhy4 =>
        intro u hSu
        obtain ⟨s0, s1, s2, s3, s4, s5, s6, s7, s8, s9⟩ := hSu
        go_simp
        try with_reducible rfl
      try simp only [Act.put, List.getElem_toArray, List.getElem_cons_succ, List.getElem_cons_zero, List.setIfInBounds_toArray, List.set_cons_zero, List.set_cons_succ]
      refine wpAnyH_ready (rs := [5]) (by kernel_rfl) (by simp) ?_
      refine AllReadyH.cons rfl (fun K hK => ?_) AllReadyH.nil
      (go_simp; go_at_call 58; (with_reducible refine (CT.out.at _).mono ?_); rintro e w4 ⟨rfl, hb4⟩; have hB4 := below_drew_next hb4; have hC4 := below_of hb0 hB4; have K4 := rt_go K00 hbl hB4)
      refine hK.out _ _ ?bhS5 (fun hHeld => ?brest5)
      case bhS5 => first | exact K7 | exact K6 | exact K4
      clear hK K
      try simp only [Act.put, List.getElem_toArray, List.getElem_cons_succ, List.getElem_cons_zero, List.setIfInBounds_toArray, List.set_cons_zero, List.set_cons_succ]
      refine wpAnyH_take (i := 6) (v := ?bvv6) rfl (by kernel_rfl) (by kernel_rfl) (by kernel_rfl) (fun _ _ _ h => h) (Or.inl ⟨by rfl, ?bhy6⟩) (by assumption) ?brest6
      case bhy6 =>
        intro u hSu
        obtain ⟨s0, s1, s2, s3, s4, s5, s6, s7, s8, s9⟩ := hSu
        go_simp
        try with_reducible rfl
      try simp only [Act.put, List.getElem_toArray, List.getElem_cons_succ, List.getElem_cons_zero, List.setIfInBounds_toArray, List.set_cons_zero, List.set_cons_succ]
      refine wpAnyH_take (i := 7) (v := ?bvv7) rfl (by kernel_rfl) (by kernel_rfl) (by kernel_rfl) (fun _ _ _ h => h) (Or.inl ⟨by rfl, ?bhy7⟩) (by assumption) ?brest7
      case bhy7 =>
        intro u hSu
        obtain ⟨s0, s1, s2, s3, s4, s5, s6, s7, s8, s9⟩ := hSu
        go_simp
        try with_reducible rfl
      try simp only [Act.put, List.getElem_toArray, List.getElem_cons_succ, List.getElem_cons_zero, List.setIfInBounds_toArray, List.set_cons_zero, List.set_cons_succ]
      refine wpAnyH_take (i := 8) (v := ?bvv8) rfl (by kernel_rfl) (by kernel_rfl) (by kernel_rfl) (fun _ _ _ h => h) (Or.inl ⟨by rfl, ?bhy8⟩) (by assumption) ?brest8
      case bhy8 =>
        intro u hSu
        obtain ⟨s0, s1, s2, s3, s4, s5, s6, s7, s8, s9⟩ := hSu
        go_simp
        try with_reducible rfl
      try simp only [Act.put, List.getElem_toArray, List.getElem_cons_succ, List.getElem_cons_zero, List.setIfInBounds_toArray, List.set_cons_zero, List.set_cons_succ]
      refine wpAnyH_take (i := 9) (v := ?bvv9) rfl (by kernel_rfl) (by kernel_rfl) (by kernel_rfl) (fun _ _ _ h => h) (Or.inl ⟨by rfl, ?bhy9⟩) (by assumption) ?brest9
      case bhy9 =>
        intro u hSu
        obtain ⟨s0, s1, s2, s3, s4, s5, s6, s7, s8, s9⟩ := hSu
        go_simp
        try with_reducible rfl
      try simp only [Act.put, List.getElem_toArray, List.getElem_cons_succ, List.getElem_cons_zero, List.setIfInBounds_toArray, List.set_cons_zero, List.set_cons_succ]
      refine wpAnyH_take (i := 12) (v := ?bvv12) rfl (by kernel_rfl) (by kernel_rfl) (by kernel_rfl) (fun _ _ _ h => h) (Or.inl ⟨by rfl, ?bhy12⟩) (by assumption) ?brest12
      case bhy12 =>
        intro u hSu
        obtain ⟨s0, s1, s2, s3, s4, s5, s6, s7, s8, s9⟩ := hSu
        go_simp
        try with_reducible rfl
      try simp only [Act.put, List.getElem_toArray, List.getElem_cons_succ, List.getElem_cons_zero, List.setIfInBounds_toArray, List.set_cons_zero, List.set_cons_succ]
      refine wpAnyH_ready (rs := [10]) (by kernel_rfl) (by simp) ?_
      refine AllReadyH.cons rfl (fun K hK => ?_) AllReadyH.nil
      (go_simp; go_at_call 60; (with_reducible refine (CO.out _).mono ?_); rintro e w5 ⟨rfl, rfl⟩)
      refine hK.out _ _ ?bhS10 (fun hHeld => ?brest10)
      case bhS10 => first | exact K7 | exact K6 | exact K4
      clear hK K
      try simp only [Act.put, List.getElem_toArray, List.getElem_cons_succ, List.getElem_cons_zero, List.setIfInBounds_toArray, List.set_cons_zero, List.set_cons_succ]
      refine wpAnyH_ready (rs := [11]) (by kernel_rfl) (by simp) ?_
      refine AllReadyH.cons rfl (fun K hK => ?_) AllReadyH.nil
      (go_simp; go_at_call 59; (with_reducible refine (CG.out _ hC4).mono ?_); rintro e w6 ⟨rfl, hb6⟩; have hB6 := below_of hB4 hb6; have K6 := rt_go K00 hbl hB6)
      refine hK.out _ _ ?bhS11 (fun hHeld => ?brest11)
      case bhS11 => first | exact K7 | exact K6 | exact K4
      clear hK K
      try simp only [Act.put, List.getElem_toArray, List.getElem_cons_succ, List.getElem_cons_zero, List.setIfInBounds_toArray, List.set_cons_zero, List.set_cons_succ]
      refine wpAnyH_ready (rs := [13]) (by kernel_rfl) (by simp) ?_
      refine AllReadyH.cons rfl (fun K hK => ?_) AllReadyH.nil
      (go_simp; go_at_call 91; (with_reducible refine (CR.out.at _).mono ?_); rintro e w7 ⟨rfl, hb7⟩; have hB7 := below_of hB6 hb7; have hC7 := below_of hb0 hB7; have K7 := rt_go K00 hbl hB7)
      refine hK.out _ _ ?bhS13 (fun hHeld => ?brest13)
      case bhS13 => first | exact K7 | exact K6 | exact K4
      clear hK K
      try simp only [Act.put, List.getElem_toArray, List.getElem_cons_succ, List.getElem_cons_zero, List.setIfInBounds_toArray, List.set_cons_zero, List.set_cons_succ]
      refine wpAnyH_take (i := 14) (v := ?bvv14) rfl (by kernel_rfl) (by kernel_rfl) (by kernel_rfl) (fun _ _ _ h => h) (Or.inl ⟨by rfl, ?bhy14⟩) (by assumption) ?brest14
      case bhy14 =>
        intro u hSu
        obtain ⟨s0, s1, s2, s3, s4, s5, s6, s7, s8, s9⟩ := hSu
        go_simp
        try with_reducible rfl
      try simp only [Act.put, List.getElem_toArray, List.getElem_cons_succ, List.getElem_cons_zero, List.setIfInBounds_toArray, List.set_cons_zero, List.set_cons_succ]
      refine wpAnyH_take (i := 15) (v := ?bvv15) rfl (by kernel_rfl) (by kernel_rfl) (by kernel_rfl) (fun _ _ _ h => h) (Or.inl ⟨by rfl, ?bhy15⟩) (by assumption) ?brest15
      case bhy15 =>
        intro u hSu
        obtain ⟨s0, s1, s2, s3, s4, s5, s6, s7, s8, s9⟩ := hSu
        go_simp
        try with_reducible rfl
      try simp only [Act.put, List.getElem_toArray, List.getElem_cons_succ, List.getElem_cons_zero, List.setIfInBounds_toArray, List.set_cons_zero, List.set_cons_succ]
      refine wpAnyH_done (by kernel_rfl) ?_ _
      cases b
      · go_wp2_with fail
        exact bodyPost_ret (v := .tuple #[.int .u32 0, .bool false]) (by simp [results, Tryz.results39, go_sem]) rfl ⟨rfl, hC7⟩
      · obtain ⟨c0, c1, c2, c3, c4, c5, c6, c7, c8, c9⟩ := K7
        go_wp2_with (go_at_call 46; (with_reducible refine (CP.out _ hC7).mono ?_); rintro e w8 ⟨rfl, hb8⟩)
        exact bodyPost_ret (v := .tuple #[.int .u32 x, .bool true]) (by simp [results, Tryz.results39, go_sem]) rfl ⟨rfl, below_of hC7 hb8⟩
end
end Go.Proofs.YtihcellcdkhadaaGreat.MF

/-
  A box with a whole memory laid into it at once. Nothing here is a statement of the seed.
-/
namespace Go.Proofs.YtihcellcdkhadaaGreat.MF
open Go.RowKit PM PR PF MM MR

theorem infoMem : (Tryz.prog.info? 36).map (·.size) = some 10 := by kernel_rfl
/-- ten cells laid from the block's start on -/
def putB (w : World) (b : Nat) (G : Nat → Int) (gr n c gw m d : Nat) : World := w.setCells b 0 (rCs G gr n c gw m d).toList
section
variable {w : World} {b : Nat} {cs : Array Value}
theorem putB_whole (h : Whole w b 36 cs) (hs : cs.size = 10) (G : Nat → Int) (gr n c gw m d : Nat) : Whole (putB w b G gr n c gw m d) b 36 (rCs G gr n c gw m d) := by
  obtain ⟨l⟩ := cs
  match l, hs with
  | [a0, a1, a2, a3, a4, a5, a6, a7, a8, a9], _ =>
    have H := ((((((((((h.set_ 0 (.int .u32 (G 0))).set_ 1 (.int .u32 (G 1))).set_ 2 (.int .u32 (G 2))).set_ 3 (.int .u32 (G 3))).set_ 4 (.int .u32 (G 4))).set_ 5 (.int .u32 (G 5))).set_ 6 (.int .u32 (G 6))).set_ 7 (.int .u32 (G 7))).set_ 8 (.slice (some ⟨gr, 0, none⟩) n c)).set_ 9 (.slice (some ⟨gw, 0, none⟩) m d))
    simpa [putB, World.setCells] using H
/-- what a store of the whole asks -/
theorem box_open (h : Whole w b 36 cs) (hs : cs.size = 10) : (∃ v0 v1 v2 v3 v4 v5 v6 v7 v8 v9, w.cell? ⟨b, 0, none⟩ = some v0 ∧ w.cell? ⟨b, 1, none⟩ = some v1 ∧ w.cell? ⟨b, 2, none⟩ = some v2 ∧ w.cell? ⟨b, 3, none⟩ = some v3 ∧ w.cell? ⟨b, 4, none⟩ = some v4 ∧ w.cell? ⟨b, 5, none⟩ = some v5 ∧ w.cell? ⟨b, 6, none⟩ = some v6 ∧ w.cell? ⟨b, 7, none⟩ = some v7 ∧ w.cell? ⟨b, 8, none⟩ = some v8 ∧ w.cell? ⟨b, 9, none⟩ = some v9) ∧
    w.frozen? ⟨b, 0, none⟩ = false ∧ w.frozen? ⟨b, 1, none⟩ = false ∧ w.frozen? ⟨b, 2, none⟩ = false ∧ w.frozen? ⟨b, 3, none⟩ = false ∧ w.frozen? ⟨b, 4, none⟩ = false ∧ w.frozen? ⟨b, 5, none⟩ = false ∧ w.frozen? ⟨b, 6, none⟩ = false ∧ w.frozen? ⟨b, 7, none⟩ = false ∧ w.frozen? ⟨b, 8, none⟩ = false ∧ w.frozen? ⟨b, 9, none⟩ = false := by
  have c := fun i (hi : i < cs.size) => (h.cell i).trans (Array.getElem?_eq_getElem hi)
  exact ⟨⟨_, _, _, _, _, _, _, _, _, _, c 0 (by omega), c 1 (by omega), c 2 (by omega), c 3 (by omega), c 4 (by omega), c 5 (by omega), c 6 (by omega), c 7 (by omega), c 8 (by omega), c 9 (by omega)⟩, h.frozen _, h.frozen _, h.frozen _, h.frozen _, h.frozen _, h.frozen _, h.frozen _, h.frozen _, h.frozen _, h.frozen _⟩
theorem putB_eq (w : World) (b : Nat) (G : Nat → Int) (gr n c gw m d : Nat) : (((((((((w.setCell ⟨b, 0, none⟩ (.int .u32 (G 0))).setCell ⟨b, 1, none⟩ (.int .u32 (G 1))).setCell ⟨b, 2, none⟩ (.int .u32 (G 2))).setCell ⟨b, 3, none⟩ (.int .u32 (G 3))).setCell ⟨b, 4, none⟩ (.int .u32 (G 4))).setCell ⟨b, 5, none⟩ (.int .u32 (G 5))).setCell ⟨b, 6, none⟩ (.int .u32 (G 6))).setCell ⟨b, 7, none⟩ (.int .u32 (G 7))).setCell ⟨b, 8, none⟩ (.slice (some ⟨gr, 0, none⟩) n c)).setCell ⟨b, 9, none⟩ (.slice (some ⟨gw, 0, none⟩) m d) = putB w b G gr n c gw m d := rfl
theorem putB_run (h : Whole w b 36 cs) (hs : cs.size = 10) (G : Nat → Int) (gr n c gw m d : Nat) :
    (Instr.storeAt 36 (.pointer (some ⟨b, 0, none⟩)) (rV G gr n c gw m d)).run Tryz.prog w = .ok () (putB w b G gr n c gw m d) := by
  refine run_storeAt_mid w b 0 _ _ (fun j hj => ?_) infoMem (by simp [Value.oneCell'])
  have hj' : j < cs.size := by rw [hs]; exact hj
  refine ⟨?_, h.frozen _⟩
  rw [h.cell, Nat.zero_add, Array.getElem?_eq_getElem hj']
  rfl
theorem putB_fr (w : World) (b : Nat) (G : Nat → Int) (gr n c gw m d : Nat) : Fr (fun i => i = b) w (putB w b G gr n c gw m d) :=
  (((((((((((Fr.refl (fun i => i = b) w).set (p := ⟨b, 0, none⟩) (Or.inl rfl) _).set (p := ⟨b, 1, none⟩) (Or.inl rfl) _).set (p := ⟨b, 2, none⟩) (Or.inl rfl) _).set (p := ⟨b, 3, none⟩) (Or.inl rfl) _).set (p := ⟨b, 4, none⟩) (Or.inl rfl) _).set (p := ⟨b, 5, none⟩) (Or.inl rfl) _).set (p := ⟨b, 6, none⟩) (Or.inl rfl) _).set (p := ⟨b, 7, none⟩) (Or.inl rfl) _).set (p := ⟨b, 8, none⟩) (Or.inl rfl) _).set (p := ⟨b, 9, none⟩) (Or.inl rfl) _)
theorem putB_below {B : Nat} {w0 : World} (h : Below B w0 w) (hB : B ≤ b) (hs : B ≤ w.heap.size) (G : Nat → Int) (gr n c gw m d : Nat) : Below B w0 (putB w b G gr n c gw m d) := PR.Below.fr h (putB_fr w b G gr n c gw m d) hs (fun i hi => by subst hi; exact hB)
end
end Go.Proofs.YtihcellcdkhadaaGreat.MF

/-
  A word of the reference's memory turned: a memory of its own. Nothing here is a statement of the seed.
-/
namespace Go.Proofs.YtihcellcdkhadaaGreat.MF
open Go.RowKit PM PR PF MM MR

theorem ownw_empty2 (w : World) (o o' : Obj) : (((w.alloc o).alloc o').alloc (.cells #[] 23)).ownsRow (w.heap.size + 1 + 1) 23 1 (.slice (some ⟨w.heap.size + 1 + 1, 0, none⟩) 0 0) 0 [] :=
  ⟨rfl, Or.inr ⟨w.heap.size + 1 + 1, 0, #[], rfl, Nat.le_refl _, by have := heap_alloc_new ((w.alloc o).alloc o') (.cells #[] 23); simpa using this, Nat.le_refl _, by simp [maxLen], rfl, rfl⟩⟩
abbrev zCs : Array Value := #[.int .u32 0, .int .u32 0, .int .u32 0, .int .u32 0, .int .u32 0, .int .u32 0, .int .u32 0, .int .u32 0, .slice none 0 0, .slice none 0 0]
theorem copiedW2_of {W w1 : World} {B : Nat} {v' : Value} {l : List Int} {v : Value} (hB : B + 1 = W.heap.size) (h1 : w1.ownsRow B 23 1 v' (0 + l.length) ([] ++ wcs l)) (h2 : W.grownBy w1 v.ownBlock) (hv : ∀ g, v.ownBlock = some g → B ≤ g) (h3 : v' = .slice none 0 0 ↔ v = .slice none 0 0 ∧ l.length = 0) (hv0 : v ≠ .slice none 0 0) :
    ∃ g c, v' = .slice (some ⟨g, 0, none⟩) l.length c ∧ Wr w1 g l ∧ B ≤ g ∧ l.length ≤ c ∧ c ≤ maxLen ∧ Below B W w1 := by
  rw [Nat.zero_add, List.nil_append] at h1
  obtain ⟨g, c, e, _, hg, hc, hm, hr⟩ := wr_of_owns h1 (fun e => hv0 (h3.1 e).1)
  exact ⟨g, c, e, hr, hg, hc, hm, (Below.refl _ _).grown h2 (by omega) hv⟩
/-- the reference's memory told: its words, or its pages, in memory of their own -/
def RWith (M M' : Mm) (gr c : Nat) (w : World) (e : Ending) (w' : World) : Prop := ∃ gw' d', e = .returned (rV M'.gt gr M.pg.length c gw' M.ws.length d') ∧ Wr w' gw' M'.ws ∧ w.heap.size ≤ gw' ∧ M.ws.length ≤ d' ∧ d' ≤ maxLen ∧ Below w.heap.size w w'
set_option maxHeartbeats 2000000 in
set_option maxRecDepth 10000 in
theorem with_any {w : World} {gr c gw d : Nat} {M : Mm} (h : Rm w gr c gw d M) (ok : MOk M) (a x : Int) (ha : thereB M a = true) (ha2 : a ≤ 4294967295) :
    Calls Tryz.prog 61 #[rV M.gt gr M.pg.length c gw M.ws.length d, .int .u32 a, .int .u32 x] w (RWith M (setW M a x) gr c w) := by
  obtain ⟨i0, hi, hz0, hz1, hz2⟩ := info_parts infoU32
  have h16 := ok.w16
  have h256 := ok.p256
  have hm : M.ws.length ≤ 4096 := by omega
  obtain ⟨ha0, hk⟩ := there_at ha
  have hn := Lib.hid (Wr.news (((h.wr.alloc (.cells (rCs M.gt gr M.pg.length c gw M.ws.length d) 36)).alloc (.cells zCs 36)).alloc (.cells #[] 23)))
  have hl := Lib.hid (wcs_len M.ws)
  have HO := Lib.hid (ownw_empty2 w (.cells (rCs M.gt gr M.pg.length c gw M.ws.length d) 36) (.cells zCs 36))
  have hb0 := below_new w (.cells (rCs M.gt gr M.pg.length c gw M.ws.length d) 36)
  have hb1 := hb0.alloc (by simp) (.cells zCs 36)
  have hb2 := Lib.hid (hb1.alloc (by simp; omega) (.cells #[] 23))
  have X1 := Lib.hid (((Whole.new w 36 (rCs M.gt gr M.pg.length c gw M.ws.length d)).alloc (.cells zCs 36)).alloc (.cells #[] 23))
  have X2 := Lib.hid ((Whole.new (w.alloc (.cells (rCs M.gt gr M.pg.length c gw M.ws.length d) 36)) 36 zCs).alloc (.cells #[] 23))
  simp only [World.size_alloc] at X2
  obtain ⟨k, rfl⟩ : ∃ k : Nat, a = 80 + k := ⟨(a - 80).toNat, by omega⟩
  rw [show (80 + (k : Int) - 80).toNat = k by omega] at hk
  have HSet : Hid (∀ (u : World) (g : Nat), Wr u g M.ws → Wr (u.setCell ⟨g, k, none⟩ (.int .u32 x)) g (setW M (80 + (k : Int)) x).ws) := Lib.hid fun u g hr => by
    have := hr.set_ hk x
    unfold setW
    rw [show (80 + (k : Int) - 80).toNat = k by omega]
    exact this
  have HCell : Hid (∀ (u : World) (g : Nat), Wr u g M.ws → u.cell? ⟨g, k, none⟩ = some (.int .u32 (M.ws.getD k 0))) := Lib.hid fun u g hr => hr.cell hk
  unfold RWith
  rw [show (setW M (80 + (k : Int)) x).gt = M.gt from rfl]
  generalize (setW M (80 + (k : Int)) x).ws = ws' at *
  have hk0 : (0 : Int) ≤ k := by omega
  have hk1 : (k : Int) < M.ws.length := by omega
  have hm1 : (M.ws.length : Int) ≤ 4096 := by omega
  clear h ok ha ha0 h16 h256 hk
  generalize M.ws.getD k 0 = y at *
  generalize M.pg.length = n at *
  generalize M.gt = G at *
  generalize M.ws = l at *
  go_enter Tryz.func61, Tryz.ntmps61
  go_upto_region 3 with (at_builtin; refine wpList_append_own _ rfl _ _ 22 rfl (w.heap.size + 1 + 1) 23 i0 _ 1 4 Tryz.underlying22 hi hz0 hz1 hz2 rfl (by decide) (.slice (some ⟨w.heap.size + 1 + 1, 0, none⟩) 0 0) 0 [] rfl HO.out ⟨gw, 0, none⟩ l.length d (wcs l) rfl (by rw [hl.out]; omega) hn.out (wcs_one l) (by unfold maxLen; omega) (by omega) (by simp) ?_; intro v' w1 hown hgrow hnil; obtain ⟨g', d', rfl, hrow, hg', hd1, hd2, hb⟩ := copiedW2_of (by simp) hown hgrow (by intro g h; simp [Value.ownBlock] at h; omega) hnil (by simp); have HR := Lib.hid hrow; obtain ⟨c0, c1, c2, c3, c4, c5, c6, c7, c8, c9⟩ := box_cells (X1.out.below hb (by omega)); have f9 := (X1.out.below hb (by omega)).frozen 9; have cw := HCell.out _ _ hrow; have fw := hrow.frozen k; have Y2 := Lib.hid (X2.out.below hb (by omega)); have Y1 := Lib.hid (X1.out.below hb (by omega)); have hne1 : w.heap.size ≠ g' := (by omega); have hne2 : w.heap.size + 1 ≠ g' := (by omega); clear hown hgrow hnil hrow)
  have Z2 := (Y2.out.far (p := ⟨w.heap.size, 9, none⟩) (by simp) (.slice (some ⟨g', 0, none⟩) l.length d')).far (p := ⟨g', k, none⟩) hne2 (.int .u32 x)
  have Z1 := box_cells ((Y1.out.set_ 9 (.slice (some ⟨g', 0, none⟩) l.length d')).far (p := ⟨g', k, none⟩) hne1 (.int .u32 x))
  have ZW := HSet.out _ _ (HR.out.far (p := ⟨w.heap.size, 9, none⟩) hne1.symm (.slice (some ⟨g', 0, none⟩) l.length d'))
  have ZB := Lib.hid (((hb2.out.trans (hb.mono (by omega))).setCell (p := ⟨w.heap.size, 9, none⟩) (Nat.le_refl _) (.slice (some ⟨g', 0, none⟩) l.length d')).setCell (p := ⟨g', k, none⟩) (by show w.heap.size ≤ g'; omega) (.int .u32 x))
  clear c0 c1 c2 c3 c4 c5 c6 c7 c8 c9 f9 cw fw Y1 Y2 HR X1 X2 HO hn hb2 hb0 hb1 hb HSet HCell
  generalize (w1.setCell ⟨w.heap.size, 9, none⟩ (.slice (some ⟨g', 0, none⟩) l.length d')).setCell ⟨g', k, none⟩ (.int .u32 x) = w3 at *
  obtain ⟨c0, c1, c2, c3, c4, c5, c6, c7, c8, c9⟩ := Z1
  obtain ⟨⟨v0, v1, v2, v3, v4, v5, v6, v7, v8, v9, e0, e1, e2, e3, e4, e5, e6, e7, e8, e9⟩, f0, f1, f2, f3, f4, f5, f6, f7, f8, f9⟩ := box_open Z2 rfl
  have P2 := putB_whole Z2 rfl G gr n c g' l.length d'
  have ZW2 := Lib.hid (ZW.fr (putB_fr w3 (w.heap.size + 1) G gr n c g' l.length d') (fun e => hne2 e.symm))
  have ZB2 := Lib.hid (putB_below (b := w.heap.size + 1) ZB.out (by omega) ZB.out.size G gr n c g' l.length d')
  have Z2L := P2.lt
  clear Z2 ZW ZB
  have PC := Lib.hid (box_cells P2)
  clear P2
  go_wp2_with fail
  rw [putB_eq]
  obtain ⟨p0, p1, p2, p3, p4, p5, p6, p7, p8, p9⟩ := PC.out
  refine bodyPost_ret (v := rV G gr n c g' l.length d') (by simp [results, Tryz.results61, go_sem, p0, p1, p2, p3, p4, p5, p6, p7, p8, p9]) rfl ?_
  exact ⟨g', d', rfl, ZW2.out, by omega, hd1, hd2, ZB2.out⟩
end Go.Proofs.YtihcellcdkhadaaGreat.MF

/-
  What turns the reference's memory: words put and stored, gates. Nothing here is a statement of the seed.
-/
namespace Go.Proofs.YtihcellcdkhadaaGreat.MF
open Go.RowKit PM PR PF MM MR

/-- the reference's memory and an answer -/
def RTurn (M M' : Mm) (x : Value) (gr c gw : Nat) (w : World) (e : Ending) (w' : World) : Prop := ∃ gw' d', e = .returned (.tuple #[rV M'.gt gr M.pg.length c gw' M.ws.length d', x]) ∧ Wr w' gw' M'.ws ∧ (gw' = gw ∨ w.heap.size ≤ gw') ∧ M.ws.length ≤ d' ∧ d' ≤ maxLen ∧ Below w.heap.size w w'
abbrev tW (w : World) (G : Nat → Int) (gr n c gw m d : Nat) : World := (w.alloc (.cells (rCs G gr n c gw m d) 36)).alloc (.cells zCs 36)
theorem tW_facts (w : World) (G : Nat → Int) (gr n c gw m d : Nat) : Below w.heap.size w (tW w G gr n c gw m d) ∧ (tW w G gr n c gw m d).heap.size = w.heap.size + 1 + 1 ∧ Whole (tW w G gr n c gw m d) w.heap.size 36 (rCs G gr n c gw m d) ∧ Whole (tW w G gr n c gw m d) (w.heap.size + 1) 36 zCs := by
  refine ⟨(below_new w _).alloc (by simp) _, by simp, (Whole.new w _ _).alloc _, ?_⟩
  have := Whole.new (w.alloc (.cells (rCs G gr n c gw m d) 36)) 36 zCs
  simpa using this
/-- the result laid -/
theorem turn_end {w u : World} {M M' : Mm} {x : Value} {gr n c gw gw' m d' : Nat} {cs : Array Value} (hn : M.pg.length = n) (hm : M.ws.length = m) (hb : Below w.heap.size w u) (h : Whole u (w.heap.size + 1) 36 cs) (hw : Wr u gw' M'.ws) (h1 : gw' = gw ∨ w.heap.size ≤ gw') (h2 : m ≤ d') (h3 : d' ≤ maxLen) :
    RTurn M M' x gr c gw w (.returned (.tuple #[rV M'.gt gr n c gw' m d', x])) (putB u (w.heap.size + 1) M'.gt gr n c gw' m d') := by
  subst hn hm
  exact ⟨gw', d', rfl, hw.fr (putB_fr _ _ _ _ _ _ _ _ _) (fun e => hw.ne_ h (by decide) e.symm), h1, h2, h3, putB_below hb (by omega) hb.size _ _ _ _ _ _ _⟩
set_option maxHeartbeats 2000000 in
set_option maxRecDepth 10000 in
theorem refPut_any {w : World} {gr c gw d : Nat} {M : Mm} (h : Rm w gr c gw d M) (ok : MOk M) (a x : Int) (ha : 0 ≤ a ∧ a ≤ 4294967295) :
    Calls Tryz.prog 20 #[rV M.gt gr M.pg.length c gw M.ws.length d, .int .u32 a, .int .u32 x] w (RTurn M (putM M a x) (.int .i64 (putE M a)) gr c gw w) := by
  have h16 := ok.w16
  have h256 := ok.p256
  have hm : M.ws.length ≤ 4096 := by omega
  obtain ⟨hb0, hs0, B1, B2⟩ := tW_facts w M.gt gr M.pg.length c gw M.ws.length d
  have CT := Lib.hid (refThere_any M.gt gr M.pg.length c gw M.ws.length d hm a ha)
  rw [show decide (80 ≤ a ∧ a < 80 + (M.ws.length : Int)) = thereB M a from rfl] at CT
  have HWR := Lib.hid h.wr
  have hd1 := h.d1
  have hd2 := h.d2
  have EN := Lib.hid (fun (u : World) (M' : Mm) (x : Value) (gw' d' : Nat) (cs : Array Value) => turn_end (w := w) (u := u) (M := M) (M' := M') (x := x) (gr := gr) (c := c) (gw := gw) (gw' := gw') (d' := d') (cs := cs) rfl rfl)
  unfold putM putE
  cases ht : thereB M a
  · simp only [Bool.false_eq_true, if_false]
    rw [if_neg (by omega)]
    rw [ht] at CT
    clear h ok h16 h256 ht
    have EN2 := Lib.hid (fun u => EN.out u M (.int .i64 11) gw d)
    clear EN
    generalize M.pg.length = n at *
    generalize M.ws.length = m at *
    generalize hG : M.gt = G at *
    go_enter Tryz.func20, Tryz.ntmps20
    go_wp2_with (go_at_call 58; (with_reducible refine (CT.out.at _).mono ?_); rintro e w1 ⟨rfl, hb⟩; obtain ⟨c0, c1, c2, c3, c4, c5, c6, c7, c8, c9⟩ := box_cells (B1.belowS hb); obtain ⟨⟨v0, v1, v2, v3, v4, v5, v6, v7, v8, v9, e0, e1, e2, e3, e4, e5, e6, e7, e8, e9⟩, f0, f1, f2, f3, f4, f5, f6, f7, f8, f9⟩ := box_open (B2.belowS hb) rfl; have l2 := (B2.belowS hb).lt)
    rw [putB_eq]
    have B3 := B2.belowS hb
    obtain ⟨p0, p1, p2, p3, p4, p5, p6, p7, p8, p9⟩ := box_cells (putB_whole B3 rfl G gr n c gw m d)
    refine bodyPost_ret (v := .tuple #[rV G gr n c gw m d, .int .i64 11]) (by simp [results, Tryz.results20, go_sem, p0, p1, p2, p3, p4, p5, p6, p7, p8, p9]) rfl ?_
    subst hG
    exact EN2.out _ _ (below_of hb0 hb) B3 ((HWR.out.belowS hb0).belowS hb) (by simp) hd1 hd2
  · simp only [if_true]
    rw [ht] at CT
    have CO := Lib.hid (fun w => refPageOf_any a ha w)
    have CG := Lib.hid (fun u (hb : Below w.heap.size w u) => refGet_any (c := c) (h.belowS hb).row h256 (pageOf a))
    rw [show gP M.pg (pageOf a) = pageAt M a from rfl] at CG
    have CW := Lib.hid (fun u (hb : Below w.heap.size w u) => with_any (h.belowS hb) ok a x ht ha.2)
    have hgt : (setW M a x).gt = M.gt := rfl
    unfold RWith at CW
    have EN2 := Lib.hid (fun u => EN.out u M (.int .i64 9) gw d)
    have EN3 := Lib.hid (fun u => EN.out u (setW M a x) (.int .i64 0))
    clear EN h ok h16 h256 ht
    generalize setW M a x = M' at *
    generalize pageOf a = i at *
    generalize pageAt M a = q at *
    obtain ⟨st, ex, wr, ow, epp⟩ := q
    change Hid (∀ u, Below w.heap.size w u → Calls _ _ _ u fun e w' => e = .returned (pgV st ex wr ow epp) ∧ _) at CG
    show Calls _ _ _ _ (RTurn M (if (if st = 1 then (0 : Int) else 9) = 0 then M' else M) (.int .i64 (if st = 1 then 0 else 9)) gr c gw w)
    generalize M.pg.length = n at *
    generalize M.ws.length = m at *
    rw [hgt] at CW EN3
    generalize hG : M.gt = G at *
    have b8 := B1.cell 8
    simp only [List.getElem?_toArray, List.getElem?_cons_zero, List.getElem?_cons_succ] at b8
    have hfd : ∀ u : World, (Instr.field 107 (pgV st ex wr ow epp) 0).run Tryz.prog u = .ok (.int .u8 st) u := fun _ => by kernel_rfl
    by_cases hs : st = 1
    · subst hs
      rw [if_pos rfl, if_pos rfl]
      go_enter Tryz.func20, Tryz.ntmps20
      go_wp2_with (go_at_call 58; (with_reducible refine (CT.out.at _).mono ?_); rintro e w1 ⟨rfl, hb⟩; obtain ⟨c0, c1, c2, c3, c4, c5, c6, c7, c8, c9⟩ := box_cells (B1.belowS hb))
      have b1 := (hb.cell (p := ⟨w.heap.size, 8, none⟩) (by simp; omega)).trans b8
      have b1d : w1.drew.cell? ⟨w.heap.size, 8, none⟩ = some (.slice (some ⟨gr, 0, none⟩) n c) := b1
      have hb1 := below_of hb0 hb
      have hbd := hb1.drew
      go_region_held3 (fun u => u.cell? ⟨w.heap.size, 8, none⟩ = some (.slice (some ⟨gr, 0, none⟩) n c))
        (first | with_reducible exact b1d | with_reducible exact b2)
        (first | (go_at_call 60; (with_reducible refine (CO.out _).mono ?_); rintro e w5 ⟨rfl, rfl⟩) | (go_at_call 59; (with_reducible refine (CG.out _ hbd).mono ?_); rintro e w2 ⟨rfl, hb2⟩; have hb12 := below_of hb (below_drew_next hb2); have b2 := (hb12.cell (p := ⟨w.heap.size, 8, none⟩) (by simp; omega)).trans b8))
      rename_i hHeld
      clear hHeld
      have B13 := B1.belowS hb12
      have B23 := B2.belowS hb12
      have hC2 := below_of hb0 hb12
      have HW2 := Lib.hid ((HWR.out.belowS hb0).belowS hb12)
      clear c0 c1 c2 c3 c4 c5 c6 c7 c8 c9 b1 b1d b2 hb hb1 hbd hb2 hb12 B1 B2 b8 hb0 hs0
      obtain ⟨c0, c1, c2, c3, c4, c5, c6, c7, c8, c9⟩ := box_cells B13
      go_wp2_with (go_at_call 61; (with_reducible refine (CW.out _ hC2).mono ?_); rintro e w3 ⟨g', d', rfl, hw3, hg3, hd3, hd4, hb3⟩; obtain ⟨⟨v0, v1, v2, v3, v4, v5, v6, v7, v8, v9, e0, e1, e2, e3, e4, e5, e6, e7, e8, e9⟩, f0, f1, f2, f3, f4, f5, f6, f7, f8, f9⟩ := box_open (B23.belowS hb3) rfl; have l2 := (B23.belowS hb3).lt; have HW3 := Lib.hid hw3; clear hw3)
      rw [putB_eq]
      have B33 := B23.belowS hb3
      obtain ⟨p0, p1, p2, p3, p4, p5, p6, p7, p8, p9⟩ := box_cells (putB_whole B33 rfl G gr n c g' m d')
      refine bodyPost_ret (v := .tuple #[rV G gr n c g' m d', .int .i64 0]) (by simp [results, Tryz.results20, go_sem, p0, p1, p2, p3, p4, p5, p6, p7, p8, p9]) rfl ?_
      exact EN3.out _ _ _ _ (below_of hC2 hb3) B33 HW3.out (Or.inr (Nat.le_trans hC2.size hg3)) hd3 hd4
    · rw [if_neg hs, if_neg (by omega)]
      have hs' : (st != 1) = true := by simpa using hs
      clear hs
      go_enter Tryz.func20, Tryz.ntmps20
      go_wp2_with (go_at_call 58; (with_reducible refine (CT.out.at _).mono ?_); rintro e w1 ⟨rfl, hb⟩; obtain ⟨c0, c1, c2, c3, c4, c5, c6, c7, c8, c9⟩ := box_cells (B1.belowS hb))
      have b1 := (hb.cell (p := ⟨w.heap.size, 8, none⟩) (by simp; omega)).trans b8
      have b1d : w1.drew.cell? ⟨w.heap.size, 8, none⟩ = some (.slice (some ⟨gr, 0, none⟩) n c) := b1
      have hb1 := below_of hb0 hb
      have hbd := hb1.drew
      go_region_held3 (fun u => u.cell? ⟨w.heap.size, 8, none⟩ = some (.slice (some ⟨gr, 0, none⟩) n c))
        (first | with_reducible exact b1d | with_reducible exact b2)
        (first | (go_at_call 60; (with_reducible refine (CO.out _).mono ?_); rintro e w5 ⟨rfl, rfl⟩) | (go_at_call 59; (with_reducible refine (CG.out _ hbd).mono ?_); rintro e w2 ⟨rfl, hb2⟩; have hb12 := below_of hb (below_drew_next hb2); have b2 := (hb12.cell (p := ⟨w.heap.size, 8, none⟩) (by simp; omega)).trans b8))
      rename_i hHeld
      clear hHeld
      have B13 := B1.belowS hb12
      have B23 := B2.belowS hb12
      have hC2 := below_of hb0 hb12
      have HW2 := Lib.hid ((HWR.out.belowS hb0).belowS hb12)
      clear c0 c1 c2 c3 c4 c5 c6 c7 c8 c9 b1 b1d b2 hb hb1 hbd hb2 hb12 B1 B2 b8 hb0 hs0
      obtain ⟨c0, c1, c2, c3, c4, c5, c6, c7, c8, c9⟩ := box_cells B13
      obtain ⟨⟨v0, v1, v2, v3, v4, v5, v6, v7, v8, v9, e0, e1, e2, e3, e4, e5, e6, e7, e8, e9⟩, f0, f1, f2, f3, f4, f5, f6, f7, f8, f9⟩ := box_open B23 rfl
      have l2 := B23.lt
      go_wp2_with fail
      rw [putB_eq]
      obtain ⟨p0, p1, p2, p3, p4, p5, p6, p7, p8, p9⟩ := box_cells (putB_whole B23 rfl G gr n c gw m d)
      refine bodyPost_ret (v := .tuple #[rV G gr n c gw m d, .int .i64 9]) (by simp [results, Tryz.results20, go_sem, p0, p1, p2, p3, p4, p5, p6, p7, p8, p9]) rfl ?_
      subst hG
      exact EN2.out _ _ hC2 B23 HW2.out (by simp) hd1 hd2
set_option maxHeartbeats 2000000 in
set_option maxRecDepth 10000 in
theorem refSetGate_any {w : World} {gr c gw d : Nat} {M : Mm} (h : Rm w gr c gw d M) (i b : Int) :
    Calls Tryz.prog 24 #[rV M.gt gr M.pg.length c gw M.ws.length d, .int .i64 i, .int .u32 b] w (RTurn M (setM M i b) (.int .i64 (setE i)) gr c gw w) := by
  have HWR := Lib.hid h.wr
  have hd1 := h.d1
  have hd2 := h.d2
  clear h
  by_cases hi : 0 ≤ i ∧ i < 8
  · have e : setE i = 0 := by unfold setE; rw [if_neg (by omega)]
    rw [show setM M i b = ⟨setG M.gt i.toNat b, M.pg, M.ws⟩ by unfold setM; rw [e, if_pos rfl], e]
    unfold RTurn
    simp only
    generalize M.pg.length = n at *
    generalize M.ws.length = m at *
    generalize M.gt = G at *
    rcases (show i = 0 ∨ i = 1 ∨ i = 2 ∨ i = 3 ∨ i = 4 ∨ i = 5 ∨ i = 6 ∨ i = 7 by omega) with rfl | rfl | rfl | rfl | rfl | rfl | rfl | rfl <;> clear hi e
    all_goals
      go_enter Tryz.func24, Tryz.ntmps24
      go_wp2_with fail
      refine bodyPost_ret (v := .tuple #[rV (setG G _ b) gr n c gw m d, .int .i64 0]) (by simp [results, Tryz.results24, go_sem, setG]) rfl ⟨gw, d, rfl, (HWR.out.alloc _).alloc _, Or.inl rfl, hd1, hd2, (below_new _ _).alloc (by simp) _⟩
  · have e : setE i = 2 := by unfold setE; rw [if_pos (by omega)]
    rw [show setM M i b = M by unfold setM; rw [e, if_neg (by omega)], e]
    unfold RTurn
    generalize M.pg.length = n at *
    generalize M.ws.length = m at *
    generalize M.gt = G at *
    have h7 : i < 0 ∨ 7 < i := by omega
    clear hi e
    rcases h7 with h7 | h7
    all_goals
      go_enter Tryz.func24, Tryz.ntmps24
      go_wp2_with fail
      refine bodyPost_ret (v := .tuple #[rV G gr n c gw m d, .int .i64 2]) (by simp [results, Tryz.results24, go_sem]) rfl ⟨gw, d, rfl, (HWR.out.alloc _).alloc _, Or.inl rfl, hd1, hd2, (below_new _ _).alloc (by simp) _⟩
end Go.Proofs.YtihcellcdkhadaaGreat.MF
