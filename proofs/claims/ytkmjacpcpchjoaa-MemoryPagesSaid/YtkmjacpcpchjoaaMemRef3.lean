/-
  Words loaded from the reference's memory. Nothing here is a statement of the seed.
-/
import Derived.Test.YtkmjacpcpchjoaaMemRef2
import Derived.Deep.RegionHeld3
set_option linter.unusedSimpArgs false
set_option linter.unusedVariables false
namespace Go.Proofs.Ytkmjacpcpchjoaa.MF
open Go.RowKit PM PR PF MM MR

abbrev RT (b : Nat) (G : Nat → Int) (gr n c gw m d : Nat) (w : World) : Prop :=
  w.cell? ⟨b, 0, none⟩ = some (.int .u32 (G 0)) ∧ w.cell? ⟨b, 1, none⟩ = some (.int .u32 (G 1)) ∧ w.cell? ⟨b, 2, none⟩ = some (.int .u32 (G 2)) ∧ w.cell? ⟨b, 3, none⟩ = some (.int .u32 (G 3)) ∧ w.cell? ⟨b, 4, none⟩ = some (.int .u32 (G 4)) ∧ w.cell? ⟨b, 5, none⟩ = some (.int .u32 (G 5)) ∧
    w.cell? ⟨b, 6, none⟩ = some (.int .u32 (G 6)) ∧ w.cell? ⟨b, 7, none⟩ = some (.int .u32 (G 7)) ∧ w.cell? ⟨b, 8, none⟩ = some (.slice (some ⟨gr, 0, none⟩) n c) ∧ w.cell? ⟨b, 9, none⟩ = some (.slice (some ⟨gw, 0, none⟩) m d)
theorem rt_go {w u : World} {b : Nat} {G : Nat → Int} {gr n c gw m d : Nat} (h : RT b G gr n c gw m d w) (h1 : b < w.heap.size) (hb : Below w.heap.size w u) : RT b G gr n c gw m d u := by
  have c := fun i => hb.cell (p := ⟨b, i, none⟩) h1
  obtain ⟨c0, c1, c2, c3, c4, c5, c6, c7, c8, c9⟩ := h
  exact ⟨(c _).trans c0, (c _).trans c1, (c _).trans c2, (c _).trans c3, (c _).trans c4, (c _).trans c5, (c _).trans c6, (c _).trans c7, (c _).trans c8, (c _).trans c9⟩
section
variable {w : World} {gr c gw d : Nat} {M : Mm}
set_option maxHeartbeats 2000000 in
theorem refLoad_any (h : Rm w gr c gw d M) (ok : MOk M) (a ep : Int) (ha : 0 ≤ a ∧ a ≤ 4294967295) : Calls Try.prog 42 #[rV M.gt gr M.pg.length c gw M.ws.length d, .int .u32 a, .int .u64 ep] w fun e w' =>
    e = .returned (.tuple #[.int .u32 (loadW M a ep), .bool (loadB M a ep)]) ∧ Below w.heap.size w w' := by
  have h16 := ok.w16
  have h256 := ok.p256
  have hm : M.ws.length ≤ 4096 := by omega
  have hb0 := below_new w (.cells (rCs M.gt gr M.pg.length c gw M.ws.length d) 33)
  have BW := Whole.new w 33 (rCs M.gt gr M.pg.length c gw M.ws.length d)
  have CP := Lib.hid (fun u (hb : Below w.heap.size w u) => refPeek_any (h.belowS hb) ok a ha)
  by_cases h1 : a < 80
  · rw [show loadB M a ep = true by simp [loadB, h1], show loadW M a ep = peek M a by simp [loadW, loadB, h1]]
    clear h ok h16
    generalize peek M a = x at *
    generalize M.pg.length = n at *
    generalize M.ws.length = m at *
    generalize M.gt = G at *
    go_enter Try.func42, Try.ntmps42
    go_wp2_with fail
    obtain ⟨c0, c1, c2, c3, c4, c5, c6, c7, c8, c9⟩ := box_cells BW
    have d1 : decide (a < 80) = true := decide_eq_true h1
    have hbd := hb0.drew
    generalize hWW : w.alloc (.cells (rCs G gr n c gw m d) 33) = W at *
    clear hWW
    go_quiet (fail)
    have hbq := IF.below_drewN hb0 nq
    go_wp2_with (go_at_call 37; (with_reducible refine (CP.out _ hbq).mono ?_); rintro e w1 ⟨rfl, hb⟩)
    exact bodyPost_ret (v := .tuple #[.int .u32 x, .bool true]) (by simp [results, Try.results42, go_sem]) rfl ⟨rfl, below_of hbq hb⟩
  · have hB : loadB M a ep = (thereB M a && seenB (pageAt M a) ep) := by simp [loadB, h1]
    unfold loadW
    rw [hB]
    have CO := Lib.hid (fun w => refPageOf_any a ha w)
    have CG := Lib.hid (fun u (hb : Below w.heap.size w u) => refGet_any (c := c) (h.belowS hb).row h256 (pageOf a))
    rw [show gP M.pg (pageOf a) = pageAt M a from rfl] at CG
    have CR := Lib.hid (refReads_any (pageAt M a) ep)
    have CT := Lib.hid (refThere_any M.gt gr M.pg.length c gw M.ws.length d hm a ha)
    rw [show decide (80 ≤ a ∧ a < 80 + (M.ws.length : Int)) = thereB M a from rfl] at CT
    clear h ok h16 hB h256 hm
    generalize peek M a = x at *
    generalize pageOf a = i at *
    generalize seenB (pageAt M a) ep = b at *
    generalize thereB M a = bt at *
    generalize pageAt M a = q at *
    generalize M.pg.length = n at *
    generalize M.ws.length = m at *
    generalize M.gt = G at *
    obtain ⟨st, ex, wr, ow, epp⟩ := q
    change Hid (∀ u, Below w.heap.size w u → Calls _ _ _ u fun e w' => e = .returned (pgV st ex wr ow epp) ∧ _) at CG
    change Hid (Says _ _ #[pgV st ex wr ow epp, _] _) at CR
    go_enter Try.func42, Try.ntmps42
    go_wp2_with fail
    obtain ⟨c0, c1, c2, c3, c4, c5, c6, c7, c8, c9⟩ := box_cells BW
    have d1 : decide (a < 80) = false := decide_eq_false (by omega)
    have hbd := hb0.drew
    have hbl := BW.lt
    generalize hWW : w.alloc (.cells (rCs G gr n c gw m d) 33) = W at *
    clear hWW
    have K00 : RT w.heap.size G gr n c gw m d W := ⟨c0, c1, c2, c3, c4, c5, c6, c7, c8, c9⟩
    have K0 : RT w.heap.size G gr n c gw m d W.drew := K00
    clear c0 c1 c2 c3 c4 c5 c6 c7 c8 c9
    cases bt
    · refine wp_region_held_drew (S := fun u => RT w.heap.size G gr n c gw m d u) (by kernel_rfl) K0 (fun hHeld => ?_)
      refine wpAnyH_take (i := 0) (v := ?avv0) rfl (by kernel_rfl) (by kernel_rfl) (by kernel_rfl) (fun _ _ _ h => h) (Or.inl ⟨by rfl, ?ahy0⟩) (by assumption) ?arest0
      case ahy0 =>
        intro u hSu
        obtain ⟨s0, s1, s2, s3, s4, s5, s6, s7, s8, s9⟩ := hSu
        go_simp
        try with_reducible rfl
      try simp only [Act.put, List.getElem_toArray, List.getElem_cons_succ, List.getElem_cons_zero, List.setIfInBounds_toArray, List.set_cons_zero, List.set_cons_succ]
      refine wpAnyH_take (i := 1) (v := ?avv1) rfl (by kernel_rfl) (by kernel_rfl) (by kernel_rfl) (fun _ _ _ h => h) (Or.inl ⟨by rfl, ?ahy1⟩) (by assumption) ?arest1
      case ahy1 =>
        intro u hSu
        obtain ⟨s0, s1, s2, s3, s4, s5, s6, s7, s8, s9⟩ := hSu
        go_simp
        try with_reducible rfl
      try simp only [Act.put, List.getElem_toArray, List.getElem_cons_succ, List.getElem_cons_zero, List.setIfInBounds_toArray, List.set_cons_zero, List.set_cons_succ]
      refine wpAnyH_take (i := 2) (v := ?avv2) rfl (by kernel_rfl) (by kernel_rfl) (by kernel_rfl) (fun _ _ _ h => h) (Or.inl ⟨by rfl, ?ahy2⟩) (by assumption) ?arest2
      case ahy2 =>
        intro u hSu
        obtain ⟨s0, s1, s2, s3, s4, s5, s6, s7, s8, s9⟩ := hSu
        go_simp
        try with_reducible rfl
      try simp only [Act.put, List.getElem_toArray, List.getElem_cons_succ, List.getElem_cons_zero, List.setIfInBounds_toArray, List.set_cons_zero, List.set_cons_succ]
      refine wpAnyH_take (i := 3) (v := ?avv3) rfl (by kernel_rfl) (by kernel_rfl) (by kernel_rfl) (fun _ _ _ h => h) (Or.inl ⟨by rfl, ?ahy3⟩) (by assumption) ?arest3
      case ahy3 =>
        intro u hSu
        obtain ⟨s0, s1, s2, s3, s4, s5, s6, s7, s8, s9⟩ := hSu
        go_simp
        try with_reducible rfl
      try simp only [Act.put, List.getElem_toArray, List.getElem_cons_succ, List.getElem_cons_zero, List.setIfInBounds_toArray, List.set_cons_zero, List.set_cons_succ]
      refine wpAnyH_take (i := 4) (v := ?avv4) rfl (by kernel_rfl) (by kernel_rfl) (by kernel_rfl) (fun _ _ _ h => h) (Or.inl ⟨by rfl, ?ahy4⟩) (by assumption) ?arest4
      case ahy4 =>
        intro u hSu
        obtain ⟨s0, s1, s2, s3, s4, s5, s6, s7, s8, s9⟩ := hSu
        go_simp
        try with_reducible rfl
      try simp only [Act.put, List.getElem_toArray, List.getElem_cons_succ, List.getElem_cons_zero, List.setIfInBounds_toArray, List.set_cons_zero, List.set_cons_succ]
      refine wpAnyH_ready (rs := [5]) (by kernel_rfl) (by simp) ?_
      refine AllReadyH.cons rfl (fun K hK => ?_) AllReadyH.nil
      (go_simp; go_at_call 56; (with_reducible refine (CT.out.at _).mono ?_); rintro e w4 ⟨rfl, hb4⟩; have hB4 := below_drew_next hb4; have K4 := rt_go K00 hbl hB4)
      refine hK.out _ _ ?ahS5 (fun hHeld => ?arest5)
      case ahS5 => first | exact K7 | exact K6 | exact K4
      clear hK K
      try simp only [Act.put, List.getElem_toArray, List.getElem_cons_succ, List.getElem_cons_zero, List.setIfInBounds_toArray, List.set_cons_zero, List.set_cons_succ]
      refine wpAnyH_take (i := 6) (v := ?avv6) rfl (by kernel_rfl) (by kernel_rfl) (by kernel_rfl) (fun _ _ _ h => h) (Or.inl ⟨by rfl, ?ahy6⟩) (by assumption) ?arest6
      case ahy6 =>
        intro u hSu
        obtain ⟨s0, s1, s2, s3, s4, s5, s6, s7, s8, s9⟩ := hSu
        go_simp
        try with_reducible rfl
      try simp only [Act.put, List.getElem_toArray, List.getElem_cons_succ, List.getElem_cons_zero, List.setIfInBounds_toArray, List.set_cons_zero, List.set_cons_succ]
      refine wpAnyH_take (i := 7) (v := undef) rfl (by kernel_rfl) (by kernel_rfl) (by kernel_rfl) (fun _ _ _ h => h) (Or.inr ⟨by rfl, rfl⟩) (by assumption) ?arest7
      try simp only [Act.put, List.getElem_toArray, List.getElem_cons_succ, List.getElem_cons_zero, List.setIfInBounds_toArray, List.set_cons_zero, List.set_cons_succ]
      refine wpAnyH_take (i := 8) (v := undef) rfl (by kernel_rfl) (by kernel_rfl) (by kernel_rfl) (fun _ _ _ h => h) (Or.inr ⟨by rfl, rfl⟩) (by assumption) ?arest8
      try simp only [Act.put, List.getElem_toArray, List.getElem_cons_succ, List.getElem_cons_zero, List.setIfInBounds_toArray, List.set_cons_zero, List.set_cons_succ]
      refine wpAnyH_take (i := 9) (v := undef) rfl (by kernel_rfl) (by kernel_rfl) (by kernel_rfl) (fun _ _ _ h => h) (Or.inr ⟨by rfl, rfl⟩) (by assumption) ?arest9
      try simp only [Act.put, List.getElem_toArray, List.getElem_cons_succ, List.getElem_cons_zero, List.setIfInBounds_toArray, List.set_cons_zero, List.set_cons_succ]
      refine wpAnyH_take (i := 10) (v := undef) rfl (by kernel_rfl) (by kernel_rfl) (by kernel_rfl) (fun _ _ _ h => h) (Or.inr ⟨by rfl, rfl⟩) (by assumption) ?arest10
      try simp only [Act.put, List.getElem_toArray, List.getElem_cons_succ, List.getElem_cons_zero, List.setIfInBounds_toArray, List.set_cons_zero, List.set_cons_succ]
      refine wpAnyH_take (i := 11) (v := undef) rfl (by kernel_rfl) (by kernel_rfl) (by kernel_rfl) (fun _ _ _ h => h) (Or.inr ⟨by rfl, rfl⟩) (by assumption) ?arest11
      try simp only [Act.put, List.getElem_toArray, List.getElem_cons_succ, List.getElem_cons_zero, List.setIfInBounds_toArray, List.set_cons_zero, List.set_cons_succ]
      refine wpAnyH_take (i := 12) (v := undef) rfl (by kernel_rfl) (by kernel_rfl) (by kernel_rfl) (fun _ _ _ h => h) (Or.inr ⟨by rfl, rfl⟩) (by assumption) ?arest12
      try simp only [Act.put, List.getElem_toArray, List.getElem_cons_succ, List.getElem_cons_zero, List.setIfInBounds_toArray, List.set_cons_zero, List.set_cons_succ]
      refine wpAnyH_take (i := 13) (v := undef) rfl (by kernel_rfl) (by kernel_rfl) (by kernel_rfl) (fun _ _ _ h => h) (Or.inr ⟨by rfl, rfl⟩) (by assumption) ?arest13
      try simp only [Act.put, List.getElem_toArray, List.getElem_cons_succ, List.getElem_cons_zero, List.setIfInBounds_toArray, List.set_cons_zero, List.set_cons_succ]
      refine wpAnyH_take (i := 14) (v := ?avv14) rfl (by kernel_rfl) (by kernel_rfl) (by kernel_rfl) (fun _ _ _ h => h) (Or.inl ⟨by rfl, ?ahy14⟩) (by assumption) ?arest14
      case ahy14 =>
        intro u hSu
        obtain ⟨s0, s1, s2, s3, s4, s5, s6, s7, s8, s9⟩ := hSu
        go_simp
        try with_reducible rfl
      try simp only [Act.put, List.getElem_toArray, List.getElem_cons_succ, List.getElem_cons_zero, List.setIfInBounds_toArray, List.set_cons_zero, List.set_cons_succ]
      refine wpAnyH_take (i := 15) (v := ?avv15) rfl (by kernel_rfl) (by kernel_rfl) (by kernel_rfl) (fun _ _ _ h => h) (Or.inl ⟨by rfl, ?ahy15⟩) (by assumption) ?arest15
      case ahy15 =>
        intro u hSu
        obtain ⟨s0, s1, s2, s3, s4, s5, s6, s7, s8, s9⟩ := hSu
        go_simp
        try with_reducible rfl
      try simp only [Act.put, List.getElem_toArray, List.getElem_cons_succ, List.getElem_cons_zero, List.setIfInBounds_toArray, List.set_cons_zero, List.set_cons_succ]
      refine wpAnyH_done (by kernel_rfl) ?_ _
      go_wp2_with fail
      exact bodyPost_ret (v := .tuple #[.int .u32 0, .bool false]) (by simp [results, Try.results42, go_sem]) rfl ⟨rfl, below_of hb0 hB4⟩
    · refine wp_region_held_drew (S := fun u => RT w.heap.size G gr n c gw m d u) (by kernel_rfl) K0 (fun hHeld => ?_)
      refine wpAnyH_take (i := 0) (v := ?bvv0) rfl (by kernel_rfl) (by kernel_rfl) (by kernel_rfl) (fun _ _ _ h => h) (Or.inl ⟨by rfl, ?bhy0⟩) (by assumption) ?brest0
      case bhy0 =>
        intro u hSu
        obtain ⟨s0, s1, s2, s3, s4, s5, s6, s7, s8, s9⟩ := hSu
        go_simp
        try with_reducible rfl
      try simp only [Act.put, List.getElem_toArray, List.getElem_cons_succ, List.getElem_cons_zero, List.setIfInBounds_toArray, List.set_cons_zero, List.set_cons_succ]
      refine wpAnyH_take (i := 1) (v := ?bvv1) rfl (by kernel_rfl) (by kernel_rfl) (by kernel_rfl) (fun _ _ _ h => h) (Or.inl ⟨by rfl, ?bhy1⟩) (by assumption) ?brest1
      case bhy1 =>
        intro u hSu
        obtain ⟨s0, s1, s2, s3, s4, s5, s6, s7, s8, s9⟩ := hSu
        go_simp
        try with_reducible rfl
      try simp only [Act.put, List.getElem_toArray, List.getElem_cons_succ, List.getElem_cons_zero, List.setIfInBounds_toArray, List.set_cons_zero, List.set_cons_succ]
      refine wpAnyH_take (i := 2) (v := ?bvv2) rfl (by kernel_rfl) (by kernel_rfl) (by kernel_rfl) (fun _ _ _ h => h) (Or.inl ⟨by rfl, ?bhy2⟩) (by assumption) ?brest2
      case bhy2 =>
        intro u hSu
        obtain ⟨s0, s1, s2, s3, s4, s5, s6, s7, s8, s9⟩ := hSu
        go_simp
        try with_reducible rfl
      try simp only [Act.put, List.getElem_toArray, List.getElem_cons_succ, List.getElem_cons_zero, List.setIfInBounds_toArray, List.set_cons_zero, List.set_cons_succ]
      refine wpAnyH_take (i := 3) (v := ?bvv3) rfl (by kernel_rfl) (by kernel_rfl) (by kernel_rfl) (fun _ _ _ h => h) (Or.inl ⟨by rfl, ?bhy3⟩) (by assumption) ?brest3
      case bhy3 =>
        intro u hSu
        obtain ⟨s0, s1, s2, s3, s4, s5, s6, s7, s8, s9⟩ := hSu
        go_simp
        try with_reducible rfl
      try simp only [Act.put, List.getElem_toArray, List.getElem_cons_succ, List.getElem_cons_zero, List.setIfInBounds_toArray, List.set_cons_zero, List.set_cons_succ]
      refine wpAnyH_take (i := 4) (v := ?bvv4) rfl (by kernel_rfl) (by kernel_rfl) (by kernel_rfl) (fun _ _ _ h => h) (Or.inl ⟨by rfl, ?bhy4⟩) (by assumption) ?brest4
      case bhy4 =>
        intro u hSu
        obtain ⟨s0, s1, s2, s3, s4, s5, s6, s7, s8, s9⟩ := hSu
        go_simp
        try with_reducible rfl
      try simp only [Act.put, List.getElem_toArray, List.getElem_cons_succ, List.getElem_cons_zero, List.setIfInBounds_toArray, List.set_cons_zero, List.set_cons_succ]
      refine wpAnyH_ready (rs := [5]) (by kernel_rfl) (by simp) ?_
      refine AllReadyH.cons rfl (fun K hK => ?_) AllReadyH.nil
      (go_simp; go_at_call 56; (with_reducible refine (CT.out.at _).mono ?_); rintro e w4 ⟨rfl, hb4⟩; have hB4 := below_drew_next hb4; have hC4 := below_of hb0 hB4; have K4 := rt_go K00 hbl hB4)
      refine hK.out _ _ ?bhS5 (fun hHeld => ?brest5)
      case bhS5 => first | exact K7 | exact K6 | exact K4
      clear hK K
      try simp only [Act.put, List.getElem_toArray, List.getElem_cons_succ, List.getElem_cons_zero, List.setIfInBounds_toArray, List.set_cons_zero, List.set_cons_succ]
      refine wpAnyH_take (i := 6) (v := ?bvv6) rfl (by kernel_rfl) (by kernel_rfl) (by kernel_rfl) (fun _ _ _ h => h) (Or.inl ⟨by rfl, ?bhy6⟩) (by assumption) ?brest6
      case bhy6 =>
        intro u hSu
        obtain ⟨s0, s1, s2, s3, s4, s5, s6, s7, s8, s9⟩ := hSu
        go_simp
        try with_reducible rfl
      try simp only [Act.put, List.getElem_toArray, List.getElem_cons_succ, List.getElem_cons_zero, List.setIfInBounds_toArray, List.set_cons_zero, List.set_cons_succ]
      refine wpAnyH_take (i := 7) (v := ?bvv7) rfl (by kernel_rfl) (by kernel_rfl) (by kernel_rfl) (fun _ _ _ h => h) (Or.inl ⟨by rfl, ?bhy7⟩) (by assumption) ?brest7
      case bhy7 =>
        intro u hSu
        obtain ⟨s0, s1, s2, s3, s4, s5, s6, s7, s8, s9⟩ := hSu
        go_simp
        try with_reducible rfl
      try simp only [Act.put, List.getElem_toArray, List.getElem_cons_succ, List.getElem_cons_zero, List.setIfInBounds_toArray, List.set_cons_zero, List.set_cons_succ]
      refine wpAnyH_take (i := 8) (v := ?bvv8) rfl (by kernel_rfl) (by kernel_rfl) (by kernel_rfl) (fun _ _ _ h => h) (Or.inl ⟨by rfl, ?bhy8⟩) (by assumption) ?brest8
      case bhy8 =>
        intro u hSu
        obtain ⟨s0, s1, s2, s3, s4, s5, s6, s7, s8, s9⟩ := hSu
        go_simp
        try with_reducible rfl
      try simp only [Act.put, List.getElem_toArray, List.getElem_cons_succ, List.getElem_cons_zero, List.setIfInBounds_toArray, List.set_cons_zero, List.set_cons_succ]
      refine wpAnyH_take (i := 9) (v := ?bvv9) rfl (by kernel_rfl) (by kernel_rfl) (by kernel_rfl) (fun _ _ _ h => h) (Or.inl ⟨by rfl, ?bhy9⟩) (by assumption) ?brest9
      case bhy9 =>
        intro u hSu
        obtain ⟨s0, s1, s2, s3, s4, s5, s6, s7, s8, s9⟩ := hSu
        go_simp
        try with_reducible rfl
      try simp only [Act.put, List.getElem_toArray, List.getElem_cons_succ, List.getElem_cons_zero, List.setIfInBounds_toArray, List.set_cons_zero, List.set_cons_succ]
      refine wpAnyH_take (i := 12) (v := ?bvv12) rfl (by kernel_rfl) (by kernel_rfl) (by kernel_rfl) (fun _ _ _ h => h) (Or.inl ⟨by rfl, ?bhy12⟩) (by assumption) ?brest12
      case bhy12 =>
        intro u hSu
        obtain ⟨s0, s1, s2, s3, s4, s5, s6, s7, s8, s9⟩ := hSu
        go_simp
        try with_reducible rfl
      try simp only [Act.put, List.getElem_toArray, List.getElem_cons_succ, List.getElem_cons_zero, List.setIfInBounds_toArray, List.set_cons_zero, List.set_cons_succ]
      refine wpAnyH_ready (rs := [10]) (by kernel_rfl) (by simp) ?_
      refine AllReadyH.cons rfl (fun K hK => ?_) AllReadyH.nil
      (go_simp; go_at_call 16; (with_reducible refine (CO.out _).mono ?_); rintro e w5 ⟨rfl, rfl⟩)
      refine hK.out _ _ ?bhS10 (fun hHeld => ?brest10)
      case bhS10 => first | exact K7 | exact K6 | exact K4
      clear hK K
      try simp only [Act.put, List.getElem_toArray, List.getElem_cons_succ, List.getElem_cons_zero, List.setIfInBounds_toArray, List.set_cons_zero, List.set_cons_succ]
      refine wpAnyH_ready (rs := [11]) (by kernel_rfl) (by simp) ?_
      refine AllReadyH.cons rfl (fun K hK => ?_) AllReadyH.nil
      (go_simp; go_at_call 58; (with_reducible refine (CG.out _ hC4).mono ?_); rintro e w6 ⟨rfl, hb6⟩; have hB6 := below_of hB4 hb6; have K6 := rt_go K00 hbl hB6)
      refine hK.out _ _ ?bhS11 (fun hHeld => ?brest11)
      case bhS11 => first | exact K7 | exact K6 | exact K4
      clear hK K
      try simp only [Act.put, List.getElem_toArray, List.getElem_cons_succ, List.getElem_cons_zero, List.setIfInBounds_toArray, List.set_cons_zero, List.set_cons_succ]
      refine wpAnyH_ready (rs := [13]) (by kernel_rfl) (by simp) ?_
      refine AllReadyH.cons rfl (fun K hK => ?_) AllReadyH.nil
      (go_simp; go_at_call 74; (with_reducible refine (CR.out.at _).mono ?_); rintro e w7 ⟨rfl, hb7⟩; have hB7 := below_of hB6 hb7; have hC7 := below_of hb0 hB7; have K7 := rt_go K00 hbl hB7)
      refine hK.out _ _ ?bhS13 (fun hHeld => ?brest13)
      case bhS13 => first | exact K7 | exact K6 | exact K4
      clear hK K
      try simp only [Act.put, List.getElem_toArray, List.getElem_cons_succ, List.getElem_cons_zero, List.setIfInBounds_toArray, List.set_cons_zero, List.set_cons_succ]
      refine wpAnyH_take (i := 14) (v := ?bvv14) rfl (by kernel_rfl) (by kernel_rfl) (by kernel_rfl) (fun _ _ _ h => h) (Or.inl ⟨by rfl, ?bhy14⟩) (by assumption) ?brest14
      case bhy14 =>
        intro u hSu
        obtain ⟨s0, s1, s2, s3, s4, s5, s6, s7, s8, s9⟩ := hSu
        go_simp
        try with_reducible rfl
      try simp only [Act.put, List.getElem_toArray, List.getElem_cons_succ, List.getElem_cons_zero, List.setIfInBounds_toArray, List.set_cons_zero, List.set_cons_succ]
      refine wpAnyH_take (i := 15) (v := ?bvv15) rfl (by kernel_rfl) (by kernel_rfl) (by kernel_rfl) (fun _ _ _ h => h) (Or.inl ⟨by rfl, ?bhy15⟩) (by assumption) ?brest15
      case bhy15 =>
        intro u hSu
        obtain ⟨s0, s1, s2, s3, s4, s5, s6, s7, s8, s9⟩ := hSu
        go_simp
        try with_reducible rfl
      try simp only [Act.put, List.getElem_toArray, List.getElem_cons_succ, List.getElem_cons_zero, List.setIfInBounds_toArray, List.set_cons_zero, List.set_cons_succ]
      refine wpAnyH_done (by kernel_rfl) ?_ _
      cases b
      · go_wp2_with fail
        exact bodyPost_ret (v := .tuple #[.int .u32 0, .bool false]) (by simp [results, Try.results42, go_sem]) rfl ⟨rfl, hC7⟩
      · obtain ⟨c0, c1, c2, c3, c4, c5, c6, c7, c8, c9⟩ := K7
        go_wp2_with (go_at_call 37; (with_reducible refine (CP.out _ hC7).mono ?_); rintro e w8 ⟨rfl, hb8⟩)
        exact bodyPost_ret (v := .tuple #[.int .u32 x, .bool true]) (by simp [results, Try.results42, go_sem]) rfl ⟨rfl, below_of hC7 hb8⟩
end
end Go.Proofs.Ytkmjacpcpchjoaa.MF
