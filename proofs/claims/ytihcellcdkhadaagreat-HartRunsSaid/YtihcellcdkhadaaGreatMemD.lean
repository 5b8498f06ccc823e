/-
  Joined texts: MemSto, MemRNew. Nothing here is a statement of the seed.
-/
import Derived.Test.YtihcellcdkhadaaGreatMemC
import Derived.BigRegion
set_option linter.unusedSimpArgs false
set_option linter.unusedVariables false
/-
  Words stored into the reference's memory. Nothing here is a statement of the seed.
-/
namespace Go.Proofs.YtihcellcdkhadaaGreat.MF
open Go.RowKit PM PR PF MM MR

set_option maxHeartbeats 2000000 in
set_option maxRecDepth 10000 in
theorem refStore_any {w : World} {gr c gw d : Nat} {M : Mm} (h : Rm w gr c gw d M) (ok : MOk M) (a x ep o : Int) (ha : 0 ≤ a ∧ a ≤ 4294967295) :
    Calls Tryz.prog 40 #[rV M.gt gr M.pg.length c gw M.ws.length d, .int .u32 a, .int .u32 x, .int .u64 ep, .int .u16 o] w (RTurn M (stoM M a x ep o) (.bool (stoB M a ep o)) gr c gw w) := by
  have h16 := ok.w16
  have h256 := ok.p256
  have hm : M.ws.length ≤ 4096 := by omega
  obtain ⟨hb0, hs0, B1, B2⟩ := tW_facts w M.gt gr M.pg.length c gw M.ws.length d
  have CT := Lib.hid (refThere_any M.gt gr M.pg.length c gw M.ws.length d hm a ha)
  rw [show decide (80 ≤ a ∧ a < 80 + (M.ws.length : Int)) = thereB M a from rfl] at CT
  have HWR := Lib.hid h.wr
  have hd1 := h.d1
  have hd2 := h.d2
  have EN := Lib.hid (fun (u : World) (M' : Mm) (x : Value) (gw' d' : Nat) (cs : Array Value) => turn_end (w := w) (u := u) (M := M) (M' := M') (x := x) (gr := gr) (c := c) (gw := gw) (gw' := gw') (d' := d') (cs := cs) rfl rfl)
  unfold stoM stoB
  have hl1 := B1.lt
  cases ht : thereB M a
  · simp only [Bool.false_and, Bool.false_eq_true, if_false]
    rw [ht] at CT
    clear h ok h16 h256 ht
    have EN2 := Lib.hid (fun u => EN.out u M (.bool false) gw d)
    clear EN
    generalize M.pg.length = n at *
    generalize M.ws.length = m at *
    generalize hG : M.gt = G at *
    have K00 : RT w.heap.size G gr n c gw m d (tW w G gr n c gw m d) := box_cells B1
    have K0 : RT w.heap.size G gr n c gw m d (tW w G gr n c gw m d).drew := K00
    go_enter Tryz.func40, Tryz.ntmps40
    go_wp2_with fail
    refine wp_region_held_drew (S := fun u => RT w.heap.size G gr n c gw m d u) (by kernel_rfl) K0 (fun hHeld => ?_)
    refine wpAnyH_take (i := 0) (v := ?avv0) rfl (by kernel_rfl) (by kernel_rfl) (by kernel_rfl) (fun _ _ _ h => h) (Or.inl ⟨by rfl, ?ahy0⟩) (by assumption) ?arest0
    case ahy0 =>
      intro u hSu
      obtain ⟨s0, s1, s2, s3, s4, s5, s6, s7, s8, s9⟩ := hSu
      go_simp
      try with_reducible rfl
    try simp only [Act.put, List.getElem_toArray, List.getElem_cons_succ, List.getElem_cons_zero, List.setIfInBounds_toArray, List.set_cons_zero, List.set_cons_succ]
    refine wpAnyH_take (i := 1) (v := ?avv1) rfl (by kernel_rfl) (by kernel_rfl) (by kernel_rfl) (fun _ _ _ h => h) (Or.inl ⟨by rfl, ?ahy1⟩) (by assumption) ?arest1
    case ahy1 =>
      intro u hSu
      obtain ⟨s0, s1, s2, s3, s4, s5, s6, s7, s8, s9⟩ := hSu
      go_simp
      try with_reducible rfl
    try simp only [Act.put, List.getElem_toArray, List.getElem_cons_succ, List.getElem_cons_zero, List.setIfInBounds_toArray, List.set_cons_zero, List.set_cons_succ]
    refine wpAnyH_ready (rs := [2]) (by kernel_rfl) (by simp) ?_
    refine AllReadyH.cons rfl (fun K hK => ?_) AllReadyH.nil
    (go_simp; go_at_call 58; (with_reducible refine (CT.out.at _).mono ?_); rintro e w4 ⟨rfl, hb4⟩; have hB4 := below_drew_next hb4; have K4 := rt_go K00 hl1 hB4)
    refine hK.out _ _ ?ahS2 (fun hHeld => ?arest2)
    case ahS2 => first | exact K7 | exact K6 | exact K4
    clear hK K
    try simp only [Act.put, List.getElem_toArray, List.getElem_cons_succ, List.getElem_cons_zero, List.setIfInBounds_toArray, List.set_cons_zero, List.set_cons_succ]
    refine wpAnyH_take (i := 3) (v := ?avv3) rfl (by kernel_rfl) (by kernel_rfl) (by kernel_rfl) (fun _ _ _ h => h) (Or.inl ⟨by rfl, ?ahy3⟩) (by assumption) ?arest3
    case ahy3 =>
      intro u hSu
      obtain ⟨s0, s1, s2, s3, s4, s5, s6, s7, s8, s9⟩ := hSu
      go_simp
      try with_reducible rfl
    try simp only [Act.put, List.getElem_toArray, List.getElem_cons_succ, List.getElem_cons_zero, List.setIfInBounds_toArray, List.set_cons_zero, List.set_cons_succ]
    refine wpAnyH_take (i := 4) (v := ?avv4) rfl (by kernel_rfl) (by kernel_rfl) (by kernel_rfl) (fun _ _ _ h => h) (Or.inl ⟨by rfl, ?ahy4⟩) (by assumption) ?arest4
    case ahy4 =>
      intro u hSu
      obtain ⟨s0, s1, s2, s3, s4, s5, s6, s7, s8, s9⟩ := hSu
      go_simp
      try with_reducible rfl
    try simp only [Act.put, List.getElem_toArray, List.getElem_cons_succ, List.getElem_cons_zero, List.setIfInBounds_toArray, List.set_cons_zero, List.set_cons_succ]
    refine wpAnyH_take (i := 5) (v := undef) rfl (by kernel_rfl) (by kernel_rfl) (by kernel_rfl) (fun _ _ _ h => h) (Or.inr ⟨by rfl, rfl⟩) (by assumption) ?arest5
    try simp only [Act.put, List.getElem_toArray, List.getElem_cons_succ, List.getElem_cons_zero, List.setIfInBounds_toArray, List.set_cons_zero, List.set_cons_succ]
    refine wpAnyH_take (i := 6) (v := undef) rfl (by kernel_rfl) (by kernel_rfl) (by kernel_rfl) (fun _ _ _ h => h) (Or.inr ⟨by rfl, rfl⟩) (by assumption) ?arest6
    try simp only [Act.put, List.getElem_toArray, List.getElem_cons_succ, List.getElem_cons_zero, List.setIfInBounds_toArray, List.set_cons_zero, List.set_cons_succ]
    refine wpAnyH_take (i := 7) (v := undef) rfl (by kernel_rfl) (by kernel_rfl) (by kernel_rfl) (fun _ _ _ h => h) (Or.inr ⟨by rfl, rfl⟩) (by assumption) ?arest7
    try simp only [Act.put, List.getElem_toArray, List.getElem_cons_succ, List.getElem_cons_zero, List.setIfInBounds_toArray, List.set_cons_zero, List.set_cons_succ]
    refine wpAnyH_take (i := 8) (v := undef) rfl (by kernel_rfl) (by kernel_rfl) (by kernel_rfl) (fun _ _ _ h => h) (Or.inr ⟨by rfl, rfl⟩) (by assumption) ?arest8
    try simp only [Act.put, List.getElem_toArray, List.getElem_cons_succ, List.getElem_cons_zero, List.setIfInBounds_toArray, List.set_cons_zero, List.set_cons_succ]
    refine wpAnyH_take (i := 9) (v := undef) rfl (by kernel_rfl) (by kernel_rfl) (by kernel_rfl) (fun _ _ _ h => h) (Or.inr ⟨by rfl, rfl⟩) (by assumption) ?arest9
    try simp only [Act.put, List.getElem_toArray, List.getElem_cons_succ, List.getElem_cons_zero, List.setIfInBounds_toArray, List.set_cons_zero, List.set_cons_succ]
    refine wpAnyH_take (i := 10) (v := undef) rfl (by kernel_rfl) (by kernel_rfl) (by kernel_rfl) (fun _ _ _ h => h) (Or.inr ⟨by rfl, rfl⟩) (by assumption) ?arest10
    try simp only [Act.put, List.getElem_toArray, List.getElem_cons_succ, List.getElem_cons_zero, List.setIfInBounds_toArray, List.set_cons_zero, List.set_cons_succ]
    refine wpAnyH_take (i := 11) (v := undef) rfl (by kernel_rfl) (by kernel_rfl) (by kernel_rfl) (fun _ _ _ h => h) (Or.inr ⟨by rfl, rfl⟩) (by assumption) ?arest11
    try simp only [Act.put, List.getElem_toArray, List.getElem_cons_succ, List.getElem_cons_zero, List.setIfInBounds_toArray, List.set_cons_zero, List.set_cons_succ]
    refine wpAnyH_take (i := 12) (v := undef) rfl (by kernel_rfl) (by kernel_rfl) (by kernel_rfl) (fun _ _ _ h => h) (Or.inr ⟨by rfl, rfl⟩) (by assumption) ?arest12
    try simp only [Act.put, List.getElem_toArray, List.getElem_cons_succ, List.getElem_cons_zero, List.setIfInBounds_toArray, List.set_cons_zero, List.set_cons_succ]
    refine wpAnyH_take (i := 13) (v := undef) rfl (by kernel_rfl) (by kernel_rfl) (by kernel_rfl) (fun _ _ _ h => h) (Or.inr ⟨by rfl, rfl⟩) (by assumption) ?arest13
    try simp only [Act.put, List.getElem_toArray, List.getElem_cons_succ, List.getElem_cons_zero, List.setIfInBounds_toArray, List.set_cons_zero, List.set_cons_succ]
    refine wpAnyH_take (i := 14) (v := ?avv14) rfl (by kernel_rfl) (by kernel_rfl) (by kernel_rfl) (fun _ _ _ h => h) (Or.inl ⟨by rfl, ?ahy14⟩) (by assumption) ?arest14
    case ahy14 =>
      intro u hSu
      obtain ⟨s0, s1, s2, s3, s4, s5, s6, s7, s8, s9⟩ := hSu
      go_simp
      try with_reducible rfl
    try simp only [Act.put, List.getElem_toArray, List.getElem_cons_succ, List.getElem_cons_zero, List.setIfInBounds_toArray, List.set_cons_zero, List.set_cons_succ]
    refine wpAnyH_done (by kernel_rfl) ?_ _
    have B24 := B2.belowS hB4
    obtain ⟨c0, c1, c2, c3, c4, c5, c6, c7, c8, c9⟩ := K4
    obtain ⟨⟨v0, v1, v2, v3, v4, v5, v6, v7, v8, v9, e0, e1, e2, e3, e4, e5, e6, e7, e8, e9⟩, f0, f1, f2, f3, f4, f5, f6, f7, f8, f9⟩ := box_open B24 rfl
    have l2 := B24.lt
    go_wp2_with fail
    rw [putB_eq]
    obtain ⟨p0, p1, p2, p3, p4, p5, p6, p7, p8, p9⟩ := box_cells (putB_whole B24 rfl G gr n c gw m d)
    refine bodyPost_ret (v := .tuple #[rV G gr n c gw m d, .bool false]) (by simp [results, Tryz.results40, go_sem, p0, p1, p2, p3, p4, p5, p6, p7, p8, p9]) rfl ?_
    subst hG
    exact EN2.out _ _ (below_of hb0 hB4) B24 ((HWR.out.belowS hb0).belowS hB4) (by simp) hd1 hd2
  · simp only [Bool.true_and]
    rw [ht] at CT
    have CO := Lib.hid (fun w => refPageOf_any a ha w)
    have CG := Lib.hid (fun u (hb : Below w.heap.size w u) => refGet_any (c := c) (h.belowS hb).row h256 (pageOf a))
    rw [show gP M.pg (pageOf a) = pageAt M a from rfl] at CG
    have CR := Lib.hid (refWrites_any (pageAt M a) ep o)
    have CW := Lib.hid (fun u (hb : Below w.heap.size w u) => with_any (h.belowS hb) ok a x ht ha.2)
    have hgt : (setW M a x).gt = M.gt := rfl
    unfold RWith at CW
    have EN2 := Lib.hid (fun u => EN.out u M (.bool false) gw d)
    have EN3 := Lib.hid (fun u => EN.out u (setW M a x) (.bool true))
    clear EN h ok h16 h256 ht
    generalize setW M a x = M' at *
    generalize pageOf a = i at *
    generalize writesB (pageAt M a) ep o = b at *
    generalize hM2 : (if b = true then M' else M) = M2
    have HM2 := Lib.hid hM2
    clear hM2
    generalize pageAt M a = q at *
    obtain ⟨st, ex, wr, ow, epp⟩ := q
    change Hid (∀ u, Below w.heap.size w u → Calls _ _ _ u fun e w' => e = .returned (pgV st ex wr ow epp) ∧ _) at CG
    change Hid (Says _ _ #[pgV st ex wr ow epp, _, _] _) at CR
    generalize M.pg.length = n at *
    generalize M.ws.length = m at *
    rw [hgt] at CW EN3
    generalize hG : M.gt = G at *
    have K00 : RT w.heap.size G gr n c gw m d (tW w G gr n c gw m d) := box_cells B1
    have K0 : RT w.heap.size G gr n c gw m d (tW w G gr n c gw m d).drew := K00
    go_enter Tryz.func40, Tryz.ntmps40
    go_wp2_with fail
    refine wp_region_held_drew (S := fun u => RT w.heap.size G gr n c gw m d u) (by kernel_rfl) K0 (fun hHeld => ?_)
    refine wpAnyH_take (i := 0) (v := ?bvv0) rfl (by kernel_rfl) (by kernel_rfl) (by kernel_rfl) (fun _ _ _ h => h) (Or.inl ⟨by rfl, ?bhy0⟩) (by assumption) ?brest0
    case bhy0 =>
      intro u hSu
      obtain ⟨s0, s1, s2, s3, s4, s5, s6, s7, s8, s9⟩ := hSu
      go_simp
      try with_reducible rfl
    try simp only [Act.put, List.getElem_toArray, List.getElem_cons_succ, List.getElem_cons_zero, List.setIfInBounds_toArray, List.set_cons_zero, List.set_cons_succ]
    refine wpAnyH_take (i := 1) (v := ?bvv1) rfl (by kernel_rfl) (by kernel_rfl) (by kernel_rfl) (fun _ _ _ h => h) (Or.inl ⟨by rfl, ?bhy1⟩) (by assumption) ?brest1
    case bhy1 =>
      intro u hSu
      obtain ⟨s0, s1, s2, s3, s4, s5, s6, s7, s8, s9⟩ := hSu
      go_simp
      try with_reducible rfl
    try simp only [Act.put, List.getElem_toArray, List.getElem_cons_succ, List.getElem_cons_zero, List.setIfInBounds_toArray, List.set_cons_zero, List.set_cons_succ]
    refine wpAnyH_ready (rs := [2]) (by kernel_rfl) (by simp) ?_
    refine AllReadyH.cons rfl (fun K hK => ?_) AllReadyH.nil
    (go_simp; go_at_call 58; (with_reducible refine (CT.out.at _).mono ?_); rintro e w4 ⟨rfl, hb4⟩; have hB4 := below_drew_next hb4; have hC4 := below_of hb0 hB4; have K4 := rt_go K00 hl1 hB4)
    refine hK.out _ _ ?bhS2 (fun hHeld => ?brest2)
    case bhS2 => first | exact K7 | exact K6 | exact K4
    clear hK K
    try simp only [Act.put, List.getElem_toArray, List.getElem_cons_succ, List.getElem_cons_zero, List.setIfInBounds_toArray, List.set_cons_zero, List.set_cons_succ]
    refine wpAnyH_take (i := 3) (v := ?bvv3) rfl (by kernel_rfl) (by kernel_rfl) (by kernel_rfl) (fun _ _ _ h => h) (Or.inl ⟨by rfl, ?bhy3⟩) (by assumption) ?brest3
    case bhy3 =>
      intro u hSu
      obtain ⟨s0, s1, s2, s3, s4, s5, s6, s7, s8, s9⟩ := hSu
      go_simp
      try with_reducible rfl
    try simp only [Act.put, List.getElem_toArray, List.getElem_cons_succ, List.getElem_cons_zero, List.setIfInBounds_toArray, List.set_cons_zero, List.set_cons_succ]
    refine wpAnyH_take (i := 4) (v := ?bvv4) rfl (by kernel_rfl) (by kernel_rfl) (by kernel_rfl) (fun _ _ _ h => h) (Or.inl ⟨by rfl, ?bhy4⟩) (by assumption) ?brest4
    case bhy4 =>
      intro u hSu
      obtain ⟨s0, s1, s2, s3, s4, s5, s6, s7, s8, s9⟩ := hSu
      go_simp
      try with_reducible rfl
    try simp only [Act.put, List.getElem_toArray, List.getElem_cons_succ, List.getElem_cons_zero, List.setIfInBounds_toArray, List.set_cons_zero, List.set_cons_succ]
    refine wpAnyH_take (i := 5) (v := ?bvv5) rfl (by kernel_rfl) (by kernel_rfl) (by kernel_rfl) (fun _ _ _ h => h) (Or.inl ⟨by rfl, ?bhy5⟩) (by assumption) ?brest5
    case bhy5 =>
      intro u hSu
      obtain ⟨s0, s1, s2, s3, s4, s5, s6, s7, s8, s9⟩ := hSu
      go_simp
      try with_reducible rfl
    try simp only [Act.put, List.getElem_toArray, List.getElem_cons_succ, List.getElem_cons_zero, List.setIfInBounds_toArray, List.set_cons_zero, List.set_cons_succ]
    refine wpAnyH_take (i := 6) (v := ?bvv6) rfl (by kernel_rfl) (by kernel_rfl) (by kernel_rfl) (fun _ _ _ h => h) (Or.inl ⟨by rfl, ?bhy6⟩) (by assumption) ?brest6
    case bhy6 =>
      intro u hSu
      obtain ⟨s0, s1, s2, s3, s4, s5, s6, s7, s8, s9⟩ := hSu
      go_simp
      try with_reducible rfl
    try simp only [Act.put, List.getElem_toArray, List.getElem_cons_succ, List.getElem_cons_zero, List.setIfInBounds_toArray, List.set_cons_zero, List.set_cons_succ]
    refine wpAnyH_take (i := 7) (v := ?bvv7) rfl (by kernel_rfl) (by kernel_rfl) (by kernel_rfl) (fun _ _ _ h => h) (Or.inl ⟨by rfl, ?bhy7⟩) (by assumption) ?brest7
    case bhy7 =>
      intro u hSu
      obtain ⟨s0, s1, s2, s3, s4, s5, s6, s7, s8, s9⟩ := hSu
      go_simp
      try with_reducible rfl
    try simp only [Act.put, List.getElem_toArray, List.getElem_cons_succ, List.getElem_cons_zero, List.setIfInBounds_toArray, List.set_cons_zero, List.set_cons_succ]
    refine wpAnyH_take (i := 10) (v := ?bvv10) rfl (by kernel_rfl) (by kernel_rfl) (by kernel_rfl) (fun _ _ _ h => h) (Or.inl ⟨by rfl, ?bhy10⟩) (by assumption) ?brest10
    case bhy10 =>
      intro u hSu
      obtain ⟨s0, s1, s2, s3, s4, s5, s6, s7, s8, s9⟩ := hSu
      go_simp
      try with_reducible rfl
    try simp only [Act.put, List.getElem_toArray, List.getElem_cons_succ, List.getElem_cons_zero, List.setIfInBounds_toArray, List.set_cons_zero, List.set_cons_succ]
    refine wpAnyH_take (i := 11) (v := ?bvv11) rfl (by kernel_rfl) (by kernel_rfl) (by kernel_rfl) (fun _ _ _ h => h) (Or.inl ⟨by rfl, ?bhy11⟩) (by assumption) ?brest11
    case bhy11 =>
      intro u hSu
      obtain ⟨s0, s1, s2, s3, s4, s5, s6, s7, s8, s9⟩ := hSu
      go_simp
      try with_reducible rfl
    try simp only [Act.put, List.getElem_toArray, List.getElem_cons_succ, List.getElem_cons_zero, List.setIfInBounds_toArray, List.set_cons_zero, List.set_cons_succ]
    refine wpAnyH_ready (rs := [8]) (by kernel_rfl) (by simp) ?_
    refine AllReadyH.cons rfl (fun K hK => ?_) AllReadyH.nil
    (go_simp; go_at_call 60; (with_reducible refine (CO.out _).mono ?_); rintro e w5 ⟨rfl, rfl⟩)
    refine hK.out _ _ ?bhS8 (fun hHeld => ?brest8)
    case bhS8 => first | exact K7 | exact K6 | exact K4
    clear hK K
    try simp only [Act.put, List.getElem_toArray, List.getElem_cons_succ, List.getElem_cons_zero, List.setIfInBounds_toArray, List.set_cons_zero, List.set_cons_succ]
    refine wpAnyH_ready (rs := [9]) (by kernel_rfl) (by simp) ?_
    refine AllReadyH.cons rfl (fun K hK => ?_) AllReadyH.nil
    (go_simp; go_at_call 59; (with_reducible refine (CG.out _ hC4).mono ?_); rintro e w6 ⟨rfl, hb6⟩; have hB6 := below_of hB4 hb6; have K6 := rt_go K00 hl1 hB6)
    refine hK.out _ _ ?bhS9 (fun hHeld => ?brest9)
    case bhS9 => first | exact K7 | exact K6 | exact K4
    clear hK K
    try simp only [Act.put, List.getElem_toArray, List.getElem_cons_succ, List.getElem_cons_zero, List.setIfInBounds_toArray, List.set_cons_zero, List.set_cons_succ]
    refine wpAnyH_ready (rs := [12]) (by kernel_rfl) (by simp) ?_
    refine AllReadyH.cons rfl (fun K hK => ?_) AllReadyH.nil
    (go_simp; go_at_call 92; (with_reducible refine (CR.out.at _).mono ?_); rintro e w7 ⟨rfl, hb7⟩; have hB7 := below_of hB6 hb7; have hC7 := below_of hb0 hB7; have K7 := rt_go K00 hl1 hB7)
    refine hK.out _ _ ?bhS12 (fun hHeld => ?brest12)
    case bhS12 => first | exact K7 | exact K6 | exact K4
    clear hK K
    try simp only [Act.put, List.getElem_toArray, List.getElem_cons_succ, List.getElem_cons_zero, List.setIfInBounds_toArray, List.set_cons_zero, List.set_cons_succ]
    refine wpAnyH_take (i := 13) (v := ?bvv13) rfl (by kernel_rfl) (by kernel_rfl) (by kernel_rfl) (fun _ _ _ h => h) (Or.inl ⟨by rfl, ?bhy13⟩) (by assumption) ?brest13
    case bhy13 =>
      intro u hSu
      obtain ⟨s0, s1, s2, s3, s4, s5, s6, s7, s8, s9⟩ := hSu
      go_simp
      try with_reducible rfl
    try simp only [Act.put, List.getElem_toArray, List.getElem_cons_succ, List.getElem_cons_zero, List.setIfInBounds_toArray, List.set_cons_zero, List.set_cons_succ]
    refine wpAnyH_take (i := 14) (v := ?bvv14) rfl (by kernel_rfl) (by kernel_rfl) (by kernel_rfl) (fun _ _ _ h => h) (Or.inl ⟨by rfl, ?bhy14⟩) (by assumption) ?brest14
    case bhy14 =>
      intro u hSu
      obtain ⟨s0, s1, s2, s3, s4, s5, s6, s7, s8, s9⟩ := hSu
      go_simp
      try with_reducible rfl
    try simp only [Act.put, List.getElem_toArray, List.getElem_cons_succ, List.getElem_cons_zero, List.setIfInBounds_toArray, List.set_cons_zero, List.set_cons_succ]
    refine wpAnyH_done (by kernel_rfl) ?_ _
    have B27 := B2.belowS hB7
    obtain ⟨c0, c1, c2, c3, c4, c5, c6, c7, c8, c9⟩ := K7
    clear K0 K00 K4 K6 B1 B2
    cases b
    · obtain ⟨⟨v0, v1, v2, v3, v4, v5, v6, v7, v8, v9, e0, e1, e2, e3, e4, e5, e6, e7, e8, e9⟩, f0, f1, f2, f3, f4, f5, f6, f7, f8, f9⟩ := box_open B27 rfl
      have l2 := B27.lt
      go_wp2_with fail
      obtain rfl : M = M2 := HM2.out
      rw [putB_eq]
      obtain ⟨p0, p1, p2, p3, p4, p5, p6, p7, p8, p9⟩ := box_cells (putB_whole B27 rfl G gr n c gw m d)
      refine bodyPost_ret (v := .tuple #[rV G gr n c gw m d, .bool false]) (by simp [results, Tryz.results40, go_sem, p0, p1, p2, p3, p4, p5, p6, p7, p8, p9]) rfl ?_
      subst hG
      exact EN2.out _ _ hC7 B27 ((HWR.out.belowS hb0).belowS hB7) (by simp) hd1 hd2
    · go_wp2_with (go_at_call 61; (with_reducible refine (CW.out _ hC7).mono ?_); rintro e w3 ⟨g', d', rfl, hw3, hg3, hd3, hd4, hb3⟩; obtain ⟨⟨v0, v1, v2, v3, v4, v5, v6, v7, v8, v9, e0, e1, e2, e3, e4, e5, e6, e7, e8, e9⟩, f0, f1, f2, f3, f4, f5, f6, f7, f8, f9⟩ := box_open (B27.belowS hb3) rfl; have l2 := (B27.belowS hb3).lt; have HW3 := Lib.hid hw3; clear hw3)
      obtain rfl : M' = M2 := HM2.out
      rw [putB_eq]
      have B33 := B27.belowS hb3
      obtain ⟨p0, p1, p2, p3, p4, p5, p6, p7, p8, p9⟩ := box_cells (putB_whole B33 rfl G gr n c g' m d')
      refine bodyPost_ret (v := .tuple #[rV G gr n c g' m d', .bool true]) (by simp [results, Tryz.results40, go_sem, p0, p1, p2, p3, p4, p5, p6, p7, p8, p9]) rfl ?_
      exact EN3.out _ _ _ _ (below_of hC7 hb3) B33 HW3.out (Or.inr (Nat.le_trans hC7.size hg3)) hd3 hd4
end Go.Proofs.YtihcellcdkhadaaGreat.MF

/-
  A new memory: the reference's. Nothing here is a statement of the seed.
-/
namespace Go.Proofs.YtihcellcdkhadaaGreat.MF
open Go.RowKit PM PR PF MM MR

/-- a memory told, all of its blocks new -/
def NewRm (M : Mm) (w : World) (e : Ending) (w' : World) : Prop := ∃ gr c gw d, e = .returned (rV M.gt gr M.pg.length c gw M.ws.length d) ∧ Rm w' gr c gw d M ∧ w.heap.size ≤ gr ∧ w.heap.size ≤ gw ∧ Below w.heap.size w w'
theorem made_zero (n : Nat) : (madeCells (Value.int .u32 0).cells (n * 1)) = (wcs (List.replicate n 0)).toArray := by
  have := made_words n
  rw [← this]
theorem make_words (n : Nat) (hn : n ≤ 4096) (X : Int) (hX : X = (n : Int)) (u : World) : (Instr.makeSlice 22 (.int .i64 X) (.int .i64 X)).run Tryz.prog u = .ok (.slice (some ⟨u.heap.size, 0, none⟩) n n) (u.alloc (.cells (wcs (List.replicate n 0)).toArray 23)) := by
  subst hX
  obtain ⟨i0, hi, hz0, hz1, hz2⟩ := info_parts infoU32
  have := run_make (P := Tryz.prog) u 22 23 i0 _ Tryz.underlying22 hi hz0 .i64 .i64 n n (by omega) (Int.le_refl _) (by rw [hz2]; omega) (by omega)
  rw [hz1, Int.toNat_natCast, made_zero] at this
  exact this
theorem putZ_eq (w : World) (b : Nat) (gr n c gw m d : Nat) : (((((((((w.setCell ⟨b, 0, none⟩ (.int .u32 0)).setCell ⟨b, 1, none⟩ (.int .u32 0)).setCell ⟨b, 2, none⟩ (.int .u32 0)).setCell ⟨b, 3, none⟩ (.int .u32 0)).setCell ⟨b, 4, none⟩ (.int .u32 0)).setCell ⟨b, 5, none⟩ (.int .u32 0)).setCell ⟨b, 6, none⟩ (.int .u32 0)).setCell ⟨b, 7, none⟩ (.int .u32 0)).setCell ⟨b, 8, none⟩ (.slice (some ⟨gr, 0, none⟩) n c)).setCell ⟨b, 9, none⟩ (.slice (some ⟨gw, 0, none⟩) m d) = putB w b (fun _ => 0) gr n c gw m d := putB_eq w b (fun _ => 0) gr n c gw m d
theorem drew_whole {w : World} {b : Nat} {t : TypeId} {cs : Array Value} (h : Whole w b t cs) : Whole w.drew b t cs := h
theorem drew_rm {w : World} {gr c gw d : Nat} {M : Mm} (h : Rm w gr c gw d M) : Rm w.drew gr c gw d M := ⟨h.row, h.wr, h.c1, h.c2, h.d1, h.d2⟩
set_option maxHeartbeats 400000 in
set_option maxRecDepth 10000 in
theorem newR_any (k : Int) (w : World) : Calls Tryz.prog 15 #[.int .i64 k] w (NewRm (newM (min (max k 0) 256).toNat) w) := by
  have CN := Lib.hid (fun u => refNew_any k u)
  have hN : (min (max k 0) 256).toNat ≤ 256 := by omega
  generalize (min (max k 0) 256).toNat = n at *
  have hn1 : (n : Int) ≤ 256 := by omega
  have hn0 : (0 : Int) ≤ n := by omega
  have hX : IntKind.i64.wrap (16 * (n : Int)) = ((n * 16 : Nat) : Int) := by rw [IntKind.wrap_i64]; omega
  have hmk := make_words (n * 16) (by omega) _ hX
  have hmk2 := make_words (n * 16) (by omega) (16 * (n : Int)) (by omega)
  clear hX
  have B2 := Whole.new w 36 zCs
  have hb0 := below_new w (.cells zCs 36)
  go_enter Tryz.func15, Tryz.ntmps15
  go_wp2_with (go_at_call 52; (with_reducible refine (CN.out _).mono ?_); rintro e w1 ⟨g, c, rfl, hR, hg, hb⟩; have B3 := B2.belowS hb; obtain ⟨⟨v0, v1, v2, v3, v4, v5, v6, v7, v8, v9, e0, e1, e2, e3, e4, e5, e6, e7, e8, e9⟩, f0, f1, f2, f3, f4, f5, f6, f7, f8, f9⟩ := box_open B3 rfl; have l2 := B3.lt; have HR := Lib.hid hR; clear hR)
  go_region
  rw [putZ_eq]
  have BP : Whole (((putB w1 w.heap.size (fun _ => 0) g n c (w1.heap.size + 1) (n * 16) (n * 16)).alloc (.cells #[.slice (some ⟨g, 0, none⟩) n c] 34)).alloc (.cells (wcs (List.replicate (n * 16) 0)).toArray 23)).drew w.heap.size 36 (rCs (fun _ => 0) g n c (w1.heap.size + 1) (n * 16) (n * 16)) := drew_whole (((putB_whole B3 rfl (fun _ => 0) g n c (w1.heap.size + 1) (n * 16) (n * 16)).alloc _).alloc _)
  have hF := putB_fr w1 w.heap.size (fun _ => 0) g n c (w1.heap.size + 1) (n * 16) (n * 16)
  have hs : (putB w1 w.heap.size (fun _ => 0) g n c (w1.heap.size + 1) (n * 16) (n * 16)).heap.size = w1.heap.size := by simp [putB, World.setCells]
  have hB := (((putB_below (b := w.heap.size) (below_of hb0 hb) (Nat.le_refl _) (Nat.le_of_lt l2) (fun _ => 0) g n c (w1.heap.size + 1) (n * 16) (n * 16)).alloc (by rw [hs]; omega) (.cells #[.slice (some ⟨g, 0, none⟩) n c] 34)).alloc (by simp [hs]; omega) (.cells (wcs (List.replicate (n * 16) 0)).toArray 23)).drew
  obtain ⟨r1, r2, c2, r3, r4, r5⟩ := HR.out
  simp only [Value.slice.injEq, true_and] at r5
  obtain ⟨_, rfl⟩ := r5
  have hgB : g ≠ w.heap.size := by simp at hg; omega
  have HQ : Hid (Rm ((((putB w1 w.heap.size (fun _ => 0) g n c (w1.heap.size + 1) (n * 16) (n * 16)).alloc (.cells #[.slice (some ⟨g, 0, none⟩) n c] 34)).alloc (.cells (wcs (List.replicate (n * 16) 0)).toArray 23)).drew) g c (w1.heap.size + 1) (n * 16) (newM n)) := Lib.hid (drew_rm
    ⟨((r2.fr hF hgB).alloc _).alloc _, ⟨[], by
      have := Whole.new ((putB w1 w.heap.size (fun _ => 0) g n c (w1.heap.size + 1) (n * 16) (n * 16)).alloc (.cells #[.slice (some ⟨g, 0, none⟩) n c] 34)) 23 (wcs (List.replicate (n * 16) 0)).toArray
      rw [World.size_alloc, hs] at this
      rw [List.append_nil]
      exact this⟩, r3, r4, by simp [newM], by unfold maxLen; omega⟩)
  clear r1 r2 r3 hF B3 e0 e1 e2 e3 e4 e5 e6 e7 e8 e9 f0 f1 f2 f3 f4 f5 f6 f7 f8 f9 hmk hmk2
  have hl : (newM n).ws.length = n * 16 ∧ (newM n).pg.length = n ∧ (newM n).gt = fun _ => 0 := by simp [newM, zeros]
  obtain ⟨hl1, hl2, hl3⟩ := hl
  generalize (((putB w1 w.heap.size (fun _ => 0) g n c (w1.heap.size + 1) (n * 16) (n * 16)).alloc (.cells #[.slice (some ⟨g, 0, none⟩) n c] 34)).alloc (.cells (wcs (List.replicate (n * 16) 0)).toArray 23)).drew = wz at *
  obtain ⟨p0, p1, p2, p3, p4, p5, p6, p7, p8, p9⟩ := box_cells BP
  go_wp2_with fail
  refine bodyPost_ret (v := rV (fun _ => 0) g n c (w1.heap.size + 1) (n * 16) (n * 16)) (by simp [results, Tryz.results15, go_sem, p0, p1, p2, p3, p4, p5, p6, p7, p8, p9]) rfl ?_
  unfold NewRm
  rw [hl1, hl2, hl3]
  exact ⟨g, c, w1.heap.size + 1, n * 16, rfl, HQ.out, by simp at hg; omega, by omega, hB⟩
end Go.Proofs.YtihcellcdkhadaaGreat.MF
