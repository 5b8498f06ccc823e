/-
  What the program's functions of layer 12 tell: plans, places. Nothing here is a statement of the seed.
-/
import Derived.Test.YtijacjcfnilaiaaLayProg
import Derived.Deep.CutRange
set_option linter.unusedSimpArgs false
set_option linter.unusedVariables false
namespace Go.Proofs.Ytijacjcfnilaiaa.YR
open Go.RowKit WM NR OM OR YM
set_option maxHeartbeats 4000000
set_option maxRecDepth 10000
theorem pages_any (c d : Int) (hc : -9223372036854775808 ≤ c ∧ c ≤ 9223372036854775807) (hd : -9223372036854775808 ≤ d ∧ d ≤ 9223372036854775807) (w : World) : Calls Try.prog 11 #[planV c d] w fun e w' => e = .returned (.int .i64 (pgP c d)) ∧ Below w.heap.size w w' := by
  have b0 := below_new w (.cells #[.int .i64 c, .int .i64 d] 28)
  have HX := Lib.hid (Whole.new w 28 #[.int .i64 c, .int .i64 d])
  have HB := Lib.hid b0
  have C := Lib.hid (bounded_any c d hc hd)
  obtain ⟨h1, h2, h3, h4, h5, _⟩ := bnd_pgP c d
  rw [← h1]
  clear b0 hc hd h1
  generalize bndC c d = p at *
  generalize bndD c d = q at *
  have e : IntKind.i64.wrap (p + q) = p + q := by rw [IntKind.wrap_i64]; omega
  go_enter Try.func11, Try.ntmps11
  go_upto_region 1 with fail
  generalize w.alloc (.cells #[.int .i64 c, .int .i64 d] 28) = W at *
  obtain ⟨c0, c1⟩ := two_cells HX.out
  have c6 := HX.out.lt
  go_upto_region 2 with (go_at_call 25; (with_reducible refine (C.out _).mono ?_); rintro e w1 ⟨rfl, hb⟩; have HX1 := Lib.hid (HX.out.belowS hb); have HB1 := Lib.hid (HB.out.trans (hb.mono HB.out.size)); obtain ⟨d0, d1⟩ := two_cells HX1.out; have d6 := HX1.out.lt; have d7 := HX1.out.frozen 0; have d8 := HX1.out.frozen 1; clear hb)
  have HZ : Whole ((w1.setCell ⟨w.heap.size, 0, none⟩ (.int .i64 p)).setCell ⟨w.heap.size, 1, none⟩ (.int .i64 q)) w.heap.size 28 #[.int .i64 p, .int .i64 q] := (HX1.out.set_ 0 (.int .i64 p)).set_ 1 (.int .i64 q)
  have HB2 : Hid (Below w.heap.size w ((w1.setCell ⟨w.heap.size, 0, none⟩ (.int .i64 p)).setCell ⟨w.heap.size, 1, none⟩ (.int .i64 q))) := Lib.hid ((HB1.out.setCell (by simp) _).setCell (by simp) _)
  clear d0 d1 d6 d7 d8 c0 c1 c6 HB HB1 HX1
  generalize ((w1.setCell ⟨w.heap.size, 0, none⟩ (.int .i64 p)).setCell ⟨w.heap.size, 1, none⟩ (.int .i64 q)) = W2 at *
  obtain ⟨z0, z1⟩ := two_cells HZ
  have z6 := HZ.lt
  clear HZ
  go_wp2_with fail
  go_ret
  exact ⟨by first | rfl | simp [e], HB2.out⟩
theorem words_any (c d : Int) (hc : -9223372036854775808 ≤ c ∧ c ≤ 9223372036854775807) (hd : -9223372036854775808 ≤ d ∧ d ≤ 9223372036854775807) (w : World) : Calls Try.prog 13 #[planV c d] w fun e w' => e = .returned (.int .i64 (16 * pgP c d)) ∧ Below w.heap.size w w' := by
  have b0 := below_new w (.cells #[.int .i64 c, .int .i64 d] 28)
  have HX := Lib.hid (Whole.new w 28 #[.int .i64 c, .int .i64 d])
  have HB := Lib.hid b0
  have C := Lib.hid (pages_any c d hc hd)
  have hp := pgP_bd c d
  clear b0 hc hd
  generalize pgP c d = p at *
  have e : IntKind.i64.wrap (16 * p) = 16 * p := by rw [IntKind.wrap_i64]; omega
  go_enter Try.func13, Try.ntmps13
  go_upto_region 1 with fail
  generalize w.alloc (.cells #[.int .i64 c, .int .i64 d] 28) = W at *
  obtain ⟨c0, c1⟩ := two_cells HX.out
  have c6 := HX.out.lt
  go_wp2_with (go_at_call 11; (with_reducible refine (C.out _).mono ?_); rintro e w1 ⟨rfl, hb1⟩)
  go_ret
  exact ⟨by first | rfl | simp [e], HB.out.trans (hb1.mono HB.out.size)⟩
section
variable {w : World} {ea : Option Addr} {en ec : Nat} {ia : Option Addr} {im ic : Nat} {ca : Option Addr} {cn cc : Nat} {da : Option Addr} {dn dc : Nat} {ra : Option Addr} {rn rc : Nat} {m : Md}
theorem of_any (h : RdM (· < w.heap.size) w ea en ec ia im ic ca cn cc da dn dc ra rn rc m) (hl : cn * 4 ≤ 140737488355328 ∧ dn * 4 ≤ 140737488355328) :
    Calls Try.prog 9 #[mV (bs m.name) ea en ec ia im ic ca cn cc da dn dc ra rn rc] w fun e w' => e = .returned (planV ((pgs cn : Nat) : Int) ((pgs dn : Nat) : Int)) ∧ Below w.heap.size w w' := by
  obtain ⟨_, k3, m3⟩ := reads_len h.cd
  obtain ⟨_, k4, m4⟩ := reads_len h.dt
  have HX := Lib.hid (Whole.new w 26 (mCs (bs m.name) ea en ec ia im ic ca cn cc da dn dc ra rn rc))
  have b0 := below_new w (.cells (mCs (bs m.name) ea en ec ia im ic ca cn cc da dn dc ra rn rc) 26)
  have HB := Lib.hid b0
  have hm : maxLen ≤ 9223372036854775807 := by unfold maxLen; omega
  have C1 := Lib.hid (pagesFor_any cn (by omega))
  have C2 := Lib.hid (pagesFor_any dn (by omega))
  clear b0 h hl k3 m3 k4 m4 hm
  generalize bs m.name = x at *
  generalize pgs cn = p at *
  generalize pgs dn = q at *
  go_enter Try.func9, Try.ntmps9
  go_wp2_with fail
  have s0 : (w.alloc (.cells (mCs x ea en ec ia im ic ca cn cc da dn dc ra rn rc) 26)).heap.size = w.heap.size + 1 := by simp
  generalize w.alloc (.cells (mCs x ea en ec ia im ic ca cn cc da dn dc ra rn rc) 26) = W at *
  have HY := Lib.hid (Whole.new W 28 #[.int .i64 0, .int .i64 0])
  have HX2 := Lib.hid (HX.out.belowS (below_new W (.cells #[.int .i64 0, .int .i64 0] 28)))
  obtain ⟨c0, c1, c2, c3, c4, c5⟩ := mod_cells HX2.out
  have c6 := HX2.out.lt
  have d0 := HY.out.cell 0
  have d1 := HY.out.cell 1
  have d2 := HY.out.lt
  have d3 := HY.out.frozen 0
  have d4 := HY.out.frozen 1
  rw [s0] at d0 d1 d2 d3 d4
  go_region_with (first | (go_at_call 23; (with_reducible refine (C1.out _).mono ?_); rintro e w1 ⟨rfl, rfl⟩) | (go_at_call 23; (with_reducible refine (C2.out _).mono ?_); rintro e w1 ⟨rfl, rfl⟩))
  all_goals
    clear d0 d1 d2 d3 d4 c0 c1 c2 c3 c4 c5 c6
    have e0 := (Whole.new W 28 #[.int .i64 (p : Int), .int .i64 (q : Int)]).cell 0
    have e1 := (Whole.new W 28 #[.int .i64 (p : Int), .int .i64 (q : Int)]).cell 1
    rw [s0] at e0 e1
    have hb := Lib.hid (below_new W (.cells #[.int .i64 (p : Int), .int .i64 (q : Int)] 28))
    generalize W.alloc (.cells #[.int .i64 (p : Int), .int .i64 (q : Int)] 28) = U at *
    go_wp2_with fail
    exact bodyPost_ret (v := planV (p : Int) (q : Int)) (by simp [results, Try.results9, go_sem, e0, e1]) rfl ⟨rfl, HB.out.trans ((hb.out.drew).mono HB.out.size)⟩
end
section
variable {w : World} {ea : Option Addr} {en ec : Nat} {ia : Option Addr} {im ic : Nat} {ca : Option Addr} {cn cc : Nat} {da : Option Addr} {dn dc : Nat} {ra : Option Addr} {rn rc : Nat} {m : Md}
theorem spot_any (h : RdM (· < w.heap.size) w ea en ec ia im ic ca cn cc da dn dc ra rn rc m) (hl : cn * 4 ≤ 140737488355328 ∧ dn * 4 ≤ 140737488355328) (i : Int) (hi : -9223372036854775808 ≤ i ∧ i ≤ 9223372036854775807) :
    Calls Try.prog 18 #[mV (bs m.name) ea en ec ia im ic ca cn cc da dn dc ra rn rc, .int .i64 i] w fun e w' => e = .returned (.tuple #[.bool (spV cn dn i).1, .int .i64 (spV cn dn i).2.1, .bool (spV cn dn i).2.2]) ∧ Below w.heap.size w w' := by
  have HX := Lib.hid (Whole.new w 26 (mCs (bs m.name) ea en ec ia im ic ca cn cc da dn dc ra rn rc))
  have b0 := below_new w (.cells (mCs (bs m.name) ea en ec ia im ic ca cn cc da dn dc ra rn rc) 26)
  have HB := Lib.hid b0
  have C1 := Lib.hid (pagesFor_any cn (by omega))
  have hh := pgs_hold cn
  obtain ⟨R, hR⟩ : ∃ R, R = spV cn dn i := ⟨_, rfl⟩
  rw [← hR]
  unfold spV at hR
  clear b0 h
  generalize bs m.name = x at *
  generalize pgs cn = p at *
  have e16 : IntKind.i64.wrap (16 * (p : Int)) = 16 * (p : Int) := by rw [IntKind.wrap_i64]; omega
  by_cases h1 : 0 ≤ i
  · by_cases h2 : i < cn
    · rw [if_pos ⟨h1, h2⟩] at hR
      subst hR
      go_enter Try.func18, Try.ntmps18
      go_upto_region 1 with fail
      generalize w.alloc (.cells (mCs x ea en ec ia im ic ca cn cc da dn dc ra rn rc) 26) = W at *
      obtain ⟨c0, c1, c2, c3, c4, c5⟩ := mod_cells HX.out
      have c6 := HX.out.lt
      go_wp2_with (go_at_call 23; (with_reducible refine (C1.out _).mono ?_); rintro e w1 ⟨rfl, rfl⟩)
      exact bodyPost_ret (v := .tuple #[.bool true, .int .i64 i, .bool true]) (by simp [results, Try.results18, go_sem]) rfl ⟨rfl, HB.out⟩
    · rw [if_neg (fun h => h2 h.2)] at hR
      by_cases h3 : 16 * (p : Int) ≤ i
      · have e3 : IntKind.i64.wrap (i - 16 * (p : Int)) = i - 16 * (p : Int) := by rw [IntKind.wrap_i64]; omega
        by_cases h4 : i - 16 * (p : Int) < dn
        · rw [if_pos ⟨h3, h4⟩] at hR
          subst hR
          have h5 : i - 16 * (p : Int) < (dn : Int) := h4
          generalize hj : i - 16 * (p : Int) = j at *
          go_enter Try.func18, Try.ntmps18
          go_upto_region 1 with fail
          generalize w.alloc (.cells (mCs x ea en ec ia im ic ca cn cc da dn dc ra rn rc) 26) = W at *
          obtain ⟨c0, c1, c2, c3, c4, c5⟩ := mod_cells HX.out
          have c6 := HX.out.lt
          go_wp2_with (go_at_call 23; (with_reducible refine (C1.out _).mono ?_); rintro e w1 ⟨rfl, rfl⟩)
          exact bodyPost_ret (v := .tuple #[.bool false, .int .i64 j, .bool true]) (by simp [results, Try.results18, go_sem]) rfl ⟨rfl, HB.out⟩
        · rw [if_neg (fun h => h4 h.2)] at hR
          subst hR
          generalize hj : i - 16 * (p : Int) = j at *
          go_enter Try.func18, Try.ntmps18
          go_upto_region 1 with fail
          generalize w.alloc (.cells (mCs x ea en ec ia im ic ca cn cc da dn dc ra rn rc) 26) = W at *
          obtain ⟨c0, c1, c2, c3, c4, c5⟩ := mod_cells HX.out
          have c6 := HX.out.lt
          go_wp2_with (go_at_call 23; (with_reducible refine (C1.out _).mono ?_); rintro e w1 ⟨rfl, rfl⟩)
          exact bodyPost_ret (v := .tuple #[.bool false, .int .i64 0, .bool false]) (by simp [results, Try.results18, go_sem]) rfl ⟨rfl, HB.out⟩
      · rw [if_neg (fun h => h3 h.1)] at hR
        subst hR
        go_enter Try.func18, Try.ntmps18
        go_upto_region 1 with fail
        generalize w.alloc (.cells (mCs x ea en ec ia im ic ca cn cc da dn dc ra rn rc) 26) = W at *
        obtain ⟨c0, c1, c2, c3, c4, c5⟩ := mod_cells HX.out
        have c6 := HX.out.lt
        go_wp2_with (go_at_call 23; (with_reducible refine (C1.out _).mono ?_); rintro e w1 ⟨rfl, rfl⟩)
        exact bodyPost_ret (v := .tuple #[.bool false, .int .i64 0, .bool false]) (by simp [results, Try.results18, go_sem]) rfl ⟨rfl, HB.out⟩
  · rw [if_neg (fun h => h1 h.1), if_neg (by omega)] at hR
    subst hR
    have h3 : ¬ 16 * (p : Int) ≤ i := by omega
    go_enter Try.func18, Try.ntmps18
    go_upto_region 1 with fail
    generalize w.alloc (.cells (mCs x ea en ec ia im ic ca cn cc da dn dc ra rn rc) 26) = W at *
    obtain ⟨c0, c1, c2, c3, c4, c5⟩ := mod_cells HX.out
    have c6 := HX.out.lt
    go_wp2_with (go_at_call 23; (with_reducible refine (C1.out _).mono ?_); rintro e w1 ⟨rfl, rfl⟩)
    exact bodyPost_ret (v := .tuple #[.bool false, .int .i64 0, .bool false]) (by simp [results, Try.results18, go_sem]) rfl ⟨rfl, HB.out⟩
end
section
variable {w : World} {ea : Option Addr} {en ec : Nat} {ia : Option Addr} {im ic : Nat} {ca : Option Addr} {cn cc : Nat} {da : Option Addr} {dn dc : Nat} {ra : Option Addr} {rn rc : Nat} {m : Md}
theorem raw_any (h : RdM (· < w.heap.size) w ea en ec ia im ic ca cn cc da dn dc ra rn rc m) (hl : cn * 4 ≤ 140737488355328 ∧ dn * 4 ≤ 140737488355328) (i : Int) (hi : -9223372036854775808 ≤ i ∧ i ≤ 9223372036854775807) :
    Calls Try.prog 20 #[mV (bs m.name) ea en ec ia im ic ca cn cc da dn dc ra rn rc, .int .i64 i] w fun e w' => e = .returned (.int .u32 ((rawV m.code m.data i : Nat) : Int)) ∧ Below w.heap.size w w' := by
  obtain ⟨l1, l2, l3, l4, l5⟩ := h.lens
  have HX := Lib.hid (Whole.new w 26 (mCs (bs m.name) ea en ec ia im ic ca cn cc da dn dc ra rn rc))
  have b0 := below_new w (.cells (mCs (bs m.name) ea en ec ia im ic ca cn cc da dn dc ra rn rc) 26)
  have HB := Lib.hid b0
  have C := Lib.hid (spot_any (h.go b0 b0.size) hl i hi)
  have HC := Lib.hid h.cd
  have HD := Lib.hid h.dt
  have k3 := (reads_len h.cd).2.1
  have k4 := (reads_len h.dt).2.1
  clear b0 h
  by_cases h1 : 0 ≤ i ∧ i < cn
  · obtain ⟨j, rfl⟩ : ∃ j : Nat, i = (j : Int) := ⟨i.toNat, by omega⟩
    have jc : j < cn := by omega
    have jl : j < m.code.length := by omega
    have hj : (j : Int) < cn := by omega
    obtain ⟨g, off, rfl, e1⟩ := word_at HC.out l3 jc
    have RE := Lib.hid e1
    rw [spV_code h1] at C
    rw [rawV_code jl]
    simp only at C
    clear h1 jl e1 HC HD l1 l2 l3 l4 l5 hi
    generalize bs m.name = x at *
    generalize ((m.code.getD j 0 : Nat) : Int) = y at *
    go_enter Try.func20, Try.ntmps20
    go_upto_region 1 with fail
    generalize w.alloc (.cells (mCs x ea en ec ia im ic (some ⟨g, off, none⟩) cn cc da dn dc ra rn rc) 26) = W at *
    obtain ⟨c0, c1, c2, c3, c4, c5⟩ := mod_cells HX.out
    have c6 := HX.out.lt
    go_wp2_with (go_at_call 18; (with_reducible refine C.out.mono ?_); rintro e w1 ⟨rfl, hb⟩; have HX1 := Lib.hid (HX.out.belowS hb); have HB1 := Lib.hid (HB.out.trans (hb.mono HB.out.size)); obtain ⟨c0, c1, c2, c3, c4, c5⟩ := mod_cells HX1.out; have c6 := HX1.out.lt; have r0 := RE.out _ HB1.out; clear hb)
    go_ret
    exact ⟨rfl, HB1.out⟩
  have hh := (pgs_hold cn).1
  by_cases h2 : 16 * (pgs cn : Int) ≤ i ∧ i - 16 * (pgs cn : Int) < dn
  · obtain ⟨j, hj⟩ : ∃ j : Nat, i - 16 * (pgs cn : Int) = (j : Int) := ⟨(i - 16 * (pgs cn : Int)).toNat, by omega⟩
    have jd : j < dn := by omega
    have jl : j < m.data.length := by omega
    have hjd : (j : Int) < dn := by omega
    obtain ⟨g, off, rfl, e1⟩ := word_at HD.out l4 jd
    have RE := Lib.hid e1
    rw [spV_data h2.1 h2.2, hj] at C
    have er : rawV m.code m.data i = m.data.getD j 0 := by
      obtain ⟨i', rfl⟩ : ∃ i' : Nat, i = (i' : Int) := ⟨i.toNat, by omega⟩
      exact rawV_data (by rw [l3]; omega) jl
    rw [er]
    simp only at C
    clear h1 h2 jl e1 HC HD l1 l2 l3 l4 l5 hi hj er hh
    generalize bs m.name = x at *
    generalize ((m.data.getD j 0 : Nat) : Int) = y at *
    go_enter Try.func20, Try.ntmps20
    go_upto_region 1 with fail
    generalize w.alloc (.cells (mCs x ea en ec ia im ic ca cn cc (some ⟨g, off, none⟩) dn dc ra rn rc) 26) = W at *
    obtain ⟨c0, c1, c2, c3, c4, c5⟩ := mod_cells HX.out
    have c6 := HX.out.lt
    go_wp2_with (go_at_call 18; (with_reducible refine C.out.mono ?_); rintro e w1 ⟨rfl, hb⟩; have HX1 := Lib.hid (HX.out.belowS hb); have HB1 := Lib.hid (HB.out.trans (hb.mono HB.out.size)); obtain ⟨c0, c1, c2, c3, c4, c5⟩ := mod_cells HX1.out; have c6 := HX1.out.lt; have r0 := RE.out _ HB1.out; clear hb)
    go_ret
    exact ⟨rfl, HB1.out⟩
  · rw [spV_none h1 h2] at C
    have er : rawV m.code m.data i = 0 := rawV_none (by rw [l3]; exact h1) (by rw [l3, l4]; exact h2)
    rw [er]
    simp only at C
    clear h1 h2 HC HD l1 l2 l3 l4 l5 hi er hh
    generalize bs m.name = x at *
    go_enter Try.func20, Try.ntmps20
    go_upto_region 1 with fail
    generalize w.alloc (.cells (mCs x ea en ec ia im ic ca cn cc da dn dc ra rn rc) 26) = W at *
    obtain ⟨c0, c1, c2, c3, c4, c5⟩ := mod_cells HX.out
    have c6 := HX.out.lt
    go_wp2_with (go_at_call 18; (with_reducible refine C.out.mono ?_); rintro e w1 ⟨rfl, hb⟩; have HX1 := Lib.hid (HX.out.belowS hb); have HB1 := Lib.hid (HB.out.trans (hb.mono HB.out.size)); obtain ⟨c0, c1, c2, c3, c4, c5⟩ := mod_cells HX1.out; have c6 := HX1.out.lt; clear hb)
    go_ret
    exact ⟨rfl, HB1.out⟩
end
end Go.Proofs.Ytijacjcfnilaiaa.YR
