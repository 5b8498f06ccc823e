/-
  What the reference of layer 12 tells: places, spots, words. Nothing here is a statement of the seed.
-/
import Derived.Test.YtijacjcfnilaiaaLayRef
import Derived.Deep.CutRange
set_option linter.unusedSimpArgs false
set_option linter.unusedVariables false
namespace Go.Proofs.Ytijacjcfnilaiaa.YR
open Go.RowKit WM NR OM OR YM
set_option maxHeartbeats 4000000
set_option maxRecDepth 10000
theorem two_cells {w : World} {b : Nat} {t : TypeId} {x y : Value} (h : Whole w b t #[x, y]) : w.cell? ⟨b, 0, none⟩ = some x ∧ w.cell? ⟨b, 1, none⟩ = some y := ⟨h.cell 0, h.cell 1⟩
abbrev resAt (c d f : Int) : Value := .tuple #[placeV (atP c d f).1 (atP c d f).2.1, .int .i64 (atP c d f).2.2]
theorem refAt_any (c d f : Int) (hc : -9223372036854775808 ≤ c ∧ c ≤ 9223372036854775807) (hd : -9223372036854775808 ≤ d ∧ d ≤ 9223372036854775807) (hf : -9223372036854775808 ≤ f ∧ f ≤ 9223372036854775807) (w : World) : Calls Try.prog 17 #[planV c d, .int .i64 f] w fun e w' => e = .returned (resAt c d f) ∧ Below w.heap.size w w' := by
  have b0 := below_new w (.cells #[.int .i64 c, .int .i64 d] 29)
  have HX := Lib.hid ((Whole.new w 29 #[.int .i64 c, .int .i64 d]).belowS (below_new (w.alloc (.cells #[.int .i64 c, .int .i64 d] 29)) (.cells #[.int .u32 0, .int .u32 0] 42)))
  have HB := Lib.hid (b0.trans ((below_new (w.alloc (.cells #[.int .i64 c, .int .i64 d] 29)) (.cells #[.int .u32 0, .int .u32 0] 42)).mono b0.size))
  have HY := Lib.hid (Whole.new (w.alloc (.cells #[.int .i64 c, .int .i64 d] 29)) 42 #[.int .u32 0, .int .u32 0])
  have s0 : (w.alloc (.cells #[.int .i64 c, .int .i64 d] 29)).heap.size = w.heap.size + 1 := by simp
  rw [s0] at HY
  clear s0
  have C := Lib.hid (refPgP_any c d hc hd)
  have hp := pgP_bd c d
  have hz := Lib.hid (fun h => pgP_zero (c := c) (d := d) h)
  clear b0 hc hd
  obtain ⟨R, hR⟩ : ∃ R, R = atP c d f := ⟨_, rfl⟩
  unfold resAt
  rw [← hR]
  unfold atP at hR
  generalize pgP c d = p at *
  by_cases h0 : p = 0
  · rw [if_pos h0] at hR
    subst hR h0
    clear hz hp
    go_enter Try.func17, Try.ntmps17
    go_upto_region 1 with fail
    generalize (w.alloc (.cells #[.int .i64 c, .int .i64 d] 29)).alloc (.cells #[.int .u32 0, .int .u32 0] 42) = W at *
    obtain ⟨c0, c1⟩ := two_cells HX.out
    have c6 := HX.out.lt
    go_wp2_with (go_at_call 12; (with_reducible refine (C.out _).mono ?_); rintro e w1 ⟨rfl, hb⟩; have HX1 := Lib.hid (HX.out.belowS hb); have HY1 := Lib.hid (HY.out.belowS hb); have HB1 := Lib.hid (HB.out.trans (hb.mono HB.out.size)); obtain ⟨c0, c1⟩ := two_cells HX1.out; have c6 := HX1.out.lt; obtain ⟨d0, d1⟩ := two_cells HY1.out; have d6 := HY1.out.lt; have d7 := HY1.out.frozen 0; have d8 := HY1.out.frozen 1; clear hb)
    have HZ : Whole ((w1.setCell ⟨w.heap.size + 1, 0, none⟩ (.int .u32 0)).setCell ⟨w.heap.size + 1, 1, none⟩ (.int .u32 0)) (w.heap.size + 1) 42 #[.int .u32 0, .int .u32 0] := (HY1.out.set_ 0 (.int .u32 0)).set_ 1 (.int .u32 0)
    obtain ⟨z0, z1⟩ := two_cells HZ
    exact bodyPost_ret (v := .tuple #[placeV 0 0, .int .i64 2]) (by simp [results, Try.results17, go_sem, z0, z1]) rfl ⟨rfl, (HB1.out.setCell (by simp) _).setCell (by simp) _⟩
  rw [if_neg h0] at hR
  obtain ⟨q1, q2, q3, q4, q5⟩ := hz.out h0
  clear hz
  have n0 : (p == 0) = false := by simpa using h0
  by_cases h1 : f < 0
  · rw [if_pos (Or.inl h1)] at hR
    subst hR
    clear hf hp q1 q2 q3 q4 q5
    go_enter Try.func17, Try.ntmps17
    go_upto_region 1 with fail
    generalize (w.alloc (.cells #[.int .i64 c, .int .i64 d] 29)).alloc (.cells #[.int .u32 0, .int .u32 0] 42) = W at *
    obtain ⟨c0, c1⟩ := two_cells HX.out
    have c6 := HX.out.lt
    go_wp2_with (go_at_call 12; (with_reducible refine (C.out _).mono ?_); rintro e w1 ⟨rfl, hb⟩; have HX1 := Lib.hid (HX.out.belowS hb); have HY1 := Lib.hid (HY.out.belowS hb); have HB1 := Lib.hid (HB.out.trans (hb.mono HB.out.size)); obtain ⟨c0, c1⟩ := two_cells HX1.out; have c6 := HX1.out.lt; obtain ⟨d0, d1⟩ := two_cells HY1.out; have d6 := HY1.out.lt; have d7 := HY1.out.frozen 0; have d8 := HY1.out.frozen 1; clear hb)
    have HZ : Whole ((w1.setCell ⟨w.heap.size + 1, 0, none⟩ (.int .u32 0)).setCell ⟨w.heap.size + 1, 1, none⟩ (.int .u32 0)) (w.heap.size + 1) 42 #[.int .u32 0, .int .u32 0] := (HY1.out.set_ 0 (.int .u32 0)).set_ 1 (.int .u32 0)
    obtain ⟨z0, z1⟩ := two_cells HZ
    exact bodyPost_ret (v := .tuple #[placeV 0 0, .int .i64 11]) (by simp [results, Try.results17, go_sem, z0, z1]) rfl ⟨rfl, (HB1.out.setCell (by simp) _).setCell (by simp) _⟩
  by_cases h2 : 256 < f
  · rw [if_pos (Or.inr (by omega))] at hR
    subst hR
    clear hf hp q1 q2 q3 q4 q5
    go_enter Try.func17, Try.ntmps17
    go_upto_region 1 with fail
    generalize (w.alloc (.cells #[.int .i64 c, .int .i64 d] 29)).alloc (.cells #[.int .u32 0, .int .u32 0] 42) = W at *
    obtain ⟨c0, c1⟩ := two_cells HX.out
    have c6 := HX.out.lt
    go_wp2_with (go_at_call 12; (with_reducible refine (C.out _).mono ?_); rintro e w1 ⟨rfl, hb⟩; have HX1 := Lib.hid (HX.out.belowS hb); have HY1 := Lib.hid (HY.out.belowS hb); have HB1 := Lib.hid (HB.out.trans (hb.mono HB.out.size)); obtain ⟨c0, c1⟩ := two_cells HX1.out; have c6 := HX1.out.lt; obtain ⟨d0, d1⟩ := two_cells HY1.out; have d6 := HY1.out.lt; have d7 := HY1.out.frozen 0; have d8 := HY1.out.frozen 1; clear hb)
    have HZ : Whole ((w1.setCell ⟨w.heap.size + 1, 0, none⟩ (.int .u32 0)).setCell ⟨w.heap.size + 1, 1, none⟩ (.int .u32 0)) (w.heap.size + 1) 42 #[.int .u32 0, .int .u32 0] := (HY1.out.set_ 0 (.int .u32 0)).set_ 1 (.int .u32 0)
    obtain ⟨z0, z1⟩ := two_cells HZ
    exact bodyPost_ret (v := .tuple #[placeV 0 0, .int .i64 11]) (by simp [results, Try.results17, go_sem, z0, z1]) rfl ⟨rfl, (HB1.out.setCell (by simp) _).setCell (by simp) _⟩
  have e0 : IntKind.i64.wrap (256 - f) = 256 - f := by rw [IntKind.wrap_i64]; omega
  by_cases h3 : 256 - f < p
  · rw [if_pos (Or.inr (by omega))] at hR
    subst hR
    clear hf hp q1 q2 q3 q4 q5
    go_enter Try.func17, Try.ntmps17
    go_upto_region 1 with fail
    generalize (w.alloc (.cells #[.int .i64 c, .int .i64 d] 29)).alloc (.cells #[.int .u32 0, .int .u32 0] 42) = W at *
    obtain ⟨c0, c1⟩ := two_cells HX.out
    have c6 := HX.out.lt
    go_wp2_with (go_at_call 12; (with_reducible refine (C.out _).mono ?_); rintro e w1 ⟨rfl, hb⟩; have HX1 := Lib.hid (HX.out.belowS hb); have HY1 := Lib.hid (HY.out.belowS hb); have HB1 := Lib.hid (HB.out.trans (hb.mono HB.out.size)); obtain ⟨c0, c1⟩ := two_cells HX1.out; have c6 := HX1.out.lt; obtain ⟨d0, d1⟩ := two_cells HY1.out; have d6 := HY1.out.lt; have d7 := HY1.out.frozen 0; have d8 := HY1.out.frozen 1; clear hb)
    have HZ : Whole ((w1.setCell ⟨w.heap.size + 1, 0, none⟩ (.int .u32 0)).setCell ⟨w.heap.size + 1, 1, none⟩ (.int .u32 0)) (w.heap.size + 1) 42 #[.int .u32 0, .int .u32 0] := (HY1.out.set_ 0 (.int .u32 0)).set_ 1 (.int .u32 0)
    obtain ⟨z0, z1⟩ := two_cells HZ
    exact bodyPost_ret (v := .tuple #[placeV 0 0, .int .i64 11]) (by simp [results, Try.results17, go_sem, z0, z1]) rfl ⟨rfl, (HB1.out.setCell (by simp) _).setCell (by simp) _⟩
  rw [if_neg (by omega)] at hR
  subst hR
  have e1 : IntKind.i64.wrap (16 * f) = 16 * f := by rw [IntKind.wrap_i64]; omega
  have e2 : IntKind.i64.wrap (80 + 16 * f) = 80 + 16 * f := by rw [IntKind.wrap_i64]; omega
  have e3 : IntKind.i64.wrap (f + c) = f + c := by rw [IntKind.wrap_i64]; omega
  have e4 : IntKind.i64.wrap (16 * (f + c)) = 16 * (f + c) := by rw [IntKind.wrap_i64]; omega
  have e5 : IntKind.i64.wrap (80 + 16 * (f + c)) = 80 + 16 * (f + c) := by rw [IntKind.wrap_i64]; omega
  have e6 : IntKind.u32.wrap (80 + 16 * f) = 80 + 16 * f := by rw [show ∀ x, IntKind.u32.wrap x = x % 4294967296 from fun x => rfl]; omega
  have e7 : IntKind.u32.wrap (80 + 16 * (f + c)) = 80 + 16 * (f + c) := by rw [show ∀ x, IntKind.u32.wrap x = x % 4294967296 from fun x => rfl]; omega
  go_enter Try.func17, Try.ntmps17
  go_upto_region 1 with fail
  generalize (w.alloc (.cells #[.int .i64 c, .int .i64 d] 29)).alloc (.cells #[.int .u32 0, .int .u32 0] 42) = W at *
  obtain ⟨c0, c1⟩ := two_cells HX.out
  have c6 := HX.out.lt
  go_wp2_with (go_at_call 12; (with_reducible refine (C.out _).mono ?_); rintro e w1 ⟨rfl, hb⟩; have HX1 := Lib.hid (HX.out.belowS hb); have HY1 := Lib.hid (HY.out.belowS hb); have HB1 := Lib.hid (HB.out.trans (hb.mono HB.out.size)); obtain ⟨c0, c1⟩ := two_cells HX1.out; have c6 := HX1.out.lt; obtain ⟨d0, d1⟩ := two_cells HY1.out; have d6 := HY1.out.lt; have d7 := HY1.out.frozen 0; have d8 := HY1.out.frozen 1; clear hb)
  have HZ : Whole ((w1.setCell ⟨w.heap.size + 1, 0, none⟩ (.int .u32 (80 + 16 * f))).setCell ⟨w.heap.size + 1, 1, none⟩ (.int .u32 (80 + 16 * (f + c)))) (w.heap.size + 1) 42 #[.int .u32 (80 + 16 * f), .int .u32 (80 + 16 * (f + c))] := (HY1.out.set_ 0 (.int .u32 (80 + 16 * f))).set_ 1 (.int .u32 (80 + 16 * (f + c)))
  obtain ⟨z0, z1⟩ := two_cells HZ
  exact bodyPost_ret (v := .tuple #[placeV (80 + 16 * f) (80 + 16 * (f + c)), .int .i64 0]) (by simp [results, Try.results17, go_sem, z0, z1]) rfl ⟨rfl, (HB1.out.setCell (by simp) _).setCell (by simp) _⟩
section
variable {w : World} {ea : Option Addr} {en ec : Nat} {ia : Option Addr} {im ic : Nat} {ca : Option Addr} {cn cc : Nat} {da : Option Addr} {dn dc : Nat} {ra : Option Addr} {rn rc : Nat} {m : Md}
theorem refSpot_any (h : RdM (· < w.heap.size) w ea en ec ia im ic ca cn cc da dn dc ra rn rc m) (hl : cn * 4 ≤ 140737488355328 ∧ dn * 4 ≤ 140737488355328) (i : Int) (hi : -9223372036854775808 ≤ i ∧ i ≤ 9223372036854775807) :
    Calls Try.prog 19 #[mV (bs m.name) ea en ec ia im ic ca cn cc da dn dc ra rn rc, .int .i64 i] w fun e w' => e = .returned (.tuple #[.bool (spV cn dn i).1, .int .i64 (spV cn dn i).2.1, .bool (spV cn dn i).2.2]) ∧ Below w.heap.size w w' := by
  have HX := Lib.hid (Whole.new w 26 (mCs (bs m.name) ea en ec ia im ic ca cn cc da dn dc ra rn rc))
  have b0 := below_new w (.cells (mCs (bs m.name) ea en ec ia im ic ca cn cc da dn dc ra rn rc) 26)
  have HB := Lib.hid b0
  have C1 := Lib.hid (refpg_any cn (by omega))
  have hh := pgs_hold cn
  obtain ⟨R, hR⟩ : ∃ R, R = spV cn dn i := ⟨_, rfl⟩
  rw [← hR]
  unfold spV at hR
  clear b0 h
  generalize bs m.name = x at *
  generalize pgs cn = p at *
  have e16 : IntKind.i64.wrap (16 * (p : Int)) = 16 * (p : Int) := by rw [IntKind.wrap_i64]; omega
  by_cases h1 : 0 ≤ i
  · by_cases h2 : i < cn
    · rw [if_pos ⟨h1, h2⟩] at hR
      subst hR
      go_enter Try.func19, Try.ntmps19
      go_upto_region 1 with fail
      generalize w.alloc (.cells (mCs x ea en ec ia im ic ca cn cc da dn dc ra rn rc) 26) = W at *
      obtain ⟨c0, c1, c2, c3, c4, c5⟩ := mod_cells HX.out
      have c6 := HX.out.lt
      go_wp2_with (go_at_call 24; (with_reducible refine (C1.out _).mono ?_); rintro e w1 ⟨rfl, rfl⟩)
      exact bodyPost_ret (v := .tuple #[.bool true, .int .i64 i, .bool true]) (by simp [results, Try.results19, go_sem]) rfl ⟨rfl, HB.out⟩
    · rw [if_neg (fun h => h2 h.2)] at hR
      by_cases h3 : 16 * (p : Int) ≤ i
      · have e3 : IntKind.i64.wrap (i - 16 * (p : Int)) = i - 16 * (p : Int) := by rw [IntKind.wrap_i64]; omega
        by_cases h4 : i - 16 * (p : Int) < dn
        · rw [if_pos ⟨h3, h4⟩] at hR
          subst hR
          have h5 : i - 16 * (p : Int) < (dn : Int) := h4
          generalize hj : i - 16 * (p : Int) = j at *
          go_enter Try.func19, Try.ntmps19
          go_upto_region 1 with fail
          generalize w.alloc (.cells (mCs x ea en ec ia im ic ca cn cc da dn dc ra rn rc) 26) = W at *
          obtain ⟨c0, c1, c2, c3, c4, c5⟩ := mod_cells HX.out
          have c6 := HX.out.lt
          go_wp2_with (go_at_call 24; (with_reducible refine (C1.out _).mono ?_); rintro e w1 ⟨rfl, rfl⟩)
          exact bodyPost_ret (v := .tuple #[.bool false, .int .i64 j, .bool true]) (by simp [results, Try.results19, go_sem]) rfl ⟨rfl, HB.out⟩
        · rw [if_neg (fun h => h4 h.2)] at hR
          subst hR
          generalize hj : i - 16 * (p : Int) = j at *
          go_enter Try.func19, Try.ntmps19
          go_upto_region 1 with fail
          generalize w.alloc (.cells (mCs x ea en ec ia im ic ca cn cc da dn dc ra rn rc) 26) = W at *
          obtain ⟨c0, c1, c2, c3, c4, c5⟩ := mod_cells HX.out
          have c6 := HX.out.lt
          go_wp2_with (go_at_call 24; (with_reducible refine (C1.out _).mono ?_); rintro e w1 ⟨rfl, rfl⟩)
          exact bodyPost_ret (v := .tuple #[.bool false, .int .i64 0, .bool false]) (by simp [results, Try.results19, go_sem]) rfl ⟨rfl, HB.out⟩
      · rw [if_neg (fun h => h3 h.1)] at hR
        subst hR
        go_enter Try.func19, Try.ntmps19
        go_upto_region 1 with fail
        generalize w.alloc (.cells (mCs x ea en ec ia im ic ca cn cc da dn dc ra rn rc) 26) = W at *
        obtain ⟨c0, c1, c2, c3, c4, c5⟩ := mod_cells HX.out
        have c6 := HX.out.lt
        go_wp2_with (go_at_call 24; (with_reducible refine (C1.out _).mono ?_); rintro e w1 ⟨rfl, rfl⟩)
        exact bodyPost_ret (v := .tuple #[.bool false, .int .i64 0, .bool false]) (by simp [results, Try.results19, go_sem]) rfl ⟨rfl, HB.out⟩
  · rw [if_neg (fun h => h1 h.1), if_neg (by omega)] at hR
    subst hR
    have h3 : ¬ 16 * (p : Int) ≤ i := by omega
    go_enter Try.func19, Try.ntmps19
    go_upto_region 1 with fail
    generalize w.alloc (.cells (mCs x ea en ec ia im ic ca cn cc da dn dc ra rn rc) 26) = W at *
    obtain ⟨c0, c1, c2, c3, c4, c5⟩ := mod_cells HX.out
    have c6 := HX.out.lt
    go_wp2_with (go_at_call 24; (with_reducible refine (C1.out _).mono ?_); rintro e w1 ⟨rfl, rfl⟩)
    exact bodyPost_ret (v := .tuple #[.bool false, .int .i64 0, .bool false]) (by simp [results, Try.results19, go_sem]) rfl ⟨rfl, HB.out⟩
end
end Go.Proofs.Ytijacjcfnilaiaa.YR
