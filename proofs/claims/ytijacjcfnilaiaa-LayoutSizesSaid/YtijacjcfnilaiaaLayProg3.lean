/-
  What the program's functions of layer 12 tell: where a plan stands. Nothing here is a statement of the seed.
-/
import Derived.Test.YtijacjcfnilaiaaLayProg2
set_option linter.unusedSimpArgs false
set_option linter.unusedVariables false
namespace Go.Proofs.Ytijacjcfnilaiaa.YR
open Go.RowKit WM NR OM OR YM
set_option maxHeartbeats 4000000
set_option maxRecDepth 10000
theorem at_any (c d f : Int) (hc : -9223372036854775808 ≤ c ∧ c ≤ 9223372036854775807) (hd : -9223372036854775808 ≤ d ∧ d ≤ 9223372036854775807) (hf : -9223372036854775808 ≤ f ∧ f ≤ 9223372036854775807) (w : World) : Calls Try.prog 16 #[planV c d, .int .i64 f] w fun e w' => e = .returned (resAt c d f) ∧ Below w.heap.size w w' := by
  have b0 := below_new w (.cells #[.int .i64 c, .int .i64 d] 28)
  have HX := Lib.hid ((Whole.new w 28 #[.int .i64 c, .int .i64 d]).belowS (below_new (w.alloc (.cells #[.int .i64 c, .int .i64 d] 28)) (.cells #[.int .u32 0, .int .u32 0] 38)))
  have HB := Lib.hid (b0.trans ((below_new (w.alloc (.cells #[.int .i64 c, .int .i64 d] 28)) (.cells #[.int .u32 0, .int .u32 0] 38)).mono b0.size))
  have HY := Lib.hid (Whole.new (w.alloc (.cells #[.int .i64 c, .int .i64 d] 28)) 38 #[.int .u32 0, .int .u32 0])
  have s0 : (w.alloc (.cells #[.int .i64 c, .int .i64 d] 28)).heap.size = w.heap.size + 1 := by simp
  rw [s0] at HY
  clear s0
  have C0 := Lib.hid (bounded_any c d hc hd)
  have C1 := Lib.hid (pages_any c d hc hd)
  have hp := pgP_bd c d
  have hz := Lib.hid (fun h => pgP_zero (c := c) (d := d) h)
  obtain ⟨p1, p2, p3, p4, p5, p6⟩ := bnd_pgP c d
  clear b0 hc hd
  obtain ⟨R, hR⟩ : ∃ R, R = atP c d f := ⟨_, rfl⟩
  unfold resAt
  rw [← hR]
  unfold atP at hR
  generalize pgP c d = p at *
  generalize bndC c d = bc at *
  generalize bndD c d = bd at *
  by_cases h0 : p = 0
  · rw [if_pos h0] at hR
    subst hR h0
    obtain rfl : bc = 0 := by omega
    obtain rfl : bd = 0 := by omega
    clear hz hp p1 p2 p3 p4 p5 p6
    go_enter Try.func16, Try.ntmps16
    go_upto_region 1 with fail
    generalize (w.alloc (.cells #[.int .i64 c, .int .i64 d] 28)).alloc (.cells #[.int .u32 0, .int .u32 0] 38) = W at *
    obtain ⟨c0, c1⟩ := two_cells HX.out
    have c6 := HX.out.lt
    go_wp2_with (go_at_call 25; (with_reducible refine (C0.out _).mono ?_); rintro e w1 ⟨rfl, hb⟩; have HX1 := Lib.hid (HX.out.belowS hb); have HY1 := Lib.hid (HY.out.belowS hb); have HB1 := Lib.hid (HB.out.trans (hb.mono HB.out.size)); clear c0 c1 c6; obtain ⟨c0, c1⟩ := two_cells HX1.out; have c6 := HX1.out.lt; obtain ⟨d0, d1⟩ := two_cells HY1.out; have d6 := HY1.out.lt; have d7 := HY1.out.frozen 0; have d8 := HY1.out.frozen 1; clear hb)
    have HZ : Whole ((w1.setCell ⟨w.heap.size + 1, 0, none⟩ (.int .u32 0)).setCell ⟨w.heap.size + 1, 1, none⟩ (.int .u32 0)) (w.heap.size + 1) 38 #[.int .u32 0, .int .u32 0] := (HY1.out.set_ 0 (.int .u32 0)).set_ 1 (.int .u32 0)
    obtain ⟨z0, z1⟩ := two_cells HZ
    exact bodyPost_ret (v := .tuple #[placeV 0 0, .int .i64 2]) (by simp [results, Try.results16, go_sem, z0, z1]) rfl ⟨rfl, (HB1.out.setCell (by simp) _).setCell (by simp) _⟩
  rw [if_neg h0] at hR
  obtain ⟨q1, q2, q3, q4, q5⟩ := hz.out h0
  obtain ⟨rfl, rfl⟩ : bc = c ∧ bd = d := by
    unfold okP isB at p6
    have := p6 (by simp; omega)
    omega
  clear hz p1 p6 p2 p3 p4 p5
  subst q5
  have hcd : ¬ (bc = 0 ∧ bd = 0) := by omega
  have hcd2 : ¬ bc = 0 ∨ ¬ bd = 0 := by omega
  by_cases hb0 : bc = 0
  · subst hb0
    have hd0 : ¬ bd = 0 := by omega
    clear hcd hcd2
    simp only [Int.zero_add, Int.add_zero] at hR C1 h0 hp
    have e0 : IntKind.i64.wrap (256 - bd) = 256 - bd := by rw [IntKind.wrap_i64]; omega
    by_cases h1 : f < 0
    · rw [if_pos (Or.inl h1)] at hR
      subst hR
      clear hf hp
      go_enter Try.func16, Try.ntmps16
      go_upto_region 1 with fail
      generalize (w.alloc (.cells #[.int .i64 0, .int .i64 bd] 28)).alloc (.cells #[.int .u32 0, .int .u32 0] 38) = W at *
      obtain ⟨c0, c1⟩ := two_cells HX.out
      have c6 := HX.out.lt
      go_wp2_with (go_at_call 25; (with_reducible refine (C0.out _).mono ?_); rintro e w1 ⟨rfl, hb⟩; have HX1 := Lib.hid (HX.out.belowS hb); have HY1 := Lib.hid (HY.out.belowS hb); have HB1 := Lib.hid (HB.out.trans (hb.mono HB.out.size)); clear c0 c1 c6; obtain ⟨c0, c1⟩ := two_cells HX1.out; have c6 := HX1.out.lt; obtain ⟨d0, d1⟩ := two_cells HY1.out; have d6 := HY1.out.lt; have d7 := HY1.out.frozen 0; have d8 := HY1.out.frozen 1; clear hb)
      have HZ : Whole ((w1.setCell ⟨w.heap.size + 1, 0, none⟩ (.int .u32 0)).setCell ⟨w.heap.size + 1, 1, none⟩ (.int .u32 0)) (w.heap.size + 1) 38 #[.int .u32 0, .int .u32 0] := (HY1.out.set_ 0 (.int .u32 0)).set_ 1 (.int .u32 0)
      obtain ⟨z0, z1⟩ := two_cells HZ
      exact bodyPost_ret (v := .tuple #[placeV 0 0, .int .i64 11]) (by simp [results, Try.results16, go_sem, z0, z1]) rfl ⟨rfl, (HB1.out.setCell (by simp) _).setCell (by simp) _⟩
    by_cases h3 : 256 - bd < f
    · rw [if_pos (Or.inr (by omega))] at hR
      subst hR
      clear hf hp q1 q2 q3 q4
      go_enter Try.func16, Try.ntmps16
      go_upto_region 1 with fail
      generalize (w.alloc (.cells #[.int .i64 0, .int .i64 bd] 28)).alloc (.cells #[.int .u32 0, .int .u32 0] 38) = W at *
      obtain ⟨c0, c1⟩ := two_cells HX.out
      have c6 := HX.out.lt
      go_wp2_with (first | (go_at_call 25; (with_reducible refine (C0.out _).mono ?_); rintro e w1 ⟨rfl, hb⟩; have HX1 := Lib.hid (HX.out.belowS hb); have HY1 := Lib.hid (HY.out.belowS hb); have HB1 := Lib.hid (HB.out.trans (hb.mono HB.out.size)); clear c0 c1 c6; obtain ⟨c0, c1⟩ := two_cells HX1.out; have c6 := HX1.out.lt; obtain ⟨d0, d1⟩ := two_cells HY1.out; have d6 := HY1.out.lt; have d7 := HY1.out.frozen 0; have d8 := HY1.out.frozen 1; clear hb) | (go_at_call 11; (with_reducible refine (C1.out _).mono ?_); rintro e w2 ⟨rfl, hb⟩; have HX2 := Lib.hid (HX1.out.belowS hb); have HY2 := Lib.hid (HY1.out.belowS hb); have HB2 := Lib.hid (HB1.out.trans (hb.mono HB1.out.size)); obtain ⟨c0, c1⟩ := two_cells HX2.out; have c6 := HX2.out.lt; obtain ⟨d0, d1⟩ := two_cells HY2.out; have d6 := HY2.out.lt; have d7 := HY2.out.frozen 0; have d8 := HY2.out.frozen 1; clear hb))
      have HZ : Whole ((w2.setCell ⟨w.heap.size + 1, 0, none⟩ (.int .u32 0)).setCell ⟨w.heap.size + 1, 1, none⟩ (.int .u32 0)) (w.heap.size + 1) 38 #[.int .u32 0, .int .u32 0] := (HY2.out.set_ 0 (.int .u32 0)).set_ 1 (.int .u32 0)
      obtain ⟨z0, z1⟩ := two_cells HZ
      exact bodyPost_ret (v := .tuple #[placeV 0 0, .int .i64 11]) (by simp [results, Try.results16, go_sem, z0, z1]) rfl ⟨rfl, (HB2.out.setCell (by simp) _).setCell (by simp) _⟩
    rw [if_neg (by omega)] at hR
    subst hR
    have e3 : IntKind.i64.wrap f = f := by rw [IntKind.wrap_i64]; omega
    have A1 := Lib.hid (address_any f (by omega))
    have A2 := Lib.hid (address_any f (by omega))
    generalize 80 + 16 * f = a1 at *
    clear hf hp q1 q2 q3 q4
    go_enter Try.func16, Try.ntmps16
    go_upto_region 1 with fail
    generalize (w.alloc (.cells #[.int .i64 0, .int .i64 bd] 28)).alloc (.cells #[.int .u32 0, .int .u32 0] 38) = W at *
    obtain ⟨c0, c1⟩ := two_cells HX.out
    have c6 := HX.out.lt
    go_upto_region 5 with (first | (go_at_call 25; (with_reducible refine (C0.out _).mono ?_); rintro e w1 ⟨rfl, hb⟩; have HX1 := Lib.hid (HX.out.belowS hb); have HY1 := Lib.hid (HY.out.belowS hb); have HB1 := Lib.hid (HB.out.trans (hb.mono HB.out.size)); clear c0 c1 c6; obtain ⟨c0, c1⟩ := two_cells HX1.out; have c6 := HX1.out.lt; obtain ⟨d0, d1⟩ := two_cells HY1.out; have d6 := HY1.out.lt; have d7 := HY1.out.frozen 0; have d8 := HY1.out.frozen 1; clear hb) | (go_at_call 11; (with_reducible refine (C1.out _).mono ?_); rintro e w2 ⟨rfl, hb⟩; have HX2 := Lib.hid (HX1.out.belowS hb); have HY2 := Lib.hid (HY1.out.belowS hb); have HB2 := Lib.hid (HB1.out.trans (hb.mono HB1.out.size)); clear c0 c1 c6 d0 d1 d6 d7 d8; obtain ⟨c0, c1⟩ := two_cells HX2.out; have c6 := HX2.out.lt; obtain ⟨d0, d1⟩ := two_cells HY2.out; have d6 := HY2.out.lt; have d7 := HY2.out.frozen 0; have d8 := HY2.out.frozen 1; clear hb))
    go_region_with (first | (go_at_call 26; (with_reducible refine (A1.out _).mono ?_); rintro e w3 ⟨rfl, rfl⟩) | (go_at_call 26; (with_reducible refine (A2.out _).mono ?_); rintro e w3 ⟨rfl, rfl⟩))
    all_goals
      have HZ : Whole ((w2.setCell ⟨w.heap.size + 1, 0, none⟩ (.int .u32 a1)).setCell ⟨w.heap.size + 1, 1, none⟩ (.int .u32 a1)) (w.heap.size + 1) 38 #[.int .u32 a1, .int .u32 a1] := (HY2.out.set_ 0 (.int .u32 a1)).set_ 1 (.int .u32 a1)
      obtain ⟨z0, z1⟩ := two_cells HZ
      have HB3 : Hid (Below w.heap.size w ((w2.setCell ⟨w.heap.size + 1, 0, none⟩ (.int .u32 a1)).setCell ⟨w.heap.size + 1, 1, none⟩ (.int .u32 a1))) := Lib.hid ((HB2.out.setCell (by simp) _).setCell (by simp) _)
      go_wp2_with fail
      exact bodyPost_ret (v := .tuple #[placeV a1 a1, .int .i64 0]) (by simp [results, Try.results16, go_sem, z0, z1]) rfl ⟨rfl, HB3.out.drew⟩
  clear hcd hcd2
  have e0 : IntKind.i64.wrap (256 - (bc + bd)) = 256 - (bc + bd) := by rw [IntKind.wrap_i64]; omega
  by_cases h1 : f < 0
  · rw [if_pos (Or.inl h1)] at hR
    subst hR
    clear hf hp
    go_enter Try.func16, Try.ntmps16
    go_upto_region 1 with fail
    generalize (w.alloc (.cells #[.int .i64 bc, .int .i64 bd] 28)).alloc (.cells #[.int .u32 0, .int .u32 0] 38) = W at *
    obtain ⟨c0, c1⟩ := two_cells HX.out
    have c6 := HX.out.lt
    go_wp2_with (go_at_call 25; (with_reducible refine (C0.out _).mono ?_); rintro e w1 ⟨rfl, hb⟩; have HX1 := Lib.hid (HX.out.belowS hb); have HY1 := Lib.hid (HY.out.belowS hb); have HB1 := Lib.hid (HB.out.trans (hb.mono HB.out.size)); clear c0 c1 c6; obtain ⟨c0, c1⟩ := two_cells HX1.out; have c6 := HX1.out.lt; obtain ⟨d0, d1⟩ := two_cells HY1.out; have d6 := HY1.out.lt; have d7 := HY1.out.frozen 0; have d8 := HY1.out.frozen 1; clear hb)
    have HZ : Whole ((w1.setCell ⟨w.heap.size + 1, 0, none⟩ (.int .u32 0)).setCell ⟨w.heap.size + 1, 1, none⟩ (.int .u32 0)) (w.heap.size + 1) 38 #[.int .u32 0, .int .u32 0] := (HY1.out.set_ 0 (.int .u32 0)).set_ 1 (.int .u32 0)
    obtain ⟨z0, z1⟩ := two_cells HZ
    exact bodyPost_ret (v := .tuple #[placeV 0 0, .int .i64 11]) (by simp [results, Try.results16, go_sem, z0, z1]) rfl ⟨rfl, (HB1.out.setCell (by simp) _).setCell (by simp) _⟩
  by_cases h3 : 256 - (bc + bd) < f
  · rw [if_pos (Or.inr (by omega))] at hR
    subst hR
    clear hf hp q1 q2 q3 q4
    go_enter Try.func16, Try.ntmps16
    go_upto_region 1 with fail
    generalize (w.alloc (.cells #[.int .i64 bc, .int .i64 bd] 28)).alloc (.cells #[.int .u32 0, .int .u32 0] 38) = W at *
    obtain ⟨c0, c1⟩ := two_cells HX.out
    have c6 := HX.out.lt
    go_wp2_with (first | (go_at_call 25; (with_reducible refine (C0.out _).mono ?_); rintro e w1 ⟨rfl, hb⟩; have HX1 := Lib.hid (HX.out.belowS hb); have HY1 := Lib.hid (HY.out.belowS hb); have HB1 := Lib.hid (HB.out.trans (hb.mono HB.out.size)); clear c0 c1 c6; obtain ⟨c0, c1⟩ := two_cells HX1.out; have c6 := HX1.out.lt; obtain ⟨d0, d1⟩ := two_cells HY1.out; have d6 := HY1.out.lt; have d7 := HY1.out.frozen 0; have d8 := HY1.out.frozen 1; clear hb) | (go_at_call 11; (with_reducible refine (C1.out _).mono ?_); rintro e w2 ⟨rfl, hb⟩; have HX2 := Lib.hid (HX1.out.belowS hb); have HY2 := Lib.hid (HY1.out.belowS hb); have HB2 := Lib.hid (HB1.out.trans (hb.mono HB1.out.size)); obtain ⟨c0, c1⟩ := two_cells HX2.out; have c6 := HX2.out.lt; obtain ⟨d0, d1⟩ := two_cells HY2.out; have d6 := HY2.out.lt; have d7 := HY2.out.frozen 0; have d8 := HY2.out.frozen 1; clear hb))
    have HZ : Whole ((w2.setCell ⟨w.heap.size + 1, 0, none⟩ (.int .u32 0)).setCell ⟨w.heap.size + 1, 1, none⟩ (.int .u32 0)) (w.heap.size + 1) 38 #[.int .u32 0, .int .u32 0] := (HY2.out.set_ 0 (.int .u32 0)).set_ 1 (.int .u32 0)
    obtain ⟨z0, z1⟩ := two_cells HZ
    exact bodyPost_ret (v := .tuple #[placeV 0 0, .int .i64 11]) (by simp [results, Try.results16, go_sem, z0, z1]) rfl ⟨rfl, (HB2.out.setCell (by simp) _).setCell (by simp) _⟩
  rw [if_neg (by omega)] at hR
  subst hR
  have e3 : IntKind.i64.wrap (f + bc) = f + bc := by rw [IntKind.wrap_i64]; omega
  have A1 := Lib.hid (address_any f (by omega))
  have A2 := Lib.hid (address_any (f + bc) (by omega))
  generalize 80 + 16 * f = a1 at *
  generalize 80 + 16 * (f + bc) = a2 at *
  clear hf hp q1 q2 q3 q4
  go_enter Try.func16, Try.ntmps16
  go_upto_region 1 with fail
  generalize (w.alloc (.cells #[.int .i64 bc, .int .i64 bd] 28)).alloc (.cells #[.int .u32 0, .int .u32 0] 38) = W at *
  obtain ⟨c0, c1⟩ := two_cells HX.out
  have c6 := HX.out.lt
  go_upto_region 5 with (first | (go_at_call 25; (with_reducible refine (C0.out _).mono ?_); rintro e w1 ⟨rfl, hb⟩; have HX1 := Lib.hid (HX.out.belowS hb); have HY1 := Lib.hid (HY.out.belowS hb); have HB1 := Lib.hid (HB.out.trans (hb.mono HB.out.size)); clear c0 c1 c6; obtain ⟨c0, c1⟩ := two_cells HX1.out; have c6 := HX1.out.lt; obtain ⟨d0, d1⟩ := two_cells HY1.out; have d6 := HY1.out.lt; have d7 := HY1.out.frozen 0; have d8 := HY1.out.frozen 1; clear hb) | (go_at_call 11; (with_reducible refine (C1.out _).mono ?_); rintro e w2 ⟨rfl, hb⟩; have HX2 := Lib.hid (HX1.out.belowS hb); have HY2 := Lib.hid (HY1.out.belowS hb); have HB2 := Lib.hid (HB1.out.trans (hb.mono HB1.out.size)); clear c0 c1 c6 d0 d1 d6 d7 d8; obtain ⟨c0, c1⟩ := two_cells HX2.out; have c6 := HX2.out.lt; obtain ⟨d0, d1⟩ := two_cells HY2.out; have d6 := HY2.out.lt; have d7 := HY2.out.frozen 0; have d8 := HY2.out.frozen 1; clear hb))
  go_region_with (first | (go_at_call 26; (with_reducible refine (A1.out _).mono ?_); rintro e w3 ⟨rfl, rfl⟩) | (go_at_call 26; (with_reducible refine (A2.out _).mono ?_); rintro e w3 ⟨rfl, rfl⟩))
  all_goals
    have HZ : Whole ((w2.setCell ⟨w.heap.size + 1, 0, none⟩ (.int .u32 a1)).setCell ⟨w.heap.size + 1, 1, none⟩ (.int .u32 a2)) (w.heap.size + 1) 38 #[.int .u32 a1, .int .u32 a2] := (HY2.out.set_ 0 (.int .u32 a1)).set_ 1 (.int .u32 a2)
    obtain ⟨z0, z1⟩ := two_cells HZ
    have HB3 : Hid (Below w.heap.size w ((w2.setCell ⟨w.heap.size + 1, 0, none⟩ (.int .u32 a1)).setCell ⟨w.heap.size + 1, 1, none⟩ (.int .u32 a2))) := Lib.hid ((HB2.out.setCell (by simp) _).setCell (by simp) _)
    go_wp2_with fail
    exact bodyPost_ret (v := .tuple #[placeV a1 a2, .int .i64 0]) (by simp [results, Try.results16, go_sem, z0, z1]) rfl ⟨rfl, HB3.out.drew⟩
end Go.Proofs.Ytijacjcfnilaiaa.YR
