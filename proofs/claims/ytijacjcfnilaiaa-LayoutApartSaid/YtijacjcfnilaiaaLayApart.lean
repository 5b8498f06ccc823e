/-
  The walk of LayoutApart, over what the program's functions tell. Nothing here is a statement of the seed.
-/
import Derived.Test.YtijacjcfnilaiaaLayPlans
set_option linter.unusedSimpArgs false
set_option linter.unusedVariables false
namespace Go.Proofs.Ytijacjcfnilaiaa.WK
open Go.RowKit WM NR OM OR YM YR
set_option maxHeartbeats 4000000
set_option maxRecDepth 10000
theorem LayoutApart_walk (c d n : Int) (hc : -9223372036854775808 ≤ c ∧ c ≤ 9223372036854775807) (hd : -9223372036854775808 ≤ d ∧ d ≤ 9223372036854775807) (hn : 0 ≤ n ∧ n ≤ 255) (w : World) :
    Calls Try.prog 7 #[planV c d, .int .u8 n] w fun e w' => e = .returned (.bool true) ∧ Below w.heap.size w w' := by
  have J0 := Lib.hid (QJ.new w c d)
  have C1 := Lib.hid (at_any c d n hc hd (by omega))
  have C2 := Lib.hid (at_any c d (n + 1) hc hd (by omega))
  have C3 := Lib.hid (pages_any c d hc hd)
  have AW := Lib.hid awake_any
  have n1 : IntKind.i64.wrap n = n := by rw [IntKind.wrap_i64]; omega
  have n2 : IntKind.i64.wrap (n + 1) = n + 1 := by rw [IntKind.wrap_i64]; omega
  unfold resAt at C1 C2
  clear hc hd
  by_cases h0 : pgP c d = 0
  · rw [h0] at C3
    have e1 : atP c d n = (0, 0, 2) := by unfold atP; rw [if_pos h0]
    have e2 : atP c d (n + 1) = (0, 0, 2) := by unfold atP; rw [if_pos h0]
    rw [e1] at C1
    rw [e2] at C2
    simp only at C1 C2
    clear e1 e2 h0
    go_enter Try.func7, Try.ntmps7
    go_upto_region 1 with fail
    generalize w.alloc (.cells #[.int .i64 c, .int .i64 d] 28) = W at *
    obtain ⟨c0, c1⟩ := two_cells J0.out.Y
    have c6 := J0.out.Y.lt
    go_upto_region 2 with (go_at_call 16; (with_reducible refine (C1.out _).mono ?_); rintro e w1 ⟨rfl, hb⟩; have J1 := Lib.hid (J0.out.belowS hb); clear hb)
    have b4 := below_new w1 (.cells #[.int .u32 0, .int .u32 0] 38)
    have PP := Lib.hid (Whole.new w1 38 #[.int .u32 0, .int .u32 0])
    have J2 := Lib.hid (J1.out.belowS b4)
    clear b4 J1 J0 c0 c1 c6
    generalize w1.alloc (.cells #[.int .u32 0, .int .u32 0] 38) = W2 at *
    obtain ⟨c0, c1⟩ := two_cells J2.out.Y
    have c6 := J2.out.Y.lt
    go_upto_region 3 with (go_at_call 16; (with_reducible refine (C2.out _).mono ?_); rintro e w3 ⟨rfl, hb⟩; have J3 := Lib.hid (J2.out.belowS hb); have PP := Lib.hid (PP.out.belowS hb); clear hb)
    have b5 := below_new w3 (.cells #[.int .u32 0, .int .u32 0] 38)
    have RR := Whole.new w3 38 #[.int .u32 0, .int .u32 0]
    have J4 := Lib.hid (J3.out.belowS b5)
    have P4 := PP.out.belowS b5
    clear b5 J3 J2 PP c0 c1 c6
    generalize w3.alloc (.cells #[.int .u32 0, .int .u32 0] 38) = W4 at *
    obtain ⟨c0, c1⟩ := two_cells J4.out.Y
    have c6 := J4.out.Y.lt
    obtain ⟨d0, d1⟩ := two_cells P4
    have d6 := P4.lt
    obtain ⟨e0, e1⟩ := two_cells RR
    have e6 := RR.lt
    clear P4 RR
    go_wp2_with (first | (go_at_call 11; (with_reducible refine (C3.out _).mono ?_); rintro e w5 ⟨rfl, hb⟩; have J5 := Lib.hid (J4.out.belowS hb); clear hb) | (go_at_call 15; (with_reducible refine (AW.out _).mono ?_); rintro e w6 ⟨rfl, hb⟩; have J6 := Lib.hid (J5.out.belowS hb); clear hb))
    go_ret
    first | exact ⟨rfl, J6.out.B⟩ | exact ⟨by simp [*], J6.out.B⟩ | exact ⟨by simp; omega, J6.out.B⟩
  have h1 := pgP_bd c d
  obtain ⟨q1, q2, q3, q4, q5⟩ := pgP_zero h0
  by_cases h2 : n + pgP c d ≤ 256
  · have e1 := atP_val h0 hn.1 h2
    have m1 : IntKind.i64.wrap (16 * n) = 16 * n := by rw [IntKind.wrap_i64]; omega
    have m2 : IntKind.i64.wrap (80 + 16 * n) = 80 + 16 * n := by rw [IntKind.wrap_i64]; omega
    have m3 : IntKind.u32.wrap (80 + 16 * n) = 80 + 16 * n := by rw [show ∀ x, IntKind.u32.wrap x = x % 4294967296 from fun x => rfl]; omega
    have m4 : IntKind.u32.wrap (80 + 16 * (n + c) - (80 + 16 * n)) = 16 * c := by rw [show ∀ x, IntKind.u32.wrap x = x % 4294967296 from fun x => rfl]; omega
    have m5 : IntKind.i64.wrap (16 * c) = 16 * c := by rw [IntKind.wrap_i64]; omega
    have m6 : IntKind.u32.wrap (16 * c) = 16 * c := by rw [show ∀ x, IntKind.u32.wrap x = x % 4294967296 from fun x => rfl]; omega
    have m7 : IntKind.u32.wrap (80 + 16 * n + 16) = 80 + 16 * (n + 1) := by rw [show ∀ x, IntKind.u32.wrap x = x % 4294967296 from fun x => rfl]; omega
    have m8 : IntKind.u32.wrap (80 + 16 * (n + c) + 16) = 80 + 16 * (n + 1 + c) := by rw [show ∀ x, IntKind.u32.wrap x = x % 4294967296 from fun x => rfl]; omega
    have m9 : IntKind.i64.wrap (n + pgP c d) = n + pgP c d := by rw [IntKind.wrap_i64]; omega
    rw [e1] at C1
    simp only at C1
    clear e1
    by_cases h3 : n + 1 + pgP c d ≤ 256
    · have e2 := atP_val h0 (show 0 ≤ n + 1 by omega) h3
      rw [e2] at C2
      simp only at C2
      clear e2
      have h4 : n + pgP c d < 256 := by omega
      clear h0 h1 h2 h3 q2 q4 q5
      generalize pgP c d = p at *
      go_enter Try.func7, Try.ntmps7
      go_upto_region 1 with fail
      generalize w.alloc (.cells #[.int .i64 c, .int .i64 d] 28) = W at *
      obtain ⟨c0, c1⟩ := two_cells J0.out.Y
      have c6 := J0.out.Y.lt
      go_upto_region 2 with (go_at_call 16; (with_reducible refine (C1.out _).mono ?_); rintro e w1 ⟨rfl, hb⟩; have J1 := Lib.hid (J0.out.belowS hb); clear hb)
      have b4 := below_new w1 (.cells #[.int .u32 (80 + 16 * n), .int .u32 (80 + 16 * (n + c))] 38)
      have PP := Lib.hid (Whole.new w1 38 #[.int .u32 (80 + 16 * n), .int .u32 (80 + 16 * (n + c))])
      have J2 := Lib.hid (J1.out.belowS b4)
      clear b4 J1 J0 c0 c1 c6
      generalize w1.alloc (.cells #[.int .u32 (80 + 16 * n), .int .u32 (80 + 16 * (n + c))] 38) = W2 at *
      obtain ⟨c0, c1⟩ := two_cells J2.out.Y
      have c6 := J2.out.Y.lt
      go_upto_region 3 with (go_at_call 16; (with_reducible refine (C2.out _).mono ?_); rintro e w3 ⟨rfl, hb⟩; have J3 := Lib.hid (J2.out.belowS hb); have PP := Lib.hid (PP.out.belowS hb); clear hb)
      have b5 := below_new w3 (.cells #[.int .u32 (80 + 16 * (n + 1)), .int .u32 (80 + 16 * (n + 1 + c))] 38)
      have RR := Whole.new w3 38 #[.int .u32 (80 + 16 * (n + 1)), .int .u32 (80 + 16 * (n + 1 + c))]
      have J4 := Lib.hid (J3.out.belowS b5)
      have P4 := PP.out.belowS b5
      clear b5 J3 J2 PP c0 c1 c6
      generalize w3.alloc (.cells #[.int .u32 (80 + 16 * (n + 1)), .int .u32 (80 + 16 * (n + 1 + c))] 38) = W4 at *
      obtain ⟨c0, c1⟩ := two_cells J4.out.Y
      have c6 := J4.out.Y.lt
      obtain ⟨d0, d1⟩ := two_cells P4
      have d6 := P4.lt
      obtain ⟨e0, e1⟩ := two_cells RR
      have e6 := RR.lt
      clear P4 RR
      go_wp2_with (first | (go_at_call 11; (with_reducible refine (C3.out _).mono ?_); rintro e w5 ⟨rfl, hb⟩; have J5 := Lib.hid (J4.out.belowS hb); clear hb) | (go_at_call 15; (with_reducible refine (AW.out _).mono ?_); rintro e w6 ⟨rfl, hb⟩; have J6 := Lib.hid (J5.out.belowS hb); clear hb))
      go_ret
      first | exact ⟨rfl, J6.out.B⟩ | exact ⟨by simp [*], J6.out.B⟩ | exact ⟨by simp; omega, J6.out.B⟩
    · have e2 : atP c d (n + 1) = (0, 0, 11) := by unfold atP; rw [if_neg h0, if_pos (by omega)]
      rw [e2] at C2
      simp only at C2
      clear e2
      have h4 : ¬ n + pgP c d < 256 := by omega
      clear h0 h1 h2 h3 q2 q4 q5
      generalize pgP c d = p at *
      go_enter Try.func7, Try.ntmps7
      go_upto_region 1 with fail
      generalize w.alloc (.cells #[.int .i64 c, .int .i64 d] 28) = W at *
      obtain ⟨c0, c1⟩ := two_cells J0.out.Y
      have c6 := J0.out.Y.lt
      go_upto_region 2 with (go_at_call 16; (with_reducible refine (C1.out _).mono ?_); rintro e w1 ⟨rfl, hb⟩; have J1 := Lib.hid (J0.out.belowS hb); clear hb)
      have b4 := below_new w1 (.cells #[.int .u32 (80 + 16 * n), .int .u32 (80 + 16 * (n + c))] 38)
      have PP := Lib.hid (Whole.new w1 38 #[.int .u32 (80 + 16 * n), .int .u32 (80 + 16 * (n + c))])
      have J2 := Lib.hid (J1.out.belowS b4)
      clear b4 J1 J0 c0 c1 c6
      generalize w1.alloc (.cells #[.int .u32 (80 + 16 * n), .int .u32 (80 + 16 * (n + c))] 38) = W2 at *
      obtain ⟨c0, c1⟩ := two_cells J2.out.Y
      have c6 := J2.out.Y.lt
      go_upto_region 3 with (go_at_call 16; (with_reducible refine (C2.out _).mono ?_); rintro e w3 ⟨rfl, hb⟩; have J3 := Lib.hid (J2.out.belowS hb); have PP := Lib.hid (PP.out.belowS hb); clear hb)
      have b5 := below_new w3 (.cells #[.int .u32 0, .int .u32 0] 38)
      have RR := Whole.new w3 38 #[.int .u32 0, .int .u32 0]
      have J4 := Lib.hid (J3.out.belowS b5)
      have P4 := PP.out.belowS b5
      clear b5 J3 J2 PP c0 c1 c6
      generalize w3.alloc (.cells #[.int .u32 0, .int .u32 0] 38) = W4 at *
      obtain ⟨c0, c1⟩ := two_cells J4.out.Y
      have c6 := J4.out.Y.lt
      obtain ⟨d0, d1⟩ := two_cells P4
      have d6 := P4.lt
      obtain ⟨e0, e1⟩ := two_cells RR
      have e6 := RR.lt
      clear P4 RR
      go_wp2_with (first | (go_at_call 11; (with_reducible refine (C3.out _).mono ?_); rintro e w5 ⟨rfl, hb⟩; have J5 := Lib.hid (J4.out.belowS hb); clear hb) | (go_at_call 15; (with_reducible refine (AW.out _).mono ?_); rintro e w6 ⟨rfl, hb⟩; have J6 := Lib.hid (J5.out.belowS hb); clear hb))
      go_ret
      first | exact ⟨rfl, J6.out.B⟩ | exact ⟨by simp [*], J6.out.B⟩ | exact ⟨by simp; omega, J6.out.B⟩
  · have e1 : atP c d n = (0, 0, 11) := by unfold atP; rw [if_neg h0, if_pos (by omega)]
    have e2 : atP c d (n + 1) = (0, 0, 11) := by unfold atP; rw [if_neg h0, if_pos (by omega)]
    rw [e1] at C1
    rw [e2] at C2
    simp only at C1 C2
    clear e1 e2 h1 h2 q1 q2 q3 q4 q5
    generalize pgP c d = p at *
    have h0b : (p == 0) = false := by simp [h0]
    go_enter Try.func7, Try.ntmps7
    go_upto_region 1 with fail
    generalize w.alloc (.cells #[.int .i64 c, .int .i64 d] 28) = W at *
    obtain ⟨c0, c1⟩ := two_cells J0.out.Y
    have c6 := J0.out.Y.lt
    go_upto_region 2 with (go_at_call 16; (with_reducible refine (C1.out _).mono ?_); rintro e w1 ⟨rfl, hb⟩; have J1 := Lib.hid (J0.out.belowS hb); clear hb)
    have b4 := below_new w1 (.cells #[.int .u32 0, .int .u32 0] 38)
    have PP := Lib.hid (Whole.new w1 38 #[.int .u32 0, .int .u32 0])
    have J2 := Lib.hid (J1.out.belowS b4)
    clear b4 J1 J0 c0 c1 c6
    generalize w1.alloc (.cells #[.int .u32 0, .int .u32 0] 38) = W2 at *
    obtain ⟨c0, c1⟩ := two_cells J2.out.Y
    have c6 := J2.out.Y.lt
    go_upto_region 3 with (go_at_call 16; (with_reducible refine (C2.out _).mono ?_); rintro e w3 ⟨rfl, hb⟩; have J3 := Lib.hid (J2.out.belowS hb); have PP := Lib.hid (PP.out.belowS hb); clear hb)
    have b5 := below_new w3 (.cells #[.int .u32 0, .int .u32 0] 38)
    have RR := Whole.new w3 38 #[.int .u32 0, .int .u32 0]
    have J4 := Lib.hid (J3.out.belowS b5)
    have P4 := PP.out.belowS b5
    clear b5 J3 J2 PP c0 c1 c6
    generalize w3.alloc (.cells #[.int .u32 0, .int .u32 0] 38) = W4 at *
    obtain ⟨c0, c1⟩ := two_cells J4.out.Y
    have c6 := J4.out.Y.lt
    obtain ⟨d0, d1⟩ := two_cells P4
    have d6 := P4.lt
    obtain ⟨e0, e1⟩ := two_cells RR
    have e6 := RR.lt
    clear P4 RR
    go_wp2_with (first | (go_at_call 11; (with_reducible refine (C3.out _).mono ?_); rintro e w5 ⟨rfl, hb⟩; have J5 := Lib.hid (J4.out.belowS hb); clear hb) | (go_at_call 15; (with_reducible refine (AW.out _).mono ?_); rintro e w6 ⟨rfl, hb⟩; have J6 := Lib.hid (J5.out.belowS hb); clear hb))
    go_ret
    first | exact ⟨rfl, J6.out.B⟩ | exact ⟨by simp [*], J6.out.B⟩ | exact ⟨by simp; omega, J6.out.B⟩
end Go.Proofs.Ytijacjcfnilaiaa.WK
