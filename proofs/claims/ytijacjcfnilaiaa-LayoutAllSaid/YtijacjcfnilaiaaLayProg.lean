/-
  What the program's functions of layer 12 tell: pages, plans. Nothing here is a statement of the seed.
-/
import Derived.Test.YtijacjcfnilaiaaLayRaw
import Derived.Deep.RegionHeld3
set_option linter.unusedSimpArgs false
set_option linter.unusedVariables false
namespace Go.Proofs.Ytijacjcfnilaiaa.YR
open Go.RowKit WM NR OM OR YM
set_option maxHeartbeats 4000000
set_option maxRecDepth 10000
/-- can't there be so many pages -/
def isB (c : Int) : Bool := decide (c < 0) || decide (256 < c)
theorem isBeyond_any (c : Int) (hc : -9223372036854775808 ≤ c ∧ c ≤ 9223372036854775807) (w : World) : Calls Try.prog 27 #[.int .i64 c] w fun e w' => e = .returned (.bool (isB c)) ∧ w = w' := by
  unfold isB
  by_cases h1 : c < 0
  · rw [decide_eq_true h1]
    go_enter Try.func27, Try.ntmps27
    go_wp2_with fail
    go_ret
    exact ⟨rfl, rfl⟩
  · rw [decide_eq_false h1, Bool.false_or]
    go_enter Try.func27, Try.ntmps27
    go_wp2_with fail
    go_ret
    exact ⟨rfl, rfl⟩
theorem pagesFor_any (n : Nat) (hn : (n : Int) * 4 ≤ 140737488355328) (w : World) : Calls Try.prog 23 #[.int .i64 (n : Int)] w fun e w' => e = .returned (.int .i64 ((pgs n : Nat) : Int)) ∧ w = w' := by
  have e1 : IntKind.i64.wrap ((n : Int) + 16) = (n : Int) + 16 := by rw [IntKind.wrap_i64]; omega
  have e2 : IntKind.i64.wrap ((n : Int) + 16 - 1) = (n : Int) + 16 - 1 := by rw [IntKind.wrap_i64]; omega
  have e3 : ((n : Int) + 16 - 1).tdiv 16 = ((pgs n : Nat) : Int) := by
    unfold pgs
    rw [Int.tdiv_eq_ediv_of_nonneg (by omega)]
    omega
  have e4 : IntKind.i64.wrap ((pgs n : Nat) : Int) = ((pgs n : Nat) : Int) := by have := pgs_hold n; rw [IntKind.wrap_i64]; omega
  generalize ((pgs n : Nat) : Int) = p at *
  go_enter Try.func23, Try.ntmps23
  go_wp2_with fail
  go_ret
  exact ⟨by first | rfl | simp [e1, e2, e3, e4], rfl⟩
theorem address_any (f : Int) (hf : 0 ≤ f ∧ f ≤ 512) (w : World) : Calls Try.prog 26 #[.int .i64 f] w fun e w' => e = .returned (.int .u32 (80 + 16 * f)) ∧ w = w' := by
  have e1 : IntKind.i64.wrap (16 * f) = 16 * f := by rw [IntKind.wrap_i64]; omega
  have e2 : IntKind.i64.wrap (80 + 16 * f) = 80 + 16 * f := by rw [IntKind.wrap_i64]; omega
  have e6 : IntKind.u32.wrap (80 + 16 * f) = 80 + 16 * f := by rw [show ∀ x, IntKind.u32.wrap x = x % 4294967296 from fun x => rfl]; omega
  go_enter Try.func26, Try.ntmps26
  go_wp2_with fail
  go_ret
  exact ⟨by first | rfl | simp [e1, e2, e6], rfl⟩
/-- a plan, or the zero one -/
def okP (c d : Int) : Bool := !(isB c || isB d)
abbrev bndC (c d : Int) : Int := if okP c d then c else 0
abbrev bndD (c d : Int) : Int := if okP c d then d else 0
theorem bnd_pgP (c d : Int) : bndC c d + bndD c d = pgP c d ∧ 0 ≤ bndC c d ∧ bndC c d ≤ 256 ∧ 0 ≤ bndD c d ∧ bndD c d ≤ 256 ∧ (okP c d = true → c = bndC c d ∧ d = bndD c d) := by
  unfold pgP bndC bndD okP isB
  by_cases a1 : c < 0 <;> by_cases a2 : 256 < c <;> by_cases a3 : d < 0 <;> by_cases a4 : 256 < d <;> simp [a1, a2, a3, a4] <;> omega
theorem bounded_any (c d : Int) (hc : -9223372036854775808 ≤ c ∧ c ≤ 9223372036854775807) (hd : -9223372036854775808 ≤ d ∧ d ≤ 9223372036854775807) (w : World) : Calls Try.prog 25 #[planV c d] w fun e w' => e = .returned (planV (bndC c d) (bndD c d)) ∧ Below w.heap.size w w' := by
  have C1 := Lib.hid (isBeyond_any c hc)
  have C2 := Lib.hid (isBeyond_any d hd)
  have b0 := below_new w (.cells #[.int .i64 c, .int .i64 d] 28)
  have HX := Lib.hid ((Whole.new w 28 #[.int .i64 c, .int .i64 d]).belowS (below_new (w.alloc (.cells #[.int .i64 c, .int .i64 d] 28)) (.cells #[.int .i64 0, .int .i64 0] 28)))
  have HB := Lib.hid (b0.trans ((below_new (w.alloc (.cells #[.int .i64 c, .int .i64 d] 28)) (.cells #[.int .i64 0, .int .i64 0] 28)).mono b0.size))
  have HY := Lib.hid (Whole.new (w.alloc (.cells #[.int .i64 c, .int .i64 d] 28)) 28 #[.int .i64 0, .int .i64 0])
  have s0 : (w.alloc (.cells #[.int .i64 c, .int .i64 d] 28)).heap.size = w.heap.size + 1 := by simp
  rw [s0] at HY
  unfold bndC bndD okP
  clear s0 b0 hc hd
  cases k1 : isB c with
  | true =>
    simp only [Bool.true_or, Bool.not_true]
    rw [k1] at C1
    clear C2 k1
    go_enter Try.func25, Try.ntmps25
    go_upto_region 1 with fail
    generalize (w.alloc (.cells #[.int .i64 c, .int .i64 d] 28)).alloc (.cells #[.int .i64 0, .int .i64 0] 28) = W at *
    obtain ⟨c0, c1⟩ := two_cells HX.out
    have c6 := HX.out.lt
    obtain ⟨d0, d1⟩ := two_cells HY.out
    have d6 := HY.out.lt
    have d7 := HY.out.frozen 0
    have d8 := HY.out.frozen 1
    go_wp2_with (go_at_call 27; (with_reducible refine (C1.out _).mono ?_); rintro e w1 ⟨rfl, rfl⟩)
    have HZ : Whole ((W.setCell ⟨w.heap.size + 1, 0, none⟩ (.int .i64 0)).setCell ⟨w.heap.size + 1, 1, none⟩ (.int .i64 0)) (w.heap.size + 1) 28 #[.int .i64 0, .int .i64 0] := (HY.out.set_ 0 (.int .i64 0)).set_ 1 (.int .i64 0)
    obtain ⟨z0, z1⟩ := two_cells HZ
    exact bodyPost_ret (v := planV 0 0) (by simp [results, Try.results25, go_sem, z0, z1]) rfl ⟨rfl, (HB.out.setCell (by simp) _).setCell (by simp) _⟩
  | false =>
    rw [k1] at C1
    clear k1
    cases k2 : isB d with
    | true =>
      simp only [Bool.false_or, Bool.not_true]
      rw [k2] at C2
      clear k2
      go_enter Try.func25, Try.ntmps25
      go_upto_region 1 with fail
      generalize (w.alloc (.cells #[.int .i64 c, .int .i64 d] 28)).alloc (.cells #[.int .i64 0, .int .i64 0] 28) = W at *
      obtain ⟨c0, c1⟩ := two_cells HX.out
      have c6 := HX.out.lt
      obtain ⟨d0, d1⟩ := two_cells HY.out
      have d6 := HY.out.lt
      have d7 := HY.out.frozen 0
      have d8 := HY.out.frozen 1
      go_wp2_with (first | (go_at_call 27; (with_reducible refine (C1.out _).mono ?_); rintro e w1 ⟨rfl, rfl⟩) | (go_at_call 27; (with_reducible refine (C2.out _).mono ?_); rintro e w1 ⟨rfl, rfl⟩))
      have HZ : Whole ((W.setCell ⟨w.heap.size + 1, 0, none⟩ (.int .i64 0)).setCell ⟨w.heap.size + 1, 1, none⟩ (.int .i64 0)) (w.heap.size + 1) 28 #[.int .i64 0, .int .i64 0] := (HY.out.set_ 0 (.int .i64 0)).set_ 1 (.int .i64 0)
      obtain ⟨z0, z1⟩ := two_cells HZ
      exact bodyPost_ret (v := planV 0 0) (by simp [results, Try.results25, go_sem, z0, z1]) rfl ⟨rfl, (HB.out.setCell (by simp) _).setCell (by simp) _⟩
    | false =>
      simp only [Bool.false_or, Bool.not_false]
      rw [k2] at C2
      clear k2
      go_enter Try.func25, Try.ntmps25
      go_upto_region 1 with fail
      generalize (w.alloc (.cells #[.int .i64 c, .int .i64 d] 28)).alloc (.cells #[.int .i64 0, .int .i64 0] 28) = W at *
      obtain ⟨c0, c1⟩ := two_cells HX.out
      have c6 := HX.out.lt
      obtain ⟨d0, d1⟩ := two_cells HY.out
      have d6 := HY.out.lt
      have d7 := HY.out.frozen 0
      have d8 := HY.out.frozen 1
      go_wp2_with (first | (go_at_call 27; (with_reducible refine (C1.out _).mono ?_); rintro e w1 ⟨rfl, rfl⟩) | (go_at_call 27; (with_reducible refine (C2.out _).mono ?_); rintro e w1 ⟨rfl, rfl⟩))
      have HZ : Whole ((W.setCell ⟨w.heap.size + 1, 0, none⟩ (.int .i64 c)).setCell ⟨w.heap.size + 1, 1, none⟩ (.int .i64 d)) (w.heap.size + 1) 28 #[.int .i64 c, .int .i64 d] := (HY.out.set_ 0 (.int .i64 c)).set_ 1 (.int .i64 d)
      obtain ⟨z0, z1⟩ := two_cells HZ
      exact bodyPost_ret (v := planV c d) (by simp [results, Try.results25, go_sem, z0, z1]) rfl ⟨rfl, (HB.out.setCell (by simp) _).setCell (by simp) _⟩
end Go.Proofs.Ytijacjcfnilaiaa.YR
