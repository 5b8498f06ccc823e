/-
  Joined texts: LayProg, LayProg2, LayProg3. Nothing here is a statement of the seed.
-/
import Derived.Test.YtajidaicojekdaaLayA
import Derived.Deep.RegionHeld3
import Derived.Deep.CutRange
set_option linter.unusedSimpArgs false
set_option linter.unusedVariables false
/-
  What the program's functions of layer 12 tell: pages, plans. Nothing here is a statement of the seed.
-/
namespace Go.Proofs.Ytajidaicojekdaa.YR
open Go.RowKit WM NR OM OR YM
set_option maxHeartbeats 4000000
set_option maxRecDepth 10000
/-- can't there be so many pages -/
def isB (c : Int) : Bool := decide (c < 0) || decide (256 < c)
theorem isBeyond_any (c : Int) (hc : -9223372036854775808 ≤ c ∧ c ≤ 9223372036854775807) (w : World) : Calls Try.prog 85 #[.int .i64 c] w fun e w' => e = .returned (.bool (isB c)) ∧ w = w' := by
  unfold isB
  by_cases h1 : c < 0
  · rw [decide_eq_true h1]
    go_enter Try.func85, Try.ntmps85
    go_wp2_with fail
    go_ret
    exact ⟨rfl, rfl⟩
  · rw [decide_eq_false h1, Bool.false_or]
    go_enter Try.func85, Try.ntmps85
    go_wp2_with fail
    go_ret
    exact ⟨rfl, rfl⟩
theorem pagesFor_any (n : Nat) (hn : (n : Int) * 4 ≤ 140737488355328) (w : World) : Calls Try.prog 59 #[.int .i64 (n : Int)] w fun e w' => e = .returned (.int .i64 ((pgs n : Nat) : Int)) ∧ w = w' := by
  have e1 : IntKind.i64.wrap ((n : Int) + 16) = (n : Int) + 16 := by rw [IntKind.wrap_i64]; omega
  have e2 : IntKind.i64.wrap ((n : Int) + 16 - 1) = (n : Int) + 16 - 1 := by rw [IntKind.wrap_i64]; omega
  have e3 : ((n : Int) + 16 - 1).tdiv 16 = ((pgs n : Nat) : Int) := by
    unfold pgs
    rw [Int.tdiv_eq_ediv_of_nonneg (by omega)]
    omega
  have e4 : IntKind.i64.wrap ((pgs n : Nat) : Int) = ((pgs n : Nat) : Int) := by have := pgs_hold n; rw [IntKind.wrap_i64]; omega
  generalize ((pgs n : Nat) : Int) = p at *
  go_enter Try.func59, Try.ntmps59
  go_wp2_with fail
  go_ret
  exact ⟨by first | rfl | simp [e1, e2, e3, e4], rfl⟩
theorem address_any (f : Int) (hf : 0 ≤ f ∧ f ≤ 512) (w : World) : Calls Try.prog 58 #[.int .i64 f] w fun e w' => e = .returned (.int .u32 (80 + 16 * f)) ∧ w = w' := by
  have e1 : IntKind.i64.wrap (16 * f) = 16 * f := by rw [IntKind.wrap_i64]; omega
  have e2 : IntKind.i64.wrap (80 + 16 * f) = 80 + 16 * f := by rw [IntKind.wrap_i64]; omega
  have e6 : IntKind.u32.wrap (80 + 16 * f) = 80 + 16 * f := by rw [show ∀ x, IntKind.u32.wrap x = x % 4294967296 from fun x => rfl]; omega
  go_enter Try.func58, Try.ntmps58
  go_wp2_with fail
  go_ret
  exact ⟨by first | rfl | simp [e1, e2, e6], rfl⟩
/-- a plan, or the zero one -/
def okP (c d : Int) : Bool := !(isB c || isB d)
abbrev bndC (c d : Int) : Int := if okP c d then c else 0
abbrev bndD (c d : Int) : Int := if okP c d then d else 0
theorem bnd_pgP (c d : Int) : bndC c d + bndD c d = pgP c d ∧ 0 ≤ bndC c d ∧ bndC c d ≤ 256 ∧ 0 ≤ bndD c d ∧ bndD c d ≤ 256 ∧ (okP c d = true → c = bndC c d ∧ d = bndD c d) := by
  unfold pgP bndC bndD okP isB
  by_cases a1 : c < 0 <;> by_cases a2 : 256 < c <;> by_cases a3 : d < 0 <;> by_cases a4 : 256 < d <;> simp [a1, a2, a3, a4] <;> omega
theorem bounded_any (c d : Int) (hc : -9223372036854775808 ≤ c ∧ c ≤ 9223372036854775807) (hd : -9223372036854775808 ≤ d ∧ d ≤ 9223372036854775807) (w : World) : Calls Try.prog 56 #[planV c d] w fun e w' => e = .returned (planV (bndC c d) (bndD c d)) ∧ Below w.heap.size w w' := by
  have C1 := Lib.hid (isBeyond_any c hc)
  have C2 := Lib.hid (isBeyond_any d hd)
  have b0 := below_new w (.cells #[.int .i64 c, .int .i64 d] 69)
  have HX := Lib.hid ((Whole.new w 69 #[.int .i64 c, .int .i64 d]).belowS (below_new (w.alloc (.cells #[.int .i64 c, .int .i64 d] 69)) (.cells #[.int .i64 0, .int .i64 0] 69)))
  have HB := Lib.hid (b0.trans ((below_new (w.alloc (.cells #[.int .i64 c, .int .i64 d] 69)) (.cells #[.int .i64 0, .int .i64 0] 69)).mono b0.size))
  have HY := Lib.hid (Whole.new (w.alloc (.cells #[.int .i64 c, .int .i64 d] 69)) 69 #[.int .i64 0, .int .i64 0])
  have s0 : (w.alloc (.cells #[.int .i64 c, .int .i64 d] 69)).heap.size = w.heap.size + 1 := by simp
  rw [s0] at HY
  unfold bndC bndD okP
  clear s0 b0 hc hd
  cases k1 : isB c with
  | true =>
    simp only [Bool.true_or, Bool.not_true]
    rw [k1] at C1
    clear C2 k1
    go_enter Try.func56, Try.ntmps56
    go_upto_region 1 with fail
    generalize (w.alloc (.cells #[.int .i64 c, .int .i64 d] 69)).alloc (.cells #[.int .i64 0, .int .i64 0] 69) = W at *
    obtain ⟨c0, c1⟩ := two_cells HX.out
    have c6 := HX.out.lt
    obtain ⟨d0, d1⟩ := two_cells HY.out
    have d6 := HY.out.lt
    have d7 := HY.out.frozen 0
    have d8 := HY.out.frozen 1
    go_wp2_with (go_at_call 85; (with_reducible refine (C1.out _).mono ?_); rintro e w1 ⟨rfl, rfl⟩)
    have HZ : Whole ((W.setCell ⟨w.heap.size + 1, 0, none⟩ (.int .i64 0)).setCell ⟨w.heap.size + 1, 1, none⟩ (.int .i64 0)) (w.heap.size + 1) 69 #[.int .i64 0, .int .i64 0] := (HY.out.set_ 0 (.int .i64 0)).set_ 1 (.int .i64 0)
    obtain ⟨z0, z1⟩ := two_cells HZ
    exact bodyPost_ret (v := planV 0 0) (by simp [results, Try.results56, go_sem, z0, z1]) rfl ⟨rfl, (HB.out.setCell (by simp) _).setCell (by simp) _⟩
  | false =>
    rw [k1] at C1
    clear k1
    cases k2 : isB d with
    | true =>
      simp only [Bool.false_or, Bool.not_true]
      rw [k2] at C2
      clear k2
      go_enter Try.func56, Try.ntmps56
      go_upto_region 1 with fail
      generalize (w.alloc (.cells #[.int .i64 c, .int .i64 d] 69)).alloc (.cells #[.int .i64 0, .int .i64 0] 69) = W at *
      obtain ⟨c0, c1⟩ := two_cells HX.out
      have c6 := HX.out.lt
      obtain ⟨d0, d1⟩ := two_cells HY.out
      have d6 := HY.out.lt
      have d7 := HY.out.frozen 0
      have d8 := HY.out.frozen 1
      go_wp2_with (first | (go_at_call 85; (with_reducible refine (C1.out _).mono ?_); rintro e w1 ⟨rfl, rfl⟩) | (go_at_call 85; (with_reducible refine (C2.out _).mono ?_); rintro e w1 ⟨rfl, rfl⟩))
      have HZ : Whole ((W.setCell ⟨w.heap.size + 1, 0, none⟩ (.int .i64 0)).setCell ⟨w.heap.size + 1, 1, none⟩ (.int .i64 0)) (w.heap.size + 1) 69 #[.int .i64 0, .int .i64 0] := (HY.out.set_ 0 (.int .i64 0)).set_ 1 (.int .i64 0)
      obtain ⟨z0, z1⟩ := two_cells HZ
      exact bodyPost_ret (v := planV 0 0) (by simp [results, Try.results56, go_sem, z0, z1]) rfl ⟨rfl, (HB.out.setCell (by simp) _).setCell (by simp) _⟩
    | false =>
      simp only [Bool.false_or, Bool.not_false]
      rw [k2] at C2
      clear k2
      go_enter Try.func56, Try.ntmps56
      go_upto_region 1 with fail
      generalize (w.alloc (.cells #[.int .i64 c, .int .i64 d] 69)).alloc (.cells #[.int .i64 0, .int .i64 0] 69) = W at *
      obtain ⟨c0, c1⟩ := two_cells HX.out
      have c6 := HX.out.lt
      obtain ⟨d0, d1⟩ := two_cells HY.out
      have d6 := HY.out.lt
      have d7 := HY.out.frozen 0
      have d8 := HY.out.frozen 1
      go_wp2_with (first | (go_at_call 85; (with_reducible refine (C1.out _).mono ?_); rintro e w1 ⟨rfl, rfl⟩) | (go_at_call 85; (with_reducible refine (C2.out _).mono ?_); rintro e w1 ⟨rfl, rfl⟩))
      have HZ : Whole ((W.setCell ⟨w.heap.size + 1, 0, none⟩ (.int .i64 c)).setCell ⟨w.heap.size + 1, 1, none⟩ (.int .i64 d)) (w.heap.size + 1) 69 #[.int .i64 c, .int .i64 d] := (HY.out.set_ 0 (.int .i64 c)).set_ 1 (.int .i64 d)
      obtain ⟨z0, z1⟩ := two_cells HZ
      exact bodyPost_ret (v := planV c d) (by simp [results, Try.results56, go_sem, z0, z1]) rfl ⟨rfl, (HB.out.setCell (by simp) _).setCell (by simp) _⟩
end Go.Proofs.Ytajidaicojekdaa.YR

/-
  What the program's functions of layer 12 tell: plans, places. Nothing here is a statement of the seed.
-/
namespace Go.Proofs.Ytajidaicojekdaa.YR
open Go.RowKit WM NR OM OR YM
set_option maxHeartbeats 4000000
set_option maxRecDepth 10000
theorem pages_any (c d : Int) (hc : -9223372036854775808 ≤ c ∧ c ≤ 9223372036854775807) (hd : -9223372036854775808 ≤ d ∧ d ≤ 9223372036854775807) (w : World) : Calls Try.prog 57 #[planV c d] w fun e w' => e = .returned (.int .i64 (pgP c d)) ∧ Below w.heap.size w w' := by
  have b0 := below_new w (.cells #[.int .i64 c, .int .i64 d] 69)
  have HX := Lib.hid (Whole.new w 69 #[.int .i64 c, .int .i64 d])
  have HB := Lib.hid b0
  have C := Lib.hid (bounded_any c d hc hd)
  obtain ⟨h1, h2, h3, h4, h5, _⟩ := bnd_pgP c d
  rw [← h1]
  clear b0 hc hd h1
  generalize bndC c d = p at *
  generalize bndD c d = q at *
  have e : IntKind.i64.wrap (p + q) = p + q := by rw [IntKind.wrap_i64]; omega
  go_enter Try.func57, Try.ntmps57
  go_upto_region 1 with fail
  generalize w.alloc (.cells #[.int .i64 c, .int .i64 d] 69) = W at *
  obtain ⟨c0, c1⟩ := two_cells HX.out
  have c6 := HX.out.lt
  go_upto_region 2 with (go_at_call 56; (with_reducible refine (C.out _).mono ?_); rintro e w1 ⟨rfl, hb⟩; have HX1 := Lib.hid (HX.out.belowS hb); have HB1 := Lib.hid (HB.out.trans (hb.mono HB.out.size)); obtain ⟨d0, d1⟩ := two_cells HX1.out; have d6 := HX1.out.lt; have d7 := HX1.out.frozen 0; have d8 := HX1.out.frozen 1; clear hb)
  have HZ : Whole ((w1.setCell ⟨w.heap.size, 0, none⟩ (.int .i64 p)).setCell ⟨w.heap.size, 1, none⟩ (.int .i64 q)) w.heap.size 69 #[.int .i64 p, .int .i64 q] := (HX1.out.set_ 0 (.int .i64 p)).set_ 1 (.int .i64 q)
  have HB2 : Hid (Below w.heap.size w ((w1.setCell ⟨w.heap.size, 0, none⟩ (.int .i64 p)).setCell ⟨w.heap.size, 1, none⟩ (.int .i64 q))) := Lib.hid ((HB1.out.setCell (by simp) _).setCell (by simp) _)
  clear d0 d1 d6 d7 d8 c0 c1 c6 HB HB1 HX1
  generalize ((w1.setCell ⟨w.heap.size, 0, none⟩ (.int .i64 p)).setCell ⟨w.heap.size, 1, none⟩ (.int .i64 q)) = W2 at *
  obtain ⟨z0, z1⟩ := two_cells HZ
  have z6 := HZ.lt
  clear HZ
  go_wp2_with fail
  go_ret
  exact ⟨by first | rfl | simp [e], HB2.out⟩
theorem words_any (c d : Int) (hc : -9223372036854775808 ≤ c ∧ c ≤ 9223372036854775807) (hd : -9223372036854775808 ≤ d ∧ d ≤ 9223372036854775807) (w : World) : Calls Try.prog 26 #[planV c d] w fun e w' => e = .returned (.int .i64 (16 * pgP c d)) ∧ Below w.heap.size w w' := by
  have b0 := below_new w (.cells #[.int .i64 c, .int .i64 d] 69)
  have HX := Lib.hid (Whole.new w 69 #[.int .i64 c, .int .i64 d])
  have HB := Lib.hid b0
  have C := Lib.hid (pages_any c d hc hd)
  have hp := pgP_bd c d
  clear b0 hc hd
  generalize pgP c d = p at *
  have e : IntKind.i64.wrap (16 * p) = 16 * p := by rw [IntKind.wrap_i64]; omega
  go_enter Try.func26, Try.ntmps26
  go_upto_region 1 with fail
  generalize w.alloc (.cells #[.int .i64 c, .int .i64 d] 69) = W at *
  obtain ⟨c0, c1⟩ := two_cells HX.out
  have c6 := HX.out.lt
  go_wp2_with (go_at_call 57; (with_reducible refine (C.out _).mono ?_); rintro e w1 ⟨rfl, hb1⟩)
  go_ret
  exact ⟨by first | rfl | simp [e], HB.out.trans (hb1.mono HB.out.size)⟩
section
variable {w : World} {ea : Option Addr} {en ec : Nat} {ia : Option Addr} {im ic : Nat} {ca : Option Addr} {cn cc : Nat} {da : Option Addr} {dn dc : Nat} {ra : Option Addr} {rn rc : Nat} {m : Md}
theorem of_any (h : RdM (· < w.heap.size) w ea en ec ia im ic ca cn cc da dn dc ra rn rc m) (hl : cn * 4 ≤ 140737488355328 ∧ dn * 4 ≤ 140737488355328) :
    Calls Try.prog 25 #[mV (bs m.name) ea en ec ia im ic ca cn cc da dn dc ra rn rc] w fun e w' => e = .returned (planV ((pgs cn : Nat) : Int) ((pgs dn : Nat) : Int)) ∧ Below w.heap.size w w' := by
  obtain ⟨_, k3, m3⟩ := reads_len h.cd
  obtain ⟨_, k4, m4⟩ := reads_len h.dt
  have HX := Lib.hid (Whole.new w 45 (mCs (bs m.name) ea en ec ia im ic ca cn cc da dn dc ra rn rc))
  have b0 := below_new w (.cells (mCs (bs m.name) ea en ec ia im ic ca cn cc da dn dc ra rn rc) 45)
  have HB := Lib.hid b0
  have hm : maxLen ≤ 9223372036854775807 := by unfold maxLen; omega
  have C1 := Lib.hid (pagesFor_any cn (by omega))
  have C2 := Lib.hid (pagesFor_any dn (by omega))
  clear b0 h hl k3 m3 k4 m4 hm
  generalize bs m.name = x at *
  generalize pgs cn = p at *
  generalize pgs dn = q at *
  go_enter Try.func25, Try.ntmps25
  go_wp2_with fail
  have s0 : (w.alloc (.cells (mCs x ea en ec ia im ic ca cn cc da dn dc ra rn rc) 45)).heap.size = w.heap.size + 1 := by simp
  generalize w.alloc (.cells (mCs x ea en ec ia im ic ca cn cc da dn dc ra rn rc) 45) = W at *
  have HY := Lib.hid (Whole.new W 69 #[.int .i64 0, .int .i64 0])
  have HX2 := Lib.hid (HX.out.belowS (below_new W (.cells #[.int .i64 0, .int .i64 0] 69)))
  obtain ⟨c0, c1, c2, c3, c4, c5⟩ := mod_cells HX2.out
  have c6 := HX2.out.lt
  have d0 := HY.out.cell 0
  have d1 := HY.out.cell 1
  have d2 := HY.out.lt
  have d3 := HY.out.frozen 0
  have d4 := HY.out.frozen 1
  rw [s0] at d0 d1 d2 d3 d4
  go_region_with (first | (go_at_call 59; (with_reducible refine (C1.out _).mono ?_); rintro e w1 ⟨rfl, rfl⟩) | (go_at_call 59; (with_reducible refine (C2.out _).mono ?_); rintro e w1 ⟨rfl, rfl⟩))
  all_goals
    clear d0 d1 d2 d3 d4 c0 c1 c2 c3 c4 c5 c6
    have e0 := (Whole.new W 69 #[.int .i64 (p : Int), .int .i64 (q : Int)]).cell 0
    have e1 := (Whole.new W 69 #[.int .i64 (p : Int), .int .i64 (q : Int)]).cell 1
    rw [s0] at e0 e1
    have hb := Lib.hid (below_new W (.cells #[.int .i64 (p : Int), .int .i64 (q : Int)] 69))
    generalize W.alloc (.cells #[.int .i64 (p : Int), .int .i64 (q : Int)] 69) = U at *
    go_wp2_with fail
    exact bodyPost_ret (v := planV (p : Int) (q : Int)) (by simp [results, Try.results25, go_sem, e0, e1]) rfl ⟨rfl, HB.out.trans ((hb.out.drew).mono HB.out.size)⟩
end
section
variable {w : World} {ea : Option Addr} {en ec : Nat} {ia : Option Addr} {im ic : Nat} {ca : Option Addr} {cn cc : Nat} {da : Option Addr} {dn dc : Nat} {ra : Option Addr} {rn rc : Nat} {m : Md}
theorem spot_any (h : RdM (· < w.heap.size) w ea en ec ia im ic ca cn cc da dn dc ra rn rc m) (hl : cn * 4 ≤ 140737488355328 ∧ dn * 4 ≤ 140737488355328) (i : Int) (hi : -9223372036854775808 ≤ i ∧ i ≤ 9223372036854775807) :
    Calls Try.prog 27 #[mV (bs m.name) ea en ec ia im ic ca cn cc da dn dc ra rn rc, .int .i64 i] w fun e w' => e = .returned (.tuple #[.bool (spV cn dn i).1, .int .i64 (spV cn dn i).2.1, .bool (spV cn dn i).2.2]) ∧ Below w.heap.size w w' := by
  have HX := Lib.hid (Whole.new w 45 (mCs (bs m.name) ea en ec ia im ic ca cn cc da dn dc ra rn rc))
  have b0 := below_new w (.cells (mCs (bs m.name) ea en ec ia im ic ca cn cc da dn dc ra rn rc) 45)
  have HB := Lib.hid b0
  have C1 := Lib.hid (pagesFor_any cn (by omega))
  have hh := pgs_hold cn
  obtain ⟨R, hR⟩ : ∃ R, R = spV cn dn i := ⟨_, rfl⟩
  rw [← hR]
  unfold spV at hR
  clear b0 h
  generalize bs m.name = x at *
  generalize pgs cn = p at *
  have e16 : IntKind.i64.wrap (16 * (p : Int)) = 16 * (p : Int) := by rw [IntKind.wrap_i64]; omega
  by_cases h1 : 0 ≤ i
  · by_cases h2 : i < cn
    · rw [if_pos ⟨h1, h2⟩] at hR
      subst hR
      go_enter Try.func27, Try.ntmps27
      go_upto_region 1 with fail
      generalize w.alloc (.cells (mCs x ea en ec ia im ic ca cn cc da dn dc ra rn rc) 45) = W at *
      obtain ⟨c0, c1, c2, c3, c4, c5⟩ := mod_cells HX.out
      have c6 := HX.out.lt
      go_wp2_with (go_at_call 59; (with_reducible refine (C1.out _).mono ?_); rintro e w1 ⟨rfl, rfl⟩)
      exact bodyPost_ret (v := .tuple #[.bool true, .int .i64 i, .bool true]) (by simp [results, Try.results27, go_sem]) rfl ⟨rfl, HB.out⟩
    · rw [if_neg (fun h => h2 h.2)] at hR
      by_cases h3 : 16 * (p : Int) ≤ i
      · have e3 : IntKind.i64.wrap (i - 16 * (p : Int)) = i - 16 * (p : Int) := by rw [IntKind.wrap_i64]; omega
        by_cases h4 : i - 16 * (p : Int) < dn
        · rw [if_pos ⟨h3, h4⟩] at hR
          subst hR
          have h5 : i - 16 * (p : Int) < (dn : Int) := h4
          generalize hj : i - 16 * (p : Int) = j at *
          go_enter Try.func27, Try.ntmps27
          go_upto_region 1 with fail
          generalize w.alloc (.cells (mCs x ea en ec ia im ic ca cn cc da dn dc ra rn rc) 45) = W at *
          obtain ⟨c0, c1, c2, c3, c4, c5⟩ := mod_cells HX.out
          have c6 := HX.out.lt
          go_wp2_with (go_at_call 59; (with_reducible refine (C1.out _).mono ?_); rintro e w1 ⟨rfl, rfl⟩)
          exact bodyPost_ret (v := .tuple #[.bool false, .int .i64 j, .bool true]) (by simp [results, Try.results27, go_sem]) rfl ⟨rfl, HB.out⟩
        · rw [if_neg (fun h => h4 h.2)] at hR
          subst hR
          generalize hj : i - 16 * (p : Int) = j at *
          go_enter Try.func27, Try.ntmps27
          go_upto_region 1 with fail
          generalize w.alloc (.cells (mCs x ea en ec ia im ic ca cn cc da dn dc ra rn rc) 45) = W at *
          obtain ⟨c0, c1, c2, c3, c4, c5⟩ := mod_cells HX.out
          have c6 := HX.out.lt
          go_wp2_with (go_at_call 59; (with_reducible refine (C1.out _).mono ?_); rintro e w1 ⟨rfl, rfl⟩)
          exact bodyPost_ret (v := .tuple #[.bool false, .int .i64 0, .bool false]) (by simp [results, Try.results27, go_sem]) rfl ⟨rfl, HB.out⟩
      · rw [if_neg (fun h => h3 h.1)] at hR
        subst hR
        go_enter Try.func27, Try.ntmps27
        go_upto_region 1 with fail
        generalize w.alloc (.cells (mCs x ea en ec ia im ic ca cn cc da dn dc ra rn rc) 45) = W at *
        obtain ⟨c0, c1, c2, c3, c4, c5⟩ := mod_cells HX.out
        have c6 := HX.out.lt
        go_wp2_with (go_at_call 59; (with_reducible refine (C1.out _).mono ?_); rintro e w1 ⟨rfl, rfl⟩)
        exact bodyPost_ret (v := .tuple #[.bool false, .int .i64 0, .bool false]) (by simp [results, Try.results27, go_sem]) rfl ⟨rfl, HB.out⟩
  · rw [if_neg (fun h => h1 h.1), if_neg (by omega)] at hR
    subst hR
    have h3 : ¬ 16 * (p : Int) ≤ i := by omega
    go_enter Try.func27, Try.ntmps27
    go_upto_region 1 with fail
    generalize w.alloc (.cells (mCs x ea en ec ia im ic ca cn cc da dn dc ra rn rc) 45) = W at *
    obtain ⟨c0, c1, c2, c3, c4, c5⟩ := mod_cells HX.out
    have c6 := HX.out.lt
    go_wp2_with (go_at_call 59; (with_reducible refine (C1.out _).mono ?_); rintro e w1 ⟨rfl, rfl⟩)
    exact bodyPost_ret (v := .tuple #[.bool false, .int .i64 0, .bool false]) (by simp [results, Try.results27, go_sem]) rfl ⟨rfl, HB.out⟩
end
section
variable {w : World} {ea : Option Addr} {en ec : Nat} {ia : Option Addr} {im ic : Nat} {ca : Option Addr} {cn cc : Nat} {da : Option Addr} {dn dc : Nat} {ra : Option Addr} {rn rc : Nat} {m : Md}
theorem raw_any (h : RdM (· < w.heap.size) w ea en ec ia im ic ca cn cc da dn dc ra rn rc m) (hl : cn * 4 ≤ 140737488355328 ∧ dn * 4 ≤ 140737488355328) (i : Int) (hi : -9223372036854775808 ≤ i ∧ i ≤ 9223372036854775807) :
    Calls Try.prog 28 #[mV (bs m.name) ea en ec ia im ic ca cn cc da dn dc ra rn rc, .int .i64 i] w fun e w' => e = .returned (.int .u32 ((rawV m.code m.data i : Nat) : Int)) ∧ Below w.heap.size w w' := by
  obtain ⟨l1, l2, l3, l4, l5⟩ := h.lens
  have HX := Lib.hid (Whole.new w 45 (mCs (bs m.name) ea en ec ia im ic ca cn cc da dn dc ra rn rc))
  have b0 := below_new w (.cells (mCs (bs m.name) ea en ec ia im ic ca cn cc da dn dc ra rn rc) 45)
  have HB := Lib.hid b0
  have C := Lib.hid (spot_any (h.go b0 b0.size) hl i hi)
  have HC := Lib.hid h.cd
  have HD := Lib.hid h.dt
  have k3 := (reads_len h.cd).2.1
  have k4 := (reads_len h.dt).2.1
  clear b0 h
  by_cases h1 : 0 ≤ i ∧ i < cn
  · obtain ⟨j, rfl⟩ : ∃ j : Nat, i = (j : Int) := ⟨i.toNat, by omega⟩
    have jc : j < cn := by omega
    have jl : j < m.code.length := by omega
    have hj : (j : Int) < cn := by omega
    obtain ⟨g, off, rfl, e1⟩ := word_at HC.out l3 jc
    have RE := Lib.hid e1
    rw [spV_code h1] at C
    rw [rawV_code jl]
    simp only at C
    clear h1 jl e1 HC HD l1 l2 l3 l4 l5 hi
    generalize bs m.name = x at *
    generalize ((m.code.getD j 0 : Nat) : Int) = y at *
    go_enter Try.func28, Try.ntmps28
    go_upto_region 1 with fail
    generalize w.alloc (.cells (mCs x ea en ec ia im ic (some ⟨g, off, none⟩) cn cc da dn dc ra rn rc) 45) = W at *
    obtain ⟨c0, c1, c2, c3, c4, c5⟩ := mod_cells HX.out
    have c6 := HX.out.lt
    go_wp2_with (go_at_call 27; (with_reducible refine C.out.mono ?_); rintro e w1 ⟨rfl, hb⟩; have HX1 := Lib.hid (HX.out.belowS hb); have HB1 := Lib.hid (HB.out.trans (hb.mono HB.out.size)); obtain ⟨c0, c1, c2, c3, c4, c5⟩ := mod_cells HX1.out; have c6 := HX1.out.lt; have r0 := RE.out _ HB1.out; clear hb)
    go_ret
    exact ⟨rfl, HB1.out⟩
  have hh := (pgs_hold cn).1
  by_cases h2 : 16 * (pgs cn : Int) ≤ i ∧ i - 16 * (pgs cn : Int) < dn
  · obtain ⟨j, hj⟩ : ∃ j : Nat, i - 16 * (pgs cn : Int) = (j : Int) := ⟨(i - 16 * (pgs cn : Int)).toNat, by omega⟩
    have jd : j < dn := by omega
    have jl : j < m.data.length := by omega
    have hjd : (j : Int) < dn := by omega
    obtain ⟨g, off, rfl, e1⟩ := word_at HD.out l4 jd
    have RE := Lib.hid e1
    rw [spV_data h2.1 h2.2, hj] at C
    have er : rawV m.code m.data i = m.data.getD j 0 := by
      obtain ⟨i', rfl⟩ : ∃ i' : Nat, i = (i' : Int) := ⟨i.toNat, by omega⟩
      exact rawV_data (by rw [l3]; omega) jl
    rw [er]
    simp only at C
    clear h1 h2 jl e1 HC HD l1 l2 l3 l4 l5 hi hj er hh
    generalize bs m.name = x at *
    generalize ((m.data.getD j 0 : Nat) : Int) = y at *
    go_enter Try.func28, Try.ntmps28
    go_upto_region 1 with fail
    generalize w.alloc (.cells (mCs x ea en ec ia im ic ca cn cc (some ⟨g, off, none⟩) dn dc ra rn rc) 45) = W at *
    obtain ⟨c0, c1, c2, c3, c4, c5⟩ := mod_cells HX.out
    have c6 := HX.out.lt
    go_wp2_with (go_at_call 27; (with_reducible refine C.out.mono ?_); rintro e w1 ⟨rfl, hb⟩; have HX1 := Lib.hid (HX.out.belowS hb); have HB1 := Lib.hid (HB.out.trans (hb.mono HB.out.size)); obtain ⟨c0, c1, c2, c3, c4, c5⟩ := mod_cells HX1.out; have c6 := HX1.out.lt; have r0 := RE.out _ HB1.out; clear hb)
    go_ret
    exact ⟨rfl, HB1.out⟩
  · rw [spV_none h1 h2] at C
    have er : rawV m.code m.data i = 0 := rawV_none (by rw [l3]; exact h1) (by rw [l3, l4]; exact h2)
    rw [er]
    simp only at C
    clear h1 h2 HC HD l1 l2 l3 l4 l5 hi er hh
    generalize bs m.name = x at *
    go_enter Try.func28, Try.ntmps28
    go_upto_region 1 with fail
    generalize w.alloc (.cells (mCs x ea en ec ia im ic ca cn cc da dn dc ra rn rc) 45) = W at *
    obtain ⟨c0, c1, c2, c3, c4, c5⟩ := mod_cells HX.out
    have c6 := HX.out.lt
    go_wp2_with (go_at_call 27; (with_reducible refine C.out.mono ?_); rintro e w1 ⟨rfl, hb⟩; have HX1 := Lib.hid (HX.out.belowS hb); have HB1 := Lib.hid (HB.out.trans (hb.mono HB.out.size)); obtain ⟨c0, c1, c2, c3, c4, c5⟩ := mod_cells HX1.out; have c6 := HX1.out.lt; clear hb)
    go_ret
    exact ⟨rfl, HB1.out⟩
end
end Go.Proofs.Ytajidaicojekdaa.YR

/-
  What the program's functions of layer 12 tell: where a plan stands. Nothing here is a statement of the seed.
-/
namespace Go.Proofs.Ytajidaicojekdaa.YR
open Go.RowKit WM NR OM OR YM
set_option maxHeartbeats 4000000
set_option maxRecDepth 10000
theorem at_any (c d f : Int) (hc : -9223372036854775808 ≤ c ∧ c ≤ 9223372036854775807) (hd : -9223372036854775808 ≤ d ∧ d ≤ 9223372036854775807) (hf : -9223372036854775808 ≤ f ∧ f ≤ 9223372036854775807) (w : World) : Calls Try.prog 24 #[planV c d, .int .i64 f] w fun e w' => e = .returned (resAt c d f) ∧ Below w.heap.size w w' := by
  have b0 := below_new w (.cells #[.int .i64 c, .int .i64 d] 69)
  have HX := Lib.hid ((Whole.new w 69 #[.int .i64 c, .int .i64 d]).belowS (below_new (w.alloc (.cells #[.int .i64 c, .int .i64 d] 69)) (.cells #[.int .u32 0, .int .u32 0] 48)))
  have HB := Lib.hid (b0.trans ((below_new (w.alloc (.cells #[.int .i64 c, .int .i64 d] 69)) (.cells #[.int .u32 0, .int .u32 0] 48)).mono b0.size))
  have HY := Lib.hid (Whole.new (w.alloc (.cells #[.int .i64 c, .int .i64 d] 69)) 48 #[.int .u32 0, .int .u32 0])
  have s0 : (w.alloc (.cells #[.int .i64 c, .int .i64 d] 69)).heap.size = w.heap.size + 1 := by simp
  rw [s0] at HY
  clear s0
  have C0 := Lib.hid (bounded_any c d hc hd)
  have C1 := Lib.hid (pages_any c d hc hd)
  have hp := pgP_bd c d
  have hz := Lib.hid (fun h => pgP_zero (c := c) (d := d) h)
  obtain ⟨p1, p2, p3, p4, p5, p6⟩ := bnd_pgP c d
  clear b0 hc hd
  obtain ⟨R, hR⟩ : ∃ R, R = atP c d f := ⟨_, rfl⟩
  unfold resAt
  rw [← hR]
  unfold atP at hR
  generalize pgP c d = p at *
  generalize bndC c d = bc at *
  generalize bndD c d = bd at *
  by_cases h0 : p = 0
  · rw [if_pos h0] at hR
    subst hR h0
    obtain rfl : bc = 0 := by omega
    obtain rfl : bd = 0 := by omega
    clear hz hp p1 p2 p3 p4 p5 p6
    go_enter Try.func24, Try.ntmps24
    go_upto_region 1 with fail
    generalize (w.alloc (.cells #[.int .i64 c, .int .i64 d] 69)).alloc (.cells #[.int .u32 0, .int .u32 0] 48) = W at *
    obtain ⟨c0, c1⟩ := two_cells HX.out
    have c6 := HX.out.lt
    go_wp2_with (go_at_call 56; (with_reducible refine (C0.out _).mono ?_); rintro e w1 ⟨rfl, hb⟩; have HX1 := Lib.hid (HX.out.belowS hb); have HY1 := Lib.hid (HY.out.belowS hb); have HB1 := Lib.hid (HB.out.trans (hb.mono HB.out.size)); clear c0 c1 c6; obtain ⟨c0, c1⟩ := two_cells HX1.out; have c6 := HX1.out.lt; obtain ⟨d0, d1⟩ := two_cells HY1.out; have d6 := HY1.out.lt; have d7 := HY1.out.frozen 0; have d8 := HY1.out.frozen 1; clear hb)
    have HZ : Whole ((w1.setCell ⟨w.heap.size + 1, 0, none⟩ (.int .u32 0)).setCell ⟨w.heap.size + 1, 1, none⟩ (.int .u32 0)) (w.heap.size + 1) 48 #[.int .u32 0, .int .u32 0] := (HY1.out.set_ 0 (.int .u32 0)).set_ 1 (.int .u32 0)
    obtain ⟨z0, z1⟩ := two_cells HZ
    exact bodyPost_ret (v := .tuple #[placeV 0 0, .int .i64 2]) (by simp [results, Try.results24, go_sem, z0, z1]) rfl ⟨rfl, (HB1.out.setCell (by simp) _).setCell (by simp) _⟩
  rw [if_neg h0] at hR
  obtain ⟨q1, q2, q3, q4, q5⟩ := hz.out h0
  obtain ⟨rfl, rfl⟩ : bc = c ∧ bd = d := by
    unfold okP isB at p6
    have := p6 (by simp; omega)
    omega
  clear hz p1 p6 p2 p3 p4 p5
  subst q5
  have hcd : ¬ (bc = 0 ∧ bd = 0) := by omega
  have hcd2 : ¬ bc = 0 ∨ ¬ bd = 0 := by omega
  by_cases hb0 : bc = 0
  · subst hb0
    have hd0 : ¬ bd = 0 := by omega
    clear hcd hcd2
    simp only [Int.zero_add, Int.add_zero] at hR C1 h0 hp
    have e0 : IntKind.i64.wrap (256 - bd) = 256 - bd := by rw [IntKind.wrap_i64]; omega
    by_cases h1 : f < 0
    · rw [if_pos (Or.inl h1)] at hR
      subst hR
      clear hf hp
      go_enter Try.func24, Try.ntmps24
      go_upto_region 1 with fail
      generalize (w.alloc (.cells #[.int .i64 0, .int .i64 bd] 69)).alloc (.cells #[.int .u32 0, .int .u32 0] 48) = W at *
      obtain ⟨c0, c1⟩ := two_cells HX.out
      have c6 := HX.out.lt
      go_wp2_with (go_at_call 56; (with_reducible refine (C0.out _).mono ?_); rintro e w1 ⟨rfl, hb⟩; have HX1 := Lib.hid (HX.out.belowS hb); have HY1 := Lib.hid (HY.out.belowS hb); have HB1 := Lib.hid (HB.out.trans (hb.mono HB.out.size)); clear c0 c1 c6; obtain ⟨c0, c1⟩ := two_cells HX1.out; have c6 := HX1.out.lt; obtain ⟨d0, d1⟩ := two_cells HY1.out; have d6 := HY1.out.lt; have d7 := HY1.out.frozen 0; have d8 := HY1.out.frozen 1; clear hb)
      have HZ : Whole ((w1.setCell ⟨w.heap.size + 1, 0, none⟩ (.int .u32 0)).setCell ⟨w.heap.size + 1, 1, none⟩ (.int .u32 0)) (w.heap.size + 1) 48 #[.int .u32 0, .int .u32 0] := (HY1.out.set_ 0 (.int .u32 0)).set_ 1 (.int .u32 0)
      obtain ⟨z0, z1⟩ := two_cells HZ
      exact bodyPost_ret (v := .tuple #[placeV 0 0, .int .i64 11]) (by simp [results, Try.results24, go_sem, z0, z1]) rfl ⟨rfl, (HB1.out.setCell (by simp) _).setCell (by simp) _⟩
    by_cases h3 : 256 - bd < f
    · rw [if_pos (Or.inr (by omega))] at hR
      subst hR
      clear hf hp q1 q2 q3 q4
      go_enter Try.func24, Try.ntmps24
      go_upto_region 1 with fail
      generalize (w.alloc (.cells #[.int .i64 0, .int .i64 bd] 69)).alloc (.cells #[.int .u32 0, .int .u32 0] 48) = W at *
      obtain ⟨c0, c1⟩ := two_cells HX.out
      have c6 := HX.out.lt
      go_wp2_with (first | (go_at_call 56; (with_reducible refine (C0.out _).mono ?_); rintro e w1 ⟨rfl, hb⟩; have HX1 := Lib.hid (HX.out.belowS hb); have HY1 := Lib.hid (HY.out.belowS hb); have HB1 := Lib.hid (HB.out.trans (hb.mono HB.out.size)); clear c0 c1 c6; obtain ⟨c0, c1⟩ := two_cells HX1.out; have c6 := HX1.out.lt; obtain ⟨d0, d1⟩ := two_cells HY1.out; have d6 := HY1.out.lt; have d7 := HY1.out.frozen 0; have d8 := HY1.out.frozen 1; clear hb) | (go_at_call 57; (with_reducible refine (C1.out _).mono ?_); rintro e w2 ⟨rfl, hb⟩; have HX2 := Lib.hid (HX1.out.belowS hb); have HY2 := Lib.hid (HY1.out.belowS hb); have HB2 := Lib.hid (HB1.out.trans (hb.mono HB1.out.size)); obtain ⟨c0, c1⟩ := two_cells HX2.out; have c6 := HX2.out.lt; obtain ⟨d0, d1⟩ := two_cells HY2.out; have d6 := HY2.out.lt; have d7 := HY2.out.frozen 0; have d8 := HY2.out.frozen 1; clear hb))
      have HZ : Whole ((w2.setCell ⟨w.heap.size + 1, 0, none⟩ (.int .u32 0)).setCell ⟨w.heap.size + 1, 1, none⟩ (.int .u32 0)) (w.heap.size + 1) 48 #[.int .u32 0, .int .u32 0] := (HY2.out.set_ 0 (.int .u32 0)).set_ 1 (.int .u32 0)
      obtain ⟨z0, z1⟩ := two_cells HZ
      exact bodyPost_ret (v := .tuple #[placeV 0 0, .int .i64 11]) (by simp [results, Try.results24, go_sem, z0, z1]) rfl ⟨rfl, (HB2.out.setCell (by simp) _).setCell (by simp) _⟩
    rw [if_neg (by omega)] at hR
    subst hR
    have e3 : IntKind.i64.wrap f = f := by rw [IntKind.wrap_i64]; omega
    have A1 := Lib.hid (address_any f (by omega))
    have A2 := Lib.hid (address_any f (by omega))
    generalize 80 + 16 * f = a1 at *
    clear hf hp q1 q2 q3 q4
    go_enter Try.func24, Try.ntmps24
    go_upto_region 1 with fail
    generalize (w.alloc (.cells #[.int .i64 0, .int .i64 bd] 69)).alloc (.cells #[.int .u32 0, .int .u32 0] 48) = W at *
    obtain ⟨c0, c1⟩ := two_cells HX.out
    have c6 := HX.out.lt
    go_upto_region 5 with (first | (go_at_call 56; (with_reducible refine (C0.out _).mono ?_); rintro e w1 ⟨rfl, hb⟩; have HX1 := Lib.hid (HX.out.belowS hb); have HY1 := Lib.hid (HY.out.belowS hb); have HB1 := Lib.hid (HB.out.trans (hb.mono HB.out.size)); clear c0 c1 c6; obtain ⟨c0, c1⟩ := two_cells HX1.out; have c6 := HX1.out.lt; obtain ⟨d0, d1⟩ := two_cells HY1.out; have d6 := HY1.out.lt; have d7 := HY1.out.frozen 0; have d8 := HY1.out.frozen 1; clear hb) | (go_at_call 57; (with_reducible refine (C1.out _).mono ?_); rintro e w2 ⟨rfl, hb⟩; have HX2 := Lib.hid (HX1.out.belowS hb); have HY2 := Lib.hid (HY1.out.belowS hb); have HB2 := Lib.hid (HB1.out.trans (hb.mono HB1.out.size)); clear c0 c1 c6 d0 d1 d6 d7 d8; obtain ⟨c0, c1⟩ := two_cells HX2.out; have c6 := HX2.out.lt; obtain ⟨d0, d1⟩ := two_cells HY2.out; have d6 := HY2.out.lt; have d7 := HY2.out.frozen 0; have d8 := HY2.out.frozen 1; clear hb))
    go_region_with (first | (go_at_call 58; (with_reducible refine (A1.out _).mono ?_); rintro e w3 ⟨rfl, rfl⟩) | (go_at_call 58; (with_reducible refine (A2.out _).mono ?_); rintro e w3 ⟨rfl, rfl⟩))
    all_goals
      have HZ : Whole ((w2.setCell ⟨w.heap.size + 1, 0, none⟩ (.int .u32 a1)).setCell ⟨w.heap.size + 1, 1, none⟩ (.int .u32 a1)) (w.heap.size + 1) 48 #[.int .u32 a1, .int .u32 a1] := (HY2.out.set_ 0 (.int .u32 a1)).set_ 1 (.int .u32 a1)
      obtain ⟨z0, z1⟩ := two_cells HZ
      have HB3 : Hid (Below w.heap.size w ((w2.setCell ⟨w.heap.size + 1, 0, none⟩ (.int .u32 a1)).setCell ⟨w.heap.size + 1, 1, none⟩ (.int .u32 a1))) := Lib.hid ((HB2.out.setCell (by simp) _).setCell (by simp) _)
      go_wp2_with fail
      exact bodyPost_ret (v := .tuple #[placeV a1 a1, .int .i64 0]) (by simp [results, Try.results24, go_sem, z0, z1]) rfl ⟨rfl, HB3.out.drew⟩
  clear hcd hcd2
  have e0 : IntKind.i64.wrap (256 - (bc + bd)) = 256 - (bc + bd) := by rw [IntKind.wrap_i64]; omega
  by_cases h1 : f < 0
  · rw [if_pos (Or.inl h1)] at hR
    subst hR
    clear hf hp
    go_enter Try.func24, Try.ntmps24
    go_upto_region 1 with fail
    generalize (w.alloc (.cells #[.int .i64 bc, .int .i64 bd] 69)).alloc (.cells #[.int .u32 0, .int .u32 0] 48) = W at *
    obtain ⟨c0, c1⟩ := two_cells HX.out
    have c6 := HX.out.lt
    go_wp2_with (go_at_call 56; (with_reducible refine (C0.out _).mono ?_); rintro e w1 ⟨rfl, hb⟩; have HX1 := Lib.hid (HX.out.belowS hb); have HY1 := Lib.hid (HY.out.belowS hb); have HB1 := Lib.hid (HB.out.trans (hb.mono HB.out.size)); clear c0 c1 c6; obtain ⟨c0, c1⟩ := two_cells HX1.out; have c6 := HX1.out.lt; obtain ⟨d0, d1⟩ := two_cells HY1.out; have d6 := HY1.out.lt; have d7 := HY1.out.frozen 0; have d8 := HY1.out.frozen 1; clear hb)
    have HZ : Whole ((w1.setCell ⟨w.heap.size + 1, 0, none⟩ (.int .u32 0)).setCell ⟨w.heap.size + 1, 1, none⟩ (.int .u32 0)) (w.heap.size + 1) 48 #[.int .u32 0, .int .u32 0] := (HY1.out.set_ 0 (.int .u32 0)).set_ 1 (.int .u32 0)
    obtain ⟨z0, z1⟩ := two_cells HZ
    exact bodyPost_ret (v := .tuple #[placeV 0 0, .int .i64 11]) (by simp [results, Try.results24, go_sem, z0, z1]) rfl ⟨rfl, (HB1.out.setCell (by simp) _).setCell (by simp) _⟩
  by_cases h3 : 256 - (bc + bd) < f
  · rw [if_pos (Or.inr (by omega))] at hR
    subst hR
    clear hf hp q1 q2 q3 q4
    go_enter Try.func24, Try.ntmps24
    go_upto_region 1 with fail
    generalize (w.alloc (.cells #[.int .i64 bc, .int .i64 bd] 69)).alloc (.cells #[.int .u32 0, .int .u32 0] 48) = W at *
    obtain ⟨c0, c1⟩ := two_cells HX.out
    have c6 := HX.out.lt
    go_wp2_with (first | (go_at_call 56; (with_reducible refine (C0.out _).mono ?_); rintro e w1 ⟨rfl, hb⟩; have HX1 := Lib.hid (HX.out.belowS hb); have HY1 := Lib.hid (HY.out.belowS hb); have HB1 := Lib.hid (HB.out.trans (hb.mono HB.out.size)); clear c0 c1 c6; obtain ⟨c0, c1⟩ := two_cells HX1.out; have c6 := HX1.out.lt; obtain ⟨d0, d1⟩ := two_cells HY1.out; have d6 := HY1.out.lt; have d7 := HY1.out.frozen 0; have d8 := HY1.out.frozen 1; clear hb) | (go_at_call 57; (with_reducible refine (C1.out _).mono ?_); rintro e w2 ⟨rfl, hb⟩; have HX2 := Lib.hid (HX1.out.belowS hb); have HY2 := Lib.hid (HY1.out.belowS hb); have HB2 := Lib.hid (HB1.out.trans (hb.mono HB1.out.size)); obtain ⟨c0, c1⟩ := two_cells HX2.out; have c6 := HX2.out.lt; obtain ⟨d0, d1⟩ := two_cells HY2.out; have d6 := HY2.out.lt; have d7 := HY2.out.frozen 0; have d8 := HY2.out.frozen 1; clear hb))
    have HZ : Whole ((w2.setCell ⟨w.heap.size + 1, 0, none⟩ (.int .u32 0)).setCell ⟨w.heap.size + 1, 1, none⟩ (.int .u32 0)) (w.heap.size + 1) 48 #[.int .u32 0, .int .u32 0] := (HY2.out.set_ 0 (.int .u32 0)).set_ 1 (.int .u32 0)
    obtain ⟨z0, z1⟩ := two_cells HZ
    exact bodyPost_ret (v := .tuple #[placeV 0 0, .int .i64 11]) (by simp [results, Try.results24, go_sem, z0, z1]) rfl ⟨rfl, (HB2.out.setCell (by simp) _).setCell (by simp) _⟩
  rw [if_neg (by omega)] at hR
  subst hR
  have e3 : IntKind.i64.wrap (f + bc) = f + bc := by rw [IntKind.wrap_i64]; omega
  have A1 := Lib.hid (address_any f (by omega))
  have A2 := Lib.hid (address_any (f + bc) (by omega))
  generalize 80 + 16 * f = a1 at *
  generalize 80 + 16 * (f + bc) = a2 at *
  clear hf hp q1 q2 q3 q4
  go_enter Try.func24, Try.ntmps24
  go_upto_region 1 with fail
  generalize (w.alloc (.cells #[.int .i64 bc, .int .i64 bd] 69)).alloc (.cells #[.int .u32 0, .int .u32 0] 48) = W at *
  obtain ⟨c0, c1⟩ := two_cells HX.out
  have c6 := HX.out.lt
  go_upto_region 5 with (first | (go_at_call 56; (with_reducible refine (C0.out _).mono ?_); rintro e w1 ⟨rfl, hb⟩; have HX1 := Lib.hid (HX.out.belowS hb); have HY1 := Lib.hid (HY.out.belowS hb); have HB1 := Lib.hid (HB.out.trans (hb.mono HB.out.size)); clear c0 c1 c6; obtain ⟨c0, c1⟩ := two_cells HX1.out; have c6 := HX1.out.lt; obtain ⟨d0, d1⟩ := two_cells HY1.out; have d6 := HY1.out.lt; have d7 := HY1.out.frozen 0; have d8 := HY1.out.frozen 1; clear hb) | (go_at_call 57; (with_reducible refine (C1.out _).mono ?_); rintro e w2 ⟨rfl, hb⟩; have HX2 := Lib.hid (HX1.out.belowS hb); have HY2 := Lib.hid (HY1.out.belowS hb); have HB2 := Lib.hid (HB1.out.trans (hb.mono HB1.out.size)); clear c0 c1 c6 d0 d1 d6 d7 d8; obtain ⟨c0, c1⟩ := two_cells HX2.out; have c6 := HX2.out.lt; obtain ⟨d0, d1⟩ := two_cells HY2.out; have d6 := HY2.out.lt; have d7 := HY2.out.frozen 0; have d8 := HY2.out.frozen 1; clear hb))
  go_region_with (first | (go_at_call 58; (with_reducible refine (A1.out _).mono ?_); rintro e w3 ⟨rfl, rfl⟩) | (go_at_call 58; (with_reducible refine (A2.out _).mono ?_); rintro e w3 ⟨rfl, rfl⟩))
  all_goals
    have HZ : Whole ((w2.setCell ⟨w.heap.size + 1, 0, none⟩ (.int .u32 a1)).setCell ⟨w.heap.size + 1, 1, none⟩ (.int .u32 a2)) (w.heap.size + 1) 48 #[.int .u32 a1, .int .u32 a2] := (HY2.out.set_ 0 (.int .u32 a1)).set_ 1 (.int .u32 a2)
    obtain ⟨z0, z1⟩ := two_cells HZ
    have HB3 : Hid (Below w.heap.size w ((w2.setCell ⟨w.heap.size + 1, 0, none⟩ (.int .u32 a1)).setCell ⟨w.heap.size + 1, 1, none⟩ (.int .u32 a2))) := Lib.hid ((HB2.out.setCell (by simp) _).setCell (by simp) _)
    go_wp2_with fail
    exact bodyPost_ret (v := .tuple #[placeV a1 a2, .int .i64 0]) (by simp [results, Try.results24, go_sem, z0, z1]) rfl ⟨rfl, HB3.out.drew⟩
end Go.Proofs.Ytajidaicojekdaa.YR
