/-
  What the reference of layer 12 tells: pages, plans. Nothing here is a statement of the seed.
-/
import Derived.Test.YtijacjcfnilaiaaLayMath
import Derived.Test.YtijacjcfnilaiaaObjChk
import Derived.Deep.RegionHeld3
set_option linter.unusedSimpArgs false
set_option linter.unusedVariables false
namespace Go.Proofs.Ytijacjcfnilaiaa.YR
open Go.RowKit WM NR OM OR YM
set_option maxHeartbeats 4000000
set_option maxRecDepth 10000
abbrev planV (c d : Int) : Value := .agg #[.int .i64 c, .int .i64 d]
abbrev placeV (c d : Int) : Value := .agg #[.int .u32 c, .int .u32 d]
theorem refpg_any (n : Nat) (hn : n ≤ 9223372036854775807) (w : World) : Calls Try.prog 24 #[.int .i64 (n : Int)] w fun e w' => e = .returned (.int .i64 ((pgs n : Nat) : Int)) ∧ w = w' := by
  rw [← pgs_min]
  go_enter Try.func24, Try.ntmps24
  go_wp2_with fail
  go_ret
  exact ⟨congrArg (fun z => Ending.returned (Value.int .i64 z)) (by show (n : Int) / 16 + min 1 ((n : Int) % 16) = ((n / 16 + min 1 (n % 16) : Nat) : Int); omega), rfl⟩
theorem refPgP_any (c d : Int) (hc : -9223372036854775808 ≤ c ∧ c ≤ 9223372036854775807) (hd : -9223372036854775808 ≤ d ∧ d ≤ 9223372036854775807) (w : World) : Calls Try.prog 12 #[planV c d] w fun e w' => e = .returned (.int .i64 (pgP c d)) ∧ Below w.heap.size w w' := by
  have b0 := below_new w (.cells #[.int .i64 c, .int .i64 d] 29)
  have HB := Lib.hid b0
  clear b0
  unfold pgP
  by_cases h1 : c < 0
  · rw [if_pos (Or.inl h1)]
    go_enter Try.func12, Try.ntmps12
    go_wp2_with fail
    go_ret
    exact ⟨rfl, HB.out⟩
  by_cases h2 : d < 0
  · rw [if_pos (Or.inr (Or.inl h2))]
    go_enter Try.func12, Try.ntmps12
    go_wp2_with fail
    go_ret
    exact ⟨rfl, HB.out⟩
  by_cases h3 : 256 < c
  · rw [if_pos (Or.inr (Or.inr (Or.inl h3)))]
    go_enter Try.func12, Try.ntmps12
    go_wp2_with fail
    go_ret
    exact ⟨rfl, HB.out⟩
  by_cases h4 : 256 < d
  · rw [if_pos (Or.inr (Or.inr (Or.inr h4)))]
    go_enter Try.func12, Try.ntmps12
    go_wp2_with fail
    go_ret
    exact ⟨rfl, HB.out⟩
  rw [if_neg (by omega)]
  have e : IntKind.i64.wrap (c + d) = c + d := by rw [IntKind.wrap_i64]; omega
  go_enter Try.func12, Try.ntmps12
  go_wp2_with fail
  go_ret
  exact ⟨by first | rfl | simp [e], HB.out⟩
theorem refWords_any (c d : Int) (hc : -9223372036854775808 ≤ c ∧ c ≤ 9223372036854775807) (hd : -9223372036854775808 ≤ d ∧ d ≤ 9223372036854775807) (w : World) : Calls Try.prog 14 #[planV c d] w fun e w' => e = .returned (.int .i64 (16 * pgP c d)) ∧ Below w.heap.size w w' := by
  have b0 := below_new w (.cells #[.int .i64 c, .int .i64 d] 29)
  have HB := Lib.hid b0
  have C := Lib.hid (refPgP_any c d hc hd)
  have hp := pgP_bd c d
  clear b0 hc hd
  generalize pgP c d = p at *
  have e : IntKind.i64.wrap (16 * p) = 16 * p := by rw [IntKind.wrap_i64]; omega
  go_enter Try.func14, Try.ntmps14
  go_wp2_with (go_at_call 12; (with_reducible refine (C.out _).mono ?_); rintro e w1 ⟨rfl, hb1⟩)
  go_ret
  exact ⟨by first | rfl | simp [e], HB.out.trans (hb1.mono HB.out.size)⟩
section
variable {w : World} {ea : Option Addr} {en ec : Nat} {ia : Option Addr} {im ic : Nat} {ca : Option Addr} {cn cc : Nat} {da : Option Addr} {dn dc : Nat} {ra : Option Addr} {rn rc : Nat} {m : Md}
theorem refOf_any (h : RdM (· < w.heap.size) w ea en ec ia im ic ca cn cc da dn dc ra rn rc m) :
    Calls Try.prog 10 #[mV (bs m.name) ea en ec ia im ic ca cn cc da dn dc ra rn rc] w fun e w' => e = .returned (planV ((pgs cn : Nat) : Int) ((pgs dn : Nat) : Int)) ∧ Below w.heap.size w w' := by
  obtain ⟨_, k3, m3⟩ := reads_len h.cd
  obtain ⟨_, k4, m4⟩ := reads_len h.dt
  have HX := Lib.hid (Whole.new w 26 (mCs (bs m.name) ea en ec ia im ic ca cn cc da dn dc ra rn rc))
  have b0 := below_new w (.cells (mCs (bs m.name) ea en ec ia im ic ca cn cc da dn dc ra rn rc) 26)
  have HB := Lib.hid b0
  have hm : maxLen ≤ 9223372036854775807 := by unfold maxLen; omega
  have C1 := Lib.hid (refpg_any cn (by omega))
  have C2 := Lib.hid (refpg_any dn (by omega))
  clear b0 h k3 m3 k4 m4 hm
  generalize bs m.name = x at *
  generalize pgs cn = p at *
  generalize pgs dn = q at *
  go_enter Try.func10, Try.ntmps10
  go_wp2_with fail
  have s0 : (w.alloc (.cells (mCs x ea en ec ia im ic ca cn cc da dn dc ra rn rc) 26)).heap.size = w.heap.size + 1 := by simp
  generalize w.alloc (.cells (mCs x ea en ec ia im ic ca cn cc da dn dc ra rn rc) 26) = W at *
  have HY := Lib.hid (Whole.new W 29 #[.int .i64 0, .int .i64 0])
  have HX2 := Lib.hid (HX.out.belowS (below_new W (.cells #[.int .i64 0, .int .i64 0] 29)))
  obtain ⟨c0, c1, c2, c3, c4, c5⟩ := mod_cells HX2.out
  have c6 := HX2.out.lt
  have d0 := HY.out.cell 0
  have d1 := HY.out.cell 1
  have d2 := HY.out.lt
  have d3 := HY.out.frozen 0
  have d4 := HY.out.frozen 1
  rw [s0] at d0 d1 d2 d3 d4
  go_region_with (first | (go_at_call 24; (with_reducible refine (C1.out _).mono ?_); rintro e w1 ⟨rfl, rfl⟩) | (go_at_call 24; (with_reducible refine (C2.out _).mono ?_); rintro e w1 ⟨rfl, rfl⟩))
  all_goals
    clear d0 d1 d2 d3 d4 c0 c1 c2 c3 c4 c5 c6
    have e0 := (Whole.new W 29 #[.int .i64 (p : Int), .int .i64 (q : Int)]).cell 0
    have e1 := (Whole.new W 29 #[.int .i64 (p : Int), .int .i64 (q : Int)]).cell 1
    rw [s0] at e0 e1
    have hb := Lib.hid (below_new W (.cells #[.int .i64 (p : Int), .int .i64 (q : Int)] 29))
    generalize W.alloc (.cells #[.int .i64 (p : Int), .int .i64 (q : Int)] 29) = U at *
    go_wp2_with fail
    exact bodyPost_ret (v := planV (p : Int) (q : Int)) (by simp [results, Try.results10, go_sem, e0, e1]) rfl ⟨rfl, HB.out.trans ((hb.out.drew).mono HB.out.size)⟩
end
end Go.Proofs.Ytijacjcfnilaiaa.YR
