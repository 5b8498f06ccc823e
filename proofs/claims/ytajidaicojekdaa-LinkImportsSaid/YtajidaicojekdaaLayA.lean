/-
  Joined texts: LayMath, LayRef, LayRef2, LayRaw. Nothing here is a statement of the seed.
-/
import Derived.Lib.Hide
import Derived.Test.YtajidaicojekdaaObjA
import Derived.Deep.RegionHeld3
import Derived.Deep.CutRange
set_option linter.unusedVariables false
set_option linter.unusedSimpArgs false
/-
  Layer 12 as numbers and lists alone: pages, plans, spots, words. Nothing here is a statement of the seed, no function of the program is named.
-/
namespace Go.Proofs.Ytajidaicojekdaa.YM
/-- as few pages as hold so many words -/
def pgs (n : Nat) : Nat := (n + 15) / 16
theorem pgs_min (n : Nat) : n / 16 + min 1 (n % 16) = pgs n := by
  unfold pgs
  by_cases h : n % 16 = 0
  · rw [h]; simp; omega
  · rw [Nat.min_eq_left (by omega)]; omega
theorem pgs_hold (n : Nat) : n ≤ 16 * pgs n ∧ 16 * pgs n < n + 16 := by unfold pgs; omega
theorem pgs_tight (n : Nat) : pgs n = 0 ∨ 16 * (pgs n - 1) < n := by unfold pgs; omega
theorem pgs_zero (n : Nat) : pgs n = 0 ↔ n = 0 := by unfold pgs; omega
theorem pgs_le {n k : Nat} (h : n ≤ 16 * k) : pgs n ≤ k := by unfold pgs; omega
/-- a plan's pages -/
def pgP (c d : Int) : Int := if c < 0 ∨ d < 0 ∨ 256 < c ∨ 256 < d then 0 else c + d
theorem pgP_bd (c d : Int) : 0 ≤ pgP c d ∧ pgP c d ≤ 512 := by unfold pgP; split <;> omega
theorem pgP_of {c d : Int} (h : ¬ (c < 0 ∨ d < 0 ∨ 256 < c ∨ 256 < d)) : pgP c d = c + d := if_neg h
theorem pgP_small {c d : Nat} (hc : c ≤ 256) (hd : d ≤ 256) : pgP c d = (c + d : Nat) := by rw [pgP_of (by omega)]; omega
theorem pgP_zero {c d : Int} (h : pgP c d ≠ 0) : 0 ≤ c ∧ 0 ≤ d ∧ c ≤ 256 ∧ d ≤ 256 ∧ pgP c d = c + d := by
  unfold pgP at h ⊢
  by_cases k : c < 0 ∨ d < 0 ∨ 256 < c ∨ 256 < d
  · rw [if_pos k] at h; exact absurd rfl h
  · rw [if_neg k]; omega
/-- where a plan at a page has its words: code, data, or why not -/
def atP (c d f : Int) : Int × Int × Int :=
  if pgP c d = 0 then (0, 0, 2)
  else if f < 0 ∨ 256 < f + pgP c d then (0, 0, 11)
  else (80 + 16 * f, 80 + 16 * (f + c), 0)
theorem atP_ok {c d f : Int} : (atP c d f).2.2 = 0 ↔ pgP c d ≠ 0 ∧ 0 ≤ f ∧ f + pgP c d ≤ 256 := by
  unfold atP
  by_cases h : pgP c d = 0
  · rw [if_pos h]; simp [h]
  · rw [if_neg h]
    by_cases k : f < 0 ∨ 256 < f + pgP c d
    · rw [if_pos k]; simp; omega
    · rw [if_neg k]; simp [h]; omega
theorem atP_val {c d f : Int} (h : pgP c d ≠ 0) (h0 : 0 ≤ f) (h1 : f + pgP c d ≤ 256) : atP c d f = (80 + 16 * f, 80 + 16 * (f + c), 0) := by
  unfold atP; rw [if_neg h, if_neg (by omega)]
/-- the words of a place fit in 32 bits -/
theorem atP_bd (c d f : Int) : 0 ≤ (atP c d f).1 ∧ (atP c d f).1 ≤ 4176 ∧ 0 ≤ (atP c d f).2.1 ∧ (atP c d f).2.1 ≤ 4176 := by
  unfold atP
  split
  · simp
  · split
    · simp
    · next h k =>
      obtain ⟨a1, a2, a3, a4, a5⟩ := pgP_zero h
      simp only
      omega
/-- the i-th of a module's words: of code or of data, which, and whether it is one -/
def spV (cn dn : Nat) (i : Int) : Bool × Int × Bool :=
  if 0 ≤ i ∧ i < cn then (true, i, true)
  else if 16 * (pgs cn : Int) ≤ i ∧ i - 16 * (pgs cn : Int) < dn then (false, i - 16 * (pgs cn : Int), true)
  else (false, 0, false)
theorem spV_code {cn dn : Nat} {i : Int} (h : 0 ≤ i ∧ i < cn) : spV cn dn i = (true, i, true) := if_pos h
theorem spV_data {cn dn : Nat} {i : Int} (h : 16 * (pgs cn : Int) ≤ i) (h2 : i - 16 * (pgs cn : Int) < dn) : spV cn dn i = (false, i - 16 * (pgs cn : Int), true) := by
  unfold spV
  have := (pgs_hold cn).1
  rw [if_neg (by omega), if_pos ⟨h, h2⟩]
theorem spV_none {cn dn : Nat} {i : Int} (h : ¬ (0 ≤ i ∧ i < cn)) (h2 : ¬ (16 * (pgs cn : Int) ≤ i ∧ i - 16 * (pgs cn : Int) < dn)) : spV cn dn i = (false, 0, false) := by
  unfold spV
  rw [if_neg h, if_neg h2]
/-- the i-th word -/
def rawV (code data : List Nat) (i : Int) : Nat :=
  if 0 ≤ i ∧ i < code.length then code.getD i.toNat 0
  else if 16 * (pgs code.length : Int) ≤ i ∧ i - 16 * (pgs code.length : Int) < data.length then data.getD (i - 16 * (pgs code.length : Int)).toNat 0
  else 0
theorem rawV_code {code data : List Nat} {i : Nat} (h : i < code.length) : rawV code data i = code.getD i 0 := by
  unfold rawV
  rw [if_pos (by omega)]
  simp
theorem rawV_data {code data : List Nat} {i j : Nat} (h : i = 16 * pgs code.length + j) (h2 : j < data.length) : rawV code data i = data.getD j 0 := by
  unfold rawV
  have := (pgs_hold code.length).1
  rw [if_neg (by omega), if_pos (by omega)]
  congr 1
  omega
theorem rawV_none {code data : List Nat} {i : Int} (h : ¬ (0 ≤ i ∧ i < code.length)) (h2 : ¬ (16 * (pgs code.length : Int) ≤ i ∧ i - 16 * (pgs code.length : Int) < data.length)) : rawV code data i = 0 := by
  unfold rawV
  rw [if_neg h, if_neg h2]
/-- how many words of code, of data, stand ahead of the k-th -/
def nC (cn k : Nat) : Nat := min k cn
def nD (cn dn k : Nat) : Nat := min (k - 16 * pgs cn) dn
theorem nC_zero (cn : Nat) : nC cn 0 = 0 := by simp [nC]
theorem nD_zero (cn dn : Nat) : nD cn dn 0 = 0 := by simp [nD]
/-- a round at a word of code: the number it tells is that of the words of code so far -/
theorem round_code {cn dn k : Nat} (h : k < cn) : nC cn k = k ∧ nC cn (k + 1) = k + 1 ∧ nD cn dn k = 0 ∧ nD cn dn (k + 1) = 0 := by
  have := (pgs_hold cn).1
  unfold nC nD
  omega
theorem round_data {cn dn k : Nat} (h : 16 * pgs cn ≤ k) (h2 : k - 16 * pgs cn < dn) : nD cn dn k = k - 16 * pgs cn ∧ nD cn dn (k + 1) = nD cn dn k + 1 ∧ nC cn (k + 1) = nC cn k := by
  have := (pgs_hold cn).1
  unfold nC nD
  omega
theorem round_none {cn dn k : Nat} (h : ¬ k < cn) (h2 : ¬ (16 * pgs cn ≤ k ∧ k - 16 * pgs cn < dn)) : nC cn (k + 1) = nC cn k ∧ nD cn dn (k + 1) = nD cn dn k := by
  unfold nC nD
  omega
theorem rounds_end (cn dn : Nat) : nC cn (16 * (pgs cn + pgs dn)) = cn ∧ nD cn dn (16 * (pgs cn + pgs dn)) = dn := by
  have h1 := (pgs_hold cn).1
  have h2 := (pgs_hold dn).1
  unfold nC nD
  omega
theorem beyond (cn dn : Nat) : spV cn dn ((16 * (pgs cn + pgs dn) : Nat) : Int) = (false, 0, false) := by
  have h1 := (pgs_hold cn).1
  have h2 := (pgs_hold dn).1
  exact spV_none (by omega) (by omega)
end Go.Proofs.Ytajidaicojekdaa.YM

/-
  What the reference of layer 12 tells: pages, plans. Nothing here is a statement of the seed.
-/
namespace Go.Proofs.Ytajidaicojekdaa.YR
open Go.RowKit WM NR OM OR YM
set_option maxHeartbeats 4000000
set_option maxRecDepth 10000
abbrev planV (c d : Int) : Value := .agg #[.int .i64 c, .int .i64 d]
abbrev placeV (c d : Int) : Value := .agg #[.int .u32 c, .int .u32 d]
theorem refpg_any (n : Nat) (hn : n ≤ 9223372036854775807) (w : World) : Calls Try.prog 77 #[.int .i64 (n : Int)] w fun e w' => e = .returned (.int .i64 ((pgs n : Nat) : Int)) ∧ w = w' := by
  rw [← pgs_min]
  go_enter Try.func77, Try.ntmps77
  go_wp2_with fail
  go_ret
  exact ⟨congrArg (fun z => Ending.returned (Value.int .i64 z)) (by show (n : Int) / 16 + min 1 ((n : Int) % 16) = ((n / 16 + min 1 (n % 16) : Nat) : Int); omega), rfl⟩
theorem refPgP_any (c d : Int) (hc : -9223372036854775808 ≤ c ∧ c ≤ 9223372036854775807) (hd : -9223372036854775808 ≤ d ∧ d ≤ 9223372036854775807) (w : World) : Calls Try.prog 83 #[planV c d] w fun e w' => e = .returned (.int .i64 (pgP c d)) ∧ Below w.heap.size w w' := by
  have b0 := below_new w (.cells #[.int .i64 c, .int .i64 d] 110)
  have HB := Lib.hid b0
  clear b0
  unfold pgP
  by_cases h1 : c < 0
  · rw [if_pos (Or.inl h1)]
    go_enter Try.func83, Try.ntmps83
    go_wp2_with fail
    go_ret
    exact ⟨rfl, HB.out⟩
  by_cases h2 : d < 0
  · rw [if_pos (Or.inr (Or.inl h2))]
    go_enter Try.func83, Try.ntmps83
    go_wp2_with fail
    go_ret
    exact ⟨rfl, HB.out⟩
  by_cases h3 : 256 < c
  · rw [if_pos (Or.inr (Or.inr (Or.inl h3)))]
    go_enter Try.func83, Try.ntmps83
    go_wp2_with fail
    go_ret
    exact ⟨rfl, HB.out⟩
  by_cases h4 : 256 < d
  · rw [if_pos (Or.inr (Or.inr (Or.inr h4)))]
    go_enter Try.func83, Try.ntmps83
    go_wp2_with fail
    go_ret
    exact ⟨rfl, HB.out⟩
  rw [if_neg (by omega)]
  have e : IntKind.i64.wrap (c + d) = c + d := by rw [IntKind.wrap_i64]; omega
  go_enter Try.func83, Try.ntmps83
  go_wp2_with fail
  go_ret
  exact ⟨by first | rfl | simp [e], HB.out⟩
theorem refWords_any (c d : Int) (hc : -9223372036854775808 ≤ c ∧ c ≤ 9223372036854775807) (hd : -9223372036854775808 ≤ d ∧ d ≤ 9223372036854775807) (w : World) : Calls Try.prog 52 #[planV c d] w fun e w' => e = .returned (.int .i64 (16 * pgP c d)) ∧ Below w.heap.size w w' := by
  have b0 := below_new w (.cells #[.int .i64 c, .int .i64 d] 110)
  have HB := Lib.hid b0
  have C := Lib.hid (refPgP_any c d hc hd)
  have hp := pgP_bd c d
  clear b0 hc hd
  generalize pgP c d = p at *
  have e : IntKind.i64.wrap (16 * p) = 16 * p := by rw [IntKind.wrap_i64]; omega
  go_enter Try.func52, Try.ntmps52
  go_wp2_with (go_at_call 83; (with_reducible refine (C.out _).mono ?_); rintro e w1 ⟨rfl, hb1⟩)
  go_ret
  exact ⟨by first | rfl | simp [e], HB.out.trans (hb1.mono HB.out.size)⟩
section
variable {w : World} {ea : Option Addr} {en ec : Nat} {ia : Option Addr} {im ic : Nat} {ca : Option Addr} {cn cc : Nat} {da : Option Addr} {dn dc : Nat} {ra : Option Addr} {rn rc : Nat} {m : Md}
theorem refOf_any (h : RdM (· < w.heap.size) w ea en ec ia im ic ca cn cc da dn dc ra rn rc m) :
    Calls Try.prog 53 #[mV (bs m.name) ea en ec ia im ic ca cn cc da dn dc ra rn rc] w fun e w' => e = .returned (planV ((pgs cn : Nat) : Int) ((pgs dn : Nat) : Int)) ∧ Below w.heap.size w w' := by
  obtain ⟨_, k3, m3⟩ := reads_len h.cd
  obtain ⟨_, k4, m4⟩ := reads_len h.dt
  have HX := Lib.hid (Whole.new w 45 (mCs (bs m.name) ea en ec ia im ic ca cn cc da dn dc ra rn rc))
  have b0 := below_new w (.cells (mCs (bs m.name) ea en ec ia im ic ca cn cc da dn dc ra rn rc) 45)
  have HB := Lib.hid b0
  have hm : maxLen ≤ 9223372036854775807 := by unfold maxLen; omega
  have C1 := Lib.hid (refpg_any cn (by omega))
  have C2 := Lib.hid (refpg_any dn (by omega))
  clear b0 h k3 m3 k4 m4 hm
  generalize bs m.name = x at *
  generalize pgs cn = p at *
  generalize pgs dn = q at *
  go_enter Try.func53, Try.ntmps53
  go_wp2_with fail
  have s0 : (w.alloc (.cells (mCs x ea en ec ia im ic ca cn cc da dn dc ra rn rc) 45)).heap.size = w.heap.size + 1 := by simp
  generalize w.alloc (.cells (mCs x ea en ec ia im ic ca cn cc da dn dc ra rn rc) 45) = W at *
  have HY := Lib.hid (Whole.new W 110 #[.int .i64 0, .int .i64 0])
  have HX2 := Lib.hid (HX.out.belowS (below_new W (.cells #[.int .i64 0, .int .i64 0] 110)))
  obtain ⟨c0, c1, c2, c3, c4, c5⟩ := mod_cells HX2.out
  have c6 := HX2.out.lt
  have d0 := HY.out.cell 0
  have d1 := HY.out.cell 1
  have d2 := HY.out.lt
  have d3 := HY.out.frozen 0
  have d4 := HY.out.frozen 1
  rw [s0] at d0 d1 d2 d3 d4
  go_region_with (first | (go_at_call 77; (with_reducible refine (C1.out _).mono ?_); rintro e w1 ⟨rfl, rfl⟩) | (go_at_call 77; (with_reducible refine (C2.out _).mono ?_); rintro e w1 ⟨rfl, rfl⟩))
  all_goals
    clear d0 d1 d2 d3 d4 c0 c1 c2 c3 c4 c5 c6
    have e0 := (Whole.new W 110 #[.int .i64 (p : Int), .int .i64 (q : Int)]).cell 0
    have e1 := (Whole.new W 110 #[.int .i64 (p : Int), .int .i64 (q : Int)]).cell 1
    rw [s0] at e0 e1
    have hb := Lib.hid (below_new W (.cells #[.int .i64 (p : Int), .int .i64 (q : Int)] 110))
    generalize W.alloc (.cells #[.int .i64 (p : Int), .int .i64 (q : Int)] 110) = U at *
    go_wp2_with fail
    exact bodyPost_ret (v := planV (p : Int) (q : Int)) (by simp [results, Try.results53, go_sem, e0, e1]) rfl ⟨rfl, HB.out.trans ((hb.out.drew).mono HB.out.size)⟩
end
end Go.Proofs.Ytajidaicojekdaa.YR

/-
  What the reference of layer 12 tells: places, spots, words. Nothing here is a statement of the seed.
-/
namespace Go.Proofs.Ytajidaicojekdaa.YR
open Go.RowKit WM NR OM OR YM
set_option maxHeartbeats 4000000
set_option maxRecDepth 10000
theorem two_cells {w : World} {b : Nat} {t : TypeId} {x y : Value} (h : Whole w b t #[x, y]) : w.cell? ⟨b, 0, none⟩ = some x ∧ w.cell? ⟨b, 1, none⟩ = some y := ⟨h.cell 0, h.cell 1⟩
abbrev resAt (c d f : Int) : Value := .tuple #[placeV (atP c d f).1 (atP c d f).2.1, .int .i64 (atP c d f).2.2]
section
variable {w : World} {ea : Option Addr} {en ec : Nat} {ia : Option Addr} {im ic : Nat} {ca : Option Addr} {cn cc : Nat} {da : Option Addr} {dn dc : Nat} {ra : Option Addr} {rn rc : Nat} {m : Md}
theorem refSpot_any (h : RdM (· < w.heap.size) w ea en ec ia im ic ca cn cc da dn dc ra rn rc m) (hl : cn * 4 ≤ 140737488355328 ∧ dn * 4 ≤ 140737488355328) (i : Int) (hi : -9223372036854775808 ≤ i ∧ i ≤ 9223372036854775807) :
    Calls Try.prog 47 #[mV (bs m.name) ea en ec ia im ic ca cn cc da dn dc ra rn rc, .int .i64 i] w fun e w' => e = .returned (.tuple #[.bool (spV cn dn i).1, .int .i64 (spV cn dn i).2.1, .bool (spV cn dn i).2.2]) ∧ Below w.heap.size w w' := by
  have HX := Lib.hid (Whole.new w 45 (mCs (bs m.name) ea en ec ia im ic ca cn cc da dn dc ra rn rc))
  have b0 := below_new w (.cells (mCs (bs m.name) ea en ec ia im ic ca cn cc da dn dc ra rn rc) 45)
  have HB := Lib.hid b0
  have C1 := Lib.hid (refpg_any cn (by omega))
  have hh := pgs_hold cn
  obtain ⟨R, hR⟩ : ∃ R, R = spV cn dn i := ⟨_, rfl⟩
  rw [← hR]
  unfold spV at hR
  clear b0 h
  generalize bs m.name = x at *
  generalize pgs cn = p at *
  have e16 : IntKind.i64.wrap (16 * (p : Int)) = 16 * (p : Int) := by rw [IntKind.wrap_i64]; omega
  by_cases h1 : 0 ≤ i
  · by_cases h2 : i < cn
    · rw [if_pos ⟨h1, h2⟩] at hR
      subst hR
      go_enter Try.func47, Try.ntmps47
      go_upto_region 1 with fail
      generalize w.alloc (.cells (mCs x ea en ec ia im ic ca cn cc da dn dc ra rn rc) 45) = W at *
      obtain ⟨c0, c1, c2, c3, c4, c5⟩ := mod_cells HX.out
      have c6 := HX.out.lt
      go_wp2_with (go_at_call 77; (with_reducible refine (C1.out _).mono ?_); rintro e w1 ⟨rfl, rfl⟩)
      exact bodyPost_ret (v := .tuple #[.bool true, .int .i64 i, .bool true]) (by simp [results, Try.results47, go_sem]) rfl ⟨rfl, HB.out⟩
    · rw [if_neg (fun h => h2 h.2)] at hR
      by_cases h3 : 16 * (p : Int) ≤ i
      · have e3 : IntKind.i64.wrap (i - 16 * (p : Int)) = i - 16 * (p : Int) := by rw [IntKind.wrap_i64]; omega
        by_cases h4 : i - 16 * (p : Int) < dn
        · rw [if_pos ⟨h3, h4⟩] at hR
          subst hR
          have h5 : i - 16 * (p : Int) < (dn : Int) := h4
          generalize hj : i - 16 * (p : Int) = j at *
          go_enter Try.func47, Try.ntmps47
          go_upto_region 1 with fail
          generalize w.alloc (.cells (mCs x ea en ec ia im ic ca cn cc da dn dc ra rn rc) 45) = W at *
          obtain ⟨c0, c1, c2, c3, c4, c5⟩ := mod_cells HX.out
          have c6 := HX.out.lt
          go_wp2_with (go_at_call 77; (with_reducible refine (C1.out _).mono ?_); rintro e w1 ⟨rfl, rfl⟩)
          exact bodyPost_ret (v := .tuple #[.bool false, .int .i64 j, .bool true]) (by simp [results, Try.results47, go_sem]) rfl ⟨rfl, HB.out⟩
        · rw [if_neg (fun h => h4 h.2)] at hR
          subst hR
          generalize hj : i - 16 * (p : Int) = j at *
          go_enter Try.func47, Try.ntmps47
          go_upto_region 1 with fail
          generalize w.alloc (.cells (mCs x ea en ec ia im ic ca cn cc da dn dc ra rn rc) 45) = W at *
          obtain ⟨c0, c1, c2, c3, c4, c5⟩ := mod_cells HX.out
          have c6 := HX.out.lt
          go_wp2_with (go_at_call 77; (with_reducible refine (C1.out _).mono ?_); rintro e w1 ⟨rfl, rfl⟩)
          exact bodyPost_ret (v := .tuple #[.bool false, .int .i64 0, .bool false]) (by simp [results, Try.results47, go_sem]) rfl ⟨rfl, HB.out⟩
      · rw [if_neg (fun h => h3 h.1)] at hR
        subst hR
        go_enter Try.func47, Try.ntmps47
        go_upto_region 1 with fail
        generalize w.alloc (.cells (mCs x ea en ec ia im ic ca cn cc da dn dc ra rn rc) 45) = W at *
        obtain ⟨c0, c1, c2, c3, c4, c5⟩ := mod_cells HX.out
        have c6 := HX.out.lt
        go_wp2_with (go_at_call 77; (with_reducible refine (C1.out _).mono ?_); rintro e w1 ⟨rfl, rfl⟩)
        exact bodyPost_ret (v := .tuple #[.bool false, .int .i64 0, .bool false]) (by simp [results, Try.results47, go_sem]) rfl ⟨rfl, HB.out⟩
  · rw [if_neg (fun h => h1 h.1), if_neg (by omega)] at hR
    subst hR
    have h3 : ¬ 16 * (p : Int) ≤ i := by omega
    go_enter Try.func47, Try.ntmps47
    go_upto_region 1 with fail
    generalize w.alloc (.cells (mCs x ea en ec ia im ic ca cn cc da dn dc ra rn rc) 45) = W at *
    obtain ⟨c0, c1, c2, c3, c4, c5⟩ := mod_cells HX.out
    have c6 := HX.out.lt
    go_wp2_with (go_at_call 77; (with_reducible refine (C1.out _).mono ?_); rintro e w1 ⟨rfl, rfl⟩)
    exact bodyPost_ret (v := .tuple #[.bool false, .int .i64 0, .bool false]) (by simp [results, Try.results47, go_sem]) rfl ⟨rfl, HB.out⟩
end
end Go.Proofs.Ytajidaicojekdaa.YR

/-
  What the reference of layer 12 tells: any word. Nothing here is a statement of the seed.
-/
namespace Go.Proofs.Ytajidaicojekdaa.YR
open Go.RowKit WM NR OM OR YM
set_option maxHeartbeats 4000000
set_option maxRecDepth 10000
/-- a word of a row that is read -/
theorem word_at {B : Nat} {w : World} {a : Option Addr} {n c : Nat} {l : List Nat} (h : Reads (· < B) w (.slice a n c) (u32s l)) (hl : l.length = n) {j : Nat} (hj : j < n) :
    ∃ g off, a = some ⟨g, off, none⟩ ∧ ∀ u, Below B w u → u.cell? ⟨g, off + j, none⟩ = some (.int .u32 ((l.getD j 0 : Nat) : Int)) := by
  obtain ⟨g, off, rfl, _, e⟩ := reads_at h (Below.refl _ _) hj
  refine ⟨g, off, rfl, fun u hu => ?_⟩
  obtain ⟨g', off', e1, _, e2⟩ := reads_at h hu hj
  simp only [Option.some.injEq, Addr.mk.injEq, and_true] at e1
  obtain ⟨rfl, rfl⟩ := e1
  rw [e2, u32s_at l j (by omega), List.getD_eq_getElem?_getD, List.getElem?_eq_getElem (by omega)]
  rfl
section
variable {w : World} {ea : Option Addr} {en ec : Nat} {ia : Option Addr} {im ic : Nat} {ca : Option Addr} {cn cc : Nat} {da : Option Addr} {dn dc : Nat} {ra : Option Addr} {rn rc : Nat} {m : Md}
theorem refRaw_any (h : RdM (· < w.heap.size) w ea en ec ia im ic ca cn cc da dn dc ra rn rc m) (hl : cn * 4 ≤ 140737488355328 ∧ dn * 4 ≤ 140737488355328) (i : Int) (hi : -9223372036854775808 ≤ i ∧ i ≤ 9223372036854775807) :
    Calls Try.prog 46 #[mV (bs m.name) ea en ec ia im ic ca cn cc da dn dc ra rn rc, .int .i64 i] w fun e w' => e = .returned (.int .u32 ((rawV m.code m.data i : Nat) : Int)) ∧ Below w.heap.size w w' := by
  obtain ⟨l1, l2, l3, l4, l5⟩ := h.lens
  have HX := Lib.hid (Whole.new w 45 (mCs (bs m.name) ea en ec ia im ic ca cn cc da dn dc ra rn rc))
  have b0 := below_new w (.cells (mCs (bs m.name) ea en ec ia im ic ca cn cc da dn dc ra rn rc) 45)
  have HB := Lib.hid b0
  have C := Lib.hid (refSpot_any (h.go b0 b0.size) hl i hi)
  have HC := Lib.hid h.cd
  have HD := Lib.hid h.dt
  have k3 := (reads_len h.cd).2.1
  have k4 := (reads_len h.dt).2.1
  clear b0 h
  by_cases h1 : 0 ≤ i ∧ i < cn
  · obtain ⟨j, rfl⟩ : ∃ j : Nat, i = (j : Int) := ⟨i.toNat, by omega⟩
    have jc : j < cn := by omega
    have jl : j < m.code.length := by omega
    have hj : (j : Int) < cn := by omega
    obtain ⟨g, off, rfl, e1⟩ := word_at HC.out l3 jc
    have RE := Lib.hid e1
    rw [spV_code h1] at C
    rw [rawV_code jl]
    simp only at C
    clear h1 jl e1 HC HD l1 l2 l3 l4 l5 hi
    generalize bs m.name = x at *
    generalize ((m.code.getD j 0 : Nat) : Int) = y at *
    go_enter Try.func46, Try.ntmps46
    go_upto_region 1 with fail
    generalize w.alloc (.cells (mCs x ea en ec ia im ic (some ⟨g, off, none⟩) cn cc da dn dc ra rn rc) 45) = W at *
    obtain ⟨c0, c1, c2, c3, c4, c5⟩ := mod_cells HX.out
    have c6 := HX.out.lt
    go_wp2_with (go_at_call 47; (with_reducible refine C.out.mono ?_); rintro e w1 ⟨rfl, hb⟩; have HX1 := Lib.hid (HX.out.belowS hb); have HB1 := Lib.hid (HB.out.trans (hb.mono HB.out.size)); obtain ⟨c0, c1, c2, c3, c4, c5⟩ := mod_cells HX1.out; have c6 := HX1.out.lt; have r0 := RE.out _ HB1.out; clear hb)
    go_ret
    exact ⟨rfl, HB1.out⟩
  have hh := (pgs_hold cn).1
  by_cases h2 : 16 * (pgs cn : Int) ≤ i ∧ i - 16 * (pgs cn : Int) < dn
  · obtain ⟨j, hj⟩ : ∃ j : Nat, i - 16 * (pgs cn : Int) = (j : Int) := ⟨(i - 16 * (pgs cn : Int)).toNat, by omega⟩
    have jd : j < dn := by omega
    have jl : j < m.data.length := by omega
    have hjd : (j : Int) < dn := by omega
    obtain ⟨g, off, rfl, e1⟩ := word_at HD.out l4 jd
    have RE := Lib.hid e1
    rw [spV_data h2.1 h2.2, hj] at C
    have er : rawV m.code m.data i = m.data.getD j 0 := by
      obtain ⟨i', rfl⟩ : ∃ i' : Nat, i = (i' : Int) := ⟨i.toNat, by omega⟩
      exact rawV_data (by rw [l3]; omega) jl
    rw [er]
    simp only at C
    clear h1 h2 jl e1 HC HD l1 l2 l3 l4 l5 hi hj er hh
    generalize bs m.name = x at *
    generalize ((m.data.getD j 0 : Nat) : Int) = y at *
    go_enter Try.func46, Try.ntmps46
    go_upto_region 1 with fail
    generalize w.alloc (.cells (mCs x ea en ec ia im ic ca cn cc (some ⟨g, off, none⟩) dn dc ra rn rc) 45) = W at *
    obtain ⟨c0, c1, c2, c3, c4, c5⟩ := mod_cells HX.out
    have c6 := HX.out.lt
    go_wp2_with (go_at_call 47; (with_reducible refine C.out.mono ?_); rintro e w1 ⟨rfl, hb⟩; have HX1 := Lib.hid (HX.out.belowS hb); have HB1 := Lib.hid (HB.out.trans (hb.mono HB.out.size)); obtain ⟨c0, c1, c2, c3, c4, c5⟩ := mod_cells HX1.out; have c6 := HX1.out.lt; have r0 := RE.out _ HB1.out; clear hb)
    go_ret
    exact ⟨rfl, HB1.out⟩
  · rw [spV_none h1 h2] at C
    have er : rawV m.code m.data i = 0 := rawV_none (by rw [l3]; exact h1) (by rw [l3, l4]; exact h2)
    rw [er]
    simp only at C
    clear h1 h2 HC HD l1 l2 l3 l4 l5 hi er hh
    generalize bs m.name = x at *
    go_enter Try.func46, Try.ntmps46
    go_upto_region 1 with fail
    generalize w.alloc (.cells (mCs x ea en ec ia im ic ca cn cc da dn dc ra rn rc) 45) = W at *
    obtain ⟨c0, c1, c2, c3, c4, c5⟩ := mod_cells HX.out
    have c6 := HX.out.lt
    go_wp2_with (go_at_call 47; (with_reducible refine C.out.mono ?_); rintro e w1 ⟨rfl, hb⟩; have HX1 := Lib.hid (HX.out.belowS hb); have HB1 := Lib.hid (HB.out.trans (hb.mono HB.out.size)); obtain ⟨c0, c1, c2, c3, c4, c5⟩ := mod_cells HX1.out; have c6 := HX1.out.lt; clear hb)
    go_ret
    exact ⟨rfl, HB1.out⟩
end
end Go.Proofs.Ytajidaicojekdaa.YR
