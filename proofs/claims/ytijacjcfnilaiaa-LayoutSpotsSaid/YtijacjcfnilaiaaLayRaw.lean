/-
  What the reference of layer 12 tells: any word. Nothing here is a statement of the seed.
-/
import Derived.Test.YtijacjcfnilaiaaLayRef2
set_option linter.unusedSimpArgs false
set_option linter.unusedVariables false
namespace Go.Proofs.Ytijacjcfnilaiaa.YR
open Go.RowKit WM NR OM OR YM
set_option maxHeartbeats 4000000
set_option maxRecDepth 10000
/-- a word of a row that is read -/
theorem word_at {B : Nat} {w : World} {a : Option Addr} {n c : Nat} {l : List Nat} (h : Reads (· < B) w (.slice a n c) (u32s l)) (hl : l.length = n) {j : Nat} (hj : j < n) :
    ∃ g off, a = some ⟨g, off, none⟩ ∧ ∀ u, Below B w u → u.cell? ⟨g, off + j, none⟩ = some (.int .u32 ((l.getD j 0 : Nat) : Int)) := by
  obtain ⟨g, off, rfl, _, e⟩ := reads_at h (Below.refl _ _) hj
  refine ⟨g, off, rfl, fun u hu => ?_⟩
  obtain ⟨g', off', e1, _, e2⟩ := reads_at h hu hj
  simp only [Option.some.injEq, Addr.mk.injEq, and_true] at e1
  obtain ⟨rfl, rfl⟩ := e1
  rw [e2, u32s_at l j (by omega), List.getD_eq_getElem?_getD, List.getElem?_eq_getElem (by omega)]
  rfl
section
variable {w : World} {ea : Option Addr} {en ec : Nat} {ia : Option Addr} {im ic : Nat} {ca : Option Addr} {cn cc : Nat} {da : Option Addr} {dn dc : Nat} {ra : Option Addr} {rn rc : Nat} {m : Md}
theorem refRaw_any (h : RdM (· < w.heap.size) w ea en ec ia im ic ca cn cc da dn dc ra rn rc m) (hl : cn * 4 ≤ 140737488355328 ∧ dn * 4 ≤ 140737488355328) (i : Int) (hi : -9223372036854775808 ≤ i ∧ i ≤ 9223372036854775807) :
    Calls Try.prog 21 #[mV (bs m.name) ea en ec ia im ic ca cn cc da dn dc ra rn rc, .int .i64 i] w fun e w' => e = .returned (.int .u32 ((rawV m.code m.data i : Nat) : Int)) ∧ Below w.heap.size w w' := by
  obtain ⟨l1, l2, l3, l4, l5⟩ := h.lens
  have HX := Lib.hid (Whole.new w 26 (mCs (bs m.name) ea en ec ia im ic ca cn cc da dn dc ra rn rc))
  have b0 := below_new w (.cells (mCs (bs m.name) ea en ec ia im ic ca cn cc da dn dc ra rn rc) 26)
  have HB := Lib.hid b0
  have C := Lib.hid (refSpot_any (h.go b0 b0.size) hl i hi)
  have HC := Lib.hid h.cd
  have HD := Lib.hid h.dt
  have k3 := (reads_len h.cd).2.1
  have k4 := (reads_len h.dt).2.1
  clear b0 h
  by_cases h1 : 0 ≤ i ∧ i < cn
  · obtain ⟨j, rfl⟩ : ∃ j : Nat, i = (j : Int) := ⟨i.toNat, by omega⟩
    have jc : j < cn := by omega
    have jl : j < m.code.length := by omega
    have hj : (j : Int) < cn := by omega
    obtain ⟨g, off, rfl, e1⟩ := word_at HC.out l3 jc
    have RE := Lib.hid e1
    rw [spV_code h1] at C
    rw [rawV_code jl]
    simp only at C
    clear h1 jl e1 HC HD l1 l2 l3 l4 l5 hi
    generalize bs m.name = x at *
    generalize ((m.code.getD j 0 : Nat) : Int) = y at *
    go_enter Try.func21, Try.ntmps21
    go_upto_region 1 with fail
    generalize w.alloc (.cells (mCs x ea en ec ia im ic (some ⟨g, off, none⟩) cn cc da dn dc ra rn rc) 26) = W at *
    obtain ⟨c0, c1, c2, c3, c4, c5⟩ := mod_cells HX.out
    have c6 := HX.out.lt
    go_wp2_with (go_at_call 19; (with_reducible refine C.out.mono ?_); rintro e w1 ⟨rfl, hb⟩; have HX1 := Lib.hid (HX.out.belowS hb); have HB1 := Lib.hid (HB.out.trans (hb.mono HB.out.size)); obtain ⟨c0, c1, c2, c3, c4, c5⟩ := mod_cells HX1.out; have c6 := HX1.out.lt; have r0 := RE.out _ HB1.out; clear hb)
    go_ret
    exact ⟨rfl, HB1.out⟩
  have hh := (pgs_hold cn).1
  by_cases h2 : 16 * (pgs cn : Int) ≤ i ∧ i - 16 * (pgs cn : Int) < dn
  · obtain ⟨j, hj⟩ : ∃ j : Nat, i - 16 * (pgs cn : Int) = (j : Int) := ⟨(i - 16 * (pgs cn : Int)).toNat, by omega⟩
    have jd : j < dn := by omega
    have jl : j < m.data.length := by omega
    have hjd : (j : Int) < dn := by omega
    obtain ⟨g, off, rfl, e1⟩ := word_at HD.out l4 jd
    have RE := Lib.hid e1
    rw [spV_data h2.1 h2.2, hj] at C
    have er : rawV m.code m.data i = m.data.getD j 0 := by
      obtain ⟨i', rfl⟩ : ∃ i' : Nat, i = (i' : Int) := ⟨i.toNat, by omega⟩
      exact rawV_data (by rw [l3]; omega) jl
    rw [er]
    simp only at C
    clear h1 h2 jl e1 HC HD l1 l2 l3 l4 l5 hi hj er hh
    generalize bs m.name = x at *
    generalize ((m.data.getD j 0 : Nat) : Int) = y at *
    go_enter Try.func21, Try.ntmps21
    go_upto_region 1 with fail
    generalize w.alloc (.cells (mCs x ea en ec ia im ic ca cn cc (some ⟨g, off, none⟩) dn dc ra rn rc) 26) = W at *
    obtain ⟨c0, c1, c2, c3, c4, c5⟩ := mod_cells HX.out
    have c6 := HX.out.lt
    go_wp2_with (go_at_call 19; (with_reducible refine C.out.mono ?_); rintro e w1 ⟨rfl, hb⟩; have HX1 := Lib.hid (HX.out.belowS hb); have HB1 := Lib.hid (HB.out.trans (hb.mono HB.out.size)); obtain ⟨c0, c1, c2, c3, c4, c5⟩ := mod_cells HX1.out; have c6 := HX1.out.lt; have r0 := RE.out _ HB1.out; clear hb)
    go_ret
    exact ⟨rfl, HB1.out⟩
  · rw [spV_none h1 h2] at C
    have er : rawV m.code m.data i = 0 := rawV_none (by rw [l3]; exact h1) (by rw [l3, l4]; exact h2)
    rw [er]
    simp only at C
    clear h1 h2 HC HD l1 l2 l3 l4 l5 hi er hh
    generalize bs m.name = x at *
    go_enter Try.func21, Try.ntmps21
    go_upto_region 1 with fail
    generalize w.alloc (.cells (mCs x ea en ec ia im ic ca cn cc da dn dc ra rn rc) 26) = W at *
    obtain ⟨c0, c1, c2, c3, c4, c5⟩ := mod_cells HX.out
    have c6 := HX.out.lt
    go_wp2_with (go_at_call 19; (with_reducible refine C.out.mono ?_); rintro e w1 ⟨rfl, hb⟩; have HX1 := Lib.hid (HX.out.belowS hb); have HB1 := Lib.hid (HB.out.trans (hb.mono HB.out.size)); obtain ⟨c0, c1, c2, c3, c4, c5⟩ := mod_cells HX1.out; have c6 := HX1.out.lt; clear hb)
    go_ret
    exact ⟨rfl, HB1.out⟩
end
end Go.Proofs.Ytijacjcfnilaiaa.YR
