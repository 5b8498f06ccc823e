/-
  The reference of layer 13: places, modules, counts. Nothing here is a statement of the seed.
-/
import Derived.Test.YtajidaicojekdaaSymA
import Derived.Deep.RegionHeld3
import Derived.Deep.CutRange
set_option linter.unusedSimpArgs false
set_option linter.unusedVariables false
namespace Go.Proofs.Ytajidaicojekdaa.SF
open Go.RowKit WM NR OM OR SM SR
set_option maxHeartbeats 4000000
set_option maxRecDepth 10000
theorem two_cells {w : World} {b : Nat} {t : TypeId} {x y : Value} (h : Whole w b t #[x, y]) : w.cell? ⟨b, 0, none⟩ = some x ∧ w.cell? ⟨b, 1, none⟩ = some y := ⟨h.cell 0, h.cell 1⟩
theorem bs_toList (l : List UInt8) : (bs l).toList = l := by rw [Lib.toList_data]; rfl
theorem ret_int {a b : Int} (h : a = b) : Ending.returned (.int .i64 a) = .returned (.int .i64 b) := by rw [h]
theorem ret_bool {a b : Bool} (h : a = b) : Ending.returned (.bool a) = .returned (.bool b) := by rw [h]
section
variable {w : World} {ma : Option Addr} {mn mc : Nat} {la : Option Addr} {ln lc : Nat} {t : Tb}
theorem refPlace_any (h : RdT (· < w.heap.size) w ma mn mc la ln lc t) (s : List UInt8) :
    Calls Try.prog 37 #[tbV ma mn mc la ln lc, .string (bs s)] w fun e w' => e = .returned (.int .i64 (plc t.L s)) ∧ Below w.heap.size w w' := by
  obtain ⟨_, ll, _, lm⟩ := h.lens
  unfold maxLen at lm
  have hn : (ln : Int) ≤ 9223372036854775807 := by omega
  have HX := Lib.hid (Whole.new w 29 (tbC ma mn mc la ln lc))
  have HB := Lib.hid (below_new w (.cells (tbC ma mn mc la ln lc) 29))
  have HE := Lib.hid h.en
  have HL := Lib.hid ll
  obtain ⟨R, hR⟩ : ∃ R, R = plc t.L s := ⟨_, rfl⟩
  rw [← hR]
  have HR := Lib.hid hR
  clear hR h ll lm
  go_enter Try.func37, Try.ntmps37
  go_upto_region 1 with fail
  generalize w.alloc (.cells (tbC ma mn mc la ln lc) 29) = W at *
  go_wp2_with fail
  go_loopw [5] (fun i wr => ∃ k : Nat, k ≤ ln ∧ i = .int .i64 (k : Int) ∧ Hid (∀ j, j < k → (t.L.getD j e0).nm ≠ s) ∧ Below W.heap.size W wr) (fun i _ => ln - (intOf i).toNat)
  case atStart => exact ⟨0, by omega, rfl, Lib.hid (fun j hj => by omega), Below.refl _ _⟩
  case round =>
    obtain ⟨k, hk, rfl, hp, hbl⟩ := hrel
    have X := HX.out.belowS hbl
    have HB1 := Lib.hid (HB.out.trans (hbl.mono HB.out.size))
    obtain ⟨c0, c1⟩ := two_cells X
    have c6 := X.lt
    clear X
    by_cases hlt : k < ln
    · have hlt' : (k : Int) < ln := by omega
      obtain ⟨g, off, rfl, q1, e1, e2, e3, e4, e5⟩ := HE.out.at HB1.out hlt
      have q2 : (ln : Int) ≤ lc := by omega
      by_cases e : (t.L.getD k e0).nm = s
      · have hh := Lib.hid (HR.out.trans (plc_yes t.L s k (by rw [HL.out]; exact hlt) e hp.out))
        rw [e] at e1
        have exx : ((bs s).toList == (bs s).toList) = true := by simp
        clear hp e HR HE e2 e3 e4 e5
        generalize bs s = x at *
        go_wp2_with fail
        go_ret
        exact ⟨ret_int hh.out.symm, HB1.out⟩
      · have hp2 := Lib.hid (fun j (hj : j < k + 1) => if h : j < k then hp.out j h else by rw [show j = k by omega]; exact e)
        have exy : ((bs (t.L.getD k e0).nm).toList == (bs s).toList) = false := by rw [bs_toList, bs_toList]; simpa using e
        clear hp e HR HE e2 e3 e4 e5
        generalize bs (t.L.getD k e0).nm = y at *
        generalize bs s = x at *
        go_wp2_with fail
        go_roundw
        case rel => exact ⟨k + 1, by omega, by go_num, hp2, hbl⟩
        case measure => simp [intOf]; omega
    · obtain rfl : k = ln := by omega
      have hh := Lib.hid (HR.out.trans (plc_no t.L s (by rw [HL.out]; exact hp.out)))
      clear hp HR HE
      go_wp2_with fail
      go_ret
      exact ⟨ret_int hh.out.symm, HB1.out⟩
theorem refHas_any (h : RdT (· < w.heap.size) w ma mn mc la ln lc t) (s : List UInt8) :
    Calls Try.prog 36 #[tbV ma mn mc la ln lc, .string (bs s)] w fun e w' => e = .returned (.bool (hasM t s)) ∧ Below w.heap.size w w' := by
  obtain ⟨ll, _, lm, _⟩ := h.lens
  unfold maxLen at lm
  have hn : (mn : Int) ≤ 9223372036854775807 := by omega
  have HX := Lib.hid (Whole.new w 29 (tbC ma mn mc la ln lc))
  have HB := Lib.hid (below_new w (.cells (tbC ma mn mc la ln lc) 29))
  have HE := Lib.hid h.md
  have HL := Lib.hid ll
  obtain ⟨R, hR⟩ : ∃ R, R = hasM t s := ⟨_, rfl⟩
  rw [← hR]
  have HR := Lib.hid (show R = decide (s ∈ t.mods) from hR)
  clear hR h ll lm
  go_enter Try.func36, Try.ntmps36
  go_upto_region 1 with fail
  generalize w.alloc (.cells (tbC ma mn mc la ln lc) 29) = W at *
  go_wp2_with fail
  go_loopw [5] (fun i wr => ∃ k : Nat, k ≤ mn ∧ i = .int .i64 (k : Int) ∧ Hid (s ∉ t.mods.take k) ∧ Below W.heap.size W wr) (fun i _ => mn - (intOf i).toNat)
  case atStart => exact ⟨0, by omega, rfl, Lib.hid (by simp), Below.refl _ _⟩
  case round =>
    obtain ⟨k, hk, rfl, hp, hbl⟩ := hrel
    have X := HX.out.belowS hbl
    have HB1 := Lib.hid (HB.out.trans (hbl.mono HB.out.size))
    obtain ⟨c0, c1⟩ := two_cells X
    have c6 := X.lt
    clear X
    by_cases hlt : k < mn
    · have hlt' : (k : Int) < mn := by omega
      have kl : k < t.mods.length := by rw [HL.out]; exact hlt
      obtain ⟨g, off, rfl, q1, e1⟩ := reads_at HE.out HB1.out hlt
      rw [strs_at kl] at e1
      have q2 : (mn : Int) ≤ mc := by omega
      by_cases e : t.mods.getD k [] = s
      · have hh := Lib.hid (show R = true by rw [HR.out]; exact decide_eq_true (by rw [← e, List.getD_eq_getElem?_getD, List.getElem?_eq_getElem kl]; exact List.getElem_mem kl))
        rw [e] at e1
        have exx : ((bs s).toList == (bs s).toList) = true := by simp
        clear hp e HR HE kl
        generalize bs s = x at *
        go_wp2_with fail
        go_ret
        exact ⟨ret_bool hh.out.symm, HB1.out⟩
      · have hp2 := Lib.hid (show s ∉ t.mods.take (k + 1) by rw [mem_take_succ t.mods [] k kl]; rintro (h | h); exact hp.out h; exact e h.symm)
        have exy : ((bs (t.mods.getD k [])).toList == (bs s).toList) = false := by rw [bs_toList, bs_toList]; simpa using e
        clear hp e HR HE kl
        generalize bs (t.mods.getD k []) = y at *
        generalize bs s = x at *
        go_wp2_with fail
        go_roundw
        case rel => exact ⟨k + 1, by omega, by go_num, hp2, hbl⟩
        case measure => simp [intOf]; omega
    · obtain rfl : k = mn := by omega
      have hh := Lib.hid (show R = false by rw [HR.out]; have := hp.out; rw [List.take_of_length_le (by rw [HL.out]; omega)] at this; exact decide_eq_false this)
      clear hp HR HE
      go_wp2_with fail
      go_ret
      exact ⟨ret_bool hh.out.symm, HB1.out⟩
end
end Go.Proofs.Ytajidaicojekdaa.SF
