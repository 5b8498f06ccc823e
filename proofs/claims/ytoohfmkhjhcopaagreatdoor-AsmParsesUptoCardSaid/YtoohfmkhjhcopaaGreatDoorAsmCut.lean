/-
  What Cut of package strings tells at one byte. Nothing here is a statement of the seed.
-/
import Derived.Test.YtoohfmkhjhcopaaGreatDoorAsmFn
set_option linter.unusedSimpArgs false
set_option linter.unusedVariables false
namespace Go.Proofs.YtoohfmkhjhcopaaGreatDoor.AF
open Go.RowKit WM IM WF IF AM

theorem index_yes (s : ByteArray) (c : UInt8) (w : World) (h : c ∈ s.data.toList) :
    Calls Tryz.prog 95 #[.string s, .string ⟨#[c]⟩] w fun e w' => e = .returned (.int .i64 ((pre c s.data.toList).length : Nat)) ∧ w = w' := by
  have C := Tryz.stringslite_Index_one s c w
  rw [index_some h] at C
  exact C.mono fun e w' ⟨he, hw⟩ => ⟨he, hw.symm⟩
theorem index_no (s : ByteArray) (c : UInt8) (w : World) (h : c ∉ s.data.toList) :
    Calls Tryz.prog 95 #[.string s, .string ⟨#[c]⟩] w fun e w' => e = .returned (.int .i64 (-1)) ∧ w = w' := by
  have C := Tryz.stringslite_Index_one s c w
  rw [index_none h] at C
  exact C.mono fun e w' ⟨he, hw⟩ => ⟨he, hw.symm⟩
theorem slCut_yes (s : ByteArray) (c : UInt8) (w : World) (hs : s.size ≤ 9223372036854775807) (h : c ∈ s.data.toList) :
    Calls Tryz.prog 66 #[.string s, .string ⟨#[c]⟩] w fun e w' => e = .returned (.tuple #[.string (bs (pre c s.data.toList)), .string (bs (post c s.data.toList)), .bool true]) ∧ ∃ n, w' = w.drewN n := by
  have C := Lib.hid (index_yes s c w h)
  have E1 := Lib.hid (extract_pre c s)
  have E2 := Lib.hid (extract_post s h)
  have hl := pre_lt h
  rw [size_list] at hl
  clear h
  generalize (pre c s.data.toList).length = k at C E1 E2 hl
  have k0 : (0 : Int) ≤ k := by omega
  have k1 : (k : Int) ≤ s.size := by omega
  have q1 : IntKind.i64.wrap ((k : Int) + 1) = (k : Int) + 1 := IntWalk.i64_in _ (by omega)
  have q2 : (0 : Int) ≤ (k : Int) + 1 := by omega
  have q3 : (k : Int) + 1 ≤ s.size := by omega
  have q4 : ((k : Int) + 1).toNat = k + 1 := by omega
  go_enter Tryz.func66, Tryz.ntmps66
  go_wp2_with (go_at_call 95; refine C.out.mono ?_; rintro e w' ⟨rfl, rfl⟩)
  go_quiet (fail)
  clear q1 q2 q3 q4
  go_wp2
  exact bodyPost_ret (v := .tuple #[.string (s.extract 0 k), .string (s.extract (k + 1) s.size), .bool true]) (by simp [results, Tryz.results66, go_sem]) rfl ⟨by rw [E1.out, E2.out], _, rfl⟩
theorem slCut_no (s : ByteArray) (c : UInt8) (w : World) (hs : s.size ≤ 9223372036854775807) (h : c ∉ s.data.toList) :
    Calls Tryz.prog 66 #[.string s, .string ⟨#[c]⟩] w fun e w' => e = .returned (.tuple #[.string s, .string (bs []), .bool false]) ∧ ∃ n, w' = w.drewN n := by
  have C := Lib.hid (index_no s c w h)
  clear h
  go_enter Tryz.func66, Tryz.ntmps66
  go_wp2_with (go_at_call 95; refine C.out.mono ?_; rintro e w' ⟨rfl, rfl⟩)
  exact bodyPost_ret (v := .tuple #[.string s, .string (bs []), .bool false]) (by simp [results, Tryz.results66, go_sem, bs]) rfl ⟨rfl, 0, rfl⟩
theorem slCut_any (s : ByteArray) (c : UInt8) (w : World) (hs : s.size ≤ 9223372036854775807) :
    Calls Tryz.prog 66 #[.string s, .string ⟨#[c]⟩] w fun e w' => e = .returned (.tuple #[.string (bs (pre c s.data.toList)), .string (bs (post c s.data.toList)), .bool (decide (c ∈ s.data.toList))]) ∧ ∃ n, w' = w.drewN n := by
  by_cases h : c ∈ s.data.toList
  · rw [decide_eq_true h]
    exact slCut_yes s c w hs h
  · rw [decide_eq_false h, (pre_none h).1, (pre_none h).2]
    exact slCut_no s c w hs h
theorem cut_any (s : ByteArray) (c : UInt8) (w : World) (hs : s.size ≤ 9223372036854775807) :
    Calls Tryz.prog 42 #[.string s, .string ⟨#[c]⟩] w fun e w' => e = .returned (.tuple #[.string (bs (pre c s.data.toList)), .string (bs (post c s.data.toList)), .bool (decide (c ∈ s.data.toList))]) ∧ ∃ n, w' = w.drewN n := by
  have C := Lib.hid (slCut_any s c w hs)
  generalize bs (pre c s.data.toList) = A at *
  generalize bs (post c s.data.toList) = B at *
  generalize decide (c ∈ s.data.toList) = b at *
  go_enter Tryz.func42, Tryz.ntmps42
  go_wp2_with (go_at_call 66; refine C.out.mono ?_; rintro e w' ⟨rfl, hb⟩)
  exact bodyPost_ret (v := .tuple #[.string A, .string B, .bool b]) (by simp [results, Tryz.results42, go_sem]) rfl ⟨rfl, hb⟩
/-- the same of a list of bytes -/
theorem cut_bs (l : List UInt8) (c : UInt8) (w : World) (hs : l.length ≤ 9223372036854775807) :
    Calls Tryz.prog 42 #[.string (bs l), .string ⟨#[c]⟩] w fun e w' => e = .returned (.tuple #[.string (bs (pre c l)), .string (bs (post c l)), .bool (decide (c ∈ l))]) ∧ ∃ n, w' = w.drewN n :=
  cut_any (bs l) c w (by rw [bs_size]; exact hs)
end Go.Proofs.YtoohfmkhjhcopaaGreatDoor.AF
