/-
  Package name, call by call: what stands about the @, names, stems and versions, order. And the reference's.
-/
import Derived.Test.YtenilpofmfcofaaDoorNameOwn
import Derived.Test.YtenilpofmfcofaaDoorShelf
set_option linter.unusedSimpArgs false
set_option linter.unusedVariables false
namespace Go.Proofs.YtenilpofmfcofaaDoor.NF
open Go.RowKit NM

theorem clone_any (s : ByteArray) (w : World) (hs : s.size ≤ 281474976710656) :
    Calls Tryd.prog 14 #[.string s] w fun e w' => e = .returned (.string s) ∧ Below w.heap.size w w' := by
  have C := Lib.hid (Tryd.stringslite_Clone s w hs)
  go_enter Tryd.func14, Tryd.ntmps14
  go_wp2_with (go_at_call 22; refine C.out.mono ?_; rintro e w' ⟨rfl, hb⟩)
  go_ret
  exact ⟨rfl, hb⟩
/-- the text of one @ -/
def atText : ByteArray := ⟨#[64]⟩
theorem index_yes (s : ByteArray) (w : World) (h : hasAt s.data.toList = true) :
    Calls Tryd.prog 29 #[.string s, .string ⟨#[64]⟩] w fun e w' => e = .returned (.int .i64 ((pre s.data.toList).length : Nat)) ∧ w = w' := by
  have C := Tryd.stringslite_Index_one s 64 w
  rw [index_some _ h] at C
  exact C.mono fun e w' ⟨he, hw⟩ => ⟨he, hw.symm⟩
theorem index_no (s : ByteArray) (w : World) (h : hasAt s.data.toList = false) :
    Calls Tryd.prog 29 #[.string s, .string ⟨#[64]⟩] w fun e w' => e = .returned (.int .i64 (-1)) ∧ w = w' := by
  have C := Tryd.stringslite_Index_one s 64 w
  rw [index_none _ h] at C
  exact C.mono fun e w' ⟨he, hw⟩ => ⟨he, hw.symm⟩
theorem slCut_yes (s : ByteArray) (w : World) (hs : s.size ≤ 9223372036854775807) (h : hasAt s.data.toList = true) :
    Calls Tryd.prog 34 #[.string s, .string ⟨#[64]⟩] w fun e w' => e = .returned (.tuple #[.string (bs (pre s.data.toList)), .string (bs (post s.data.toList)), .bool true]) ∧ ∃ n, w' = w.drewN n := by
  have C := Lib.hid (index_yes s w h)
  have E1 := Lib.hid (extract_pre s)
  have E2 := Lib.hid (extract_post s h)
  have hl := pre_len _ h
  rw [size_list] at hl
  clear h
  generalize (pre s.data.toList).length = k at C E1 E2 hl
  have k0 : (0 : Int) ≤ k := by omega
  have k1 : (k : Int) ≤ s.size := by omega
  have q1 : IntKind.i64.wrap ((k : Int) + 1) = (k : Int) + 1 := IntWalk.i64_in _ (by omega)
  have q2 : (0 : Int) ≤ (k : Int) + 1 := by omega
  have q3 : (k : Int) + 1 ≤ s.size := by omega
  have q4 : ((k : Int) + 1).toNat = k + 1 := by omega
  go_enter Tryd.func34, Tryd.ntmps34
  go_wp2_with (go_at_call 29; refine C.out.mono ?_; rintro e w' ⟨rfl, rfl⟩)
  go_quiet (fail)
  clear q1 q2 q3 q4
  go_wp2
  exact bodyPost_ret (v := .tuple #[.string (s.extract 0 k), .string (s.extract (k + 1) s.size), .bool true]) (by simp [results, Tryd.results34, go_sem]) rfl ⟨by rw [E1.out, E2.out], _, rfl⟩
theorem slCut_no (s : ByteArray) (w : World) (hs : s.size ≤ 9223372036854775807) (h : hasAt s.data.toList = false) :
    Calls Tryd.prog 34 #[.string s, .string ⟨#[64]⟩] w fun e w' => e = .returned (.tuple #[.string s, .string (bs []), .bool false]) ∧ ∃ n, w' = w.drewN n := by
  have C := Lib.hid (index_no s w h)
  clear h
  go_enter Tryd.func34, Tryd.ntmps34
  go_wp2_with (go_at_call 29; refine C.out.mono ?_; rintro e w' ⟨rfl, rfl⟩)
  exact bodyPost_ret (v := .tuple #[.string s, .string (bs []), .bool false]) (by simp [results, Tryd.results34, go_sem, bs]) rfl ⟨rfl, 0, rfl⟩
/-- what both ways through Cut share -/
def cutL (l : List UInt8) : Value := if hasAt l then .tuple #[.string (bs (pre l)), .string (bs (post l)), .bool true] else .tuple #[.string (bs (pre l)), .string (bs []), .bool false]
theorem cut_yes (s : ByteArray) (w : World) (hs : s.size ≤ 9223372036854775807) (h : hasAt s.data.toList = true) :
    Calls Tryd.prog 26 #[.string s, .string ⟨#[64]⟩] w fun e w' => e = .returned (.tuple #[.string (bs (pre s.data.toList)), .string (bs (post s.data.toList)), .bool true]) ∧ ∃ n, w' = w.drewN n := by
  have C := Lib.hid (slCut_yes s w hs h)
  clear h
  go_enter Tryd.func26, Tryd.ntmps26
  go_wp2_with (go_at_call 34; refine C.out.mono ?_; rintro e w' ⟨rfl, hb⟩)
  exact bodyPost_ret (v := .tuple #[.string (bs (pre s.data.toList)), .string (bs (post s.data.toList)), .bool true]) (by simp [results, Tryd.results26, go_sem]) rfl ⟨rfl, hb⟩
theorem cut_no (s : ByteArray) (w : World) (hs : s.size ≤ 9223372036854775807) (h : hasAt s.data.toList = false) :
    Calls Tryd.prog 26 #[.string s, .string ⟨#[64]⟩] w fun e w' => e = .returned (.tuple #[.string s, .string (bs []), .bool false]) ∧ ∃ n, w' = w.drewN n := by
  have C := Lib.hid (slCut_no s w hs h)
  clear h
  go_enter Tryd.func26, Tryd.ntmps26
  go_wp2_with (go_at_call 34; refine C.out.mono ?_; rintro e w' ⟨rfl, hb⟩)
  exact bodyPost_ret (v := .tuple #[.string s, .string (bs []), .bool false]) (by simp [results, Tryd.results26, go_sem]) rfl ⟨rfl, hb⟩
end Go.Proofs.YtenilpofmfcofaaDoor.NF
