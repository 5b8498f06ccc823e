/-
  What the functions of package name tell, and those of the reference for layer 2, call by call: runes, letters, digits. Nothing here is a statement of the seed.
-/
import Derived.Test.YtleggfofgpiabaaProg
import Derived.Test.YtleggfofgpiabaaNameM
import Derived.WalkKit
import Derived.BigQuiet
import Derived.Deep.QuietTactic
import Derived.Lib.Hide
import Derived.Lib.OthersKept
import Derived.Lib.Strings
set_option linter.unusedSimpArgs false
set_option linter.unusedVariables false
namespace Go.Proofs.Ytleggfofgpiabaa.NF
open Go.RowKit NM

theorem ret_bool {a b : Bool} (h : a = b) : Ending.returned (.bool a) = .returned (.bool b) := by rw [h]
theorem ret_int {k : IntKind} {a b : Int} (h : a = b) : Ending.returned (.int k a) = .returned (.int k b) := by rw [h]
theorem byte_at (s : ByteArray) (k : Nat) (h : k < s.size) : ((s[k]'h).toNat : Int) = ((bt s.data.toList k : Nat) : Int) := by
  have e : s.get! k = s[k]'h := by simp [ByteArray.get!, getElem!_pos, h]; rfl
  have g := NM.get_at s k
  rw [e] at g
  exact congrArg Int.ofNat g

theorem isLetter_any (r : Int) (w : World) (hr : -2147483648 ≤ r ∧ r ≤ 2147483647) :
    Calls Try.prog 67 #[.int .i32 r] w fun e w' => e = .returned (.bool (letterB r)) ∧ w = w' := by
  obtain ⟨h1, h2⟩ := hr
  go_enter Try.func67, Try.ntmps67
  go_wp2
  all_goals go_ret
  all_goals refine ⟨ret_bool ?_, rfl⟩
  all_goals unfold letterB
  all_goals rw [Bool.eq_iff_iff]
  all_goals simp
  all_goals omega
theorem isDigit_any (r : Int) (w : World) (hr : -2147483648 ≤ r ∧ r ≤ 2147483647) :
    Calls Try.prog 68 #[.int .i32 r] w fun e w' => e = .returned (.bool (digitB r)) ∧ w = w' := by
  obtain ⟨h1, h2⟩ := hr
  go_enter Try.func68, Try.ntmps68
  go_wp2
  all_goals go_ret
  all_goals refine ⟨ret_bool ?_, rfl⟩
  all_goals unfold digitB
  all_goals rw [Bool.eq_iff_iff]
  all_goals simp
  all_goals omega
theorem and_top (b : Nat) (h : b < 256) : (bits .and .u8 (b : Int) 192 == 128) = (b / 64 == 2) := by
  have H : ∀ b : Fin 256, (bits .and .u8 ((b.val : Nat) : Int) 192 == 128) = (b.val / 64 == 2) := by decide +kernel
  exact H ⟨b, h⟩
/-- does s begin with p? -/
def pfx (s p : ByteArray) : Bool := p.data.toList.isPrefixOf s.data.toList
theorem slPrefix_any (s p : ByteArray) (w : World) :
    Calls Try.prog 76 #[.string s, .string p] w fun e w' => e = .returned (.bool (pfx s p)) ∧ w = w' := by
  have E := Lib.hid (Lib.hasPrefix_of_take s.data.toList p.data.toList)
  go_enter Try.func76, Try.ntmps76
  go_wp2
  · rename_i h
    go_ret
    refine ⟨?_, rfl⟩
    show Ending.returned (Value.bool ((s.extract 0 p.size).toList == p.toList)) = _
    have E' := E.out
    unfold Lib.hasPrefix at E'
    unfold pfx
    rw [← E', Lib.extract_toList, Lib.toList_data, ← Lib.size_eq, ← Lib.size_eq]
    simp [h]
  · rename_i h
    go_ret
    refine ⟨?_, rfl⟩
    have E' := E.out
    unfold Lib.hasPrefix at E'
    unfold pfx
    rw [← E', ← Lib.size_eq, ← Lib.size_eq]
    simp [h]
theorem prefix_any (s p : ByteArray) (w : World) :
    Calls Try.prog 71 #[.string s, .string p] w fun e w' => e = .returned (.bool (pfx s p)) ∧ w = w' := by
  go_enter Try.func71, Try.ntmps71
  go_wp2_with (go_at_call 76; refine (slPrefix_any _ _ _).mono ?_; rintro e w' ⟨rfl, rfl⟩)
  go_ret
  exact ⟨rfl, rfl⟩
/-- is a rune that a range tells a wrong one? -/
theorem isWrong_any (s : ByteArray) (r : Int) (w : World) (hr : -2147483648 ≤ r ∧ r ≤ 2147483647) :
    Calls Try.prog 66 #[.string s, .int .i32 r] w fun e w' => e = .returned (.bool ((r == 65533) && !(badText.isPrefixOf s.data.toList))) ∧ w = w' := by
  by_cases h : r = 65533
  · subst h
    have C := Lib.hid (prefix_any s ⟨#[239, 191, 189]⟩ w)
    go_enter Try.func66, Try.ntmps66
    go_wp2_with (go_at_call 71; refine C.out.mono ?_; rintro e w' ⟨rfl, rfl⟩)
    go_ret
    exact ⟨ret_bool rfl, rfl⟩
  · have h' : (r == 65533) = false := by simpa using h
    clear h
    go_enter Try.func66, Try.ntmps66
    go_wp2
    go_ret
    exact ⟨ret_bool (by rw [h']; rfl), rfl⟩
end Go.Proofs.Ytleggfofgpiabaa.NF
