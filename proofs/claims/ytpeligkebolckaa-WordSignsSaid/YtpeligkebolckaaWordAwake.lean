/-
  The closed cases that each law of layer 1 asks beside its own: they hold.
-/
import Derived.Test.YtpeligkebolckaaWordParse
set_option linter.unusedSimpArgs false
set_option linter.unusedVariables false
namespace Go.Proofs.Ytpeligkebolckaa.WF
open Go.RowKit WM

theorem wordHex_int (x : Int) (w : World) (hx : 0 ≤ x ∧ x < 4294967296) :
    Calls Try.prog 25 #[.int .u32 x] w fun e w' => e = .returned (.string (strOfNums (hexL x.toNat))) ∧ Below w.heap.size w w' := by
  obtain ⟨y, rfl⟩ := Int.eq_ofNat_of_zero_le hx.1
  simpa using wordHex_any y w (by omega)
theorem wordWith_int (x a n v : Int) (w : World) (hx : 0 ≤ x ∧ x < 4294967296) (hv : 0 ≤ v ∧ v < 4294967296) (h : 0 ≤ a ∧ 0 ≤ n ∧ a + n ≤ 32) :
    Calls Try.prog 15 #[.int .u32 x, .int .i64 a, .int .i64 n, .int .u32 v] w fun e w' => e = .returned (.int .u32 ((putN x.toNat a.toNat n.toNat v.toNat : Nat) : Int)) ∧ w' = w := by
  obtain ⟨y, rfl⟩ := Int.eq_ofNat_of_zero_le hx.1
  obtain ⟨u, rfl⟩ := Int.eq_ofNat_of_zero_le hv.1
  simpa using wordWith_yes y a n u w (by omega) h
theorem wordSigned_int (x n : Int) (w : World) (hx : 0 ≤ x ∧ x < 4294967296) (h : 1 ≤ n ∧ n ≤ 32) :
    Calls Try.prog 17 #[.int .u32 x, .int .i64 n] w fun e w' => e = .returned (.int .i32 (sgnI x.toNat n.toNat)) ∧ w' = w := by
  obtain ⟨y, rfl⟩ := Int.eq_ofNat_of_zero_le hx.1
  simpa using wordSigned_yes y n w (by omega) h

theorem awake_any (w : World) :
    Calls Try.prog 14 #[] w fun e w' => e = .returned (.bool true) ∧ Below w.heap.size w w' := by
  have e1 : ((cutN (4026531841 : Int).toNat (28 : Int).toNat (4 : Int).toNat : Nat) : Int) = 15 := by decide
  have e2 : ((putN (0 : Int).toNat (4 : Int).toNat (4 : Int).toNat (31 : Int).toNat : Nat) : Int) = 240 := by decide
  have e3 : sgnI (15 : Int).toNat (4 : Int).toNat = -1 := by decide
  have e4 : strOfNums (hexL (10 : Int).toNat) = { data := #[48, 48, 48, 48, 48, 48, 48, 97] } := by decide
  have c1 := Lib.hid (fun w : World => by have h := wordBits_int 4026531841 28 4 w (by omega) (by omega); rw [e1] at h; exact h)
  have c2 := Lib.hid (fun w : World => by have h := wordWith_int 0 4 4 31 w (by omega) (by omega) (by omega); rw [e2] at h; exact h)
  have c3 := Lib.hid (fun w : World => by have h := wordSigned_int 15 4 w (by omega) (by omega); rw [e3] at h; exact h)
  have c4 := Lib.hid (fun w : World => by have h := wordHex_int 10 w (by omega); rw [e4] at h; exact h)
  clear e1 e2 e3 e4
  go_enter Try.func14, Try.ntmps14
  go_wp2_with (first | (go_at_call 12; refine (c1.out _).mono ?_; rintro e w' ⟨rfl, m, rfl⟩) | (go_at_call 15; refine (c2.out _).mono ?_; rintro e w' ⟨rfl, rfl⟩) | (go_at_call 17; refine (c3.out _).mono ?_; rintro e w' ⟨rfl, rfl⟩) | (go_at_call 25; refine (c4.out _).mono ?_; rintro e w' ⟨rfl, hb⟩))
  go_ret
  exact ⟨rfl, (below_drewN (Below.refl _ _) m).trans hb⟩
end Go.Proofs.Ytpeligkebolckaa.WF
