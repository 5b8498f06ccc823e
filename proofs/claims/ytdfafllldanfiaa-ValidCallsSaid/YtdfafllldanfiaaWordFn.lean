/-
  What the functions of package word tell, and those of the reference for layer 1, call by call. Nothing here is a statement of the seed.
-/
import Derived.Test.YtdfafllldanfiaaProg
import Derived.Test.YtdfafllldanfiaaWordMath
import Derived.WalkKit
import Derived.BigQuiet
import Derived.Deep.QuietTactic
import Derived.Lib.Hide
set_option linter.unusedSimpArgs false
set_option linter.unusedVariables false
namespace Go.Proofs.Ytdfafllldanfiaa.WF
open Go.RowKit WM

theorem quiet_add_left {P : Program} {f : FuncId} {args : Array Value} {w : World} {a n : Nat} {v : Value}
    (h : Calls P f args (w.drewN (a + n)) fun e w' => e = .returned v ∧ w.drewN (a + n) = w') :
    Calls P f args (w.drewN (a + n)) fun e w'' => e = .returned v ∧ ∃ m, w'' = w.drewN (a + m) :=
  h.mono fun _ _ ⟨he, hm⟩ => ⟨he, n, hm.symm⟩
theorem quiet_left {P : Program} {f : FuncId} {args : Array Value} {w : World} {n : Nat} {v : Value}
    (h : Calls P f args (w.drewN n) fun e w' => e = .returned v ∧ w.drewN n = w') : Calls P f args (w.drewN n) fun e w'' => e = .returned v ∧ ∃ m, w'' = w.drewN m :=
  h.mono fun _ _ ⟨he, hm⟩ => ⟨he, n, hm.symm⟩

theorem ret_int {k : IntKind} {a b : Int} (h : a = b) : Ending.returned (.int k a) = .returned (.int k b) := by rw [h]
theorem mayBe_yes (a n : Int) (w : World) (h : 0 ≤ a ∧ 0 ≤ n ∧ a + n ≤ 32) :
    Calls Try.prog 43 #[.int .i64 a, .int .i64 n] w fun e w' => e = .returned (.bool true) ∧ w = w' := by
  obtain ⟨h1, h2, h3⟩ := h
  have h4 : a ≤ 32 - n := by omega
  go_enter Try.func43, Try.ntmps43
  go_wp2
  go_ret
  exact ⟨by simp, rfl⟩
theorem mayBe_no (a n : Int) (w : World) (ha : -9223372036854775808 ≤ a ∧ a ≤ 9223372036854775807) (hn : -9223372036854775808 ≤ n ∧ n ≤ 9223372036854775807) (h : ¬ (0 ≤ a ∧ 0 ≤ n ∧ a + n ≤ 32)) :
    Calls Try.prog 43 #[.int .i64 a, .int .i64 n] w fun e w' => e = .returned (.bool false) ∧ w = w' := by
  obtain ⟨ha1, ha2⟩ := ha
  obtain ⟨hn1, hn2⟩ := hn
  go_enter Try.func43, Try.ntmps43
  go_wp2
  all_goals go_ret
  all_goals refine ⟨?_, rfl⟩
  all_goals first | rfl | (simp; omega)
theorem lowest_any (n : Int) (w : World) (h : 0 ≤ n ∧ n ≤ 32) :
    Calls Try.prog 44 #[.int .i64 n] w fun e w' => e = .returned (.int .u32 ((2 ^ n.toNat - 1 : Nat) : Int)) ∧ w = w' := by
  obtain ⟨h1, h2⟩ := h
  have H := Lib.hid (low_eq n.toNat (by omega))
  go_enter Try.func44, Try.ntmps44
  go_wp2
  go_ret
  exact ⟨ret_int H.out, rfl⟩
theorem wordBits_yes (x : Nat) (a n : Int) (w : World) (hx : x < 4294967296) (h : 0 ≤ a ∧ 0 ≤ n ∧ a + n ≤ 32) :
    Calls Try.prog 23 #[.int .u32 (x : Int), .int .i64 a, .int .i64 n] w fun e w' => e = .returned (.int .u32 ((cutN x a.toNat n.toNat : Nat) : Int)) ∧ ∃ k, w' = w.drewN k := by
  have H := Lib.hid h
  obtain ⟨h1, h2, h3⟩ := h
  have hl : 0 ≤ n ∧ n ≤ 32 := by omega
  have H2 := Lib.hid (and_cut x a.toNat n.toNat hx (by omega))
  go_enter Try.func23, Try.ntmps23
  go_wp2_with (first | (go_at_call 43; refine (mayBe_yes _ _ _ H.out).mono ?_; rintro e w' ⟨rfl, rfl⟩))
  go_quiet ((go_at_call 44; exact quiet_left (lowest_any _ _ (by omega))))
  go_wp2
  go_ret
  exact ⟨ret_int H2.out, _, rfl⟩
theorem wordBits_no (x : Nat) (a n : Int) (w : World) (ha : -9223372036854775808 ≤ a ∧ a ≤ 9223372036854775807) (hn : -9223372036854775808 ≤ n ∧ n ≤ 9223372036854775807) (h : ¬ (0 ≤ a ∧ 0 ≤ n ∧ a + n ≤ 32)) :
    Calls Try.prog 23 #[.int .u32 (x : Int), .int .i64 a, .int .i64 n] w fun e w' => e = .returned (.int .u32 0) ∧ w' = w := by
  have C := Lib.hid (mayBe_no a n w ha hn h)
  clear ha hn h
  go_enter Try.func23, Try.ntmps23
  go_wp2_with (first | (go_at_call 43; refine C.out.mono ?_; rintro e w' ⟨rfl, rfl⟩))
  go_ret
  exact ⟨rfl, rfl⟩
theorem isWidth_yes (n : Int) (w : World) (h : 1 ≤ n ∧ n ≤ 32) :
    Calls Try.prog 46 #[.int .i64 n] w fun e w' => e = .returned (.bool true) ∧ w = w' := by
  obtain ⟨h1, h2⟩ := h
  go_enter Try.func46, Try.ntmps46
  go_wp2
  go_ret
  exact ⟨by simp, rfl⟩
theorem isWidth_no (n : Int) (w : World) (hn : -9223372036854775808 ≤ n ∧ n ≤ 9223372036854775807) (h : ¬ (1 ≤ n ∧ n ≤ 32)) :
    Calls Try.prog 46 #[.int .i64 n] w fun e w' => e = .returned (.bool false) ∧ w = w' := by
  obtain ⟨hn1, hn2⟩ := hn
  go_enter Try.func46, Try.ntmps46
  go_wp2
  all_goals go_ret
  all_goals refine ⟨?_, rfl⟩
  all_goals first | rfl | (simp; omega)
theorem wordWith_yes (x : Nat) (a n : Int) (v : Nat) (w : World) (hx : x < 4294967296) (h : 0 ≤ a ∧ 0 ≤ n ∧ a + n ≤ 32) :
    Calls Try.prog 27 #[.int .u32 (x : Int), .int .i64 a, .int .i64 n, .int .u32 (v : Int)] w fun e w' => e = .returned (.int .u32 ((putN x a.toNat n.toNat v : Nat) : Int)) ∧ w' = w := by
  have H := Lib.hid h
  obtain ⟨h1, h2, h3⟩ := h
  have hl : 0 ≤ n ∧ n ≤ 32 := by omega
  have H2 := Lib.hid (put_eq x a.toNat n.toNat v hx)
  go_enter Try.func27, Try.ntmps27
  go_wp2_with (first | (go_at_call 43; refine (mayBe_yes _ _ _ H.out).mono ?_; rintro e w' ⟨rfl, rfl⟩) | (go_at_call 44; refine (lowest_any _ _ ⟨by omega, by omega⟩).mono ?_; rintro e w' ⟨rfl, rfl⟩))
  go_ret
  exact ⟨ret_int H2.out, rfl⟩
theorem wordWith_no (x : Nat) (a n : Int) (v : Nat) (w : World) (ha : -9223372036854775808 ≤ a ∧ a ≤ 9223372036854775807) (hn : -9223372036854775808 ≤ n ∧ n ≤ 9223372036854775807) (h : ¬ (0 ≤ a ∧ 0 ≤ n ∧ a + n ≤ 32)) :
    Calls Try.prog 27 #[.int .u32 (x : Int), .int .i64 a, .int .i64 n, .int .u32 (v : Int)] w fun e w' => e = .returned (.int .u32 (x : Int)) ∧ w' = w := by
  have C := Lib.hid (mayBe_no a n w ha hn h)
  clear ha hn h
  go_enter Try.func27, Try.ntmps27
  go_wp2_with (first | (go_at_call 43; refine C.out.mono ?_; rintro e w' ⟨rfl, rfl⟩))
  go_ret
  exact ⟨rfl, rfl⟩
theorem wordSigned_yes (x : Nat) (n : Int) (w : World) (hx : x < 4294967296) (h : 1 ≤ n ∧ n ≤ 32) :
    Calls Try.prog 25 #[.int .u32 (x : Int), .int .i64 n] w fun e w' => e = .returned (.int .i32 (sgnI x n.toNat)) ∧ w' = w := by
  have H := Lib.hid h
  have H2 := Lib.hid (sgn_eq x n hx h)
  obtain ⟨h1, h2⟩ := h
  go_enter Try.func25, Try.ntmps25
  go_wp2_with (first | (go_at_call 46; refine (isWidth_yes _ _ H.out).mono ?_; rintro e w' ⟨rfl, rfl⟩))
  go_ret
  exact ⟨ret_int H2.out, rfl⟩
theorem wordSigned_no (x : Nat) (n : Int) (w : World) (hn : -9223372036854775808 ≤ n ∧ n ≤ 9223372036854775807) (h : ¬ (1 ≤ n ∧ n ≤ 32)) :
    Calls Try.prog 25 #[.int .u32 (x : Int), .int .i64 n] w fun e w' => e = .returned (.int .i32 0) ∧ w' = w := by
  have C := Lib.hid (isWidth_no n w hn h)
  clear hn h
  go_enter Try.func25, Try.ntmps25
  go_wp2_with (first | (go_at_call 46; refine C.out.mono ?_; rintro e w' ⟨rfl, rfl⟩))
  go_ret
  exact ⟨rfl, rfl⟩
theorem wordFits_yes (x : Int) (n : Int) (w : World) (hx : -9223372036854775808 ≤ x ∧ x ≤ 9223372036854775807) (h : 1 ≤ n ∧ n ≤ 32) :
    Calls Try.prog 62 #[.int .i64 x, .int .i64 n] w fun e w' => e = .returned (.bool (fitB x n.toNat)) ∧ w' = w := by
  have H := Lib.hid h
  obtain ⟨h1, h2⟩ := h
  obtain ⟨hx1, hx2⟩ := hx
  obtain ⟨hp1, hp2⟩ := pow_bd1 (n.toNat - 1) (by omega)
  go_enter Try.func62, Try.ntmps62
  go_wp2_with (first | (go_at_call 46; refine (isWidth_yes _ _ H.out).mono ?_; rintro e w' ⟨rfl, rfl⟩))
  all_goals go_ret
  all_goals refine ⟨?_, rfl⟩
  all_goals refine congrArg (fun b => Ending.returned (.bool b)) ?_
  all_goals unfold fitB
  all_goals rw [Bool.eq_iff_iff]
  all_goals simp
  all_goals omega
theorem wordFits_no (x : Int) (n : Int) (w : World) (hn : -9223372036854775808 ≤ n ∧ n ≤ 9223372036854775807) (h : ¬ (1 ≤ n ∧ n ≤ 32)) :
    Calls Try.prog 62 #[.int .i64 x, .int .i64 n] w fun e w' => e = .returned (.bool false) ∧ w' = w := by
  have C := Lib.hid (isWidth_no n w hn h)
  clear hn h
  go_enter Try.func62, Try.ntmps62
  go_wp2_with (first | (go_at_call 46; refine C.out.mono ?_; rintro e w' ⟨rfl, rfl⟩))
  go_ret
  exact ⟨rfl, rfl⟩
theorem wordCut_any (x : Int) (n : Int) (w : World) (hx : -2147483648 ≤ x ∧ x ≤ 2147483647) (h : -9223372036854775808 ≤ n ∧ n ≤ 9223372036854775807) :
    Calls Try.prog 28 #[.int .i32 x, .int .i64 n] w fun e w' => e = .returned (.int .u32 (cutI x n)) ∧ ∃ k, w' = w.drewN k := by
  obtain ⟨h1, h2⟩ := h
  obtain ⟨hx1, hx2⟩ := hx
  have H0 := Lib.hid (cast_low x 0 (by omega))
  have H32 := Lib.hid (cast_low x 32 (by omega))
  have Hn : Hid (n ≤ 32 → bits .and .u32 (x % 4294967296) ((2 ^ n.toNat - 1 : Nat) : Int) = x % 2 ^ n.toNat) := fun h => cast_low x n.toNat (by omega)
  go_enter Try.func28, Try.ntmps28
  go_wp2_with (first | (go_at_call 44; refine (lowest_any _ _ ⟨by omega, by omega⟩).mono ?_; rintro e w' ⟨rfl, rfl⟩))
  all_goals go_ret
  all_goals refine ⟨ret_int ?_, 0, rfl⟩
  · rename_i h3
    rw [if_neg (by omega)] at h3
    exact H32.out.trans (by simp [cutI]; omega)
  · rename_i h3
    exact H0.out.trans (by simp [cutI]; omega)
  · rename_i h3
    rw [if_neg (by omega)] at h3
    refine (Hn.out h3).trans ?_
    unfold cutI
    by_cases h5 : n < 1
    · obtain rfl : n = 0 := by omega
      simp
    · rw [if_neg h5, if_neg (by omega)]
end Go.Proofs.Ytdfafllldanfiaa.WF
