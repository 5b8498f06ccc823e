/-
  What the functions of package word tell, and those of the reference for layer 1, call by call. Nothing here is a statement of the seed.
-/
import Derived.Test.YtdnjilnnlgphhaaProg
import Derived.Test.YtdnjilnnlgphhaaWordMath
import Derived.WalkKit
import Derived.BigQuiet
import Derived.Deep.QuietTactic
import Derived.Lib.Hide
set_option linter.unusedSimpArgs false
set_option linter.unusedVariables false
namespace Go.Proofs.Ytdnjilnnlgphhaa.WF
open Go.RowKit WM

theorem quiet_add_left {P : Program} {f : FuncId} {args : Array Value} {w : World} {a n : Nat} {v : Value}
    (h : Calls P f args (w.drewN (a + n)) fun e w' => e = .returned v ∧ w.drewN (a + n) = w') :
    Calls P f args (w.drewN (a + n)) fun e w'' => e = .returned v ∧ ∃ m, w'' = w.drewN (a + m) :=
  h.mono fun _ _ ⟨he, hm⟩ => ⟨he, n, hm.symm⟩
theorem quiet_left {P : Program} {f : FuncId} {args : Array Value} {w : World} {n : Nat} {v : Value}
    (h : Calls P f args (w.drewN n) fun e w' => e = .returned v ∧ w.drewN n = w') : Calls P f args (w.drewN n) fun e w'' => e = .returned v ∧ ∃ m, w'' = w.drewN m :=
  h.mono fun _ _ ⟨he, hm⟩ => ⟨he, n, hm.symm⟩

theorem ret_int {k : IntKind} {a b : Int} (h : a = b) : Ending.returned (.int k a) = .returned (.int k b) := by rw [h]
theorem mayBe_yes (a n : Int) (w : World) (h : 0 ≤ a ∧ 0 ≤ n ∧ a + n ≤ 32) :
    Calls Try.prog 43 #[.int .i64 a, .int .i64 n] w fun e w' => e = .returned (.bool true) ∧ w = w' := by
  obtain ⟨h1, h2, h3⟩ := h
  have h4 : a ≤ 32 - n := by omega
  go_enter Try.func43, Try.ntmps43
  go_wp2
  go_ret
  exact ⟨by simp, rfl⟩
theorem mayBe_no (a n : Int) (w : World) (ha : -9223372036854775808 ≤ a ∧ a ≤ 9223372036854775807) (hn : -9223372036854775808 ≤ n ∧ n ≤ 9223372036854775807) (h : ¬ (0 ≤ a ∧ 0 ≤ n ∧ a + n ≤ 32)) :
    Calls Try.prog 43 #[.int .i64 a, .int .i64 n] w fun e w' => e = .returned (.bool false) ∧ w = w' := by
  obtain ⟨ha1, ha2⟩ := ha
  obtain ⟨hn1, hn2⟩ := hn
  go_enter Try.func43, Try.ntmps43
  go_wp2
  all_goals go_ret
  all_goals refine ⟨?_, rfl⟩
  all_goals first | rfl | (simp; omega)
theorem May_yes (a n : Int) (w : World) (h : 0 ≤ a ∧ 0 ≤ n ∧ a + n ≤ 32) :
    Calls Try.prog 46 #[.int .i64 a, .int .i64 n] w fun e w' => e = .returned (.bool true) ∧ w = w' := by
  obtain ⟨h1, h2, h3⟩ := h
  have h4 : a ≤ 32 := by omega
  have h5 : n ≤ 32 - a := by omega
  go_enter Try.func46, Try.ntmps46
  go_wp2
  go_ret
  exact ⟨by simp, rfl⟩
theorem May_no (a n : Int) (w : World) (ha : -9223372036854775808 ≤ a ∧ a ≤ 9223372036854775807) (hn : -9223372036854775808 ≤ n ∧ n ≤ 9223372036854775807) (h : ¬ (0 ≤ a ∧ 0 ≤ n ∧ a + n ≤ 32)) :
    Calls Try.prog 46 #[.int .i64 a, .int .i64 n] w fun e w' => e = .returned (.bool false) ∧ w = w' := by
  obtain ⟨ha1, ha2⟩ := ha
  obtain ⟨hn1, hn2⟩ := hn
  go_enter Try.func46, Try.ntmps46
  go_wp2
  all_goals go_ret
  all_goals refine ⟨?_, rfl⟩
  all_goals first | rfl | (simp; omega)
theorem lowest_any (n : Int) (w : World) (h : 0 ≤ n ∧ n ≤ 32) :
    Calls Try.prog 44 #[.int .i64 n] w fun e w' => e = .returned (.int .u32 ((2 ^ n.toNat - 1 : Nat) : Int)) ∧ w = w' := by
  obtain ⟨h1, h2⟩ := h
  have H := Lib.hid (low_eq n.toNat (by omega))
  go_enter Try.func44, Try.ntmps44
  go_wp2
  go_ret
  exact ⟨ret_int H.out, rfl⟩
theorem refBit_any (x : Nat) (i : Int) (w : World) (hx : x < 4294967296) (h : 0 ≤ i ∧ i < 32) :
    Calls Try.prog 47 #[.int .u32 (x : Int), .int .i64 i] w fun e w' => e = .returned (.int .u32 ((x / 2 ^ i.toNat % 2 : Nat) : Int)) ∧ w = w' := by
  obtain ⟨h1, h2⟩ := h
  go_enter Try.func47, Try.ntmps47
  go_wp2
  go_ret
  exact ⟨ret_int (and_bit x i.toNat hx), rfl⟩
theorem wordBits_yes (x : Nat) (a n : Int) (w : World) (hx : x < 4294967296) (h : 0 ≤ a ∧ 0 ≤ n ∧ a + n ≤ 32) :
    Calls Try.prog 39 #[.int .u32 (x : Int), .int .i64 a, .int .i64 n] w fun e w' => e = .returned (.int .u32 ((cutN x a.toNat n.toNat : Nat) : Int)) ∧ ∃ k, w' = w.drewN k := by
  have H := Lib.hid h
  obtain ⟨h1, h2, h3⟩ := h
  have hl : 0 ≤ n ∧ n ≤ 32 := by omega
  have H2 := Lib.hid (and_cut x a.toNat n.toNat hx (by omega))
  go_enter Try.func39, Try.ntmps39
  go_wp2_with (first | (go_at_call 43; refine (mayBe_yes _ _ _ H.out).mono ?_; rintro e w' ⟨rfl, rfl⟩))
  go_quiet ((go_at_call 44; exact quiet_left (lowest_any _ _ (by omega))))
  go_wp2
  go_ret
  exact ⟨ret_int H2.out, _, rfl⟩
theorem wordBits_no (x : Nat) (a n : Int) (w : World) (ha : -9223372036854775808 ≤ a ∧ a ≤ 9223372036854775807) (hn : -9223372036854775808 ≤ n ∧ n ≤ 9223372036854775807) (h : ¬ (0 ≤ a ∧ 0 ≤ n ∧ a + n ≤ 32)) :
    Calls Try.prog 39 #[.int .u32 (x : Int), .int .i64 a, .int .i64 n] w fun e w' => e = .returned (.int .u32 0) ∧ w' = w := by
  have C := Lib.hid (mayBe_no a n w ha hn h)
  clear ha hn h
  go_enter Try.func39, Try.ntmps39
  go_wp2_with (first | (go_at_call 43; refine C.out.mono ?_; rintro e w' ⟨rfl, rfl⟩))
  go_ret
  exact ⟨rfl, rfl⟩
theorem isWidth_yes (n : Int) (w : World) (h : 1 ≤ n ∧ n ≤ 32) :
    Calls Try.prog 49 #[.int .i64 n] w fun e w' => e = .returned (.bool true) ∧ w = w' := by
  obtain ⟨h1, h2⟩ := h
  go_enter Try.func49, Try.ntmps49
  go_wp2
  go_ret
  exact ⟨by simp, rfl⟩
theorem isWidth_no (n : Int) (w : World) (hn : -9223372036854775808 ≤ n ∧ n ≤ 9223372036854775807) (h : ¬ (1 ≤ n ∧ n ≤ 32)) :
    Calls Try.prog 49 #[.int .i64 n] w fun e w' => e = .returned (.bool false) ∧ w = w' := by
  obtain ⟨hn1, hn2⟩ := hn
  go_enter Try.func49, Try.ntmps49
  go_wp2
  all_goals go_ret
  all_goals refine ⟨?_, rfl⟩
  all_goals first | rfl | (simp; omega)
theorem wordWith_yes (x : Nat) (a n : Int) (v : Nat) (w : World) (hx : x < 4294967296) (h : 0 ≤ a ∧ 0 ≤ n ∧ a + n ≤ 32) :
    Calls Try.prog 30 #[.int .u32 (x : Int), .int .i64 a, .int .i64 n, .int .u32 (v : Int)] w fun e w' => e = .returned (.int .u32 ((putN x a.toNat n.toNat v : Nat) : Int)) ∧ w' = w := by
  have H := Lib.hid h
  obtain ⟨h1, h2, h3⟩ := h
  have hl : 0 ≤ n ∧ n ≤ 32 := by omega
  have H2 := Lib.hid (put_eq x a.toNat n.toNat v hx)
  go_enter Try.func30, Try.ntmps30
  go_wp2_with (first | (go_at_call 43; refine (mayBe_yes _ _ _ H.out).mono ?_; rintro e w' ⟨rfl, rfl⟩) | (go_at_call 44; refine (lowest_any _ _ ⟨by omega, by omega⟩).mono ?_; rintro e w' ⟨rfl, rfl⟩))
  go_ret
  exact ⟨ret_int H2.out, rfl⟩
theorem wordWith_no (x : Nat) (a n : Int) (v : Nat) (w : World) (ha : -9223372036854775808 ≤ a ∧ a ≤ 9223372036854775807) (hn : -9223372036854775808 ≤ n ∧ n ≤ 9223372036854775807) (h : ¬ (0 ≤ a ∧ 0 ≤ n ∧ a + n ≤ 32)) :
    Calls Try.prog 30 #[.int .u32 (x : Int), .int .i64 a, .int .i64 n, .int .u32 (v : Int)] w fun e w' => e = .returned (.int .u32 (x : Int)) ∧ w' = w := by
  have C := Lib.hid (mayBe_no a n w ha hn h)
  clear ha hn h
  go_enter Try.func30, Try.ntmps30
  go_wp2_with (first | (go_at_call 43; refine C.out.mono ?_; rintro e w' ⟨rfl, rfl⟩))
  go_ret
  exact ⟨rfl, rfl⟩
theorem wordSigned_yes (x : Nat) (n : Int) (w : World) (hx : x < 4294967296) (h : 1 ≤ n ∧ n ≤ 32) :
    Calls Try.prog 40 #[.int .u32 (x : Int), .int .i64 n] w fun e w' => e = .returned (.int .i32 (sgnI x n.toNat)) ∧ w' = w := by
  have H := Lib.hid h
  have H2 := Lib.hid (sgn_eq x n hx h)
  obtain ⟨h1, h2⟩ := h
  go_enter Try.func40, Try.ntmps40
  go_wp2_with (first | (go_at_call 49; refine (isWidth_yes _ _ H.out).mono ?_; rintro e w' ⟨rfl, rfl⟩))
  go_ret
  exact ⟨ret_int H2.out, rfl⟩
theorem wordSigned_no (x : Nat) (n : Int) (w : World) (hn : -9223372036854775808 ≤ n ∧ n ≤ 9223372036854775807) (h : ¬ (1 ≤ n ∧ n ≤ 32)) :
    Calls Try.prog 40 #[.int .u32 (x : Int), .int .i64 n] w fun e w' => e = .returned (.int .i32 0) ∧ w' = w := by
  have C := Lib.hid (isWidth_no n w hn h)
  clear hn h
  go_enter Try.func40, Try.ntmps40
  go_wp2_with (first | (go_at_call 49; refine C.out.mono ?_; rintro e w' ⟨rfl, rfl⟩))
  go_ret
  exact ⟨rfl, rfl⟩
theorem wordFits_yes (x : Int) (n : Int) (w : World) (hx : -9223372036854775808 ≤ x ∧ x ≤ 9223372036854775807) (h : 1 ≤ n ∧ n ≤ 32) :
    Calls Try.prog 51 #[.int .i64 x, .int .i64 n] w fun e w' => e = .returned (.bool (fitB x n.toNat)) ∧ w' = w := by
  have H := Lib.hid h
  obtain ⟨h1, h2⟩ := h
  obtain ⟨hx1, hx2⟩ := hx
  obtain ⟨hp1, hp2⟩ := pow_bd1 (n.toNat - 1) (by omega)
  go_enter Try.func51, Try.ntmps51
  go_wp2_with (first | (go_at_call 49; refine (isWidth_yes _ _ H.out).mono ?_; rintro e w' ⟨rfl, rfl⟩))
  all_goals go_ret
  all_goals refine ⟨?_, rfl⟩
  all_goals refine congrArg (fun b => Ending.returned (.bool b)) ?_
  all_goals unfold fitB
  all_goals rw [Bool.eq_iff_iff]
  all_goals simp
  all_goals omega
theorem wordFits_no (x : Int) (n : Int) (w : World) (hn : -9223372036854775808 ≤ n ∧ n ≤ 9223372036854775807) (h : ¬ (1 ≤ n ∧ n ≤ 32)) :
    Calls Try.prog 51 #[.int .i64 x, .int .i64 n] w fun e w' => e = .returned (.bool false) ∧ w' = w := by
  have C := Lib.hid (isWidth_no n w hn h)
  clear hn h
  go_enter Try.func51, Try.ntmps51
  go_wp2_with (first | (go_at_call 49; refine C.out.mono ?_; rintro e w' ⟨rfl, rfl⟩))
  go_ret
  exact ⟨rfl, rfl⟩
theorem wordCut_any (x : Int) (n : Int) (w : World) (hx : -2147483648 ≤ x ∧ x ≤ 2147483647) (h : -9223372036854775808 ≤ n ∧ n ≤ 9223372036854775807) :
    Calls Try.prog 32 #[.int .i32 x, .int .i64 n] w fun e w' => e = .returned (.int .u32 (cutI x n)) ∧ ∃ k, w' = w.drewN k := by
  obtain ⟨h1, h2⟩ := h
  obtain ⟨hx1, hx2⟩ := hx
  have H0 := Lib.hid (cast_low x 0 (by omega))
  have H32 := Lib.hid (cast_low x 32 (by omega))
  have Hn : Hid (n ≤ 32 → bits .and .u32 (x % 4294967296) ((2 ^ n.toNat - 1 : Nat) : Int) = x % 2 ^ n.toNat) := fun h => cast_low x n.toNat (by omega)
  go_enter Try.func32, Try.ntmps32
  go_wp2_with (first | (go_at_call 44; refine (lowest_any _ _ ⟨by omega, by omega⟩).mono ?_; rintro e w' ⟨rfl, rfl⟩))
  all_goals go_ret
  all_goals refine ⟨ret_int ?_, 0, rfl⟩
  · rename_i h3
    rw [if_neg (by omega)] at h3
    exact H32.out.trans (by simp [cutI]; omega)
  · rename_i h3
    exact H0.out.trans (by simp [cutI]; omega)
  · rename_i h3
    rw [if_neg (by omega)] at h3
    refine (Hn.out h3).trans ?_
    unfold cutI
    by_cases h5 : n < 1
    · obtain rfl : n = 0 := by omega
      simp
    · rw [if_neg h5, if_neg (by omega)]
theorem refBits_yes (x : Nat) (a n : Int) (w : World) (hx : x < 4294967296) (h : 0 ≤ a ∧ 0 ≤ n ∧ a + n ≤ 32) :
    Calls Try.prog 33 #[.int .u32 (x : Int), .int .i64 a, .int .i64 n] w fun e w' => e = .returned (.int .u32 ((cutN x a.toNat n.toNat : Nat) : Int)) ∧ w' = w := by
  have H := Lib.hid h
  obtain ⟨h1, h2, h3⟩ := h
  go_enter Try.func33, Try.ntmps33
  go_wp2_with (first | (go_at_call 46; refine (May_yes _ _ _ H.out).mono ?_; rintro e w' ⟨rfl, rfl⟩))
  go_loop [7, 8] (fun y i => ∃ k : Nat, (k : Int) ≤ n ∧ i = .int .i64 k ∧ y = .int .u32 ((cutN x a.toNat k : Nat) : Int)) (fun _ i => n.toNat - (intOf i).toNat)
  case atStart => exact ⟨0, h2, rfl, by rw [cutN_zero]; rfl⟩
  case round =>
    obtain ⟨k, hk, rfl, rfl⟩ := hrel
    by_cases hlt : (k : Int) < n
    · go_wp2_with (first | (go_at_call 47; refine (refBit_any _ _ _ hx ⟨by omega, by omega⟩).mono ?_; rintro e w' ⟨rfl, rfl⟩))
      have S := cut_step x a k h1 (by omega)
      go_roundw
      case rel => exact ⟨k + 1, by omega, by go_num, by rw [S]⟩
      case measure => simp [intOf]; omega
    · go_wp2
      go_ret
      have e : n.toNat = k := by omega
      exact ⟨by rw [e]; rfl, rfl⟩
theorem refBits_int (x : Int) (a n : Int) (w : World) (hx : 0 ≤ x ∧ x < 4294967296) (h : 0 ≤ a ∧ 0 ≤ n ∧ a + n ≤ 32) :
    Calls Try.prog 33 #[.int .u32 x, .int .i64 a, .int .i64 n] w fun e w' => e = .returned (.int .u32 ((cutN x.toNat a.toNat n.toNat : Nat) : Int)) ∧ w' = w := by
  obtain ⟨y, rfl⟩ := Int.eq_ofNat_of_zero_le hx.1
  simpa using refBits_yes y a n w (by omega) h
theorem refBits_no (x : Nat) (a n : Int) (w : World) (ha : -9223372036854775808 ≤ a ∧ a ≤ 9223372036854775807) (hn : -9223372036854775808 ≤ n ∧ n ≤ 9223372036854775807) (h : ¬ (0 ≤ a ∧ 0 ≤ n ∧ a + n ≤ 32)) :
    Calls Try.prog 33 #[.int .u32 (x : Int), .int .i64 a, .int .i64 n] w fun e w' => e = .returned (.int .u32 0) ∧ w' = w := by
  have C := Lib.hid (May_no a n w ha hn h)
  clear ha hn h
  go_enter Try.func33, Try.ntmps33
  go_wp2_with (first | (go_at_call 46; refine C.out.mono ?_; rintro e w' ⟨rfl, rfl⟩))
  go_ret
  exact ⟨rfl, rfl⟩
theorem refWith_yes (x : Nat) (a n : Int) (v : Nat) (w : World) (hx : x < 4294967296) (hv : v < 4294967296) (h : 0 ≤ a ∧ 0 ≤ n ∧ a + n ≤ 32) :
    Calls Try.prog 37 #[.int .u32 (x : Int), .int .i64 a, .int .i64 n, .int .u32 (v : Int)] w fun e w' => e = .returned (.int .u32 ((putN x a.toNat n.toNat v : Nat) : Int)) ∧ w' = w := by
  have H := Lib.hid h
  obtain ⟨h1, h2, h3⟩ := h
  go_enter Try.func37, Try.ntmps37
  go_wp2_with (first | (go_at_call 46; refine (May_yes _ _ _ H.out).mono ?_; rintro e w' ⟨rfl, rfl⟩))
  go_loop [9, 10] (fun y i => ∃ k : Nat, k ≤ 32 ∧ i = .int .i64 k ∧ y = .int .u32 ((putN x a.toNat n.toNat v % 2 ^ k : Nat) : Int)) (fun _ i => 32 - (intOf i).toNat)
  case atStart => exact ⟨0, by omega, rfl, by simp [Nat.mod_one]⟩
  case round =>
    obtain ⟨k, hk, rfl, rfl⟩ := hrel
    by_cases hlt : k < 32
    · have hlt' : (k : Int) < 32 := by omega
      by_cases hi : a ≤ k ∧ k < a + n
      · obtain ⟨hi1, hi2⟩ := hi
        have S := Lib.hid (put_step_in x a n v k hx H.out ⟨hi1, hi2⟩)
        go_wp2_with (first | (go_at_call 47; refine (refBit_any _ _ _ hv ⟨by omega, by omega⟩).mono ?_; rintro e w' ⟨rfl, rfl⟩))
        go_roundw
        case rel => exact ⟨k + 1, by omega, by go_num, congrArg (Value.int .u32) S.out⟩
        case measure => simp [intOf]; omega
      · have S := Lib.hid (put_step_out x a n v k hx H.out hlt hi)
        go_wp2_with (first | (go_at_call 47; refine (refBit_any _ _ _ hx ⟨by omega, by omega⟩).mono ?_; rintro e w' ⟨rfl, rfl⟩))
        all_goals first | (exfalso; apply hi; constructor <;> assumption) | skip
        all_goals
          go_roundw
          case rel => exact ⟨k + 1, by omega, by go_num, congrArg (Value.int .u32) S.out⟩
          case measure => simp [intOf]; omega
    · go_wp2
      go_ret
      obtain rfl : k = 32 := by omega
      refine ⟨ret_int ?_, rfl⟩
      have := putN_lt x a.toNat n.toNat v hx
      exact Int.emod_eq_of_lt (by omega) (by omega)
theorem refWith_no (x : Nat) (a n : Int) (v : Nat) (w : World) (ha : -9223372036854775808 ≤ a ∧ a ≤ 9223372036854775807) (hn : -9223372036854775808 ≤ n ∧ n ≤ 9223372036854775807) (h : ¬ (0 ≤ a ∧ 0 ≤ n ∧ a + n ≤ 32)) :
    Calls Try.prog 37 #[.int .u32 (x : Int), .int .i64 a, .int .i64 n, .int .u32 (v : Int)] w fun e w' => e = .returned (.int .u32 (x : Int)) ∧ w' = w := by
  have C := Lib.hid (May_no a n w ha hn h)
  clear ha hn h
  go_enter Try.func37, Try.ntmps37
  go_wp2_with (first | (go_at_call 46; refine C.out.mono ?_; rintro e w' ⟨rfl, rfl⟩))
  go_ret
  exact ⟨rfl, rfl⟩
theorem refSigned_yes (x : Nat) (n : Int) (w : World) (hx : x < 4294967296) (h : 1 ≤ n ∧ n ≤ 32) :
    Calls Try.prog 35 #[.int .u32 (x : Int), .int .i64 n] w fun e w' => e = .returned (.int .i32 (sgnI x n.toNat)) ∧ w' = w := by
  obtain ⟨h1, h2⟩ := h
  go_enter Try.func35, Try.ntmps35
  go_wp2_with (first | (go_at_call 33; refine (refBits_yes _ _ _ _ hx ⟨by omega, by omega, by omega⟩).mono ?_; rintro e w' ⟨rfl, rfl⟩) | (go_at_call 47; refine (refBit_any _ _ _ hx ⟨by omega, by omega⟩).mono ?_; rintro e w' ⟨rfl, rfl⟩))
  all_goals rename_i hb
  · have S := Lib.hid (sgn_ref1 x n ⟨h1, h2⟩ hb)
    go_ret
    exact ⟨ret_int S.out, rfl⟩
  · have S := Lib.hid (sgn_ref2 x n ⟨h1, h2⟩ hb)
    go_ret
    exact ⟨ret_int S.out, rfl⟩
theorem refSigned_no (x : Nat) (n : Int) (w : World) (hn : -9223372036854775808 ≤ n ∧ n ≤ 9223372036854775807) (h : ¬ (1 ≤ n ∧ n ≤ 32)) :
    Calls Try.prog 35 #[.int .u32 (x : Int), .int .i64 n] w fun e w' => e = .returned (.int .i32 0) ∧ w' = w := by
  obtain ⟨hn1, hn2⟩ := hn
  by_cases h1 : n < 1
  · go_enter Try.func35, Try.ntmps35
    go_wp2
    go_ret
    exact ⟨rfl, rfl⟩
  · have h2 : 32 < n := by omega
    go_enter Try.func35, Try.ntmps35
    go_wp2
    go_ret
    exact ⟨rfl, rfl⟩
theorem refFits_yes (x : Int) (n : Int) (w : World) (hx : -9223372036854775808 ≤ x ∧ x ≤ 9223372036854775807) (h : 1 ≤ n ∧ n ≤ 32) :
    Calls Try.prog 48 #[.int .i64 x, .int .i64 n] w fun e w' => e = .returned (.bool (fitB x n.toNat)) ∧ w' = w := by
  obtain ⟨h1, h2⟩ := h
  obtain ⟨hx1, hx2⟩ := hx
  obtain ⟨hp1, hp2⟩ := pow_bd1 (n.toNat - 1) (by omega)
  go_enter Try.func48, Try.ntmps48
  go_wp2
  all_goals go_ret
  all_goals refine ⟨?_, rfl⟩
  all_goals refine congrArg (fun b => Ending.returned (.bool b)) ?_
  all_goals unfold fitB
  all_goals rw [Bool.eq_iff_iff]
  all_goals simp
  all_goals omega
theorem refFits_no (x : Int) (n : Int) (w : World) (hn : -9223372036854775808 ≤ n ∧ n ≤ 9223372036854775807) (h : ¬ (1 ≤ n ∧ n ≤ 32)) :
    Calls Try.prog 48 #[.int .i64 x, .int .i64 n] w fun e w' => e = .returned (.bool false) ∧ w' = w := by
  obtain ⟨hn1, hn2⟩ := hn
  by_cases h1 : n < 1
  · go_enter Try.func48, Try.ntmps48
    go_wp2
    go_ret
    exact ⟨rfl, rfl⟩
  · have h2 : 32 < n := by omega
    go_enter Try.func48, Try.ntmps48
    go_wp2
    go_ret
    exact ⟨rfl, rfl⟩
theorem refCut_any (x : Int) (n : Int) (w : World) (hx : -2147483648 ≤ x ∧ x ≤ 2147483647) (h : -9223372036854775808 ≤ n ∧ n ≤ 9223372036854775807) :
    Calls Try.prog 38 #[.int .i32 x, .int .i64 n] w fun e w' => e = .returned (.int .u32 (cutI x n)) ∧ w' = w := by
  obtain ⟨h1, h2⟩ := h
  obtain ⟨hx1, hx2⟩ := hx
  by_cases h1 : n < 1
  · go_enter Try.func38, Try.ntmps38
    go_wp2
    go_ret
    exact ⟨ret_int (by simp [cutI, h1]), rfl⟩
  · go_enter Try.func38, Try.ntmps38
    have S1 : Hid (n ≤ 32 → ((cutN (x % 4294967296).toNat 0 n.toNat : Nat) : Int) = cutI x n) := fun h => cut_ref x n ⟨by omega, h⟩
    have S2 : Hid (32 < n → ((cutN (x % 4294967296).toNat 0 32 : Nat) : Int) = cutI x n) := fun h => cut_ref32 x n h
    go_wp2_with (first | (go_at_call 33; refine (refBits_int _ _ _ _ ⟨by omega, by omega⟩ ⟨by omega, by omega, by omega⟩).mono ?_; rintro e w' ⟨rfl, rfl⟩))
    · go_ret
      exact ⟨ret_int (S2.out (by assumption)), rfl⟩
    · go_ret
      exact ⟨ret_int (S1.out (by assumption)), rfl⟩
end Go.Proofs.Ytdnjilnnlgphhaa.WF
