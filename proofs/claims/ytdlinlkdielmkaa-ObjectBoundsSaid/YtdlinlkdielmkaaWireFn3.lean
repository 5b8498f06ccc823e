/-
  What a reader reads with: where a number ends, its parts put together, words of bytes.
-/
import Derived.Test.YtdlinlkdielmkaaWireFn2
set_option linter.unusedSimpArgs false
set_option linter.unusedVariables false
namespace Go.Proofs.Ytdlinlkdielmkaa.NR
open Go.RowKit WM

theorem u8s_get (l : List UInt8) (c : UInt8) (k : Nat) (h : l[k]? = some c) : (u8s l)[k]? = some (.int .u8 (c.toNat : Int)) := by simp [u8s, h]
theorem isLast_yes (x : Int) (w : World) (h : x < 128) : Calls Try.prog 91 #[.int .u8 x] w fun e w' => e = .returned (.bool true) ∧ w = w' := by
  go_enter Try.func91, Try.ntmps91
  go_wp2
  go_ret
  exact ⟨rfl, rfl⟩
theorem isLast_no (x : Int) (w : World) (h : 128 ≤ x) : Calls Try.prog 91 #[.int .u8 x] w fun e w' => e = .returned (.bool false) ∧ w = w' := by
  go_enter Try.func91, Try.ntmps91
  go_wp2
  go_ret
  exact ⟨ret_bool (by simp; omega), rfl⟩
theorem index_yes (G : Nat → Prop) (ys t : List UInt8) (c : UInt8) (v : Value) (w : World) (hr : Reads G w v (u8s (ys ++ c :: t))) (hys : ∀ y ∈ ys, 128 ≤ y.toNat) (hc : c.toNat < 128) :
    Calls Try.prog 90 #[v, .func (.func 91) #[] #[]] w fun e w' => e = .returned (.int .i64 (ys.length : Nat)) ∧ w = w' := by
  obtain ⟨g, off, cap, rfl, hg, h1, h2, hcell⟩ := hr.cells (by simp [u8s])
  rw [u8s_len] at *
  unfold maxLen at h2
  have hn : (ys ++ c :: t).length = ys.length + (t.length + 1) := by simp
  have hnl : (ys.length : Int) < ((ys ++ c :: t).length : Nat) := by omega
  have HN := Lib.hid hn
  have hn' : (((ys ++ c :: t).length : Nat) : Int) ≤ 9223372036854775807 := by omega
  have HC0 : ∀ k, k < ys.length → ∃ y : UInt8, 128 ≤ (y.toNat : Int) ∧ w.cell? ⟨g, off + k, none⟩ = some (.int .u8 (y.toNat : Int)) := fun k hk =>
    ⟨ys[k], by have := hys ys[k] (List.getElem_mem _); omega, (hcell k (by omega)).trans (u8s_get _ ys[k] k (by rw [List.getElem?_append_left hk]; simp))⟩
  have HC := Lib.hid HC0
  clear HC0
  have hlast := (hcell ys.length (by omega)).trans (u8s_get _ c ys.length (by simp))
  clear hys hcell hn hr h1 h2
  generalize (ys ++ c :: t).length = n at *
  have hc' : (c.toNat : Int) < 128 := by omega
  have hy0 : (0 : Int) < n := by omega
  generalize ys.length = m at *
  go_enter Try.func90, Try.ntmps90
  go_wp2_with fail
  go_loop [8] (fun i => ∃ k : Nat, k ≤ m ∧ i = .int .i64 (k : Int)) (fun i => n - (intOf i).toNat)
  case atStart => exact ⟨0, by omega, rfl⟩
  case round =>
    obtain ⟨k, hk, rfl⟩ := hrel
    by_cases hlt : k < m
    · have hlt' : (k : Int) < n := by omega
      obtain ⟨y, hyk, hck⟩ := HC.out k hlt
      have CL := Lib.hid (isLast_no (y.toNat : Int) w (by omega))
      clear hyk
      go_wp2_with (go_at_call 91; refine CL.out.mono ?_; rintro e w1 ⟨rfl, rfl⟩)
      go_roundw
      case rel => exact ⟨k + 1, by omega, by go_num⟩
      case measure => simp [intOf]; omega
    · have hkm : k = m := by omega
      subst hkm
      have CL := Lib.hid (isLast_yes (c.toNat : Int) w (by omega))
      go_wp2_with (go_at_call 91; refine CL.out.mono ?_; rintro e w1 ⟨rfl, rfl⟩)
      go_ret
      exact ⟨rfl, rfl⟩
theorem index_no (G : Nat → Prop) (l : List UInt8) (v : Value) (w : World) (hr : Reads G w v (u8s l)) (hys : ∀ y ∈ l, 128 ≤ y.toNat) :
    Calls Try.prog 90 #[v, .func (.func 91) #[] #[]] w fun e w' => e = .returned (.int .i64 (-1)) ∧ w = w' := by
  by_cases h0 : l = []
  · subst h0
    obtain ⟨a, cap, rfl, h1, h2⟩ := hr.shape
    go_enter Try.func90, Try.ntmps90
    go_wp2_with fail
    refine wp_loop_rounds 1 ?_
    rw [rounds_succ]
    go_wp2
    go_ret
    exact ⟨rfl, rfl⟩
  · obtain ⟨g, off, cap, rfl, hg, h1, h2, hcell⟩ := hr.cells (by intro h; exact h0 (by simpa [u8s] using h))
    rw [u8s_len] at *
    unfold maxLen at h2
    have hn' : ((l.length : Nat) : Int) ≤ 9223372036854775807 := by omega
    have HC0 : ∀ k, k < l.length → ∃ y : UInt8, 128 ≤ (y.toNat : Int) ∧ w.cell? ⟨g, off + k, none⟩ = some (.int .u8 (y.toNat : Int)) := fun k hk =>
      ⟨l[k], by have := hys l[k] (List.getElem_mem _); omega, (hcell k (by omega)).trans (u8s_get _ l[k] k (by simp))⟩
    have HC := Lib.hid HC0
    clear hys hcell hr h1 h0 HC0 h2
    generalize l.length = m at *
    go_enter Try.func90, Try.ntmps90
    go_wp2_with fail
    go_loop [8] (fun i => ∃ k : Nat, k ≤ m ∧ i = .int .i64 (k : Int)) (fun i => m - (intOf i).toNat)
    case atStart => exact ⟨0, by omega, rfl⟩
    case round =>
      obtain ⟨k, hk, rfl⟩ := hrel
      by_cases hlt : k < m
      · have hlt' : (k : Int) < m := by omega
        obtain ⟨y, hyk, hck⟩ := HC.out k hlt
        have CL := Lib.hid (isLast_no (y.toNat : Int) w (by omega))
        clear hyk
        go_wp2_with (go_at_call 91; refine CL.out.mono ?_; rintro e w1 ⟨rfl, rfl⟩)
        go_roundw
        case rel => exact ⟨k + 1, by omega, by go_num⟩
        case measure => simp [intOf]; omega
      · have hkm : ¬ (k : Int) < m := by omega
        go_wp2
        go_ret
        exact ⟨rfl, rfl⟩
theorem toNat_pow (k : Nat) : (7 * (k : Int)).toNat = 7 * k := by omega
theorem and127 (y : UInt8) : bits .andNot .u8 (y.toNat : Int) 128 = ((y.toNat % 128 : Nat) : Int) := by
  have e := u8_andNot_nat y.toNat 128 (lt256 y) (by omega)
  rw [show ((128 : Nat) : Int) = 128 from rfl] at e
  rw [e, show 255 - 128 = 2 ^ 7 - 1 from rfl, Nat.and_two_pow_sub_one_eq_mod]
theorem wrap64_small (x : Int) (h0 : 0 ≤ x) (h : x < 18446744073709551616) : IntKind.u64.wrap x = x := by
  rw [IntKind.wrap_u64]; omega
theorem joined_step (J k : Nat) (y : UInt8) (hJ : J < 128 ^ k) (hk : k ≤ 4) :
    bits .or .u64 (J : Int) (IntKind.u64.wrap (IntKind.u64.wrap (bits .andNot .u8 (y.toNat : Int) 128) * 2 ^ (7 * k))) = ((J + y.toNat % 128 * 128 ^ k : Nat) : Int) := by
  have hy := lt256 y
  have hp : 128 ^ k ≤ 128 ^ 4 := Nat.pow_le_pow_right (by omega) hk
  have hm : y.toNat % 128 * 128 ^ k < 128 * 128 ^ 4 := by
    have h1 : y.toNat % 128 * 128 ^ k ≤ 127 * 128 ^ k := Nat.mul_le_mul_right _ (by omega)
    have h2 : 127 * 128 ^ k ≤ 127 * 128 ^ 4 := Nat.mul_le_mul_left _ hp
    omega
  have e1 : ((y.toNat % 128 : Nat) : Int) * 2 ^ (7 * k) = ((y.toNat % 128 * 128 ^ k : Nat) : Int) := by
    rw [← pow7, Int.natCast_mul, Int.natCast_pow]
    rfl
  rw [and127, wrap64_small ((y.toNat % 128 : Nat) : Int) (by omega) (by omega), e1, wrap64_small _ (by omega) (by omega), u64_or_nat _ _ (by omega) (by omega), ← pow7, or_add _ _ _ (by rw [pow7]; exact hJ)]
theorem joined_any (G : Nat → Prop) (l : List UInt8) (v : Value) (w : World) (hr : Reads G w v (u8s l)) (h0 : l ≠ []) (hl : l.length ≤ 5) :
    Calls Try.prog 93 #[v] w fun e w' => e = .returned (.int .u64 (joinL l : Nat)) ∧ w = w' := by
  obtain ⟨g, off, cap, rfl, hg, h1, h2, hcell⟩ := hr.cells (by intro h; exact h0 (by simpa [u8s] using h))
  rw [u8s_len] at *
  have HC0 : ∀ k, k < l.length → ∃ y : UInt8, l[k]? = some y ∧ w.cell? ⟨g, off + k, none⟩ = some (.int .u8 (y.toNat : Int)) := fun k hk =>
    ⟨l[k], by simp, (hcell k (by omega)).trans (u8s_get _ l[k] k (by simp))⟩
  have HC := Lib.hid HC0
  clear hcell hr h1 h0 HC0 h2
  generalize hm : l.length = m at *
  have HM := Lib.hid hm
  clear hm
  go_enter Try.func93, Try.ntmps93
  go_wp2_with fail
  go_loop [3, 8] (fun a i => ∃ k : Nat, k ≤ m ∧ i = .int .i64 (k : Int) ∧ a = .int .u64 (joinL (l.take k) : Nat)) (fun _ i => m - (intOf i).toNat)
  case atStart => exact ⟨0, by omega, rfl, rfl⟩
  case round =>
    obtain ⟨k, hk, rfl, rfl⟩ := hrel
    by_cases hlt : k < m
    · have hlt' : (k : Int) < m := by omega
      obtain ⟨y, hly, hck⟩ := HC.out k hlt
      have HY := Lib.hid hly
      clear hly
      have hj := joinL_lt (l.take k)
      rw [List.length_take, HM.out, Nat.min_eq_left hk] at hj
      generalize hJJ : joinL (l.take k) = J at *
      have HJ := Lib.hid hJJ
      clear hJJ
      go_wp2_with fail
      go_roundw
      case rel =>
        refine ⟨k + 1, by omega, by go_num, ?_⟩
        rw [joined_step J k y hj (by omega), List.take_add_one, HY.out]
        simp only [Option.toList]
        rw [joinL_snoc, List.length_take, HM.out, Nat.min_eq_left hk, HJ.out]
      case measure => simp [intOf]; omega
    · have hn : ¬ (k : Int) < m := by omega
      go_wp2_with fail
      go_ret
      rw [List.take_of_length_le (by rw [HM.out]; omega)]
      exact ⟨rfl, rfl⟩
end Go.Proofs.Ytdlinlkdielmkaa.NR
