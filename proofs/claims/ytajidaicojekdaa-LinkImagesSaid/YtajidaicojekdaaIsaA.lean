/-
  Joined texts: WordMath, WordFn, IsaMath, IsaFn, IsaR, IsaEnc, IsaDec. Nothing here is a statement of the seed.
-/
import Derived.Laws.BitsAllLaws
import Derived.RowKit
import Derived.Test.YtajidaicojekdaaProg
import Derived.WalkKit
import Derived.BigQuiet
import Derived.Deep.QuietTactic
import Derived.Lib.Hide
import Derived.Lib.OthersKept
import Derived.Lib.Strings
set_option linter.unusedSimpArgs false
set_option linter.unusedVariables false
/-
  Plain facts on numbers for the layer word: parts of words as naturals. Nothing of the program is used.
-/
namespace Go.Proofs.Ytajidaicojekdaa.WM
open Go.RowKit

/-- may a part be? -/
def mayB (a n : Int) : Bool := decide (0 ≤ a ∧ 0 ≤ n ∧ a + n ≤ 32)
theorem mayB_true {a n : Int} (h : mayB a n = true) : 0 ≤ a ∧ 0 ≤ n ∧ a + n ≤ 32 := by simpa [mayB] using h
theorem mayB_mk {a n : Int} (h : 0 ≤ a ∧ 0 ≤ n ∧ a + n ≤ 32) : mayB a n = true := by simpa [mayB] using h
theorem mayB_no {a n : Int} (h : ¬ (0 ≤ a ∧ 0 ≤ n ∧ a + n ≤ 32)) : mayB a n = false := by simpa [mayB] using h

/-- the part of w from the bit a on, n bits -/
def cutN (w a n : Nat) : Nat := w / 2 ^ a % 2 ^ n
theorem cutN_lt (w a n : Nat) : cutN w a n < 2 ^ n := Nat.mod_lt _ (Nat.two_pow_pos n)
theorem cutN_zero (w a : Nat) : cutN w a 0 = 0 := by simp [cutN, Nat.mod_one]
theorem cutN_succ (w a n : Nat) : cutN w a (n + 1) = cutN w a n + 2 ^ n * (w / 2 ^ (a + n) % 2) := by
  unfold cutN
  rw [Nat.pow_succ, Nat.mod_mul, Nat.div_div_eq_div_mul, ← Nat.pow_add]
theorem cutN_testBit (w a n i : Nat) : (cutN w a n).testBit i = (decide (i < n) && w.testBit (a + i)) := by
  unfold cutN
  rw [Nat.testBit_mod_two_pow, Nat.testBit_div_two_pow, Nat.add_comm]
theorem bit_eq (w i : Nat) : w / 2 ^ i % 2 = (w.testBit i).toNat := by
  rw [Nat.testBit_eq_decide_div_mod_eq]
  have : w / 2 ^ i % 2 < 2 := Nat.mod_lt _ (by omega)
  by_cases h : w / 2 ^ i % 2 = 1
  · simp [h]
  · have : w / 2 ^ i % 2 = 0 := by omega
    simp [this]

/-- w with the lowest n bits of v in the place from a on -/
def putN (w a n v : Nat) : Nat := (w &&& (4294967295 - (2 ^ n - 1) * 2 ^ a % 4294967296)) ||| ((v * 2 ^ a % 4294967296) &&& ((2 ^ n - 1) * 2 ^ a % 4294967296))

theorem mask_testBit (a n i : Nat) : ((2 ^ n - 1) * 2 ^ a % 4294967296).testBit i = (decide (i < 32) && (decide (a ≤ i) && decide (i < a + n))) := by
  rw [show (4294967296 : Nat) = 2 ^ 32 from rfl, Nat.testBit_mod_two_pow, Nat.testBit_mul_two_pow, Nat.testBit_two_pow_sub_one]
  by_cases h : a ≤ i
  · have e : (i - a < n) ↔ (i < a + n) := by omega
    simp [h, e]
  · simp [h]
theorem notMask_testBit (x i : Nat) (hx : x < 4294967296) : (4294967295 - x).testBit i = (decide (i < 32) && !x.testBit i) := by
  have := Nat.testBit_two_pow_sub_succ (n := 32) hx i
  rw [show 4294967295 - x = 2 ^ 32 - (x + 1) by omega]
  exact this
theorem putN_testBit (w a n v i : Nat) (hw : w < 4294967296) (h : a + n ≤ 32) :
    (putN w a n v).testBit i = if a ≤ i ∧ i < a + n then v.testBit (i - a) else w.testBit i := by
  unfold putN
  have hm : (2 ^ n - 1) * 2 ^ a % 4294967296 < 4294967296 := Nat.mod_lt _ (by omega)
  rw [Nat.testBit_or, Nat.testBit_and, Nat.testBit_and, notMask_testBit _ _ hm, mask_testBit, show (4294967296 : Nat) = 2 ^ 32 from rfl, Nat.testBit_mod_two_pow, Nat.testBit_mul_two_pow]
  by_cases hi : i < 32
  · by_cases h1 : a ≤ i
    · by_cases h2 : i < a + n <;> simp [hi, h1, h2]
    · simp [hi, h1]
  · have hwi : w.testBit i = false := Nat.testBit_lt_two_pow (Nat.lt_of_lt_of_le hw (show 2 ^ 32 ≤ 2 ^ i from Nat.pow_le_pow_right (by omega) (by omega)))
    simp [hi, hwi]; omega
theorem putN_lt (w a n v : Nat) (hw : w < 4294967296) : putN w a n v < 4294967296 := by
  unfold putN
  refine Nat.or_lt_two_pow (n := 32) ?_ ?_
  · exact Nat.lt_of_le_of_lt Nat.and_le_left hw
  · exact Nat.lt_of_le_of_lt Nat.and_le_left (Nat.mod_lt _ (by omega))
theorem pow_le (k : Nat) (h : k ≤ 32) : 2 ^ k ≤ 4294967296 := show 2 ^ k ≤ 2 ^ 32 from Nat.pow_le_pow_right (by omega) h
theorem pow_pos (k : Nat) : 1 ≤ 2 ^ k := Nat.two_pow_pos k
theorem low_eq (k : Nat) (h : k ≤ 32) : ((2 : Int) ^ k % 4294967296 - 1) % 4294967296 = ((2 ^ k - 1 : Nat) : Int) := by
  have h1 := pow_le k h
  have h2 := pow_pos k
  have e : (2 : Int) ^ k = ((2 ^ k : Nat) : Int) := by simp
  rw [e]
  generalize 2 ^ k = p at *
  by_cases hp : p = 4294967296
  · subst hp; rfl
  · omega
theorem low_lt (k : Nat) (h : k ≤ 32) : 2 ^ k - 1 < 4294967296 := by
  have h1 := pow_le k h
  omega
theorem and_low (x k : Nat) : x &&& (2 ^ k - 1) = x % 2 ^ k := Nat.and_two_pow_sub_one_eq_mod x k
theorem cast_shr (x k : Nat) : (x : Int) / 2 ^ k = ((x / 2 ^ k : Nat) : Int) := by simp
theorem and_cut (x k n : Nat) (hx : x < 4294967296) (hn : n ≤ 32) : bits .and .u32 ((x : Int) / 2 ^ k) ((2 ^ n - 1 : Nat) : Int) = ((cutN x k n : Nat) : Int) := by
  have h1 : x / 2 ^ k < 4294967296 := Nat.lt_of_le_of_lt (Nat.div_le_self _ _) hx
  rw [cast_shr, u32_and_nat _ _ h1 (low_lt n hn), and_low]
  rfl
theorem and_bit (x k : Nat) (hx : x < 4294967296) : bits .and .u32 ((x : Int) / 2 ^ k) 1 = ((x / 2 ^ k % 2 : Nat) : Int) := by
  have := and_cut x k 1 hx (by omega)
  simpa [cutN] using this
theorem cutN_le (w a n : Nat) (hw : w < 4294967296) : cutN w a n < 4294967296 := by
  unfold cutN
  exact Nat.lt_of_le_of_lt (Nat.le_trans (Nat.mod_le _ _) (Nat.div_le_self _ _)) hw
theorem cast_shl (x k : Nat) : (x : Int) * 2 ^ k % 4294967296 = ((x * 2 ^ k % 4294967296 : Nat) : Int) := by simp
theorem put_eq (x a n v : Nat) (hx : x < 4294967296) :
    bits .or .u32 (bits .andNot .u32 (x : Int) (((2 ^ n - 1 : Nat) : Int) * 2 ^ a % 4294967296)) (bits .and .u32 ((v : Int) * 2 ^ a % 4294967296) (((2 ^ n - 1 : Nat) : Int) * 2 ^ a % 4294967296)) = ((putN x a n v : Nat) : Int) := by
  have hm : (2 ^ n - 1) * 2 ^ a % 4294967296 < 4294967296 := Nat.mod_lt _ (by omega)
  have hv : v * 2 ^ a % 4294967296 < 4294967296 := Nat.mod_lt _ (by omega)
  rw [cast_shl, cast_shl, u32_andNot_nat _ _ hx hm, u32_and_nat _ _ hv hm, u32_or_nat _ _ (Nat.lt_of_le_of_lt Nat.and_le_left hx) (Nat.lt_of_le_of_lt Nat.and_le_left hv)]
  rfl
/-- the lowest n bits of v, with a sign -/
def sgnI (v n : Nat) : Int := if v / 2 ^ (n - 1) % 2 = 1 then ((v % 2 ^ n : Nat) : Int) - 2 ^ n else ((v % 2 ^ n : Nat) : Int)
def fitB (v : Int) (n : Nat) : Bool := decide (-2 ^ (n - 1) ≤ v ∧ v < 2 ^ (n - 1))
/-- the lowest n bits of a number -/
def cutI (v : Int) (n : Int) : Int := if n < 1 then 0 else if 32 < n then v % 4294967296 else v % 2 ^ n.toNat
theorem width_cases (n : Int) (h : 1 ≤ n ∧ n ≤ 32) : n = 1 ∨ n = 2 ∨ n = 3 ∨ n = 4 ∨ n = 5 ∨ n = 6 ∨ n = 7 ∨ n = 8 ∨ n = 9 ∨ n = 10 ∨ n = 11 ∨ n = 12 ∨ n = 13 ∨ n = 14 ∨ n = 15 ∨ n = 16 ∨ n = 17 ∨ n = 18 ∨ n = 19 ∨ n = 20 ∨ n = 21 ∨ n = 22 ∨ n = 23 ∨ n = 24 ∨ n = 25 ∨ n = 26 ∨ n = 27 ∨ n = 28 ∨ n = 29 ∨ n = 30 ∨ n = 31 ∨ n = 32 := by omega
theorem sgn_eq (x : Nat) (n : Int) (hx : x < 4294967296) (h : 1 ≤ n ∧ n ≤ 32) : wrap32 ((x : Int) * 2 ^ (32 - n).toNat % 4294967296) / 2 ^ (32 - n).toNat = sgnI x n.toNat := by
  unfold wrap32 sgnI
  rcases width_cases n h with rfl | rfl | rfl | rfl | rfl | rfl | rfl | rfl | rfl | rfl | rfl | rfl | rfl | rfl | rfl | rfl | rfl | rfl | rfl | rfl | rfl | rfl | rfl | rfl | rfl | rfl | rfl | rfl | rfl | rfl | rfl | rfl <;> simp <;> split <;> omega
/-- two's complement, as the reference goes about it -/
theorem sgn_ref (x : Nat) (n : Int) (h : 1 ≤ n ∧ n ≤ 32) : -2147483648 ≤ sgnI x n.toNat ∧ sgnI x n.toNat ≤ 2147483647 := by
  unfold sgnI
  rcases width_cases n h with rfl | rfl | rfl | rfl | rfl | rfl | rfl | rfl | rfl | rfl | rfl | rfl | rfl | rfl | rfl | rfl | rfl | rfl | rfl | rfl | rfl | rfl | rfl | rfl | rfl | rfl | rfl | rfl | rfl | rfl | rfl | rfl <;> simp <;> split <;> omega
theorem pow_bd (k : Nat) (h : k ≤ 32) : (1 : Int) ≤ 2 ^ k ∧ (2 : Int) ^ k ≤ 4294967296 := by
  have h1 := pow_le k h
  have h2 := pow_pos k
  have e : (2 : Int) ^ k = ((2 ^ k : Nat) : Int) := by simp
  omega
theorem pow_bd1 (k : Nat) (h : k ≤ 31) : (1 : Int) ≤ 2 ^ k ∧ (2 : Int) ^ k ≤ 2147483648 := by
  have h1 : 2 ^ k ≤ 2147483648 := show 2 ^ k ≤ 2 ^ 31 from Nat.pow_le_pow_right (by omega) h
  have h2 := pow_pos k
  have e : (2 : Int) ^ k = ((2 ^ k : Nat) : Int) := by simp
  omega
theorem cast_low (x : Int) (k : Nat) (h : k ≤ 32) : bits .and .u32 (x % 4294967296) ((2 ^ k - 1 : Nat) : Int) = x % 2 ^ k := by
  obtain ⟨y, hy⟩ := Int.eq_ofNat_of_zero_le (Int.emod_nonneg x (show (4294967296 : Int) ≠ 0 by decide))
  have hy2 : y < 4294967296 := by omega
  rw [hy, u32_and_nat _ _ hy2 (low_lt k h), and_low]
  have e : ((y % 2 ^ k : Nat) : Int) = (y : Int) % 2 ^ k := by simp
  rw [e, ← hy]
  have d : ((2 : Int) ^ k) ∣ 4294967296 := ⟨2 ^ (32 - k), by rw [← Int.pow_add, show k + (32 - k) = 32 by omega]; rfl⟩
  exact Int.emod_emod_of_dvd x d
theorem or_bit (p b k : Nat) (hp : p < 2 ^ k) (hb : b ≤ 1) (hk : k < 32) : bits .or .u32 (p : Int) ((b : Int) * 2 ^ k % 4294967296) = ((p + 2 ^ k * b : Nat) : Int) := by
  have h1 : 2 ^ (k + 1) ≤ 4294967296 := pow_le (k + 1) (by omega)
  rw [Nat.pow_succ] at h1
  have hm : b * 2 ^ k ≤ 2 ^ k := by
    rcases Nat.le_one_iff_eq_zero_or_eq_one.1 hb with rfl | rfl <;> omega
  have hz : b * 2 ^ k % 2 ^ k = 0 := Nat.mul_mod_left _ _
  rw [cast_shl, Nat.mod_eq_of_lt (by omega), u32_or_nat _ _ (by omega) (by omega), Nat.or_comm, nat_join k _ _ hz hp]
  rw [Nat.mul_comm b, Nat.add_comm]
theorem or_bit_of (x p k : Nat) (j : Int) (i : Nat) (hj : j.toNat = i) (hp : p < 2 ^ k) (hk : k < 32) :
    bits .or .u32 (p : Int) ((x : Int) / 2 ^ j.toNat % 2 * 2 ^ k % 4294967296) = ((p + 2 ^ k * (x / 2 ^ i % 2) : Nat) : Int) := by
  have h := or_bit p (x / 2 ^ i % 2) k hp (by have : x / 2 ^ i % 2 < 2 := Nat.mod_lt _ (by omega); omega) hk
  rw [hj]
  simpa using h
theorem cut_step (x : Nat) (a : Int) (k : Nat) (ha : 0 ≤ a) (h : a + k < 32) :
    bits .or .u32 ((cutN x a.toNat k : Nat) : Int) ((x : Int) / 2 ^ (a + (k : Int)).toNat % 2 * 2 ^ k % 4294967296) = ((cutN x a.toNat (k + 1) : Nat) : Int) := by
  rw [or_bit_of x _ k _ (a.toNat + k) (by omega) (cutN_lt _ _ _) (by omega), cutN_succ]
/-- the reference's word, from below: the bits of y, one by one -/
theorem mod_step (y k : Nat) : y % 2 ^ (k + 1) = y % 2 ^ k + 2 ^ k * (y / 2 ^ k % 2) := by
  rw [Nat.pow_succ, Nat.mod_mul]
theorem put_bit_in (x a n v i : Nat) (hx : x < 4294967296) (h : a + n ≤ 32) (hi : a ≤ i ∧ i < a + n) : putN x a n v / 2 ^ i % 2 = v / 2 ^ (i - a) % 2 := by
  rw [bit_eq, bit_eq, putN_testBit x a n v i hx h, if_pos hi]
theorem put_bit_out (x a n v i : Nat) (hx : x < 4294967296) (h : a + n ≤ 32) (hi : ¬ (a ≤ i ∧ i < a + n)) : putN x a n v / 2 ^ i % 2 = x / 2 ^ i % 2 := by
  rw [bit_eq, bit_eq, putN_testBit x a n v i hx h, if_neg hi]
theorem put_step_in (x : Nat) (a n : Int) (v k : Nat) (hx : x < 4294967296) (h : 0 ≤ a ∧ 0 ≤ n ∧ a + n ≤ 32) (hi : a ≤ k ∧ k < a + n) :
    bits .or .u32 ((putN x a.toNat n.toNat v % 2 ^ k : Nat) : Int) ((v : Int) / 2 ^ ((k : Int) - a).toNat % 2 * 2 ^ k % 4294967296) = ((putN x a.toNat n.toNat v % 2 ^ (k + 1) : Nat) : Int) := by
  rw [or_bit_of v _ k _ (k - a.toNat) (by omega) (Nat.mod_lt _ (Nat.two_pow_pos k)) (by omega), mod_step, put_bit_in x _ _ v k hx (by omega) (by omega)]
theorem put_step_out (x : Nat) (a n : Int) (v k : Nat) (hx : x < 4294967296) (h : 0 ≤ a ∧ 0 ≤ n ∧ a + n ≤ 32) (hk : k < 32) (hi : ¬ (a ≤ k ∧ k < a + n)) :
    bits .or .u32 ((putN x a.toNat n.toNat v % 2 ^ k : Nat) : Int) ((x : Int) / 2 ^ k % 2 * 2 ^ k % 4294967296) = ((putN x a.toNat n.toNat v % 2 ^ (k + 1) : Nat) : Int) := by
  have e := or_bit_of x (putN x a.toNat n.toNat v % 2 ^ k) k (k : Int) k (by omega) (Nat.mod_lt _ (Nat.two_pow_pos k)) hk
  rw [mod_step, put_bit_out x _ _ v k hx (by omega) (by omega)]
  simpa using e
theorem cutN_zero_at (x n : Nat) : cutN x 0 n = x % 2 ^ n := by simp [cutN]
theorem sgn_ref1 (x : Nat) (n : Int) (h : 1 ≤ n ∧ n ≤ 32) (hb : ((x : Int) / 2 ^ (n.toNat - 1) % 2 == 1) = true) :
    wrap32 (wrap64 (wrap64 ((cutN x 0 n.toNat : Nat) : Int) - wrap64 (2 ^ n.toNat))) = sgnI x n.toNat := by
  rw [cutN_zero_at]
  unfold wrap32 wrap64 sgnI
  revert hb
  rcases width_cases n h with rfl | rfl | rfl | rfl | rfl | rfl | rfl | rfl | rfl | rfl | rfl | rfl | rfl | rfl | rfl | rfl | rfl | rfl | rfl | rfl | rfl | rfl | rfl | rfl | rfl | rfl | rfl | rfl | rfl | rfl | rfl | rfl <;> simp <;> intro hb <;> split <;> omega
theorem sgn_ref2 (x : Nat) (n : Int) (h : 1 ≤ n ∧ n ≤ 32) (hb : ((x : Int) / 2 ^ (n.toNat - 1) % 2 == 1) = false) :
    wrap32 (wrap64 ((cutN x 0 n.toNat : Nat) : Int)) = sgnI x n.toNat := by
  rw [cutN_zero_at]
  unfold wrap32 wrap64 sgnI
  revert hb
  rcases width_cases n h with rfl | rfl | rfl | rfl | rfl | rfl | rfl | rfl | rfl | rfl | rfl | rfl | rfl | rfl | rfl | rfl | rfl | rfl | rfl | rfl | rfl | rfl | rfl | rfl | rfl | rfl | rfl | rfl | rfl | rfl | rfl | rfl <;> simp <;> intro hb <;> split <;> omega
theorem cut_ref (x n : Int) (h : 1 ≤ n ∧ n ≤ 32) : ((cutN (x % 4294967296).toNat 0 n.toNat : Nat) : Int) = cutI x n := by
  rw [cutN_zero_at]
  unfold cutI
  rw [if_neg (by omega), if_neg (by omega)]
  rcases width_cases n h with rfl | rfl | rfl | rfl | rfl | rfl | rfl | rfl | rfl | rfl | rfl | rfl | rfl | rfl | rfl | rfl | rfl | rfl | rfl | rfl | rfl | rfl | rfl | rfl | rfl | rfl | rfl | rfl | rfl | rfl | rfl | rfl <;> simp <;> omega
theorem cut_ref32 (x n : Int) (h : 32 < n) : ((cutN (x % 4294967296).toNat 0 32 : Nat) : Int) = cutI x n := by
  rw [cutN_zero_at]
  unfold cutI
  rw [if_neg (by omega), if_pos h]
  omega
end Go.Proofs.Ytajidaicojekdaa.WM

/-
  What the functions of package word tell, and those of the reference for layer 1, call by call. Nothing here is a statement of the seed.
-/
namespace Go.Proofs.Ytajidaicojekdaa.WF
open Go.RowKit WM

theorem quiet_add_left {P : Program} {f : FuncId} {args : Array Value} {w : World} {a n : Nat} {v : Value}
    (h : Calls P f args (w.drewN (a + n)) fun e w' => e = .returned v ∧ w.drewN (a + n) = w') :
    Calls P f args (w.drewN (a + n)) fun e w'' => e = .returned v ∧ ∃ m, w'' = w.drewN (a + m) :=
  h.mono fun _ _ ⟨he, hm⟩ => ⟨he, n, hm.symm⟩
theorem quiet_left {P : Program} {f : FuncId} {args : Array Value} {w : World} {n : Nat} {v : Value}
    (h : Calls P f args (w.drewN n) fun e w' => e = .returned v ∧ w.drewN n = w') : Calls P f args (w.drewN n) fun e w'' => e = .returned v ∧ ∃ m, w'' = w.drewN m :=
  h.mono fun _ _ ⟨he, hm⟩ => ⟨he, n, hm.symm⟩

theorem ret_int {k : IntKind} {a b : Int} (h : a = b) : Ending.returned (.int k a) = .returned (.int k b) := by rw [h]
theorem mayBe_yes (a n : Int) (w : World) (h : 0 ≤ a ∧ 0 ≤ n ∧ a + n ≤ 32) :
    Calls Try.prog 126 #[.int .i64 a, .int .i64 n] w fun e w' => e = .returned (.bool true) ∧ w = w' := by
  obtain ⟨h1, h2, h3⟩ := h
  have h4 : a ≤ 32 - n := by omega
  go_enter Try.func126, Try.ntmps126
  go_wp2
  go_ret
  exact ⟨by simp, rfl⟩
theorem mayBe_no (a n : Int) (w : World) (ha : -9223372036854775808 ≤ a ∧ a ≤ 9223372036854775807) (hn : -9223372036854775808 ≤ n ∧ n ≤ 9223372036854775807) (h : ¬ (0 ≤ a ∧ 0 ≤ n ∧ a + n ≤ 32)) :
    Calls Try.prog 126 #[.int .i64 a, .int .i64 n] w fun e w' => e = .returned (.bool false) ∧ w = w' := by
  obtain ⟨ha1, ha2⟩ := ha
  obtain ⟨hn1, hn2⟩ := hn
  go_enter Try.func126, Try.ntmps126
  go_wp2
  all_goals go_ret
  all_goals refine ⟨?_, rfl⟩
  all_goals first | rfl | (simp; omega)
theorem May_yes (a n : Int) (w : World) (h : 0 ≤ a ∧ 0 ≤ n ∧ a + n ≤ 32) :
    Calls Try.prog 129 #[.int .i64 a, .int .i64 n] w fun e w' => e = .returned (.bool true) ∧ w = w' := by
  obtain ⟨h1, h2, h3⟩ := h
  have h4 : a ≤ 32 := by omega
  have h5 : n ≤ 32 - a := by omega
  go_enter Try.func129, Try.ntmps129
  go_wp2
  go_ret
  exact ⟨by simp, rfl⟩
theorem May_no (a n : Int) (w : World) (ha : -9223372036854775808 ≤ a ∧ a ≤ 9223372036854775807) (hn : -9223372036854775808 ≤ n ∧ n ≤ 9223372036854775807) (h : ¬ (0 ≤ a ∧ 0 ≤ n ∧ a + n ≤ 32)) :
    Calls Try.prog 129 #[.int .i64 a, .int .i64 n] w fun e w' => e = .returned (.bool false) ∧ w = w' := by
  obtain ⟨ha1, ha2⟩ := ha
  obtain ⟨hn1, hn2⟩ := hn
  go_enter Try.func129, Try.ntmps129
  go_wp2
  all_goals go_ret
  all_goals refine ⟨?_, rfl⟩
  all_goals first | rfl | (simp; omega)
theorem lowest_any (n : Int) (w : World) (h : 0 ≤ n ∧ n ≤ 32) :
    Calls Try.prog 127 #[.int .i64 n] w fun e w' => e = .returned (.int .u32 ((2 ^ n.toNat - 1 : Nat) : Int)) ∧ w = w' := by
  obtain ⟨h1, h2⟩ := h
  have H := Lib.hid (low_eq n.toNat (by omega))
  go_enter Try.func127, Try.ntmps127
  go_wp2
  go_ret
  exact ⟨ret_int H.out, rfl⟩
theorem refBit_any (x : Nat) (i : Int) (w : World) (hx : x < 4294967296) (h : 0 ≤ i ∧ i < 32) :
    Calls Try.prog 130 #[.int .u32 (x : Int), .int .i64 i] w fun e w' => e = .returned (.int .u32 ((x / 2 ^ i.toNat % 2 : Nat) : Int)) ∧ w = w' := by
  obtain ⟨h1, h2⟩ := h
  go_enter Try.func130, Try.ntmps130
  go_wp2
  go_ret
  exact ⟨ret_int (and_bit x i.toNat hx), rfl⟩
theorem wordBits_yes (x : Nat) (a n : Int) (w : World) (hx : x < 4294967296) (h : 0 ≤ a ∧ 0 ≤ n ∧ a + n ≤ 32) :
    Calls Try.prog 122 #[.int .u32 (x : Int), .int .i64 a, .int .i64 n] w fun e w' => e = .returned (.int .u32 ((cutN x a.toNat n.toNat : Nat) : Int)) ∧ ∃ k, w' = w.drewN k := by
  have H := Lib.hid h
  obtain ⟨h1, h2, h3⟩ := h
  have hl : 0 ≤ n ∧ n ≤ 32 := by omega
  have H2 := Lib.hid (and_cut x a.toNat n.toNat hx (by omega))
  go_enter Try.func122, Try.ntmps122
  go_wp2_with (first | (go_at_call 126; refine (mayBe_yes _ _ _ H.out).mono ?_; rintro e w' ⟨rfl, rfl⟩))
  go_quiet ((go_at_call 127; exact quiet_left (lowest_any _ _ (by omega))))
  go_wp2
  go_ret
  exact ⟨ret_int H2.out, _, rfl⟩
theorem wordBits_no (x : Nat) (a n : Int) (w : World) (ha : -9223372036854775808 ≤ a ∧ a ≤ 9223372036854775807) (hn : -9223372036854775808 ≤ n ∧ n ≤ 9223372036854775807) (h : ¬ (0 ≤ a ∧ 0 ≤ n ∧ a + n ≤ 32)) :
    Calls Try.prog 122 #[.int .u32 (x : Int), .int .i64 a, .int .i64 n] w fun e w' => e = .returned (.int .u32 0) ∧ w' = w := by
  have C := Lib.hid (mayBe_no a n w ha hn h)
  clear ha hn h
  go_enter Try.func122, Try.ntmps122
  go_wp2_with (first | (go_at_call 126; refine C.out.mono ?_; rintro e w' ⟨rfl, rfl⟩))
  go_ret
  exact ⟨rfl, rfl⟩
theorem isWidth_yes (n : Int) (w : World) (h : 1 ≤ n ∧ n ≤ 32) :
    Calls Try.prog 147 #[.int .i64 n] w fun e w' => e = .returned (.bool true) ∧ w = w' := by
  obtain ⟨h1, h2⟩ := h
  go_enter Try.func147, Try.ntmps147
  go_wp2
  go_ret
  exact ⟨by simp, rfl⟩
theorem isWidth_no (n : Int) (w : World) (hn : -9223372036854775808 ≤ n ∧ n ≤ 9223372036854775807) (h : ¬ (1 ≤ n ∧ n ≤ 32)) :
    Calls Try.prog 147 #[.int .i64 n] w fun e w' => e = .returned (.bool false) ∧ w = w' := by
  obtain ⟨hn1, hn2⟩ := hn
  go_enter Try.func147, Try.ntmps147
  go_wp2
  all_goals go_ret
  all_goals refine ⟨?_, rfl⟩
  all_goals first | rfl | (simp; omega)
theorem wordWith_yes (x : Nat) (a n : Int) (v : Nat) (w : World) (hx : x < 4294967296) (h : 0 ≤ a ∧ 0 ≤ n ∧ a + n ≤ 32) :
    Calls Try.prog 96 #[.int .u32 (x : Int), .int .i64 a, .int .i64 n, .int .u32 (v : Int)] w fun e w' => e = .returned (.int .u32 ((putN x a.toNat n.toNat v : Nat) : Int)) ∧ w' = w := by
  have H := Lib.hid h
  obtain ⟨h1, h2, h3⟩ := h
  have hl : 0 ≤ n ∧ n ≤ 32 := by omega
  have H2 := Lib.hid (put_eq x a.toNat n.toNat v hx)
  go_enter Try.func96, Try.ntmps96
  go_wp2_with (first | (go_at_call 126; refine (mayBe_yes _ _ _ H.out).mono ?_; rintro e w' ⟨rfl, rfl⟩) | (go_at_call 127; refine (lowest_any _ _ ⟨by omega, by omega⟩).mono ?_; rintro e w' ⟨rfl, rfl⟩))
  go_ret
  exact ⟨ret_int H2.out, rfl⟩
theorem wordWith_no (x : Nat) (a n : Int) (v : Nat) (w : World) (ha : -9223372036854775808 ≤ a ∧ a ≤ 9223372036854775807) (hn : -9223372036854775808 ≤ n ∧ n ≤ 9223372036854775807) (h : ¬ (0 ≤ a ∧ 0 ≤ n ∧ a + n ≤ 32)) :
    Calls Try.prog 96 #[.int .u32 (x : Int), .int .i64 a, .int .i64 n, .int .u32 (v : Int)] w fun e w' => e = .returned (.int .u32 (x : Int)) ∧ w' = w := by
  have C := Lib.hid (mayBe_no a n w ha hn h)
  clear ha hn h
  go_enter Try.func96, Try.ntmps96
  go_wp2_with (first | (go_at_call 126; refine C.out.mono ?_; rintro e w' ⟨rfl, rfl⟩))
  go_ret
  exact ⟨rfl, rfl⟩
theorem wordSigned_yes (x : Nat) (n : Int) (w : World) (hx : x < 4294967296) (h : 1 ≤ n ∧ n ≤ 32) :
    Calls Try.prog 123 #[.int .u32 (x : Int), .int .i64 n] w fun e w' => e = .returned (.int .i32 (sgnI x n.toNat)) ∧ w' = w := by
  have H := Lib.hid h
  have H2 := Lib.hid (sgn_eq x n hx h)
  obtain ⟨h1, h2⟩ := h
  go_enter Try.func123, Try.ntmps123
  go_wp2_with (first | (go_at_call 147; refine (isWidth_yes _ _ H.out).mono ?_; rintro e w' ⟨rfl, rfl⟩))
  go_ret
  exact ⟨ret_int H2.out, rfl⟩
theorem wordSigned_no (x : Nat) (n : Int) (w : World) (hn : -9223372036854775808 ≤ n ∧ n ≤ 9223372036854775807) (h : ¬ (1 ≤ n ∧ n ≤ 32)) :
    Calls Try.prog 123 #[.int .u32 (x : Int), .int .i64 n] w fun e w' => e = .returned (.int .i32 0) ∧ w' = w := by
  have C := Lib.hid (isWidth_no n w hn h)
  clear hn h
  go_enter Try.func123, Try.ntmps123
  go_wp2_with (first | (go_at_call 147; refine C.out.mono ?_; rintro e w' ⟨rfl, rfl⟩))
  go_ret
  exact ⟨rfl, rfl⟩
theorem wordFits_yes (x : Int) (n : Int) (w : World) (hx : -9223372036854775808 ≤ x ∧ x ≤ 9223372036854775807) (h : 1 ≤ n ∧ n ≤ 32) :
    Calls Try.prog 149 #[.int .i64 x, .int .i64 n] w fun e w' => e = .returned (.bool (fitB x n.toNat)) ∧ w' = w := by
  have H := Lib.hid h
  obtain ⟨h1, h2⟩ := h
  obtain ⟨hx1, hx2⟩ := hx
  obtain ⟨hp1, hp2⟩ := pow_bd1 (n.toNat - 1) (by omega)
  go_enter Try.func149, Try.ntmps149
  go_wp2_with (first | (go_at_call 147; refine (isWidth_yes _ _ H.out).mono ?_; rintro e w' ⟨rfl, rfl⟩))
  all_goals go_ret
  all_goals refine ⟨?_, rfl⟩
  all_goals refine congrArg (fun b => Ending.returned (.bool b)) ?_
  all_goals unfold fitB
  all_goals rw [Bool.eq_iff_iff]
  all_goals simp
  all_goals omega
theorem wordFits_no (x : Int) (n : Int) (w : World) (hn : -9223372036854775808 ≤ n ∧ n ≤ 9223372036854775807) (h : ¬ (1 ≤ n ∧ n ≤ 32)) :
    Calls Try.prog 149 #[.int .i64 x, .int .i64 n] w fun e w' => e = .returned (.bool false) ∧ w' = w := by
  have C := Lib.hid (isWidth_no n w hn h)
  clear hn h
  go_enter Try.func149, Try.ntmps149
  go_wp2_with (first | (go_at_call 147; refine C.out.mono ?_; rintro e w' ⟨rfl, rfl⟩))
  go_ret
  exact ⟨rfl, rfl⟩
theorem wordCut_any (x : Int) (n : Int) (w : World) (hx : -2147483648 ≤ x ∧ x ≤ 2147483647) (h : -9223372036854775808 ≤ n ∧ n ≤ 9223372036854775807) :
    Calls Try.prog 98 #[.int .i32 x, .int .i64 n] w fun e w' => e = .returned (.int .u32 (cutI x n)) ∧ ∃ k, w' = w.drewN k := by
  obtain ⟨h1, h2⟩ := h
  obtain ⟨hx1, hx2⟩ := hx
  have H0 := Lib.hid (cast_low x 0 (by omega))
  have H32 := Lib.hid (cast_low x 32 (by omega))
  have Hn : Hid (n ≤ 32 → bits .and .u32 (x % 4294967296) ((2 ^ n.toNat - 1 : Nat) : Int) = x % 2 ^ n.toNat) := fun h => cast_low x n.toNat (by omega)
  go_enter Try.func98, Try.ntmps98
  go_wp2_with (first | (go_at_call 127; refine (lowest_any _ _ ⟨by omega, by omega⟩).mono ?_; rintro e w' ⟨rfl, rfl⟩))
  all_goals go_ret
  all_goals refine ⟨ret_int ?_, 0, rfl⟩
  · rename_i h3
    rw [if_neg (by omega)] at h3
    exact H32.out.trans (by simp [cutI]; omega)
  · rename_i h3
    exact H0.out.trans (by simp [cutI]; omega)
  · rename_i h3
    rw [if_neg (by omega)] at h3
    refine (Hn.out h3).trans ?_
    unfold cutI
    by_cases h5 : n < 1
    · obtain rfl : n = 0 := by omega
      simp
    · rw [if_neg h5, if_neg (by omega)]
theorem refBits_yes (x : Nat) (a n : Int) (w : World) (hx : x < 4294967296) (h : 0 ≤ a ∧ 0 ≤ n ∧ a + n ≤ 32) :
    Calls Try.prog 99 #[.int .u32 (x : Int), .int .i64 a, .int .i64 n] w fun e w' => e = .returned (.int .u32 ((cutN x a.toNat n.toNat : Nat) : Int)) ∧ w' = w := by
  have H := Lib.hid h
  obtain ⟨h1, h2, h3⟩ := h
  go_enter Try.func99, Try.ntmps99
  go_wp2_with (first | (go_at_call 129; refine (May_yes _ _ _ H.out).mono ?_; rintro e w' ⟨rfl, rfl⟩))
  go_loop [7, 8] (fun y i => ∃ k : Nat, (k : Int) ≤ n ∧ i = .int .i64 k ∧ y = .int .u32 ((cutN x a.toNat k : Nat) : Int)) (fun _ i => n.toNat - (intOf i).toNat)
  case atStart => exact ⟨0, h2, rfl, by rw [cutN_zero]; rfl⟩
  case round =>
    obtain ⟨k, hk, rfl, rfl⟩ := hrel
    by_cases hlt : (k : Int) < n
    · go_wp2_with (first | (go_at_call 130; refine (refBit_any _ _ _ hx ⟨by omega, by omega⟩).mono ?_; rintro e w' ⟨rfl, rfl⟩))
      have S := cut_step x a k h1 (by omega)
      go_roundw
      case rel => exact ⟨k + 1, by omega, by go_num, by rw [S]⟩
      case measure => simp [intOf]; omega
    · go_wp2
      go_ret
      have e : n.toNat = k := by omega
      exact ⟨by rw [e]; rfl, rfl⟩
theorem refBits_int (x : Int) (a n : Int) (w : World) (hx : 0 ≤ x ∧ x < 4294967296) (h : 0 ≤ a ∧ 0 ≤ n ∧ a + n ≤ 32) :
    Calls Try.prog 99 #[.int .u32 x, .int .i64 a, .int .i64 n] w fun e w' => e = .returned (.int .u32 ((cutN x.toNat a.toNat n.toNat : Nat) : Int)) ∧ w' = w := by
  obtain ⟨y, rfl⟩ := Int.eq_ofNat_of_zero_le hx.1
  simpa using refBits_yes y a n w (by omega) h
theorem refBits_no (x : Nat) (a n : Int) (w : World) (ha : -9223372036854775808 ≤ a ∧ a ≤ 9223372036854775807) (hn : -9223372036854775808 ≤ n ∧ n ≤ 9223372036854775807) (h : ¬ (0 ≤ a ∧ 0 ≤ n ∧ a + n ≤ 32)) :
    Calls Try.prog 99 #[.int .u32 (x : Int), .int .i64 a, .int .i64 n] w fun e w' => e = .returned (.int .u32 0) ∧ w' = w := by
  have C := Lib.hid (May_no a n w ha hn h)
  clear ha hn h
  go_enter Try.func99, Try.ntmps99
  go_wp2_with (first | (go_at_call 129; refine C.out.mono ?_; rintro e w' ⟨rfl, rfl⟩))
  go_ret
  exact ⟨rfl, rfl⟩
theorem refWith_yes (x : Nat) (a n : Int) (v : Nat) (w : World) (hx : x < 4294967296) (hv : v < 4294967296) (h : 0 ≤ a ∧ 0 ≤ n ∧ a + n ≤ 32) :
    Calls Try.prog 103 #[.int .u32 (x : Int), .int .i64 a, .int .i64 n, .int .u32 (v : Int)] w fun e w' => e = .returned (.int .u32 ((putN x a.toNat n.toNat v : Nat) : Int)) ∧ w' = w := by
  have H := Lib.hid h
  obtain ⟨h1, h2, h3⟩ := h
  go_enter Try.func103, Try.ntmps103
  go_wp2_with (first | (go_at_call 129; refine (May_yes _ _ _ H.out).mono ?_; rintro e w' ⟨rfl, rfl⟩))
  go_loop [9, 10] (fun y i => ∃ k : Nat, k ≤ 32 ∧ i = .int .i64 k ∧ y = .int .u32 ((putN x a.toNat n.toNat v % 2 ^ k : Nat) : Int)) (fun _ i => 32 - (intOf i).toNat)
  case atStart => exact ⟨0, by omega, rfl, by simp [Nat.mod_one]⟩
  case round =>
    obtain ⟨k, hk, rfl, rfl⟩ := hrel
    by_cases hlt : k < 32
    · have hlt' : (k : Int) < 32 := by omega
      by_cases hi : a ≤ k ∧ k < a + n
      · obtain ⟨hi1, hi2⟩ := hi
        have S := Lib.hid (put_step_in x a n v k hx H.out ⟨hi1, hi2⟩)
        go_wp2_with (first | (go_at_call 130; refine (refBit_any _ _ _ hv ⟨by omega, by omega⟩).mono ?_; rintro e w' ⟨rfl, rfl⟩))
        go_roundw
        case rel => exact ⟨k + 1, by omega, by go_num, congrArg (Value.int .u32) S.out⟩
        case measure => simp [intOf]; omega
      · have S := Lib.hid (put_step_out x a n v k hx H.out hlt hi)
        go_wp2_with (first | (go_at_call 130; refine (refBit_any _ _ _ hx ⟨by omega, by omega⟩).mono ?_; rintro e w' ⟨rfl, rfl⟩))
        all_goals first | (exfalso; apply hi; constructor <;> assumption) | skip
        all_goals
          go_roundw
          case rel => exact ⟨k + 1, by omega, by go_num, congrArg (Value.int .u32) S.out⟩
          case measure => simp [intOf]; omega
    · go_wp2
      go_ret
      obtain rfl : k = 32 := by omega
      refine ⟨ret_int ?_, rfl⟩
      have := putN_lt x a.toNat n.toNat v hx
      exact Int.emod_eq_of_lt (by omega) (by omega)
theorem refWith_no (x : Nat) (a n : Int) (v : Nat) (w : World) (ha : -9223372036854775808 ≤ a ∧ a ≤ 9223372036854775807) (hn : -9223372036854775808 ≤ n ∧ n ≤ 9223372036854775807) (h : ¬ (0 ≤ a ∧ 0 ≤ n ∧ a + n ≤ 32)) :
    Calls Try.prog 103 #[.int .u32 (x : Int), .int .i64 a, .int .i64 n, .int .u32 (v : Int)] w fun e w' => e = .returned (.int .u32 (x : Int)) ∧ w' = w := by
  have C := Lib.hid (May_no a n w ha hn h)
  clear ha hn h
  go_enter Try.func103, Try.ntmps103
  go_wp2_with (first | (go_at_call 129; refine C.out.mono ?_; rintro e w' ⟨rfl, rfl⟩))
  go_ret
  exact ⟨rfl, rfl⟩
theorem refSigned_yes (x : Nat) (n : Int) (w : World) (hx : x < 4294967296) (h : 1 ≤ n ∧ n ≤ 32) :
    Calls Try.prog 101 #[.int .u32 (x : Int), .int .i64 n] w fun e w' => e = .returned (.int .i32 (sgnI x n.toNat)) ∧ w' = w := by
  obtain ⟨h1, h2⟩ := h
  go_enter Try.func101, Try.ntmps101
  go_wp2_with (first | (go_at_call 99; refine (refBits_yes _ _ _ _ hx ⟨by omega, by omega, by omega⟩).mono ?_; rintro e w' ⟨rfl, rfl⟩) | (go_at_call 130; refine (refBit_any _ _ _ hx ⟨by omega, by omega⟩).mono ?_; rintro e w' ⟨rfl, rfl⟩))
  all_goals rename_i hb
  · have S := Lib.hid (sgn_ref1 x n ⟨h1, h2⟩ hb)
    go_ret
    exact ⟨ret_int S.out, rfl⟩
  · have S := Lib.hid (sgn_ref2 x n ⟨h1, h2⟩ hb)
    go_ret
    exact ⟨ret_int S.out, rfl⟩
theorem refSigned_no (x : Nat) (n : Int) (w : World) (hn : -9223372036854775808 ≤ n ∧ n ≤ 9223372036854775807) (h : ¬ (1 ≤ n ∧ n ≤ 32)) :
    Calls Try.prog 101 #[.int .u32 (x : Int), .int .i64 n] w fun e w' => e = .returned (.int .i32 0) ∧ w' = w := by
  obtain ⟨hn1, hn2⟩ := hn
  by_cases h1 : n < 1
  · go_enter Try.func101, Try.ntmps101
    go_wp2
    go_ret
    exact ⟨rfl, rfl⟩
  · have h2 : 32 < n := by omega
    go_enter Try.func101, Try.ntmps101
    go_wp2
    go_ret
    exact ⟨rfl, rfl⟩
theorem refFits_yes (x : Int) (n : Int) (w : World) (hx : -9223372036854775808 ≤ x ∧ x ≤ 9223372036854775807) (h : 1 ≤ n ∧ n ≤ 32) :
    Calls Try.prog 131 #[.int .i64 x, .int .i64 n] w fun e w' => e = .returned (.bool (fitB x n.toNat)) ∧ w' = w := by
  obtain ⟨h1, h2⟩ := h
  obtain ⟨hx1, hx2⟩ := hx
  obtain ⟨hp1, hp2⟩ := pow_bd1 (n.toNat - 1) (by omega)
  go_enter Try.func131, Try.ntmps131
  go_wp2
  all_goals go_ret
  all_goals refine ⟨?_, rfl⟩
  all_goals refine congrArg (fun b => Ending.returned (.bool b)) ?_
  all_goals unfold fitB
  all_goals rw [Bool.eq_iff_iff]
  all_goals simp
  all_goals omega
theorem refFits_no (x : Int) (n : Int) (w : World) (hn : -9223372036854775808 ≤ n ∧ n ≤ 9223372036854775807) (h : ¬ (1 ≤ n ∧ n ≤ 32)) :
    Calls Try.prog 131 #[.int .i64 x, .int .i64 n] w fun e w' => e = .returned (.bool false) ∧ w' = w := by
  obtain ⟨hn1, hn2⟩ := hn
  by_cases h1 : n < 1
  · go_enter Try.func131, Try.ntmps131
    go_wp2
    go_ret
    exact ⟨rfl, rfl⟩
  · have h2 : 32 < n := by omega
    go_enter Try.func131, Try.ntmps131
    go_wp2
    go_ret
    exact ⟨rfl, rfl⟩
theorem refCut_any (x : Int) (n : Int) (w : World) (hx : -2147483648 ≤ x ∧ x ≤ 2147483647) (h : -9223372036854775808 ≤ n ∧ n ≤ 9223372036854775807) :
    Calls Try.prog 104 #[.int .i32 x, .int .i64 n] w fun e w' => e = .returned (.int .u32 (cutI x n)) ∧ w' = w := by
  obtain ⟨h1, h2⟩ := h
  obtain ⟨hx1, hx2⟩ := hx
  by_cases h1 : n < 1
  · go_enter Try.func104, Try.ntmps104
    go_wp2
    go_ret
    exact ⟨ret_int (by simp [cutI, h1]), rfl⟩
  · go_enter Try.func104, Try.ntmps104
    have S1 : Hid (n ≤ 32 → ((cutN (x % 4294967296).toNat 0 n.toNat : Nat) : Int) = cutI x n) := fun h => cut_ref x n ⟨by omega, h⟩
    have S2 : Hid (32 < n → ((cutN (x % 4294967296).toNat 0 32 : Nat) : Int) = cutI x n) := fun h => cut_ref32 x n h
    go_wp2_with (first | (go_at_call 99; refine (refBits_int _ _ _ _ ⟨by omega, by omega⟩ ⟨by omega, by omega, by omega⟩).mono ?_; rintro e w' ⟨rfl, rfl⟩))
    · go_ret
      exact ⟨ret_int (S2.out (by assumption)), rfl⟩
    · go_ret
      exact ⟨ret_int (S1.out (by assumption)), rfl⟩
end Go.Proofs.Ytajidaicojekdaa.WF

/-
  Plain facts on instructions and their words, as numbers. Nothing of the program is used.
-/
namespace Go.Proofs.Ytajidaicojekdaa.IM
open WM

/-- which parts an operation uses -/
def uD (o : Int) : Bool := decide ((2 ≤ o ∧ o ≤ 13) ∨ o = 15 ∨ o = 16)
def uA (o : Int) : Bool := decide ((3 ≤ o ∧ o ≤ 13) ∨ o = 15 ∨ o = 16 ∨ o = 19)
def uB (o : Int) : Bool := decide (3 ≤ o ∧ o ≤ 10)
def uI (o : Int) : Bool := decide (o = 2 ∨ (11 ≤ o ∧ o ≤ 17) ∨ o = 21)
/-- a part that is not there, or not used and not 0 -/
def badB (o d a b m : Int) : Bool := decide (21 < o ∨ 7 < d ∨ 7 < a ∨ 7 < b ∨ ¬ ((2 ≤ o ∧ o ≤ 13) ∨ o = 15 ∨ o = 16) ∧ d ≠ 0 ∨ ¬ ((3 ≤ o ∧ o ≤ 13) ∨ o = 15 ∨ o = 16 ∨ o = 19) ∧ a ≠ 0 ∨ ¬ (3 ≤ o ∧ o ≤ 10) ∧ b ≠ 0 ∨ ¬ (o = 2 ∨ (11 ≤ o ∧ o ≤ 17) ∨ o = 21) ∧ m ≠ 0)
def badP (o d a b m : Int) : Bool := decide (7 < d ∨ 7 < a ∨ 7 < b ∨ ¬ ((2 ≤ o ∧ o ≤ 13) ∨ o = 15 ∨ o = 16) ∧ d ≠ 0 ∨ ¬ ((3 ≤ o ∧ o ≤ 13) ∨ o = 15 ∨ o = 16 ∨ o = 19) ∧ a ≠ 0 ∨ ¬ (3 ≤ o ∧ o ≤ 10) ∧ b ≠ 0 ∨ ¬ (o = 2 ∨ (11 ≤ o ∧ o ≤ 17) ∨ o = 21) ∧ m ≠ 0)
theorem badP_eq (o d a b m : Int) : badB o d a b m = (decide (21 < o) || badP o d a b m) := by
  unfold badB badP
  rw [Bool.eq_iff_iff]
  simp
/-- a number that its place does not hold -/
def farB (o m : Int) : Bool := decide (m < -1048576 ∨ 1048575 < m ∨ (o = 17 ∨ o = 21) ∧ m < 0 ∨ o = 21 ∧ 63 < m)
def chk (o d a b m : Int) : Int := if badB o d a b m then 10 else if farB o m then 11 else 0
/-- the word of an instruction that may be -/
def low (o b m : Int) : Int := if 3 ≤ o ∧ o ≤ 10 then b else m % 2097152
def enc (o d a b m : Int) : Int := o * 134217728 + d * 16777216 + a * 2097152 + low o b m
def encR (o d a b m : Int) : Int := if chk o d a b m = 0 then enc o d a b m else 0
/-- may it be? -/
def InsOk (o d a b m : Int) : Prop := 0 ≤ o ∧ o ≤ 21 ∧ 0 ≤ d ∧ d ≤ 7 ∧ 0 ≤ a ∧ a ≤ 7 ∧ 0 ≤ b ∧ b ≤ 7 ∧ -1048576 ≤ m ∧ m ≤ 1048575 ∧ (((2 ≤ o ∧ o ≤ 13) ∨ o = 15 ∨ o = 16) ∨ d = 0) ∧ (((3 ≤ o ∧ o ≤ 13) ∨ o = 15 ∨ o = 16 ∨ o = 19) ∨ a = 0) ∧
  ((3 ≤ o ∧ o ≤ 10) ∨ b = 0) ∧ ((o = 2 ∨ (11 ≤ o ∧ o ≤ 17) ∨ o = 21) ∨ m = 0) ∧ ((o = 17 ∨ o = 21) → 0 ≤ m) ∧ (o = 21 → m ≤ 63)
theorem chk_good {o d a b m : Int} (ho : 0 ≤ o) (hd : 0 ≤ d) (ha : 0 ≤ a) (hb : 0 ≤ b) : chk o d a b m = 0 ↔ InsOk o d a b m := by
  unfold chk badB farB InsOk
  simp only [decide_eq_true_eq]
  split
  · omega
  · split <;> omega
theorem chk_cases (o d a b m : Int) : chk o d a b m = 0 ∨ chk o d a b m = 10 ∨ chk o d a b m = 11 := by
  unfold chk
  split
  · simp
  · split <;> simp
/-- the parts of a word -/
def pO (w : Int) : Int := w / 134217728
def pD (w : Int) : Int := w / 16777216 % 8
def pA (w : Int) : Int := w / 2097152 % 8
def pB (w : Int) : Int := if 3 ≤ pO w ∧ pO w ≤ 10 then w % 8 else 0
def pM (w : Int) : Int := if 3 ≤ pO w ∧ pO w ≤ 10 then 0 else if w % 2097152 < 1048576 then w % 2097152 else w % 2097152 - 2097152
/-- is there an instruction with this word? -/
def hasB (w : Int) : Bool := decide (chk (pO w) (pD w) (pA w) (pB w) (pM w) = 0 ∧ enc (pO w) (pD w) (pA w) (pB w) (pM w) = w)
theorem part_bd {w : Int} (h : 0 ≤ w ∧ w ≤ 4294967295) : (0 ≤ pO w ∧ pO w ≤ 31) ∧ (0 ≤ pD w ∧ pD w ≤ 7) ∧ (0 ≤ pA w ∧ pA w ≤ 7) ∧ (0 ≤ pB w ∧ pB w ≤ 7) ∧ -1048576 ≤ pM w ∧ pM w ≤ 1048575 := by
  unfold pB pM pD pA pO
  refine ⟨by omega, by omega, by omega, by split <;> omega, by split <;> (try split) <;> omega, by split <;> (try split) <;> omega⟩
theorem enc_bd {o d a b m : Int} (h : InsOk o d a b m) : 0 ≤ enc o d a b m ∧ enc o d a b m ≤ 4294967295 := by
  unfold InsOk at h
  unfold enc low
  split <;> omega
/-- what is laid is read -/
theorem parts_enc {o d a b m : Int} (h : InsOk o d a b m) : pO (enc o d a b m) = o ∧ pD (enc o d a b m) = d ∧ pA (enc o d a b m) = a ∧ pB (enc o d a b m) = b ∧ pM (enc o d a b m) = m := by
  have e1 : 0 ≤ low o b m ∧ low o b m < 2097152 := by
    unfold InsOk at h
    unfold low
    split <;> omega
  have hO : pO (enc o d a b m) = o := by
    unfold InsOk at h
    unfold pO enc
    omega
  refine ⟨hO, ?_, ?_, ?_, ?_⟩
  · unfold InsOk at h
    unfold pD enc
    omega
  · unfold InsOk at h
    unfold pA enc
    omega
  · unfold pB
    rw [hO]
    unfold InsOk at h
    unfold enc low
    split <;> omega
  · unfold pM
    rw [hO]
    unfold InsOk at h
    unfold enc low
    split
    · omega
    · split <;> omega
theorem has_enc {o d a b m : Int} (h : InsOk o d a b m) : hasB (enc o d a b m) = true := by
  obtain ⟨e1, e2, e3, e4, e5⟩ := parts_enc h
  unfold hasB
  rw [e1, e2, e3, e4, e5]
  have g := h
  unfold InsOk at g
  simp [(chk_good (by omega) (by omega) (by omega) (by omega)).2 h]
theorem enc_inj {o d a b m o' d' a' b' m' : Int} (h : InsOk o d a b m) (h' : InsOk o' d' a' b' m') (e : enc o d a b m = enc o' d' a' b' m') : o = o' ∧ d = d' ∧ a = a' ∧ b = b' ∧ m = m' := by
  obtain ⟨e1, e2, e3, e4, e5⟩ := parts_enc h
  obtain ⟨f1, f2, f3, f4, f5⟩ := parts_enc h'
  rw [e] at e1 e2 e3 e4 e5
  exact ⟨e1.symm.trans f1, e2.symm.trans f2, e3.symm.trans f3, e4.symm.trans f4, e5.symm.trans f5⟩
theorem has_good {w : Int} (hw : 0 ≤ w ∧ w ≤ 4294967295) (h : hasB w = true) : InsOk (pO w) (pD w) (pA w) (pB w) (pM w) ∧ enc (pO w) (pD w) (pA w) (pB w) (pM w) = w := by
  unfold hasB at h
  rw [decide_eq_true_eq] at h
  obtain ⟨b1, b2, b3, b4, _⟩ := part_bd hw
  exact ⟨(chk_good b1.1 b2.1 b3.1 b4.1).1 h.1, h.2⟩

/-! the parts as the calls of layer 1 tell them -/
/-- a part that is put where there is nothing from there on down -/
theorem put_add (q a n v : Nat) (hq : 2 ^ (a + n) * q < 4294967296) (x : Nat) (hx : x < 2 ^ a) (h : a + n ≤ 32) (hv : v < 2 ^ n) : putN (2 ^ (a + n) * q + x) a n v = 2 ^ (a + n) * q + 2 ^ a * v + x := by
  have hlt : 2 ^ (a + n) * q + x < 4294967296 := by
    have hd : 4294967296 = 2 ^ (a + n) * 2 ^ (32 - (a + n)) := by rw [← Nat.pow_add, show a + n + (32 - (a + n)) = 32 by omega]
    rw [hd] at hq ⊢
    have hq' : q < 2 ^ (32 - (a + n)) := Nat.lt_of_mul_lt_mul_left hq
    have h1 : 2 ^ a ≤ 2 ^ (a + n) := Nat.pow_le_pow_right (by omega) (by omega)
    calc 2 ^ (a + n) * q + x < 2 ^ (a + n) * q + 2 ^ (a + n) := by omega
      _ = 2 ^ (a + n) * (q + 1) := by rw [Nat.mul_add, Nat.mul_one]
      _ ≤ _ := Nat.mul_le_mul_left _ hq'
  apply Nat.eq_of_testBit_eq
  intro i
  have hx2 : x < 2 ^ (a + n) := Nat.lt_of_lt_of_le hx (Nat.pow_le_pow_right (by omega) (by omega))
  have hy : 2 ^ a * v + x < 2 ^ (a + n) := by
    rw [Nat.pow_add]
    calc 2 ^ a * v + x < 2 ^ a * v + 2 ^ a := by omega
      _ = 2 ^ a * (v + 1) := by rw [Nat.mul_add, Nat.mul_one]
      _ ≤ _ := Nat.mul_le_mul_left _ hv
  rw [putN_testBit _ _ _ _ _ hlt h, Nat.testBit_two_pow_mul_add _ hx2, show 2 ^ (a + n) * q + 2 ^ a * v + x = 2 ^ (a + n) * q + (2 ^ a * v + x) by omega, Nat.testBit_two_pow_mul_add _ hy, Nat.testBit_two_pow_mul_add _ hx]
  by_cases h1 : i < a
  · rw [if_neg (by omega), if_pos (by omega), if_pos (by omega), if_pos h1]
  · by_cases h2 : i < a + n
    · rw [if_pos (by omega), if_pos h2, if_neg h1]
    · rw [if_neg (by omega), if_neg h2, if_neg h2]
theorem put1 (v : Nat) (hv : v < 32) : putN 0 27 5 v = 134217728 * v := by
  have := put_add 0 27 5 v (by simp) 0 (by simp) (by omega) (by omega)
  simpa using this
theorem put2 (q v : Nat) (hq : q < 32) (hv : v < 8) : putN (134217728 * q) 24 3 v = 134217728 * q + 16777216 * v := by
  have := put_add q 24 3 v (by simp; omega) 0 (by simp) (by omega) (by omega)
  simpa using this
theorem put3 (q v : Nat) (hq : q < 256) (hv : v < 8) : putN (16777216 * q) 21 3 v = 16777216 * q + 2097152 * v := by
  have := put_add q 21 3 v (by simp; omega) 0 (by simp) (by omega) (by omega)
  simpa using this
theorem put4 (q v : Nat) (hq : q < 2048) (hv : v < 2097152) : putN (2097152 * q) 0 21 v = 2097152 * q + v := by
  have := put_add q 0 21 v (by simp; omega) 0 (by simp) (by omega) (by omega)
  simpa using this
theorem put5 (q v : Nat) (hq : q < 2048) (hv : v < 8) : putN (2097152 * q) 0 3 v = 2097152 * q + v := by
  have := put_add (262144 * q) 0 3 v (by simp; omega) 0 (by simp) (by omega) (by omega)
  rw [show 2097152 * q = 8 * (262144 * q) by omega]
  simpa using this
theorem head_eq (o d a : Nat) (ho : o < 32) (hd : d < 8) (ha : a < 8) : putN (putN (putN 0 27 5 o) 24 3 d) 21 3 a = 2097152 * (64 * o + 8 * d + a) := by
  rw [put1 o ho, put2 o d ho hd, show 134217728 * o + 16777216 * d = 16777216 * (8 * o + d) by omega, put3 _ a (by omega) ha]
  omega
theorem cutI_21 (m : Int) : cutI m 21 = m % 2097152 := by simp [cutI]
/-- the program's word with B, the reference's, and the word with a number -/
theorem enc_b {o d a b m : Int} (h : InsOk o d a b m) (hB : 3 ≤ o ∧ o ≤ 10) :
    ((putN (putN (putN (putN 0 27 5 o.toNat) 24 3 d.toNat) 21 3 a.toNat) 0 3 b.toNat : Nat) : Int) = enc o d a b m ∧ ((putN (putN (putN (putN 0 27 5 o.toNat) 24 3 d.toNat) 21 3 a.toNat) 0 21 b.toNat : Nat) : Int) = enc o d a b m := by
  unfold InsOk at h
  rw [head_eq _ _ _ (by omega) (by omega) (by omega), put5 _ _ (by omega) (by omega), put4 _ _ (by omega) (by omega)]
  unfold enc low
  rw [if_pos hB]
  omega
theorem enc_m {o d a b m : Int} (h : InsOk o d a b m) (hB : ¬ (3 ≤ o ∧ o ≤ 10)) :
    ((putN (putN (putN (putN 0 27 5 o.toNat) 24 3 d.toNat) 21 3 a.toNat) 0 21 (cutI m 21).toNat : Nat) : Int) = enc o d a b m := by
  unfold InsOk at h
  rw [cutI_21, head_eq _ _ _ (by omega) (by omega) (by omega), put4 _ _ (by omega) (by omega)]
  unfold enc low
  rw [if_neg hB]
  omega
theorem cut_O (w : Nat) (h : w < 4294967296) : ((cutN w 27 5 : Nat) : Int) = pO w := by unfold cutN pO; omega
theorem cut_D (w : Nat) : ((cutN w 24 3 : Nat) : Int) = pD w := by unfold cutN pD; omega
theorem cut_A (w : Nat) : ((cutN w 21 3 : Nat) : Int) = pA w := by unfold cutN pA; omega
theorem cut_B (w : Nat) (hB : 3 ≤ pO w ∧ pO w ≤ 10) : ((cutN w 0 3 : Nat) : Int) = pB w := by unfold pB; rw [if_pos hB]; unfold cutN; omega
theorem sgn_M (w : Nat) (hB : ¬ (3 ≤ pO w ∧ pO w ≤ 10)) : sgnI w 21 = pM w ∧ sgnI (cutN w 0 21) 21 = pM w := by
  unfold pM
  rw [if_neg hB]
  unfold sgnI cutN
  simp
  omega
end Go.Proofs.Ytajidaicojekdaa.IM

/-
  What the small functions of package isa tell, call by call. Nothing here is a statement of the seed.
-/
namespace Go.Proofs.Ytajidaicojekdaa.IF
open Go.RowKit WM IM WF

/-- a call tells a value, and nothing that was there turns -/
def Says (P : Program) (f : FuncId) (args : Array Value) (v : Value) : Prop := ∀ w : World, Calls P f args w fun e w' => e = .returned v ∧ Below w.heap.size w w'
theorem Says.at {P : Program} {f : FuncId} {args : Array Value} {v : Value} (h : Says P f args v) (w : World) : Calls P f args w fun e w' => e = .returned v ∧ Below w.heap.size w w' := h w
/-- the same, told of what was there when the law began -/
theorem inw {P : Program} {f : FuncId} {args : Array Value} {v : Value} (h : Says P f args v) (W0 u : World) (hb : Below W0.heap.size W0 u) :
    Calls P f args u fun e w' => e = .returned v ∧ Below W0.heap.size W0 w' := (h u).mono fun _ _ ⟨he, h2⟩ => ⟨he, hb.trans (h2.mono hb.size)⟩
theorem says_same {P : Program} {f : FuncId} {args : Array Value} {v : Value} (h : ∀ w : World, Calls P f args w fun e w' => e = .returned v ∧ w = w') : Says P f args v :=
  fun w => (h w).mono fun e w' ⟨he, hw⟩ => ⟨he, by subst hw; exact Below.refl _ _⟩
theorem below_drewN {B : Nat} {a w : World} (h : Below B a w) (n : Nat) : Below B a (w.drewN n) := ⟨h.os, h.tape, h.output, h.size, h.block⟩
theorem says_drew {P : Program} {f : FuncId} {args : Array Value} {v : Value} (h : ∀ w : World, Calls P f args w fun e w' => e = .returned v ∧ ∃ n, w' = w.drewN n) : Says P f args v :=
  fun w => (h w).mono fun e w' ⟨he, n, hw⟩ => ⟨he, by subst hw; exact below_drewN (Below.refl _ _) n⟩
theorem bcell {W w1 : World} (hb : Below W.heap.size W w1) : (∀ b o, b < W.heap.size → w1.cell? ⟨b, o, none⟩ = W.cell? ⟨b, o, none⟩) ∧ (∀ b o, b < W.heap.size → w1.frozen? ⟨b, o, none⟩ = W.frozen? ⟨b, o, none⟩) :=
  ⟨fun b o h => hb.cell (p := ⟨b, o, none⟩) h, fun b o h => hb.frozen (p := ⟨b, o, none⟩) h⟩
theorem ret_bool {a b : Bool} (h : a = b) : Ending.returned (.bool a) = .returned (.bool b) := by rw [h]

/-- an instruction as a value -/
abbrev insV (o d a b m : Int) : Value := .agg #[.int .u8 o, .int .u8 d, .int .u8 a, .int .u8 b, .int .i32 m]

theorem uses_any (o : Int) (w : World) (ho : 0 ≤ o ∧ o ≤ 255) :
    Calls Try.prog 128 #[.int .u8 o] w fun e w' => e = .returned (.tuple #[.bool (uD o), .bool (uA o), .bool (uB o), .bool (uI o)]) ∧ w = w' := by
  obtain ⟨h1, h2⟩ := ho
  go_enter Try.func128, Try.ntmps128
  go_wp2
  all_goals refine bodyPost_ret (v := .tuple #[.bool (uD o), .bool (uA o), .bool (uB o), .bool (uI o)]) ?_ rfl ⟨rfl, rfl⟩
  all_goals simp only [beq_iff_eq, beq_eq_false_iff_ne, ne_eq] at *
  all_goals simp [results, Try.results128, go_sem, uD, uA, uB, uI]
  all_goals omega
theorem regMay_any (u : Bool) (r : Int) (w : World) (hr : 0 ≤ r ∧ r ≤ 255) :
    Calls Try.prog 148 #[.bool u, .int .u8 r] w fun e w' => e = .returned (.bool (decide (r = 0 ∨ u = true ∧ r < 8))) ∧ w = w' := by
  obtain ⟨h1, h2⟩ := hr
  cases u
  all_goals
    go_enter Try.func148, Try.ntmps148
    go_wp2
  all_goals go_ret
  all_goals refine ⟨ret_bool ?_, rfl⟩
  all_goals rw [Bool.eq_iff_iff]
  all_goals simp
  all_goals omega
theorem immMay_any (o m : Int) (w : World) (ho : 0 ≤ o ∧ o ≤ 255) (hm : -2147483648 ≤ m ∧ m ≤ 2147483647) :
    Calls Try.prog 125 #[.int .u8 o, .int .i32 m] w fun e w' => e = .returned (.bool (!farB o m)) ∧ w = w' := by
  obtain ⟨h1, h2⟩ := ho
  obtain ⟨h3, h4⟩ := hm
  go_enter Try.func125, Try.ntmps125
  go_wp2_with (first | (go_at_call 149; refine (wordFits_yes _ _ _ ⟨by omega, by omega⟩ ⟨by omega, by omega⟩).mono ?_; rintro e w' ⟨rfl, rfl⟩))
  all_goals go_ret
  all_goals refine ⟨ret_bool ?_, rfl⟩
  all_goals simp only [beq_iff_eq, beq_eq_false_iff_ne, ne_eq] at *
  all_goals unfold farB
  all_goals try unfold fitB
  all_goals rw [Bool.eq_iff_iff]
  all_goals simp
  all_goals omega
theorem usesB_any (o : Int) (w : World) (ho : 0 ≤ o ∧ o ≤ 255) :
    Calls Try.prog 97 #[.int .u8 o] w fun e w' => e = .returned (.bool (uB o)) ∧ w = w' := by
  have C := Lib.hid (fun w => uses_any o w ho)
  go_enter Try.func97, Try.ntmps97
  go_wp2_with (first | (go_at_call 128; refine (C.out _).mono ?_; rintro e w' ⟨rfl, rfl⟩))
  go_ret
  exact ⟨rfl, rfl⟩
/-- bytes and a number with a sign -/
def Fit (o d a b m : Int) : Prop := (0 ≤ o ∧ o ≤ 255) ∧ (0 ≤ d ∧ d ≤ 255) ∧ (0 ≤ a ∧ a ≤ 255) ∧ (0 ≤ b ∧ b ≤ 255) ∧ -2147483648 ≤ m ∧ m ≤ 2147483647
theorem below_new (w : World) (o : Obj) : Below w.heap.size w (w.alloc o) := (Below.refl _ _).alloc (Nat.le_refl _) o
theorem end_alloc {w w' : World} {o : Obj} (h : Below (w.alloc o).heap.size (w.alloc o) w') : Below w.heap.size w w' := ((Below.refl _ _).alloc (Nat.le_refl _) o).trans (h.mono (by simp))
theorem partsMay_any (o d a b m : Int) (h : Fit o d a b m) :
    Says Try.prog 124 #[insV o d a b m] (.bool (!badP o d a b m)) := by
  intro w
  obtain ⟨h1, h2, h3, h4, h5⟩ := h
  have C := Lib.hid (fun w => uses_any o w h1)
  have R1 := Lib.hid (fun w => regMay_any (uD o) d w h2)
  have R2 := Lib.hid (fun w => regMay_any (uA o) a w h3)
  have R3 := Lib.hid (fun w => regMay_any (uB o) b w h4)
  go_enter Try.func124, Try.ntmps124
  go_wp2_with (first | (go_at_call 128; refine (C.out _).mono ?_; rintro e w' ⟨rfl, rfl⟩) | (go_at_call 148; (first | (with_reducible refine (R1.out _).mono ?_) | (with_reducible refine (R2.out _).mono ?_) | (with_reducible refine (R3.out _).mono ?_)); rintro e w' ⟨rfl, rfl⟩))
  all_goals clear C R1 R2 R3
  all_goals go_ret
  all_goals refine ⟨ret_bool ?_, below_new _ _⟩
  all_goals simp only [uD, uA, uB, uI, decide_eq_true_eq] at *
  all_goals unfold badP
  all_goals rw [Bool.eq_iff_iff]
  all_goals simp
  all_goals omega
theorem check_any (o d a b m : Int) (h : Fit o d a b m) :
    Says Try.prog 95 #[insV o d a b m] (.int .i64 (chk o d a b m)) := by
  intro w
  have C1 := Lib.hid (partsMay_any o d a b m h)
  have C2 := Lib.hid (fun w => immMay_any o m w h.1 h.2.2.2.2)
  have E : Hid (chk o d a b m = if (decide (21 < o) || badP o d a b m) = true then 10 else if farB o m = true then 11 else 0) := by show _ = _; rw [← badP_eq]; rfl
  obtain ⟨h1, h2⟩ := h.1
  clear h
  generalize chk o d a b m = K at *
  generalize badP o d a b m = P at *
  generalize farB o m = F at *
  cases P <;> cases F
  all_goals
    go_enter Try.func95, Try.ntmps95
    go_wp2_with (first | (go_at_call 124; refine (C1.out.at _).mono ?_; rintro e w1 ⟨rfl, hb⟩; obtain ⟨hc, hf⟩ := bcell hb) | (go_at_call 125; refine (C2.out _).mono ?_; rintro e w' ⟨rfl, rfl⟩))
  all_goals go_ret
  all_goals refine ⟨ret_int ?_, ?_⟩
  all_goals first | (rw [E.out]; simp; done) | (rw [E.out]; simp; omega) | exact below_new _ _ | exact end_alloc (by assumption)
end Go.Proofs.Ytajidaicojekdaa.IF

/-
  Joined texts: IsaRef, IsaRef2, IsaRef3. Nothing here is a statement of the seed.
-/
/-
  What the functions of the reference for layer 4 tell, call by call. Nothing here is a statement of the seed.
-/
namespace Go.Proofs.Ytajidaicojekdaa.IF
open Go.RowKit WM IM WF

theorem refUses_far (o : Int) (ho : 22 ≤ o ∧ o ≤ 255) :
    Says Try.prog 100 #[.int .u8 o] (.agg #[.bool false, .bool false, .bool false, .bool false]) := by
  intro w
  obtain ⟨h1, h2⟩ := ho
  have t2 : (o == 2) = false := by simp; omega
  have t3 : (o == 3) = false := by simp; omega
  have t4 : (o == 4) = false := by simp; omega
  have t5 : (o == 5) = false := by simp; omega
  have t6 : (o == 6) = false := by simp; omega
  have t7 : (o == 7) = false := by simp; omega
  have t8 : (o == 8) = false := by simp; omega
  have t9 : (o == 9) = false := by simp; omega
  have t10 : (o == 10) = false := by simp; omega
  have t11 : (o == 11) = false := by simp; omega
  have t12 : (o == 12) = false := by simp; omega
  have t13 : (o == 13) = false := by simp; omega
  have t15 : (o == 15) = false := by simp; omega
  have t16 : (o == 16) = false := by simp; omega
  have t14 : (o == 14) = false := by simp; omega
  have t17 : (o == 17) = false := by simp; omega
  have t21 : (o == 21) = false := by simp; omega
  have t19 : (o == 19) = false := by simp; omega
  go_enter Try.func100, Try.ntmps100
  go_wp2
  exact bodyPost_ret (v := .agg #[.bool false, .bool false, .bool false, .bool false]) (by simp [results, Try.results100, go_sem]) rfl ⟨rfl, below_new _ _⟩
set_option maxHeartbeats 1000000 in
theorem refUses_near (o : Int) (ho : 0 ≤ o ∧ o ≤ 21) :
    Says Try.prog 100 #[.int .u8 o] (.agg #[.bool (uD o), .bool (uA o), .bool (uB o), .bool (uI o)]) := by
  intro w
  have hc : o = 0 ∨ o = 1 ∨ o = 2 ∨ o = 3 ∨ o = 4 ∨ o = 5 ∨ o = 6 ∨ o = 7 ∨ o = 8 ∨ o = 9 ∨ o = 10 ∨ o = 11 ∨ o = 12 ∨ o = 13 ∨ o = 14 ∨ o = 15 ∨ o = 16 ∨ o = 17 ∨ o = 18 ∨ o = 19 ∨ o = 20 ∨ o = 21 := by omega
  rcases hc with rfl | rfl | rfl | rfl | rfl | rfl | rfl | rfl | rfl | rfl | rfl | rfl | rfl | rfl | rfl | rfl | rfl | rfl | rfl | rfl | rfl | rfl
  all_goals
    go_enter Try.func100, Try.ntmps100
    go_wp2
    refine bodyPost_ret (v := .agg #[.bool (uD _), .bool (uA _), .bool (uB _), .bool (uI _)]) ?_ rfl ⟨rfl, below_new _ _⟩
    simp [results, Try.results100, go_sem, uD, uA, uB, uI]
theorem refUses_any (o : Int) (ho : 0 ≤ o ∧ o ≤ 255) :
    Says Try.prog 100 #[.int .u8 o] (.agg #[.bool (uD o), .bool (uA o), .bool (uB o), .bool (uI o)]) := by
  by_cases h : o ≤ 21
  · exact refUses_near o ⟨ho.1, h⟩
  · have e1 : uD o = false := by unfold uD; simp; omega
    have e2 : uA o = false := by unfold uA; simp; omega
    have e3 : uB o = false := by unfold uB; simp; omega
    have e4 : uI o = false := by unfold uI; simp; omega
    rw [e1, e2, e3, e4]
    exact refUses_far o ⟨by omega, ho.2⟩
/-- what the reference's Uses tells, in the world of its caller -/
abbrev UsesAt (o : Int) (u0 u1 u2 u3 : Bool) : Prop := Says Try.prog 100 #[.int .u8 o] (.agg #[.bool u0, .bool u1, .bool u2, .bool u3])
theorem refCheck_out (o d a b m : Int) (u0 u1 u2 u3 : Bool) (C : UsesAt o u0 u1 u2 u3) (h : 21 < o ∨ 7 < d ∨ 7 < a ∨ 7 < b) :
    Says Try.prog 102 #[insV o d a b m] (.int .i64 10) := by
  intro w
  have C1 := Lib.hid C
  clear C
  have hh : 21 < o ∨ (o ≤ 21 ∧ 7 < d) ∨ (o ≤ 21 ∧ d ≤ 7 ∧ 7 < a) ∨ (o ≤ 21 ∧ d ≤ 7 ∧ a ≤ 7 ∧ 7 < b) := by omega
  clear h
  rcases hh with h | ⟨h1, h⟩ | ⟨h1, h2, h⟩ | ⟨h1, h2, h3, h⟩
  all_goals
    go_enter Try.func102, Try.ntmps102
    go_wp2_with (first | (go_at_call 100; refine (C1.out.at _).mono ?_; rintro e w1 ⟨rfl, hb⟩; obtain ⟨hc, hf⟩ := bcell hb; have hz : w.heap.size < w1.heap.size := by (have := hb.size; simp at this; omega)))
    go_ret
    exact ⟨rfl, (end_alloc hb).alloc (Nat.le_of_lt hz) _⟩
/-- the parts that are used, one by one, all numbers in their bounds -/
def In7 (o d a b m : Int) : Prop := 0 ≤ o ∧ o ≤ 21 ∧ 0 ≤ d ∧ d ≤ 7 ∧ 0 ≤ a ∧ a ≤ 7 ∧ 0 ≤ b ∧ b ≤ 7 ∧ -2147483648 ≤ m ∧ m ≤ 2147483647
theorem end_two {w w1 : World} {o1 o2 : Obj} (hb : Below (w.alloc o1).heap.size (w.alloc o1) w1) (hz : w.heap.size < w1.heap.size) : Below w.heap.size w (w1.alloc o2) := (end_alloc hb).alloc (Nat.le_of_lt hz) _
end Go.Proofs.Ytajidaicojekdaa.IF

/-
  The reference's Check, by which parts an operation uses. Nothing here is a statement of the seed.
-/
namespace Go.Proofs.Ytajidaicojekdaa.IF
open Go.RowKit WM IM WF

set_option maxHeartbeats 2000000 in
theorem refCheck_none (o d a b m K : Int) (C : UsesAt o false false false false) (h : In7 o d a b m) (ho : (o == 17) = false) (ho' : (o == 21) = false) (hK : K = (if d = 0 ∧ a = 0 ∧ b = 0 ∧ m = 0 then if fitB m 21 = true then 0 else 11 else 10)) :
    Says Try.prog 102 #[insV o d a b m] (.int .i64 K) := by
  intro w
  obtain ⟨h1, h2, h3, h4, h5, h6, h7, h8, h9, h10⟩ := h
  have C1 := Lib.hid C
  have C2 := Lib.hid (fun w => refFits_yes m 21 w (by omega) (by omega))
  clear C
  have HK := Lib.hid hK
  clear hK
  all_goals
    go_enter Try.func102, Try.ntmps102
    go_wp2_with (first | (go_at_call 100; refine (C1.out.at _).mono ?_; rintro e w1 ⟨rfl, hb⟩; obtain ⟨hc, hf⟩ := bcell hb; have hz : w.heap.size < w1.heap.size := by (have := hb.size; simp at this; omega)) | (go_at_call 131; refine (C2.out _).mono ?_; rintro e w2 ⟨rfl, rfl⟩))
  all_goals go_ret
  all_goals refine ⟨ret_int ?_, end_two (by assumption) (by assumption)⟩
  all_goals refine Eq.trans ?_ HK.out.symm
  all_goals clear C1 C2 HK
  all_goals try simp only [bne_iff_ne, ne_eq, beq_iff_eq, bne_eq_false_iff_eq] at *
  all_goals (repeat' split) <;> first | rfl | omega | (exfalso; simp_all; done) | (exfalso; simp_all; omega)
set_option maxHeartbeats 2000000 in
theorem refCheck_li (o d a b m K : Int) (C : UsesAt o true false false true) (h : In7 o d a b m) (ho : (o == 17) = false) (ho' : (o == 21) = false) (hK : K = (if a = 0 ∧ b = 0 then if fitB m 21 = true then 0 else 11 else 10)) :
    Says Try.prog 102 #[insV o d a b m] (.int .i64 K) := by
  intro w
  obtain ⟨h1, h2, h3, h4, h5, h6, h7, h8, h9, h10⟩ := h
  have C1 := Lib.hid C
  have C2 := Lib.hid (fun w => refFits_yes m 21 w (by omega) (by omega))
  clear C
  have HK := Lib.hid hK
  clear hK
  all_goals
    go_enter Try.func102, Try.ntmps102
    go_wp2_with (first | (go_at_call 100; refine (C1.out.at _).mono ?_; rintro e w1 ⟨rfl, hb⟩; obtain ⟨hc, hf⟩ := bcell hb; have hz : w.heap.size < w1.heap.size := by (have := hb.size; simp at this; omega)) | (go_at_call 131; refine (C2.out _).mono ?_; rintro e w2 ⟨rfl, rfl⟩))
  all_goals go_ret
  all_goals refine ⟨ret_int ?_, end_two (by assumption) (by assumption)⟩
  all_goals refine Eq.trans ?_ HK.out.symm
  all_goals clear C1 C2 HK
  all_goals try simp only [bne_iff_ne, ne_eq, beq_iff_eq, bne_eq_false_iff_eq] at *
  all_goals (repeat' split) <;> first | rfl | omega | (exfalso; simp_all; done) | (exfalso; simp_all; omega)
set_option maxHeartbeats 2000000 in
theorem refCheck_dab (o d a b m K : Int) (C : UsesAt o true true true false) (h : In7 o d a b m) (ho : (o == 17) = false) (ho' : (o == 21) = false) (hK : K = (if m = 0 then if fitB m 21 = true then 0 else 11 else 10)) :
    Says Try.prog 102 #[insV o d a b m] (.int .i64 K) := by
  intro w
  obtain ⟨h1, h2, h3, h4, h5, h6, h7, h8, h9, h10⟩ := h
  have C1 := Lib.hid C
  have C2 := Lib.hid (fun w => refFits_yes m 21 w (by omega) (by omega))
  clear C
  have HK := Lib.hid hK
  clear hK
  all_goals
    go_enter Try.func102, Try.ntmps102
    go_wp2_with (first | (go_at_call 100; refine (C1.out.at _).mono ?_; rintro e w1 ⟨rfl, hb⟩; obtain ⟨hc, hf⟩ := bcell hb; have hz : w.heap.size < w1.heap.size := by (have := hb.size; simp at this; omega)) | (go_at_call 131; refine (C2.out _).mono ?_; rintro e w2 ⟨rfl, rfl⟩))
  all_goals go_ret
  all_goals refine ⟨ret_int ?_, end_two (by assumption) (by assumption)⟩
  all_goals refine Eq.trans ?_ HK.out.symm
  all_goals clear C1 C2 HK
  all_goals try simp only [bne_iff_ne, ne_eq, beq_iff_eq, bne_eq_false_iff_eq] at *
  all_goals (repeat' split) <;> first | rfl | omega | (exfalso; simp_all; done) | (exfalso; simp_all; omega)
end Go.Proofs.Ytajidaicojekdaa.IF

/-
  The reference's Check, by which parts an operation uses, further. Nothing here is a statement of the seed.
-/
namespace Go.Proofs.Ytajidaicojekdaa.IF
open Go.RowKit WM IM WF

set_option maxHeartbeats 2000000 in
theorem refCheck_dai (o d a b m K : Int) (C : UsesAt o true true false true) (h : In7 o d a b m) (ho : (o == 17) = false) (ho' : (o == 21) = false) (hK : K = (if b = 0 then if fitB m 21 = true then 0 else 11 else 10)) :
    Says Try.prog 102 #[insV o d a b m] (.int .i64 K) := by
  intro w
  obtain ⟨h1, h2, h3, h4, h5, h6, h7, h8, h9, h10⟩ := h
  have C1 := Lib.hid C
  have C2 := Lib.hid (fun w => refFits_yes m 21 w (by omega) (by omega))
  clear C
  have HK := Lib.hid hK
  clear hK
  all_goals
    go_enter Try.func102, Try.ntmps102
    go_wp2_with (first | (go_at_call 100; refine (C1.out.at _).mono ?_; rintro e w1 ⟨rfl, hb⟩; obtain ⟨hc, hf⟩ := bcell hb; have hz : w.heap.size < w1.heap.size := by (have := hb.size; simp at this; omega)) | (go_at_call 131; refine (C2.out _).mono ?_; rintro e w2 ⟨rfl, rfl⟩))
  all_goals go_ret
  all_goals refine ⟨ret_int ?_, end_two (by assumption) (by assumption)⟩
  all_goals refine Eq.trans ?_ HK.out.symm
  all_goals clear C1 C2 HK
  all_goals try simp only [bne_iff_ne, ne_eq, beq_iff_eq, bne_eq_false_iff_eq] at *
  all_goals (repeat' split) <;> first | rfl | omega | (exfalso; simp_all; done) | (exfalso; simp_all; omega)
set_option maxHeartbeats 2000000 in
theorem refCheck_imm (o d a b m K : Int) (C : UsesAt o false false false true) (h : In7 o d a b m) (ho : o = 14 ∨ o = 17 ∨ o = 21) (hK : K = (if d = 0 ∧ a = 0 ∧ b = 0 then if fitB m 21 = true then (if (o = 17 ∨ o = 21) ∧ m < 0 ∨ o = 21 ∧ 63 < m then 11 else 0) else 11 else 10)) :
    Says Try.prog 102 #[insV o d a b m] (.int .i64 K) := by
  intro w
  obtain ⟨h1, h2, h3, h4, h5, h6, h7, h8, h9, h10⟩ := h
  have C1 := Lib.hid C
  have C2 := Lib.hid (fun w => refFits_yes m 21 w (by omega) (by omega))
  clear C
  have HK := Lib.hid hK
  clear hK
  rcases ho with rfl | rfl | rfl
  all_goals
    go_enter Try.func102, Try.ntmps102
    go_wp2_with (first | (go_at_call 100; refine (C1.out.at _).mono ?_; rintro e w1 ⟨rfl, hb⟩; obtain ⟨hc, hf⟩ := bcell hb; have hz : w.heap.size < w1.heap.size := by (have := hb.size; simp at this; omega)) | (go_at_call 131; refine (C2.out _).mono ?_; rintro e w2 ⟨rfl, rfl⟩))
  all_goals go_ret
  all_goals refine ⟨ret_int ?_, end_two (by assumption) (by assumption)⟩
  all_goals refine Eq.trans ?_ HK.out.symm
  all_goals clear C1 C2 HK
  all_goals try simp only [bne_iff_ne, ne_eq, beq_iff_eq, bne_eq_false_iff_eq] at *
  all_goals (repeat' split) <;> first | rfl | omega | (exfalso; simp_all; done) | (exfalso; simp_all; omega)
set_option maxHeartbeats 2000000 in
theorem refCheck_jr (o d a b m K : Int) (C : UsesAt o false true false false) (h : In7 o d a b m) (ho : (o == 17) = false) (ho' : (o == 21) = false) (hK : K = (if d = 0 ∧ b = 0 ∧ m = 0 then if fitB m 21 = true then 0 else 11 else 10)) :
    Says Try.prog 102 #[insV o d a b m] (.int .i64 K) := by
  intro w
  obtain ⟨h1, h2, h3, h4, h5, h6, h7, h8, h9, h10⟩ := h
  have C1 := Lib.hid C
  have C2 := Lib.hid (fun w => refFits_yes m 21 w (by omega) (by omega))
  clear C
  have HK := Lib.hid hK
  clear hK
  all_goals
    go_enter Try.func102, Try.ntmps102
    go_wp2_with (first | (go_at_call 100; refine (C1.out.at _).mono ?_; rintro e w1 ⟨rfl, hb⟩; obtain ⟨hc, hf⟩ := bcell hb; have hz : w.heap.size < w1.heap.size := by (have := hb.size; simp at this; omega)) | (go_at_call 131; refine (C2.out _).mono ?_; rintro e w2 ⟨rfl, rfl⟩))
  all_goals go_ret
  all_goals refine ⟨ret_int ?_, end_two (by assumption) (by assumption)⟩
  all_goals refine Eq.trans ?_ HK.out.symm
  all_goals clear C1 C2 HK
  all_goals try simp only [bne_iff_ne, ne_eq, beq_iff_eq, bne_eq_false_iff_eq] at *
  all_goals (repeat' split) <;> first | rfl | omega | (exfalso; simp_all; done) | (exfalso; simp_all; omega)
end Go.Proofs.Ytajidaicojekdaa.IF

/-
  The words of instructions: the program's and the reference's. Nothing here is a statement of the seed.
-/
namespace Go.Proofs.Ytajidaicojekdaa.IF
open Go.RowKit WM IM WF

theorem fit_far (m : Int) : fitB m 21 = decide (-1048576 ≤ m ∧ m < 1048576) := by simp [fitB]
theorem refCheck_any (o d a b m : Int) (h : Fit o d a b m) :
    Says Try.prog 102 #[insV o d a b m] (.int .i64 (chk o d a b m)) := by
  have C := refUses_any o h.1
  obtain ⟨⟨h1, h2⟩, ⟨h3, h4⟩, ⟨h5, h6⟩, ⟨h7, h8⟩, h9, h10⟩ := h
  by_cases ho : 21 < o ∨ 7 < d ∨ 7 < a ∨ 7 < b
  · have e : chk o d a b m = 10 := by
      have : badB o d a b m = true := by unfold badB; rw [decide_eq_true_eq]; omega
      unfold chk
      rw [if_pos this]
    rw [e]
    exact refCheck_out o d a b m _ _ _ _ C ho
  · have hi : In7 o d a b m := by unfold In7; omega
    have hp : (o = 0 ∨ o = 1 ∨ o = 18 ∨ o = 20) ∨ o = 2 ∨ (3 ≤ o ∧ o ≤ 10) ∨ ((11 ≤ o ∧ o ≤ 13) ∨ o = 15 ∨ o = 16) ∨ (o = 14 ∨ o = 17 ∨ o = 21) ∨ o = 19 := by omega
    rcases hp with hp | hp | hp | hp | hp | hp
    · rw [show uD o = false by unfold uD; simp; omega, show uA o = false by unfold uA; simp; omega, show uB o = false by unfold uB; simp; omega, show uI o = false by unfold uI; simp; omega] at C
      refine refCheck_none o d a b m _ C hi (by simp; omega) (by simp; omega) ?_
      unfold chk badB farB
      rw [fit_far]
      simp only [decide_eq_true_eq]
      (repeat' split) <;> omega
    · rw [show uD o = true by unfold uD; simp; omega, show uA o = false by unfold uA; simp; omega, show uB o = false by unfold uB; simp; omega, show uI o = true by unfold uI; simp; omega] at C
      refine refCheck_li o d a b m _ C hi (by simp; omega) (by simp; omega) ?_
      unfold chk badB farB
      rw [fit_far]
      simp only [decide_eq_true_eq]
      (repeat' split) <;> omega
    · rw [show uD o = true by unfold uD; simp; omega, show uA o = true by unfold uA; simp; omega, show uB o = true by unfold uB; simp; omega, show uI o = false by unfold uI; simp; omega] at C
      refine refCheck_dab o d a b m _ C hi (by simp; omega) (by simp; omega) ?_
      unfold chk badB farB
      rw [fit_far]
      simp only [decide_eq_true_eq]
      (repeat' split) <;> omega
    · rw [show uD o = true by unfold uD; simp; omega, show uA o = true by unfold uA; simp; omega, show uB o = false by unfold uB; simp; omega, show uI o = true by unfold uI; simp; omega] at C
      refine refCheck_dai o d a b m _ C hi (by simp; omega) (by simp; omega) ?_
      unfold chk badB farB
      rw [fit_far]
      simp only [decide_eq_true_eq]
      (repeat' split) <;> omega
    · rw [show uD o = false by unfold uD; simp; omega, show uA o = false by unfold uA; simp; omega, show uB o = false by unfold uB; simp; omega, show uI o = true by unfold uI; simp; omega] at C
      refine refCheck_imm o d a b m _ C hi hp ?_
      unfold chk badB farB
      rw [fit_far]
      simp only [decide_eq_true_eq]
      (repeat' split) <;> omega
    · rw [show uD o = false by unfold uD; simp; omega, show uA o = true by unfold uA; simp; omega, show uB o = false by unfold uB; simp; omega, show uI o = false by unfold uI; simp; omega] at C
      refine refCheck_jr o d a b m _ C hi (by simp; omega) (by simp; omega) ?_
      unfold chk badB farB
      rw [fit_far]
      simp only [decide_eq_true_eq]
      (repeat' split) <;> omega
theorem withI (x a n v r : Int) (hx : 0 ≤ x ∧ x < 4294967296) (hv : 0 ≤ v) (h : 0 ≤ a ∧ 0 ≤ n ∧ a + n ≤ 32) (hr : ((putN x.toNat a.toNat n.toNat v.toNat : Nat) : Int) = r) (w : World) :
    Calls Try.prog 96 #[.int .u32 x, .int .i64 a, .int .i64 n, .int .u32 v] w fun e w' => e = .returned (.int .u32 r) ∧ w = w' := by
  subst hr
  obtain ⟨y, rfl⟩ := Int.eq_ofNat_of_zero_le hx.1
  obtain ⟨u, rfl⟩ := Int.eq_ofNat_of_zero_le hv
  exact (wordWith_yes y a n u w (by omega) h).mono fun e w' ⟨he, hw⟩ => ⟨by simpa using he, hw.symm⟩
theorem refWithI (x a n v r : Int) (hx : 0 ≤ x ∧ x < 4294967296) (hv : 0 ≤ v ∧ v < 4294967296) (h : 0 ≤ a ∧ 0 ≤ n ∧ a + n ≤ 32) (hr : ((putN x.toNat a.toNat n.toNat v.toNat : Nat) : Int) = r) (w : World) :
    Calls Try.prog 103 #[.int .u32 x, .int .i64 a, .int .i64 n, .int .u32 v] w fun e w' => e = .returned (.int .u32 r) ∧ w = w' := by
  subst hr
  obtain ⟨y, rfl⟩ := Int.eq_ofNat_of_zero_le hx.1
  obtain ⟨u, rfl⟩ := Int.eq_ofNat_of_zero_le hv.1
  exact (refWith_yes y a n u w (by omega) (by omega) h).mono fun e w' ⟨he, hw⟩ => ⟨by simpa using he, hw.symm⟩
/-- the word as far as the register A -/
theorem heads {o d a b m : Int} (h : InsOk o d a b m) : ((putN 0 27 5 o.toNat : Nat) : Int) = 134217728 * o ∧ ((putN (134217728 * o).toNat 24 3 d.toNat : Nat) : Int) = 134217728 * o + 16777216 * d ∧
    ((putN (134217728 * o + 16777216 * d).toNat 21 3 a.toNat : Nat) : Int) = 134217728 * o + 16777216 * d + 2097152 * a := by
  unfold InsOk at h
  refine ⟨?_, ?_, ?_⟩
  · rw [put1 _ (by omega)]; omega
  · rw [show (134217728 * o).toNat = 134217728 * o.toNat by omega, put2 _ _ (by omega) (by omega)]; omega
  · rw [show (134217728 * o + 16777216 * d).toNat = 16777216 * (8 * o.toNat + d.toNat) by omega, put3 _ _ (by omega) (by omega)]; omega
theorem tail_b {o d a b m : Int} (h : InsOk o d a b m) (hB : 3 ≤ o ∧ o ≤ 10) : ((putN (134217728 * o + 16777216 * d + 2097152 * a).toNat 0 3 b.toNat : Nat) : Int) = enc o d a b m ∧ ((putN (134217728 * o + 16777216 * d + 2097152 * a).toNat 0 21 b.toNat : Nat) : Int) = enc o d a b m := by
  unfold InsOk at h
  rw [show (134217728 * o + 16777216 * d + 2097152 * a).toNat = 2097152 * (64 * o.toNat + 8 * d.toNat + a.toNat) by omega, put4 _ _ (by omega) (by omega), put5 _ _ (by omega) (by omega)]
  unfold enc low
  rw [if_pos hB]
  omega
theorem tail_m {o d a b m : Int} (h : InsOk o d a b m) (hB : ¬ (3 ≤ o ∧ o ≤ 10)) : ((putN (134217728 * o + 16777216 * d + 2097152 * a).toNat 0 21 (cutI m 21).toNat : Nat) : Int) = enc o d a b m := by
  unfold InsOk at h
  rw [cutI_21, show (134217728 * o + 16777216 * d + 2097152 * a).toNat = 2097152 * (64 * o.toNat + 8 * d.toNat + a.toNat) by omega, put4 _ _ (by omega) (by omega)]
  unfold enc low
  rw [if_neg hB]
  omega
theorem good_fit {o d a b m : Int} (h : InsOk o d a b m) : Fit o d a b m := by unfold InsOk at h; unfold Fit; omega
theorem cutM (m : Int) (hm : -1048576 ≤ m ∧ m ≤ 1048575) : 0 ≤ cutI m 21 ∧ cutI m 21 < 4294967296 := by rw [cutI_21]; omega
theorem encode_yes (o d a b m : Int) (h : InsOk o d a b m) :
    Says Try.prog 76 #[insV o d a b m] (.tuple #[.int .u32 (enc o d a b m), .int .i64 0]) := by
  intro w
  have C0 := Lib.hid (by have := check_any o d a b m (good_fit h); rw [(chk_good h.1 h.2.2.1 h.2.2.2.2.1 h.2.2.2.2.2.2.1).2 h] at this; exact this)
  have hh := h
  unfold InsOk at hh
  obtain ⟨e1, e2, e3⟩ := heads h
  have C1 := Lib.hid (withI 0 27 5 o _ (by omega) (by omega) (by omega) e1)
  have C2 := Lib.hid (withI (134217728 * o) 24 3 d _ (by omega) (by omega) (by omega) e2)
  have C3 := Lib.hid (withI (134217728 * o + 16777216 * d) 21 3 a _ (by omega) (by omega) (by omega) e3)
  have CU := Lib.hid (fun w => usesB_any o w (by omega))
  have bo : 0 ≤ o ∧ o ≤ 21 := by omega
  have bd : 0 ≤ d ∧ d ≤ 7 := by omega
  have ba : 0 ≤ a ∧ a ≤ 7 := by omega
  have bb : 0 ≤ b ∧ b ≤ 7 := by omega
  have bm : -1048576 ≤ m ∧ m ≤ 1048575 := by omega
  obtain ⟨bo1, bo2⟩ := bo
  obtain ⟨bd1, bd2⟩ := bd
  obtain ⟨ba1, ba2⟩ := ba
  obtain ⟨bb1, bb2⟩ := bb
  obtain ⟨bm1, bm2⟩ := bm
  clear e1 e2 e3
  by_cases hB : 3 ≤ o ∧ o ≤ 10
  · have hu : uB o = true := by unfold uB; simpa using hB
    rw [hu] at CU
    have C4 := Lib.hid (withI (134217728 * o + 16777216 * d + 2097152 * a) 0 3 b _ (by omega) (by omega) (by omega) (tail_b h hB).1)
    clear hh h hB hu
    generalize enc o d a b m = E at *
    generalize 134217728 * o + 16777216 * d + 2097152 * a = x3 at *
    generalize 134217728 * o + 16777216 * d = x2 at *
    generalize 134217728 * o = x1 at *
    go_enter Try.func76, Try.ntmps76
    go_wp2_with (first | (go_at_call 95; refine (C0.out.at _).mono ?_; rintro e w1 ⟨rfl, hb⟩; obtain ⟨hc, hf⟩ := bcell hb) | (go_at_call 97; refine (CU.out _).mono ?_; rintro e w2 ⟨rfl, rfl⟩) | (go_at_call 96; (first | (with_reducible refine (C1.out _).mono ?_) | (with_reducible refine (C2.out _).mono ?_) | (with_reducible refine (C3.out _).mono ?_) | (with_reducible refine (C4.out _).mono ?_)); rintro e w2 ⟨rfl, rfl⟩))
    exact bodyPost_ret (v := .tuple #[.int .u32 E, .int .i64 0]) (by simp [results, Try.results76, go_sem]) rfl ⟨rfl, end_alloc hb⟩
  · have hu : uB o = false := by unfold uB; simpa using hB
    rw [hu] at CU
    have C4 := Lib.hid (withI (134217728 * o + 16777216 * d + 2097152 * a) 0 21 (cutI m 21) _ (by omega) (cutM m ⟨bm1, bm2⟩).1 (by omega) (tail_m h hB))
    have CC := Lib.hid (fun w => wordCut_any m 21 w (by omega) (by omega))
    clear hh h hB hu
    generalize cutI m 21 = c at *
    generalize enc o d a b m = E at *
    generalize 134217728 * o + 16777216 * d + 2097152 * a = x3 at *
    generalize 134217728 * o + 16777216 * d = x2 at *
    generalize 134217728 * o = x1 at *
    go_enter Try.func76, Try.ntmps76
    go_wp2_with (first | (go_at_call 95; refine (C0.out.at _).mono ?_; rintro e w1 ⟨rfl, hb⟩; obtain ⟨hc, hf⟩ := bcell hb) | (go_at_call 97; refine (CU.out _).mono ?_; rintro e w2 ⟨rfl, rfl⟩) | (go_at_call 98; refine (CC.out _).mono ?_; rintro e w2 ⟨rfl, kc, rfl⟩) | (go_at_call 96; (first | (with_reducible refine (C1.out _).mono ?_) | (with_reducible refine (C2.out _).mono ?_) | (with_reducible refine (C3.out _).mono ?_) | (with_reducible refine (C4.out _).mono ?_)); rintro e w2 ⟨rfl, rfl⟩))
    exact bodyPost_ret (v := .tuple #[.int .u32 E, .int .i64 0]) (by simp [results, Try.results76, go_sem]) rfl ⟨rfl, below_drewN (end_alloc hb) kc⟩
theorem encode_no (o d a b m K : Int) (h : Fit o d a b m) (hK : chk o d a b m = K) (h0 : K ≠ 0) :
    Says Try.prog 76 #[insV o d a b m] (.tuple #[.int .u32 0, .int .i64 K]) := by
  intro w
  have C0 := Lib.hid (by have := check_any o d a b m h; rw [hK] at this; exact this)
  have hn : (K != 0) = true := by simpa using h0
  clear hK h0 h
  go_enter Try.func76, Try.ntmps76
  go_wp2_with (first | (go_at_call 95; refine (C0.out.at _).mono ?_; rintro e w1 ⟨rfl, hb⟩; obtain ⟨hc, hf⟩ := bcell hb))
  exact bodyPost_ret (v := .tuple #[.int .u32 0, .int .i64 K]) (by simp [results, Try.results76, go_sem]) rfl ⟨rfl, end_alloc hb⟩
theorem index2 (x0 x1 x2 x3 : Bool) (w : World) : (Instr.index 157 (.agg #[.bool x0, .bool x1, .bool x2, .bool x3]) (.int .i64 2)).run Try.prog w = .ok (.bool x2) w := by kernel_rfl
theorem refEncode_yes (o d a b m : Int) (h : InsOk o d a b m) :
    Says Try.prog 82 #[insV o d a b m] (.tuple #[.int .u32 (enc o d a b m), .int .i64 0]) := by
  intro w
  have C0 := Lib.hid (by have := refCheck_any o d a b m (good_fit h); rw [(chk_good h.1 h.2.2.1 h.2.2.2.2.1 h.2.2.2.2.2.2.1).2 h] at this; exact this)
  have hh := h
  unfold InsOk at hh
  obtain ⟨e1, e2, e3⟩ := heads h
  have C1 := Lib.hid (refWithI 0 27 5 o _ (by omega) (by omega) (by omega) e1)
  have C2 := Lib.hid (refWithI (134217728 * o) 24 3 d _ (by omega) (by omega) (by omega) e2)
  have C3 := Lib.hid (refWithI (134217728 * o + 16777216 * d) 21 3 a _ (by omega) (by omega) (by omega) e3)
  have CU := Lib.hid (refUses_any o (by omega))
  have bo : 0 ≤ o ∧ o ≤ 21 := by omega
  have bd : 0 ≤ d ∧ d ≤ 7 := by omega
  have ba : 0 ≤ a ∧ a ≤ 7 := by omega
  have bb : 0 ≤ b ∧ b ≤ 7 := by omega
  have bm : -1048576 ≤ m ∧ m ≤ 1048575 := by omega
  obtain ⟨bo1, bo2⟩ := bo
  obtain ⟨bd1, bd2⟩ := bd
  obtain ⟨ba1, ba2⟩ := ba
  obtain ⟨bb1, bb2⟩ := bb
  obtain ⟨bm1, bm2⟩ := bm
  clear e1 e2 e3
  by_cases hB : 3 ≤ o ∧ o ≤ 10
  · have hu : uB o = true := by unfold uB; simpa using hB
    rw [hu] at CU
    have C4 := Lib.hid (refWithI (134217728 * o + 16777216 * d + 2097152 * a) 0 21 b _ (by omega) (by omega) (by omega) (tail_b h hB).2)
    clear hh h hB hu
    generalize enc o d a b m = E at *
    generalize 134217728 * o + 16777216 * d + 2097152 * a = x3 at *
    generalize 134217728 * o + 16777216 * d = x2 at *
    generalize 134217728 * o = x1 at *
    have ix := index2 (uD o) (uA o) true (uI o)
    go_enter Try.func82, Try.ntmps82
    go_wp2_with (first | (go_at_call 102; refine (C0.out.at _).mono ?_; rintro e w1 ⟨rfl, hb⟩; obtain ⟨hc, hf⟩ := bcell hb) | (go_at_call 100; refine (inw CU.out (w.alloc _) _ hb).mono ?_; rintro e w2 ⟨rfl, hb2⟩; obtain ⟨hc2, hf2⟩ := bcell hb2) | (go_at_call 103; (first | (with_reducible refine (C1.out _).mono ?_) | (with_reducible refine (C2.out _).mono ?_) | (with_reducible refine (C3.out _).mono ?_) | (with_reducible refine (C4.out _).mono ?_)); rintro e w2 ⟨rfl, rfl⟩))
    exact bodyPost_ret (v := .tuple #[.int .u32 E, .int .i64 0]) (by simp [results, Try.results82, go_sem]) rfl ⟨rfl, end_alloc hb2⟩
  · have hu : uB o = false := by unfold uB; simpa using hB
    rw [hu] at CU
    have C4 := Lib.hid (refWithI (134217728 * o + 16777216 * d + 2097152 * a) 0 21 (cutI m 21) _ (by omega) (cutM m ⟨bm1, bm2⟩) (by omega) (tail_m h hB))
    have CC := Lib.hid (fun w => refCut_any m 21 w (by omega) (by omega))
    clear hh h hB hu
    generalize cutI m 21 = c at *
    generalize enc o d a b m = E at *
    generalize 134217728 * o + 16777216 * d + 2097152 * a = x3 at *
    generalize 134217728 * o + 16777216 * d = x2 at *
    generalize 134217728 * o = x1 at *
    have ix := index2 (uD o) (uA o) false (uI o)
    go_enter Try.func82, Try.ntmps82
    go_wp2_with (first | (go_at_call 102; refine (C0.out.at _).mono ?_; rintro e w1 ⟨rfl, hb⟩; obtain ⟨hc, hf⟩ := bcell hb) | (go_at_call 100; refine (inw CU.out (w.alloc _) _ hb).mono ?_; rintro e w2 ⟨rfl, hb2⟩; obtain ⟨hc2, hf2⟩ := bcell hb2) | (go_at_call 104; refine (CC.out _).mono ?_; rintro e w3 ⟨rfl, hw⟩; subst hw) | (go_at_call 103; (first | (with_reducible refine (C1.out _).mono ?_) | (with_reducible refine (C2.out _).mono ?_) | (with_reducible refine (C3.out _).mono ?_) | (with_reducible refine (C4.out _).mono ?_)); rintro e w2 ⟨rfl, rfl⟩))
    exact bodyPost_ret (v := .tuple #[.int .u32 E, .int .i64 0]) (by simp [results, Try.results82, go_sem]) rfl ⟨rfl, end_alloc hb2⟩
theorem refEncode_no (o d a b m K : Int) (h : Fit o d a b m) (hK : chk o d a b m = K) (h0 : K ≠ 0) :
    Says Try.prog 82 #[insV o d a b m] (.tuple #[.int .u32 0, .int .i64 K]) := by
  intro w
  have C0 := Lib.hid (by have := refCheck_any o d a b m h; rw [hK] at this; exact this)
  have hn : (K != 0) = true := by simpa using h0
  clear hK h0 h
  go_enter Try.func82, Try.ntmps82
  go_wp2_with (first | (go_at_call 102; refine (C0.out.at _).mono ?_; rintro e w1 ⟨rfl, hb⟩; obtain ⟨hc, hf⟩ := bcell hb))
  exact bodyPost_ret (v := .tuple #[.int .u32 0, .int .i64 K]) (by simp [results, Try.results82, go_sem]) rfl ⟨rfl, end_alloc hb⟩
end Go.Proofs.Ytajidaicojekdaa.IF

/-
  The instructions of words: the program's and the reference's. Nothing here is a statement of the seed.
-/
namespace Go.Proofs.Ytajidaicojekdaa.IF
open Go.RowKit WM IM WF

theorem bitsS (x a n r : Int) (hx : 0 ≤ x ∧ x < 4294967296) (h : 0 ≤ a ∧ 0 ≤ n ∧ a + n ≤ 32) (hr : ((cutN x.toNat a.toNat n.toNat : Nat) : Int) = r) :
    Says Try.prog 122 #[.int .u32 x, .int .i64 a, .int .i64 n] (.int .u32 r) := by
  subst hr
  obtain ⟨y, rfl⟩ := Int.eq_ofNat_of_zero_le hx.1
  exact says_drew fun w => by simpa using wordBits_yes y a n w (by omega) h
theorem refBitsI (x a n r : Int) (hx : 0 ≤ x ∧ x < 4294967296) (h : 0 ≤ a ∧ 0 ≤ n ∧ a + n ≤ 32) (hr : ((cutN x.toNat a.toNat n.toNat : Nat) : Int) = r) (w : World) :
    Calls Try.prog 99 #[.int .u32 x, .int .i64 a, .int .i64 n] w fun e w' => e = .returned (.int .u32 r) ∧ w = w' := by
  subst hr
  obtain ⟨y, rfl⟩ := Int.eq_ofNat_of_zero_le hx.1
  exact (refBits_yes y a n w (by omega) h).mono fun e w' ⟨he, hw⟩ => ⟨by simpa using he, hw.symm⟩
theorem signedI (x n r : Int) (hx : 0 ≤ x ∧ x < 4294967296) (h : 1 ≤ n ∧ n ≤ 32) (hr : sgnI x.toNat n.toNat = r) (w : World) :
    Calls Try.prog 123 #[.int .u32 x, .int .i64 n] w fun e w' => e = .returned (.int .i32 r) ∧ w = w' := by
  subst hr
  obtain ⟨y, rfl⟩ := Int.eq_ofNat_of_zero_le hx.1
  exact (wordSigned_yes y n w (by omega) h).mono fun e w' ⟨he, hw⟩ => ⟨by simpa using he, hw.symm⟩
theorem refSignedI (x n r : Int) (hx : 0 ≤ x ∧ x < 4294967296) (h : 1 ≤ n ∧ n ≤ 32) (hr : sgnI x.toNat n.toNat = r) (w : World) :
    Calls Try.prog 101 #[.int .u32 x, .int .i64 n] w fun e w' => e = .returned (.int .i32 r) ∧ w = w' := by
  subst hr
  obtain ⟨y, rfl⟩ := Int.eq_ofNat_of_zero_le hx.1
  exact (refSigned_yes y n w (by omega) h).mono fun e w' ⟨he, hw⟩ => ⟨by simpa using he, hw.symm⟩
theorem split_any (x : Int) (hx : 0 ≤ x ∧ x ≤ 4294967295) :
    Says Try.prog 94 #[.int .u32 x] (insV (pO x) (pD x) (pA x) (pB x) (pM x)) := by
  intro w
  obtain ⟨y, rfl⟩ := Int.eq_ofNat_of_zero_le hx.1
  have hy : y < 4294967296 := by omega
  obtain ⟨⟨b1, b2⟩, ⟨b3, b4⟩, ⟨b5, b6⟩, ⟨b7, b8⟩, b9, b10⟩ := part_bd hx
  have C1 := Lib.hid (bitsS (y : Int) 27 5 (pO y) (by omega) (by omega) (by simpa using cut_O y hy))
  have C2 := Lib.hid (bitsS (y : Int) 24 3 (pD y) (by omega) (by omega) (by simpa using cut_D y))
  have C3 := Lib.hid (bitsS (y : Int) 21 3 (pA y) (by omega) (by omega) (by simpa using cut_A y))
  have CU := Lib.hid (fun w => usesB_any (pO y) w (by omega))
  by_cases hB : 3 ≤ pO y ∧ pO y ≤ 10
  · have hu : uB (pO y) = true := by unfold uB; simpa using hB
    rw [hu] at CU
    have hM : pM y = 0 := by unfold pM; rw [if_pos hB]
    rw [hM]
    have C4 := Lib.hid (bitsS (y : Int) 0 3 (pB y) (by omega) (by omega) (by simpa using cut_B y hB))
    clear hM hu hB hy b9 b10
    generalize pO y = o at *
    generalize pD y = d at *
    generalize pA y = a at *
    generalize pB y = b at *
    generalize (y : Int) = x at *
    go_enter Try.func94, Try.ntmps94
    go_wp2_with (first | (go_at_call 97; refine (CU.out _).mono ?_; rintro e w2 ⟨rfl, rfl⟩) | (go_at_call 122; first | ((with_reducible refine (C1.out.at _).mono ?_); rintro e w3 ⟨rfl, hb⟩) | ((with_reducible refine (inw C2.out (w.alloc _) _ hb).mono ?_); rintro e w3 ⟨rfl, hb⟩) | ((with_reducible refine (inw C3.out (w.alloc _) _ hb).mono ?_); rintro e w3 ⟨rfl, hb⟩; obtain ⟨hc, hf⟩ := bcell hb; have hz : w.heap.size < w3.heap.size := by (have := hb.size; simp at this; omega)) | ((with_reducible refine (C4.out.at _).mono ?_); rintro e w4 ⟨rfl, hb4⟩; obtain ⟨hc4, hf4⟩ := bcell hb4; have hz4 : w3.heap.size < w4.heap.size := by (have := hb4.size; simp at this; omega))))
    have hw : Below w.heap.size w w4 := (end_two hb hz).trans (hb4.mono (by simp; omega))
    exact bodyPost_ret (v := insV o d a b 0) (by have hn : w.heap.size < w3.heap.size + 1 := Nat.lt_succ_of_lt hz; have hn2 : w.heap.size ≠ w3.heap.size := Nat.ne_of_lt hz; simp [results, Try.results94, go_sem, hc, hc4, hz, hz4, hn, hn2]) rfl ⟨rfl, (((((hw.setCell (Nat.le_of_lt hz) _).setCell (Nat.le_refl _) _).setCell (Nat.le_refl _) _).setCell (Nat.le_refl _) _).setCell (Nat.le_refl _) _).setCell (Nat.le_refl _) _⟩
  · have hu : uB (pO y) = false := by unfold uB; simpa using hB
    rw [hu] at CU
    have hM : pB y = 0 := by unfold pB; rw [if_neg hB]
    rw [hM]
    have C4 := Lib.hid (bitsS (y : Int) 0 21 _ (by omega) (by omega) rfl)
    have C5 := Lib.hid (signedI ((cutN (y : Int).toNat (0 : Int).toNat (21 : Int).toNat : Nat) : Int) 21 (pM y) (by have := cutN_lt (y : Int).toNat (0 : Int).toNat (21 : Int).toNat; have e : 2 ^ (21 : Int).toNat = 2097152 := rfl; omega) (by omega) (by simpa using (sgn_M y hB).2))
    clear hM hu hB hy b7 b8
    generalize ((cutN (y : Int).toNat (0 : Int).toNat (21 : Int).toNat : Nat) : Int) = c at *
    generalize pO y = o at *
    generalize pD y = d at *
    generalize pA y = a at *
    generalize pM y = m at *
    generalize (y : Int) = x at *
    go_enter Try.func94, Try.ntmps94
    go_wp2_with (first | (go_at_call 97; refine (CU.out _).mono ?_; rintro e w2 ⟨rfl, rfl⟩) | (go_at_call 123; refine (C5.out _).mono ?_; rintro e w5 ⟨rfl, rfl⟩) | (go_at_call 122; first | ((with_reducible refine (C1.out.at _).mono ?_); rintro e w3 ⟨rfl, hb⟩) | ((with_reducible refine (inw C2.out (w.alloc _) _ hb).mono ?_); rintro e w3 ⟨rfl, hb⟩) | ((with_reducible refine (inw C3.out (w.alloc _) _ hb).mono ?_); rintro e w3 ⟨rfl, hb⟩; obtain ⟨hc, hf⟩ := bcell hb; have hz : w.heap.size < w3.heap.size := by (have := hb.size; simp at this; omega)) | ((with_reducible refine (C4.out.at _).mono ?_); rintro e w4 ⟨rfl, hb4⟩; obtain ⟨hc4, hf4⟩ := bcell hb4; have hz4 : w3.heap.size < w4.heap.size := by (have := hb4.size; simp at this; omega))))
    have hw : Below w.heap.size w w4 := (end_two hb hz).trans (hb4.mono (by simp; omega))
    exact bodyPost_ret (v := insV o d a 0 m) (by have hn : w.heap.size < w3.heap.size + 1 := Nat.lt_succ_of_lt hz; have hn2 : w.heap.size ≠ w3.heap.size := Nat.ne_of_lt hz; simp [results, Try.results94, go_sem, hc, hc4, hz, hz4, hn, hn2]) rfl ⟨rfl, (((((hw.setCell (Nat.le_of_lt hz) _).setCell (Nat.le_refl _) _).setCell (Nat.le_refl _) _).setCell (Nat.le_refl _) _).setCell (Nat.le_refl _) _).setCell (Nat.le_refl _) _⟩

theorem end_three {w w3 w4 : World} {o1 o2 : Obj} {p : Addr} {v : Value} (hb : Below ((w.alloc o1).alloc o2).heap.size ((w.alloc o1).alloc o2) w3) (hp : w.heap.size ≤ p.block) (hb4 : Below (w3.setCell p v).heap.size (w3.setCell p v) w4) : Below w.heap.size w w4 :=
  ((((below_new w o1).alloc (by simp) o2).trans (hb.mono (by simp; omega))).setCell hp v).trans (hb4.mono (by have := hb.size; simp at this ⊢; omega))

/-- isa.Decode, by what Encode makes of the word's parts -/
theorem decode_way (x o d a b m E K : Int) (r : Bool) (S : Says Try.prog 94 #[.int .u32 x] (insV o d a b m)) (C : Says Try.prog 76 #[insV o d a b m] (.tuple #[.int .u32 E, .int .i64 K]))
    (h : r = true ∧ E = x ∧ K = 0 ∨ r = false ∧ (E != x) = true ∧ K = 0 ∨ r = false ∧ (K != 0) = true) :
    Says Try.prog 73 #[.int .u32 x] (.tuple #[if r then insV o d a b m else insV 0 0 0 0 0, .int .i64 (if r then 0 else 10)]) := by
  intro w
  have S1 := Lib.hid S
  clear S
  rcases h with ⟨rfl, rfl, rfl⟩ | ⟨rfl, h, rfl⟩ | ⟨rfl, h⟩
  all_goals
    have C1 := Lib.hid C
    clear C
    go_enter Try.func73, Try.ntmps73
    go_wp2_with (first | (go_at_call 94; refine (S1.out.at _).mono ?_; rintro e w3 ⟨rfl, hb⟩; obtain ⟨hc, hf⟩ := bcell hb; have hz : w.heap.size < w3.heap.size := by (have := hb.size; simp at this; omega)) | (go_at_call 76; refine (C1.out.at _).mono ?_; rintro e w4 ⟨rfl, hb4⟩; obtain ⟨hc4, hf4⟩ := bcell hb4; have hz4 : w3.heap.size < w4.heap.size := by (have := hb4.size; simp at this; omega)))
  all_goals
    have hw : Below w.heap.size w w4 := (end_two hb hz).trans (hb4.mono (by simp; omega))
    have hn : w.heap.size < w3.heap.size + 1 := Nat.lt_succ_of_lt hz
    have hn2 : w.heap.size ≠ w3.heap.size := Nat.ne_of_lt hz
  · exact bodyPost_ret (v := .tuple #[insV o d a b m, .int .i64 0]) (by simp [results, Try.results73, go_sem, hc, hc4, hz, hz4, hn, hn2]) rfl ⟨rfl, ((((hw.setCell (Nat.le_refl _) _).setCell (Nat.le_refl _) _).setCell (Nat.le_refl _) _).setCell (Nat.le_refl _) _).setCell (Nat.le_refl _) _⟩
  all_goals exact bodyPost_ret (v := .tuple #[insV 0 0 0 0 0, .int .i64 10]) (by simp [results, Try.results73, go_sem, hc, hc4, hz, hz4, hn, hn2]) rfl ⟨rfl, ((((hw.setCell (Nat.le_refl _) _).setCell (Nat.le_refl _) _).setCell (Nat.le_refl _) _).setCell (Nat.le_refl _) _).setCell (Nat.le_refl _) _⟩
theorem part_fit {x : Int} (hx : 0 ≤ x ∧ x ≤ 4294967295) : Fit (pO x) (pD x) (pA x) (pB x) (pM x) := by
  have := part_bd hx
  unfold Fit
  omega
/-- what Encode makes of a word's parts -/
theorem parts_way {x : Int} (hx : 0 ≤ x ∧ x ≤ 4294967295) : ∃ E K : Int, (K = 0 ∧ InsOk (pO x) (pD x) (pA x) (pB x) (pM x) ∧ E = enc (pO x) (pD x) (pA x) (pB x) (pM x) ∨ K ≠ 0 ∧ chk (pO x) (pD x) (pA x) (pB x) (pM x) = K ∧ E = 0) ∧
    (hasB x = true ∧ E = x ∧ K = 0 ∨ hasB x = false ∧ (E != x) = true ∧ K = 0 ∨ hasB x = false ∧ (K != 0) = true) := by
  obtain ⟨⟨b1, _⟩, ⟨b3, _⟩, ⟨b5, _⟩, ⟨b7, _⟩, _, _⟩ := part_bd hx
  by_cases hk : chk (pO x) (pD x) (pA x) (pB x) (pM x) = 0
  · refine ⟨enc (pO x) (pD x) (pA x) (pB x) (pM x), 0, Or.inl ⟨rfl, (chk_good b1 b3 b5 b7).1 hk, rfl⟩, ?_⟩
    by_cases he : enc (pO x) (pD x) (pA x) (pB x) (pM x) = x
    · exact Or.inl ⟨decide_eq_true ⟨hk, he⟩, he, rfl⟩
    · exact Or.inr (Or.inl ⟨decide_eq_false (fun h => he h.2), by simpa using he, rfl⟩)
  · exact ⟨0, _, Or.inr ⟨hk, rfl, rfl⟩, Or.inr (Or.inr ⟨decide_eq_false (fun h => hk h.1), by simpa using hk⟩)⟩
abbrev decV (x : Int) : Value := .tuple #[if hasB x then insV (pO x) (pD x) (pA x) (pB x) (pM x) else insV 0 0 0 0 0, .int .i64 (if hasB x then 0 else 10)]
theorem decode_any (x : Int) (hx : 0 ≤ x ∧ x ≤ 4294967295) : Says Try.prog 73 #[.int .u32 x] (decV x) := by
  obtain ⟨E, K, h1, h2⟩ := parts_way hx
  refine decode_way x _ _ _ _ _ E K (hasB x) (split_any x hx) ?_ h2
  rcases h1 with ⟨rfl, h, rfl⟩ | ⟨h, hk, rfl⟩
  · exact encode_yes _ _ _ _ _ h
  · exact encode_no _ _ _ _ _ _ (part_fit hx) hk h

set_option maxHeartbeats 1000000 in
theorem refDecode_way (x E K : Int) (r : Bool) (hx : 0 ≤ x ∧ x ≤ 4294967295) (C : Says Try.prog 82 #[insV (pO x) (pD x) (pA x) (pB x) (pM x)] (.tuple #[.int .u32 E, .int .i64 K]))
    (h : r = true ∧ E = x ∧ K = 0 ∨ r = false ∧ (E != x) = true ∧ K = 0 ∨ r = false ∧ (K != 0) = true) :
    Says Try.prog 79 #[.int .u32 x] (.tuple #[if r then insV (pO x) (pD x) (pA x) (pB x) (pM x) else insV 0 0 0 0 0, .int .i64 (if r then 0 else 10)]) := by
  intro w
  obtain ⟨y, rfl⟩ := Int.eq_ofNat_of_zero_le hx.1
  have hy : y < 4294967296 := by omega
  obtain ⟨⟨b1, b2⟩, ⟨b3, b4⟩, ⟨b5, b6⟩, ⟨b7, b8⟩, b9, b10⟩ := part_bd hx
  have C1 := Lib.hid (refBitsI (y : Int) 27 5 (pO y) (by omega) (by omega) (by simpa using cut_O y hy))
  have C2 := Lib.hid (refBitsI (y : Int) 24 3 (pD y) (by omega) (by omega) (by simpa using cut_D y))
  have C3 := Lib.hid (refBitsI (y : Int) 21 3 (pA y) (by omega) (by omega) (by simpa using cut_A y))
  have CU := Lib.hid (refUses_any (pO y) (by omega))
  by_cases hB : 3 ≤ pO y ∧ pO y ≤ 10
  · have hu : uB (pO y) = true := by unfold uB; simpa using hB
    rw [hu] at CU
    have ix := index2 (uD (pO y)) (uA (pO y)) true (uI (pO y))
    have hM : pM y = 0 := by unfold pM; rw [if_pos hB]
    rw [hM] at C ⊢
    have C4 := Lib.hid (refBitsI (y : Int) 0 3 (pB y) (by omega) (by omega) (by simpa using cut_B y hB))
    clear hM hu hB hy b9 b10
    generalize pO y = o at *
    generalize pD y = d at *
    generalize pA y = a at *
    generalize pB y = b at *
    generalize (y : Int) = x at *
    rcases h with ⟨rfl, rfl, rfl⟩ | ⟨rfl, h, rfl⟩ | ⟨rfl, h⟩
    all_goals
      have CE := Lib.hid C
      clear C
      go_enter Try.func79, Try.ntmps79
      go_wp2_with (first | (go_at_call 100; refine (CU.out.at _).mono ?_; rintro e w3 ⟨rfl, hb⟩; obtain ⟨hc, hf⟩ := bcell hb; have hz : w.heap.size + 1 < w3.heap.size := (by have := hb.size; simp at this; omega); have hzz : w.heap.size < w3.heap.size := Nat.lt_of_succ_lt hz) | (go_at_call 99; (first | (with_reducible refine (C1.out _).mono ?_) | (with_reducible refine (C2.out _).mono ?_) | (with_reducible refine (C3.out _).mono ?_) | (with_reducible refine (C4.out _).mono ?_)); rintro e w2 ⟨rfl, rfl⟩) | (go_at_call 82; refine (CE.out.at _).mono ?_; rintro e w4 ⟨rfl, hb4⟩; obtain ⟨hc4, hf4⟩ := bcell hb4; have hz4 : w3.heap.size ≤ w4.heap.size := by (have := hb4.size; simpa using this)))
    all_goals
      have hw : Below w.heap.size w w4 := end_three hb (Nat.le_succ _) hb4
      have hn2 : ¬ w.heap.size = w.heap.size + 1 := by omega
      have hn3 : w.heap.size < w.heap.size + 1 + 1 := by omega
    · exact bodyPost_ret (v := .tuple #[insV o d a b 0, .int .i64 0]) (by simp [results, Try.results79, go_sem, hc, hc4, hz, hzz, hz4, hn2, hn3]) rfl ⟨rfl, ((((hw.setCell (Nat.le_refl _) _).setCell (Nat.le_refl _) _).setCell (Nat.le_refl _) _).setCell (Nat.le_refl _) _).setCell (Nat.le_refl _) _⟩
    all_goals exact bodyPost_ret (v := .tuple #[insV 0 0 0 0 0, .int .i64 10]) (by simp [results, Try.results79, go_sem, hc, hc4, hz, hzz, hz4, hn2, hn3]) rfl ⟨rfl, ((((hw.setCell (Nat.le_refl _) _).setCell (Nat.le_refl _) _).setCell (Nat.le_refl _) _).setCell (Nat.le_refl _) _).setCell (Nat.le_refl _) _⟩
  · have hu : uB (pO y) = false := by unfold uB; simpa using hB
    rw [hu] at CU
    have ix := index2 (uD (pO y)) (uA (pO y)) false (uI (pO y))
    have hM : pB y = 0 := by unfold pB; rw [if_neg hB]
    rw [hM] at C ⊢
    have C4 := Lib.hid (refSignedI (y : Int) 21 (pM y) (by omega) (by omega) (by simpa using (sgn_M y hB).1))
    clear hM hu hB hy b7 b8
    generalize pO y = o at *
    generalize pD y = d at *
    generalize pA y = a at *
    generalize pM y = m at *
    generalize (y : Int) = x at *
    rcases h with ⟨rfl, rfl, rfl⟩ | ⟨rfl, h, rfl⟩ | ⟨rfl, h⟩
    all_goals
      have CE := Lib.hid C
      clear C
      go_enter Try.func79, Try.ntmps79
      go_wp2_with (first | (go_at_call 100; refine (CU.out.at _).mono ?_; rintro e w3 ⟨rfl, hb⟩; obtain ⟨hc, hf⟩ := bcell hb; have hz : w.heap.size + 1 < w3.heap.size := (by have := hb.size; simp at this; omega); have hzz : w.heap.size < w3.heap.size := Nat.lt_of_succ_lt hz) | (go_at_call 101; refine (C4.out _).mono ?_; rintro e w5 ⟨rfl, rfl⟩) | (go_at_call 99; (first | (with_reducible refine (C1.out _).mono ?_) | (with_reducible refine (C2.out _).mono ?_) | (with_reducible refine (C3.out _).mono ?_) ); rintro e w2 ⟨rfl, rfl⟩) | (go_at_call 82; refine (CE.out.at _).mono ?_; rintro e w4 ⟨rfl, hb4⟩; obtain ⟨hc4, hf4⟩ := bcell hb4; have hz4 : w3.heap.size ≤ w4.heap.size := by (have := hb4.size; simpa using this)))
    all_goals
      have hw : Below w.heap.size w w4 := end_three hb (Nat.le_succ _) hb4
      have hn2 : ¬ w.heap.size = w.heap.size + 1 := by omega
      have hn3 : w.heap.size < w.heap.size + 1 + 1 := by omega
    · exact bodyPost_ret (v := .tuple #[insV o d a 0 m, .int .i64 0]) (by simp [results, Try.results79, go_sem, hc, hc4, hz, hzz, hz4, hn2, hn3]) rfl ⟨rfl, ((((hw.setCell (Nat.le_refl _) _).setCell (Nat.le_refl _) _).setCell (Nat.le_refl _) _).setCell (Nat.le_refl _) _).setCell (Nat.le_refl _) _⟩
    all_goals exact bodyPost_ret (v := .tuple #[insV 0 0 0 0 0, .int .i64 10]) (by simp [results, Try.results79, go_sem, hc, hc4, hz, hzz, hz4, hn2, hn3]) rfl ⟨rfl, ((((hw.setCell (Nat.le_refl _) _).setCell (Nat.le_refl _) _).setCell (Nat.le_refl _) _).setCell (Nat.le_refl _) _).setCell (Nat.le_refl _) _⟩
theorem refDecode_any (x : Int) (hx : 0 ≤ x ∧ x ≤ 4294967295) : Says Try.prog 79 #[.int .u32 x] (decV x) := by
  obtain ⟨E, K, h1, h2⟩ := parts_way hx
  refine refDecode_way x E K (hasB x) hx ?_ h2
  rcases h1 with ⟨rfl, h, rfl⟩ | ⟨h, hk, rfl⟩
  · exact refEncode_yes _ _ _ _ _ h
  · exact refEncode_no _ _ _ _ _ _ (part_fit hx) hk h
end Go.Proofs.Ytajidaicojekdaa.IF
