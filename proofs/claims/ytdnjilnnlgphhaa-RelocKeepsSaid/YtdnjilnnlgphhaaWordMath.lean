/-
  Plain facts on numbers for the layer word: parts of words as naturals. Nothing of the program is used.
-/
import Derived.Laws.BitsAllLaws
import Derived.RowKit
set_option linter.unusedSimpArgs false
set_option linter.unusedVariables false
namespace Go.Proofs.Ytdnjilnnlgphhaa.WM
open Go.RowKit

/-- may a part be? -/
def mayB (a n : Int) : Bool := decide (0 ≤ a ∧ 0 ≤ n ∧ a + n ≤ 32)
theorem mayB_true {a n : Int} (h : mayB a n = true) : 0 ≤ a ∧ 0 ≤ n ∧ a + n ≤ 32 := by simpa [mayB] using h
theorem mayB_mk {a n : Int} (h : 0 ≤ a ∧ 0 ≤ n ∧ a + n ≤ 32) : mayB a n = true := by simpa [mayB] using h
theorem mayB_no {a n : Int} (h : ¬ (0 ≤ a ∧ 0 ≤ n ∧ a + n ≤ 32)) : mayB a n = false := by simpa [mayB] using h

/-- the part of w from the bit a on, n bits -/
def cutN (w a n : Nat) : Nat := w / 2 ^ a % 2 ^ n
theorem cutN_lt (w a n : Nat) : cutN w a n < 2 ^ n := Nat.mod_lt _ (Nat.two_pow_pos n)
theorem cutN_zero (w a : Nat) : cutN w a 0 = 0 := by simp [cutN, Nat.mod_one]
theorem cutN_succ (w a n : Nat) : cutN w a (n + 1) = cutN w a n + 2 ^ n * (w / 2 ^ (a + n) % 2) := by
  unfold cutN
  rw [Nat.pow_succ, Nat.mod_mul, Nat.div_div_eq_div_mul, ← Nat.pow_add]
theorem cutN_testBit (w a n i : Nat) : (cutN w a n).testBit i = (decide (i < n) && w.testBit (a + i)) := by
  unfold cutN
  rw [Nat.testBit_mod_two_pow, Nat.testBit_div_two_pow, Nat.add_comm]
theorem bit_eq (w i : Nat) : w / 2 ^ i % 2 = (w.testBit i).toNat := by
  rw [Nat.testBit_eq_decide_div_mod_eq]
  have : w / 2 ^ i % 2 < 2 := Nat.mod_lt _ (by omega)
  by_cases h : w / 2 ^ i % 2 = 1
  · simp [h]
  · have : w / 2 ^ i % 2 = 0 := by omega
    simp [this]

/-- w with the lowest n bits of v in the place from a on -/
def putN (w a n v : Nat) : Nat := (w &&& (4294967295 - (2 ^ n - 1) * 2 ^ a % 4294967296)) ||| ((v * 2 ^ a % 4294967296) &&& ((2 ^ n - 1) * 2 ^ a % 4294967296))

theorem mask_testBit (a n i : Nat) : ((2 ^ n - 1) * 2 ^ a % 4294967296).testBit i = (decide (i < 32) && (decide (a ≤ i) && decide (i < a + n))) := by
  rw [show (4294967296 : Nat) = 2 ^ 32 from rfl, Nat.testBit_mod_two_pow, Nat.testBit_mul_two_pow, Nat.testBit_two_pow_sub_one]
  by_cases h : a ≤ i
  · have e : (i - a < n) ↔ (i < a + n) := by omega
    simp [h, e]
  · simp [h]
theorem notMask_testBit (x i : Nat) (hx : x < 4294967296) : (4294967295 - x).testBit i = (decide (i < 32) && !x.testBit i) := by
  have := Nat.testBit_two_pow_sub_succ (n := 32) hx i
  rw [show 4294967295 - x = 2 ^ 32 - (x + 1) by omega]
  exact this
theorem putN_testBit (w a n v i : Nat) (hw : w < 4294967296) (h : a + n ≤ 32) :
    (putN w a n v).testBit i = if a ≤ i ∧ i < a + n then v.testBit (i - a) else w.testBit i := by
  unfold putN
  have hm : (2 ^ n - 1) * 2 ^ a % 4294967296 < 4294967296 := Nat.mod_lt _ (by omega)
  rw [Nat.testBit_or, Nat.testBit_and, Nat.testBit_and, notMask_testBit _ _ hm, mask_testBit, show (4294967296 : Nat) = 2 ^ 32 from rfl, Nat.testBit_mod_two_pow, Nat.testBit_mul_two_pow]
  by_cases hi : i < 32
  · by_cases h1 : a ≤ i
    · by_cases h2 : i < a + n <;> simp [hi, h1, h2]
    · simp [hi, h1]
  · have hwi : w.testBit i = false := Nat.testBit_lt_two_pow (Nat.lt_of_lt_of_le hw (show 2 ^ 32 ≤ 2 ^ i from Nat.pow_le_pow_right (by omega) (by omega)))
    simp [hi, hwi]; omega
theorem putN_lt (w a n v : Nat) (hw : w < 4294967296) : putN w a n v < 4294967296 := by
  unfold putN
  refine Nat.or_lt_two_pow (n := 32) ?_ ?_
  · exact Nat.lt_of_le_of_lt Nat.and_le_left hw
  · exact Nat.lt_of_le_of_lt Nat.and_le_left (Nat.mod_lt _ (by omega))
theorem pow_le (k : Nat) (h : k ≤ 32) : 2 ^ k ≤ 4294967296 := show 2 ^ k ≤ 2 ^ 32 from Nat.pow_le_pow_right (by omega) h
theorem pow_pos (k : Nat) : 1 ≤ 2 ^ k := Nat.two_pow_pos k
theorem low_eq (k : Nat) (h : k ≤ 32) : ((2 : Int) ^ k % 4294967296 - 1) % 4294967296 = ((2 ^ k - 1 : Nat) : Int) := by
  have h1 := pow_le k h
  have h2 := pow_pos k
  have e : (2 : Int) ^ k = ((2 ^ k : Nat) : Int) := by simp
  rw [e]
  generalize 2 ^ k = p at *
  by_cases hp : p = 4294967296
  · subst hp; rfl
  · omega
theorem low_lt (k : Nat) (h : k ≤ 32) : 2 ^ k - 1 < 4294967296 := by
  have h1 := pow_le k h
  omega
theorem and_low (x k : Nat) : x &&& (2 ^ k - 1) = x % 2 ^ k := Nat.and_two_pow_sub_one_eq_mod x k
theorem cast_shr (x k : Nat) : (x : Int) / 2 ^ k = ((x / 2 ^ k : Nat) : Int) := by simp
theorem and_cut (x k n : Nat) (hx : x < 4294967296) (hn : n ≤ 32) : bits .and .u32 ((x : Int) / 2 ^ k) ((2 ^ n - 1 : Nat) : Int) = ((cutN x k n : Nat) : Int) := by
  have h1 : x / 2 ^ k < 4294967296 := Nat.lt_of_le_of_lt (Nat.div_le_self _ _) hx
  rw [cast_shr, u32_and_nat _ _ h1 (low_lt n hn), and_low]
  rfl
theorem and_bit (x k : Nat) (hx : x < 4294967296) : bits .and .u32 ((x : Int) / 2 ^ k) 1 = ((x / 2 ^ k % 2 : Nat) : Int) := by
  have := and_cut x k 1 hx (by omega)
  simpa [cutN] using this
theorem cutN_le (w a n : Nat) (hw : w < 4294967296) : cutN w a n < 4294967296 := by
  unfold cutN
  exact Nat.lt_of_le_of_lt (Nat.le_trans (Nat.mod_le _ _) (Nat.div_le_self _ _)) hw
theorem cast_shl (x k : Nat) : (x : Int) * 2 ^ k % 4294967296 = ((x * 2 ^ k % 4294967296 : Nat) : Int) := by simp
theorem put_eq (x a n v : Nat) (hx : x < 4294967296) :
    bits .or .u32 (bits .andNot .u32 (x : Int) (((2 ^ n - 1 : Nat) : Int) * 2 ^ a % 4294967296)) (bits .and .u32 ((v : Int) * 2 ^ a % 4294967296) (((2 ^ n - 1 : Nat) : Int) * 2 ^ a % 4294967296)) = ((putN x a n v : Nat) : Int) := by
  have hm : (2 ^ n - 1) * 2 ^ a % 4294967296 < 4294967296 := Nat.mod_lt _ (by omega)
  have hv : v * 2 ^ a % 4294967296 < 4294967296 := Nat.mod_lt _ (by omega)
  rw [cast_shl, cast_shl, u32_andNot_nat _ _ hx hm, u32_and_nat _ _ hv hm, u32_or_nat _ _ (Nat.lt_of_le_of_lt Nat.and_le_left hx) (Nat.lt_of_le_of_lt Nat.and_le_left hv)]
  rfl
/-- the lowest n bits of v, with a sign -/
def sgnI (v n : Nat) : Int := if v / 2 ^ (n - 1) % 2 = 1 then ((v % 2 ^ n : Nat) : Int) - 2 ^ n else ((v % 2 ^ n : Nat) : Int)
def fitB (v : Int) (n : Nat) : Bool := decide (-2 ^ (n - 1) ≤ v ∧ v < 2 ^ (n - 1))
/-- the lowest n bits of a number -/
def cutI (v : Int) (n : Int) : Int := if n < 1 then 0 else if 32 < n then v % 4294967296 else v % 2 ^ n.toNat
theorem width_cases (n : Int) (h : 1 ≤ n ∧ n ≤ 32) : n = 1 ∨ n = 2 ∨ n = 3 ∨ n = 4 ∨ n = 5 ∨ n = 6 ∨ n = 7 ∨ n = 8 ∨ n = 9 ∨ n = 10 ∨ n = 11 ∨ n = 12 ∨ n = 13 ∨ n = 14 ∨ n = 15 ∨ n = 16 ∨ n = 17 ∨ n = 18 ∨ n = 19 ∨ n = 20 ∨ n = 21 ∨ n = 22 ∨ n = 23 ∨ n = 24 ∨ n = 25 ∨ n = 26 ∨ n = 27 ∨ n = 28 ∨ n = 29 ∨ n = 30 ∨ n = 31 ∨ n = 32 := by omega
theorem sgn_eq (x : Nat) (n : Int) (hx : x < 4294967296) (h : 1 ≤ n ∧ n ≤ 32) : wrap32 ((x : Int) * 2 ^ (32 - n).toNat % 4294967296) / 2 ^ (32 - n).toNat = sgnI x n.toNat := by
  unfold wrap32 sgnI
  rcases width_cases n h with rfl | rfl | rfl | rfl | rfl | rfl | rfl | rfl | rfl | rfl | rfl | rfl | rfl | rfl | rfl | rfl | rfl | rfl | rfl | rfl | rfl | rfl | rfl | rfl | rfl | rfl | rfl | rfl | rfl | rfl | rfl | rfl <;> simp <;> split <;> omega
/-- two's complement, as the reference goes about it -/
theorem sgn_ref (x : Nat) (n : Int) (h : 1 ≤ n ∧ n ≤ 32) : -2147483648 ≤ sgnI x n.toNat ∧ sgnI x n.toNat ≤ 2147483647 := by
  unfold sgnI
  rcases width_cases n h with rfl | rfl | rfl | rfl | rfl | rfl | rfl | rfl | rfl | rfl | rfl | rfl | rfl | rfl | rfl | rfl | rfl | rfl | rfl | rfl | rfl | rfl | rfl | rfl | rfl | rfl | rfl | rfl | rfl | rfl | rfl | rfl <;> simp <;> split <;> omega
theorem pow_bd (k : Nat) (h : k ≤ 32) : (1 : Int) ≤ 2 ^ k ∧ (2 : Int) ^ k ≤ 4294967296 := by
  have h1 := pow_le k h
  have h2 := pow_pos k
  have e : (2 : Int) ^ k = ((2 ^ k : Nat) : Int) := by simp
  omega
theorem pow_bd1 (k : Nat) (h : k ≤ 31) : (1 : Int) ≤ 2 ^ k ∧ (2 : Int) ^ k ≤ 2147483648 := by
  have h1 : 2 ^ k ≤ 2147483648 := show 2 ^ k ≤ 2 ^ 31 from Nat.pow_le_pow_right (by omega) h
  have h2 := pow_pos k
  have e : (2 : Int) ^ k = ((2 ^ k : Nat) : Int) := by simp
  omega
theorem cast_low (x : Int) (k : Nat) (h : k ≤ 32) : bits .and .u32 (x % 4294967296) ((2 ^ k - 1 : Nat) : Int) = x % 2 ^ k := by
  obtain ⟨y, hy⟩ := Int.eq_ofNat_of_zero_le (Int.emod_nonneg x (show (4294967296 : Int) ≠ 0 by decide))
  have hy2 : y < 4294967296 := by omega
  rw [hy, u32_and_nat _ _ hy2 (low_lt k h), and_low]
  have e : ((y % 2 ^ k : Nat) : Int) = (y : Int) % 2 ^ k := by simp
  rw [e, ← hy]
  have d : ((2 : Int) ^ k) ∣ 4294967296 := ⟨2 ^ (32 - k), by rw [← Int.pow_add, show k + (32 - k) = 32 by omega]; rfl⟩
  exact Int.emod_emod_of_dvd x d
theorem or_bit (p b k : Nat) (hp : p < 2 ^ k) (hb : b ≤ 1) (hk : k < 32) : bits .or .u32 (p : Int) ((b : Int) * 2 ^ k % 4294967296) = ((p + 2 ^ k * b : Nat) : Int) := by
  have h1 : 2 ^ (k + 1) ≤ 4294967296 := pow_le (k + 1) (by omega)
  rw [Nat.pow_succ] at h1
  have hm : b * 2 ^ k ≤ 2 ^ k := by
    rcases Nat.le_one_iff_eq_zero_or_eq_one.1 hb with rfl | rfl <;> omega
  have hz : b * 2 ^ k % 2 ^ k = 0 := Nat.mul_mod_left _ _
  rw [cast_shl, Nat.mod_eq_of_lt (by omega), u32_or_nat _ _ (by omega) (by omega), Nat.or_comm, nat_join k _ _ hz hp]
  rw [Nat.mul_comm b, Nat.add_comm]
theorem or_bit_of (x p k : Nat) (j : Int) (i : Nat) (hj : j.toNat = i) (hp : p < 2 ^ k) (hk : k < 32) :
    bits .or .u32 (p : Int) ((x : Int) / 2 ^ j.toNat % 2 * 2 ^ k % 4294967296) = ((p + 2 ^ k * (x / 2 ^ i % 2) : Nat) : Int) := by
  have h := or_bit p (x / 2 ^ i % 2) k hp (by have : x / 2 ^ i % 2 < 2 := Nat.mod_lt _ (by omega); omega) hk
  rw [hj]
  simpa using h
theorem cut_step (x : Nat) (a : Int) (k : Nat) (ha : 0 ≤ a) (h : a + k < 32) :
    bits .or .u32 ((cutN x a.toNat k : Nat) : Int) ((x : Int) / 2 ^ (a + (k : Int)).toNat % 2 * 2 ^ k % 4294967296) = ((cutN x a.toNat (k + 1) : Nat) : Int) := by
  rw [or_bit_of x _ k _ (a.toNat + k) (by omega) (cutN_lt _ _ _) (by omega), cutN_succ]
/-- the reference's word, from below: the bits of y, one by one -/
theorem mod_step (y k : Nat) : y % 2 ^ (k + 1) = y % 2 ^ k + 2 ^ k * (y / 2 ^ k % 2) := by
  rw [Nat.pow_succ, Nat.mod_mul]
theorem put_bit_in (x a n v i : Nat) (hx : x < 4294967296) (h : a + n ≤ 32) (hi : a ≤ i ∧ i < a + n) : putN x a n v / 2 ^ i % 2 = v / 2 ^ (i - a) % 2 := by
  rw [bit_eq, bit_eq, putN_testBit x a n v i hx h, if_pos hi]
theorem put_bit_out (x a n v i : Nat) (hx : x < 4294967296) (h : a + n ≤ 32) (hi : ¬ (a ≤ i ∧ i < a + n)) : putN x a n v / 2 ^ i % 2 = x / 2 ^ i % 2 := by
  rw [bit_eq, bit_eq, putN_testBit x a n v i hx h, if_neg hi]
theorem put_step_in (x : Nat) (a n : Int) (v k : Nat) (hx : x < 4294967296) (h : 0 ≤ a ∧ 0 ≤ n ∧ a + n ≤ 32) (hi : a ≤ k ∧ k < a + n) :
    bits .or .u32 ((putN x a.toNat n.toNat v % 2 ^ k : Nat) : Int) ((v : Int) / 2 ^ ((k : Int) - a).toNat % 2 * 2 ^ k % 4294967296) = ((putN x a.toNat n.toNat v % 2 ^ (k + 1) : Nat) : Int) := by
  rw [or_bit_of v _ k _ (k - a.toNat) (by omega) (Nat.mod_lt _ (Nat.two_pow_pos k)) (by omega), mod_step, put_bit_in x _ _ v k hx (by omega) (by omega)]
theorem put_step_out (x : Nat) (a n : Int) (v k : Nat) (hx : x < 4294967296) (h : 0 ≤ a ∧ 0 ≤ n ∧ a + n ≤ 32) (hk : k < 32) (hi : ¬ (a ≤ k ∧ k < a + n)) :
    bits .or .u32 ((putN x a.toNat n.toNat v % 2 ^ k : Nat) : Int) ((x : Int) / 2 ^ k % 2 * 2 ^ k % 4294967296) = ((putN x a.toNat n.toNat v % 2 ^ (k + 1) : Nat) : Int) := by
  have e := or_bit_of x (putN x a.toNat n.toNat v % 2 ^ k) k (k : Int) k (by omega) (Nat.mod_lt _ (Nat.two_pow_pos k)) hk
  rw [mod_step, put_bit_out x _ _ v k hx (by omega) (by omega)]
  simpa using e
theorem cutN_zero_at (x n : Nat) : cutN x 0 n = x % 2 ^ n := by simp [cutN]
theorem sgn_ref1 (x : Nat) (n : Int) (h : 1 ≤ n ∧ n ≤ 32) (hb : ((x : Int) / 2 ^ (n.toNat - 1) % 2 == 1) = true) :
    wrap32 (wrap64 (wrap64 ((cutN x 0 n.toNat : Nat) : Int) - wrap64 (2 ^ n.toNat))) = sgnI x n.toNat := by
  rw [cutN_zero_at]
  unfold wrap32 wrap64 sgnI
  revert hb
  rcases width_cases n h with rfl | rfl | rfl | rfl | rfl | rfl | rfl | rfl | rfl | rfl | rfl | rfl | rfl | rfl | rfl | rfl | rfl | rfl | rfl | rfl | rfl | rfl | rfl | rfl | rfl | rfl | rfl | rfl | rfl | rfl | rfl | rfl <;> simp <;> intro hb <;> split <;> omega
theorem sgn_ref2 (x : Nat) (n : Int) (h : 1 ≤ n ∧ n ≤ 32) (hb : ((x : Int) / 2 ^ (n.toNat - 1) % 2 == 1) = false) :
    wrap32 (wrap64 ((cutN x 0 n.toNat : Nat) : Int)) = sgnI x n.toNat := by
  rw [cutN_zero_at]
  unfold wrap32 wrap64 sgnI
  revert hb
  rcases width_cases n h with rfl | rfl | rfl | rfl | rfl | rfl | rfl | rfl | rfl | rfl | rfl | rfl | rfl | rfl | rfl | rfl | rfl | rfl | rfl | rfl | rfl | rfl | rfl | rfl | rfl | rfl | rfl | rfl | rfl | rfl | rfl | rfl <;> simp <;> intro hb <;> split <;> omega
theorem cut_ref (x n : Int) (h : 1 ≤ n ∧ n ≤ 32) : ((cutN (x % 4294967296).toNat 0 n.toNat : Nat) : Int) = cutI x n := by
  rw [cutN_zero_at]
  unfold cutI
  rw [if_neg (by omega), if_neg (by omega)]
  rcases width_cases n h with rfl | rfl | rfl | rfl | rfl | rfl | rfl | rfl | rfl | rfl | rfl | rfl | rfl | rfl | rfl | rfl | rfl | rfl | rfl | rfl | rfl | rfl | rfl | rfl | rfl | rfl | rfl | rfl | rfl | rfl | rfl | rfl <;> simp <;> omega
theorem cut_ref32 (x n : Int) (h : 32 < n) : ((cutN (x % 4294967296).toNat 0 32 : Nat) : Int) = cutI x n := by
  rw [cutN_zero_at]
  unfold cutI
  rw [if_neg (by omega), if_pos h]
  omega
end Go.Proofs.Ytdnjilnnlgphhaa.WM
