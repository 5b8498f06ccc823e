/-
  Joined texts: NameOne, NameOne2. Nothing here is a statement of the seed.
-/
import Derived.Test.YtleggfofgpiabaaNameFn
import Derived.Laws.BitsAllLaws
import Derived.IntWalk
set_option linter.unusedSimpArgs false
set_option linter.unusedVariables false
/-
  The reference's way to one rune.
-/
namespace Go.Proofs.Ytleggfofgpiabaa.NF
open Go.RowKit NM

theorem ofInt_i64 (a : Nat) (ha : a < 9223372036854775808) : (BitVec.ofInt 64 (a : Int)).toNat = a := by
  rw [BitVec.ofInt_natCast, BitVec.toNat_ofNat]; exact Nat.mod_eq_of_lt (by omega)
theorem i64_and_nat (a b : Nat) (ha : a < 9223372036854775808) (hb : b < 9223372036854775808) : bits .and .i64 (a : Int) (b : Int) = ((a &&& b : Nat) : Int) := by
  have hx : a &&& b < 2 ^ 63 := Nat.and_lt_two_pow _ (by omega)
  show IntKind.i64.wrap ((BitVec.ofInt 64 (a : Int) &&& BitVec.ofInt 64 (b : Int)).toNat : Int) = _
  rw [BitVec.toNat_and, ofInt_i64 a ha, ofInt_i64 b hb, IntKind.wrap_i64]
  omega
theorem i64_or_nat (a b : Nat) (ha : a < 9223372036854775808) (hb : b < 9223372036854775808) : bits .or .i64 (a : Int) (b : Int) = ((a ||| b : Nat) : Int) := by
  have hx : a ||| b < 2 ^ 63 := Nat.or_lt_two_pow (by omega) (by omega)
  show IntKind.i64.wrap ((BitVec.ofInt 64 (a : Int) ||| BitVec.ofInt 64 (b : Int)).toNat : Int) = _
  rw [BitVec.toNat_or, ofInt_i64 a ha, ofInt_i64 b hb, IntKind.wrap_i64]
  omega
theorem low_and (c m : Nat) (M : Int) (k : Nat) (hM : M = (m : Int)) (hm : m = 2 ^ k - 1) (hk : k ≤ 8) (hc : c < 256) : ∃ a : Nat, bits .and .i64 (c : Int) M = (a : Int) ∧ Hid (a = c % 2 ^ k) := by
  subst hM
  have : 2 ^ k ≤ 2 ^ 8 := Nat.pow_le_pow_right (by omega) hk
  refine ⟨c % 2 ^ k, ?_, Lib.hid rfl⟩
  rw [i64_and_nat c m (by omega) (by omega), hm, Nat.and_two_pow_sub_one_eq_mod]
theorem low_and8 (c : Nat) (hc : c < 256) : ∃ a : Nat, bits .and .u8 (c : Int) 63 = (a : Int) ∧ Hid (a = c % 64) := by
  refine ⟨c % 64, ?_, Lib.hid rfl⟩
  rw [show (63 : Int) = ((63 : Nat) : Int) from rfl, u8_and_nat c 63 hc (by omega), nat_mask6]
theorem join_or (x y k : Nat) (X : Int) (hX' : X = (x : Int)) (hx : x % 2 ^ k = 0) (hy : y < 2 ^ k) (hk : k ≤ 20) (hX : x ≤ 4000000) : ∃ j : Nat, bits .or .i64 X (y : Int) = (j : Int) ∧ Hid (j = x + y) := by
  subst hX'
  refine ⟨x + y, ?_, Lib.hid rfl⟩
  have : 2 ^ k ≤ 2 ^ 20 := Nat.pow_le_pow_right (by omega) hk
  rw [i64_or_nat x y (by omega) (by omega), nat_join k x y hx hy]

theorem ret_pair {a b c d : Int} (h : a = b) (h2 : c = d) : Ending.returned (.tuple #[.int .i64 a, .int .i64 c]) = .returned (.tuple #[.int .i64 b, .int .i64 d]) := by rw [h, h2]
def val3 (l : List UInt8) : Nat := bt l 0 % 16 * 4096 + bt l 1 % 64 * 64 + bt l 2 % 64
def val4 (l : List UInt8) : Nat := bt l 0 % 8 * 262144 + bt l 1 % 64 * 4096 + bt l 2 % 64 * 64 + bt l 3 % 64
end Go.Proofs.Ytleggfofgpiabaa.NF

/-
  The reference's way to one rune: the whole.
-/
namespace Go.Proofs.Ytleggfofgpiabaa.NF
open Go.RowKit NM

def loneB (c : Nat) (t1 t2 t3 : Bool) : Prop :=
  c < 194 ∨ 194 ≤ c ∧ c ≤ 223 ∧ t1 = false ∨ 224 ≤ c ∧ c ≤ 239 ∧ t1 = false ∨ 224 ≤ c ∧ c ≤ 239 ∧ t1 = true ∧ t2 = false ∨ 240 ≤ c ∧ c ≤ 244 ∧ t1 = false ∨ 240 ≤ c ∧ c ≤ 244 ∧ t1 = true ∧ t2 = false ∨ 240 ≤ c ∧ c ≤ 244 ∧ t1 = true ∧ t2 = true ∧ t3 = false ∨ 245 ≤ c
theorem bool_no {b : Bool} (h : ¬ b = true) : b = false := by simpa using h
end Go.Proofs.Ytleggfofgpiabaa.NF
