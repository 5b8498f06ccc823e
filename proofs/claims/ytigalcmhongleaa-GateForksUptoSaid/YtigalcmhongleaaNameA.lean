/-
  Joined texts: NameFn, NameN, NameRef, NameRef2, NameO, NameTop. Nothing here is a statement of the seed.
-/
import Derived.Test.YtigalcmhongleaaProg
import Derived.Test.YtigalcmhongleaaNameM
import Derived.WalkKit
import Derived.BigQuiet
import Derived.Deep.QuietTactic
import Derived.Lib.Hide
import Derived.Lib.OthersKept
import Derived.Lib.Strings
import Derived.Laws.BitsAllLaws
import Derived.IntWalk
import Derived.Laws.AppendOwn
import Derived.WalkSpells
import Derived.Deep.LoopGhost
import Derived.Test.YtigalcmhongleaaShelf
set_option linter.unusedSimpArgs false
set_option linter.unusedVariables false
/-
  What the functions of package name tell, and those of the reference for layer 2, call by call: runes, letters, digits. Nothing here is a statement of the seed.
-/
namespace Go.Proofs.Ytigalcmhongleaa.NF
open Go.RowKit NM

theorem ret_bool {a b : Bool} (h : a = b) : Ending.returned (.bool a) = .returned (.bool b) := by rw [h]
theorem ret_int {k : IntKind} {a b : Int} (h : a = b) : Ending.returned (.int k a) = .returned (.int k b) := by rw [h]
theorem byte_at (s : ByteArray) (k : Nat) (h : k < s.size) : ((s[k]'h).toNat : Int) = ((bt s.data.toList k : Nat) : Int) := by
  have e : s.get! k = s[k]'h := by simp [ByteArray.get!, getElem!_pos, h]; rfl
  have g := NM.get_at s k
  rw [e] at g
  exact congrArg Int.ofNat g

theorem isLetter_any (r : Int) (w : World) (hr : -2147483648 ≤ r ∧ r ≤ 2147483647) :
    Calls Try.prog 52 #[.int .i32 r] w fun e w' => e = .returned (.bool (letterB r)) ∧ w = w' := by
  obtain ⟨h1, h2⟩ := hr
  go_enter Try.func52, Try.ntmps52
  go_wp2
  all_goals go_ret
  all_goals refine ⟨ret_bool ?_, rfl⟩
  all_goals unfold letterB
  all_goals rw [Bool.eq_iff_iff]
  all_goals simp
  all_goals omega
theorem isDigit_any (r : Int) (w : World) (hr : -2147483648 ≤ r ∧ r ≤ 2147483647) :
    Calls Try.prog 53 #[.int .i32 r] w fun e w' => e = .returned (.bool (digitB r)) ∧ w = w' := by
  obtain ⟨h1, h2⟩ := hr
  go_enter Try.func53, Try.ntmps53
  go_wp2
  all_goals go_ret
  all_goals refine ⟨ret_bool ?_, rfl⟩
  all_goals unfold digitB
  all_goals rw [Bool.eq_iff_iff]
  all_goals simp
  all_goals omega
theorem refLetter_any (r : Int) (w : World) :
    Calls Try.prog 48 #[.int .i64 r] w fun e w' => e = .returned (.bool (letterB r)) ∧ w = w' := by
  go_enter Try.func48, Try.ntmps48
  go_wp2
  all_goals go_ret
  all_goals refine ⟨ret_bool ?_, rfl⟩
  all_goals unfold letterB
  all_goals rw [Bool.eq_iff_iff]
  all_goals simp
  all_goals omega
theorem refDigit_any (r : Int) (w : World) :
    Calls Try.prog 49 #[.int .i64 r] w fun e w' => e = .returned (.bool (digitB r)) ∧ w = w' := by
  go_enter Try.func49, Try.ntmps49
  go_wp2
  all_goals go_ret
  all_goals refine ⟨ret_bool ?_, rfl⟩
  all_goals unfold digitB
  all_goals rw [Bool.eq_iff_iff]
  all_goals simp
  all_goals omega
theorem and_top (b : Nat) (h : b < 256) : (bits .and .u8 (b : Int) 192 == 128) = (b / 64 == 2) := by
  have H : ∀ b : Fin 256, (bits .and .u8 ((b.val : Nat) : Int) 192 == 128) = (b.val / 64 == 2) := by decide +kernel
  exact H ⟨b, h⟩
theorem more_any (s : ByteArray) (k : Nat) (w : World) (hk : (k : Int) ≤ 4) :
    Calls Try.prog 57 #[.string s, .int .i64 k] w fun e w' => e = .returned (.bool (ct s.data.toList k)) ∧ w = w' := by
  by_cases h : k < s.size
  · have h' : (k : Int) < s.size := by omega
    have hb := byte_at s k h
    have H := Lib.hid (and_top (bt s.data.toList k) (bt_lt _ _))
    go_enter Try.func57, Try.ntmps57
    go_wp2
    go_ret
    exact ⟨ret_bool H.out, rfl⟩
  · have h' : ¬ (k : Int) < s.size := by omega
    have H := Lib.hid (bt_none s.data.toList k (by rw [size_list]; omega))
    go_enter Try.func57, Try.ntmps57
    go_wp2
    go_ret
    exact ⟨ret_bool (by unfold ct; rw [H.out]; rfl), rfl⟩
/-- does s begin with p? -/
def pfx (s p : ByteArray) : Bool := p.data.toList.isPrefixOf s.data.toList
theorem slPrefix_any (s p : ByteArray) (w : World) :
    Calls Try.prog 62 #[.string s, .string p] w fun e w' => e = .returned (.bool (pfx s p)) ∧ w = w' := by
  have E := Lib.hid (Lib.hasPrefix_of_take s.data.toList p.data.toList)
  go_enter Try.func62, Try.ntmps62
  go_wp2
  · rename_i h
    go_ret
    refine ⟨?_, rfl⟩
    show Ending.returned (Value.bool ((s.extract 0 p.size).toList == p.toList)) = _
    have E' := E.out
    unfold Lib.hasPrefix at E'
    unfold pfx
    rw [← E', Lib.extract_toList, Lib.toList_data, ← Lib.size_eq, ← Lib.size_eq]
    simp [h]
  · rename_i h
    go_ret
    refine ⟨?_, rfl⟩
    have E' := E.out
    unfold Lib.hasPrefix at E'
    unfold pfx
    rw [← E', ← Lib.size_eq, ← Lib.size_eq]
    simp [h]
theorem prefix_any (s p : ByteArray) (w : World) :
    Calls Try.prog 56 #[.string s, .string p] w fun e w' => e = .returned (.bool (pfx s p)) ∧ w = w' := by
  go_enter Try.func56, Try.ntmps56
  go_wp2_with (go_at_call 62; refine (slPrefix_any _ _ _).mono ?_; rintro e w' ⟨rfl, rfl⟩)
  go_ret
  exact ⟨rfl, rfl⟩
/-- is a rune that a range tells a wrong one? -/
theorem isWrong_any (s : ByteArray) (r : Int) (w : World) (hr : -2147483648 ≤ r ∧ r ≤ 2147483647) :
    Calls Try.prog 51 #[.string s, .int .i32 r] w fun e w' => e = .returned (.bool ((r == 65533) && !(badText.isPrefixOf s.data.toList))) ∧ w = w' := by
  by_cases h : r = 65533
  · subst h
    have C := Lib.hid (prefix_any s ⟨#[239, 191, 189]⟩ w)
    go_enter Try.func51, Try.ntmps51
    go_wp2_with (go_at_call 56; refine C.out.mono ?_; rintro e w' ⟨rfl, rfl⟩)
    go_ret
    exact ⟨ret_bool rfl, rfl⟩
  · have h' : (r == 65533) = false := by simpa using h
    clear h
    go_enter Try.func51, Try.ntmps51
    go_wp2
    go_ret
    exact ⟨ret_bool (by rw [h']; rfl), rfl⟩
end Go.Proofs.Ytigalcmhongleaa.NF

/-
  Joined texts: NameOne, NameOne2. Nothing here is a statement of the seed.
-/
/-
  The reference's way to one rune.
-/
namespace Go.Proofs.Ytigalcmhongleaa.NF
open Go.RowKit NM

theorem ofInt_i64 (a : Nat) (ha : a < 9223372036854775808) : (BitVec.ofInt 64 (a : Int)).toNat = a := by
  rw [BitVec.ofInt_natCast, BitVec.toNat_ofNat]; exact Nat.mod_eq_of_lt (by omega)
theorem i64_and_nat (a b : Nat) (ha : a < 9223372036854775808) (hb : b < 9223372036854775808) : bits .and .i64 (a : Int) (b : Int) = ((a &&& b : Nat) : Int) := by
  have hx : a &&& b < 2 ^ 63 := Nat.and_lt_two_pow _ (by omega)
  show IntKind.i64.wrap ((BitVec.ofInt 64 (a : Int) &&& BitVec.ofInt 64 (b : Int)).toNat : Int) = _
  rw [BitVec.toNat_and, ofInt_i64 a ha, ofInt_i64 b hb, IntKind.wrap_i64]
  omega
theorem i64_or_nat (a b : Nat) (ha : a < 9223372036854775808) (hb : b < 9223372036854775808) : bits .or .i64 (a : Int) (b : Int) = ((a ||| b : Nat) : Int) := by
  have hx : a ||| b < 2 ^ 63 := Nat.or_lt_two_pow (by omega) (by omega)
  show IntKind.i64.wrap ((BitVec.ofInt 64 (a : Int) ||| BitVec.ofInt 64 (b : Int)).toNat : Int) = _
  rw [BitVec.toNat_or, ofInt_i64 a ha, ofInt_i64 b hb, IntKind.wrap_i64]
  omega
theorem low_and (c m : Nat) (M : Int) (k : Nat) (hM : M = (m : Int)) (hm : m = 2 ^ k - 1) (hk : k ≤ 8) (hc : c < 256) : ∃ a : Nat, bits .and .i64 (c : Int) M = (a : Int) ∧ Hid (a = c % 2 ^ k) := by
  subst hM
  have : 2 ^ k ≤ 2 ^ 8 := Nat.pow_le_pow_right (by omega) hk
  refine ⟨c % 2 ^ k, ?_, Lib.hid rfl⟩
  rw [i64_and_nat c m (by omega) (by omega), hm, Nat.and_two_pow_sub_one_eq_mod]
theorem low_and8 (c : Nat) (hc : c < 256) : ∃ a : Nat, bits .and .u8 (c : Int) 63 = (a : Int) ∧ Hid (a = c % 64) := by
  refine ⟨c % 64, ?_, Lib.hid rfl⟩
  rw [show (63 : Int) = ((63 : Nat) : Int) from rfl, u8_and_nat c 63 hc (by omega), nat_mask6]
theorem join_or (x y k : Nat) (X : Int) (hX' : X = (x : Int)) (hx : x % 2 ^ k = 0) (hy : y < 2 ^ k) (hk : k ≤ 20) (hX : x ≤ 4000000) : ∃ j : Nat, bits .or .i64 X (y : Int) = (j : Int) ∧ Hid (j = x + y) := by
  subst hX'
  refine ⟨x + y, ?_, Lib.hid rfl⟩
  have : 2 ^ k ≤ 2 ^ 20 := Nat.pow_le_pow_right (by omega) hk
  rw [i64_or_nat x y (by omega) (by omega), nat_join k x y hx hy]

theorem one_1 (s : ByteArray) (w : World) (hs : 0 < s.size) (h : bt s.data.toList 0 < 128) :
    Calls Try.prog 54 #[.string s] w fun e w' => e = .returned (.tuple #[.int .i64 (bt s.data.toList 0 : Nat), .int .i64 1]) ∧ ∃ n, w' = w.drewN n := by
  have hb := byte_at s 0 hs
  have h' : ((bt s.data.toList 0 : Nat) : Int) < 128 := by omega
  go_enter Try.func54, Try.ntmps54
  go_wp2
  go_ret2
  exact ⟨rfl, 0, rfl⟩
theorem more_at (s : ByteArray) (k : Nat) (K : Int) (hK : K = (k : Int)) (b : Bool) (hc : ct s.data.toList k = b) (hk : k ≤ 4) : Hid (∀ w, Calls Try.prog 57 #[.string s, .int .i64 K] w fun e w' => e = .returned (.bool b) ∧ w = w') := by
  subst hK
  intro w
  have h := more_any s k w (by omega)
  rw [hc] at h
  exact h
theorem ret_pair {a b c d : Int} (h : a = b) (h2 : c = d) : Ending.returned (.tuple #[.int .i64 a, .int .i64 c]) = .returned (.tuple #[.int .i64 b, .int .i64 d]) := by rw [h, h2]
theorem one_2 (s : ByteArray) (w : World) (hs : 0 < s.size) (h1 : 194 ≤ bt s.data.toList 0) (h2 : bt s.data.toList 0 ≤ 223) (hc : ct s.data.toList 1 = true) :
    Calls Try.prog 54 #[.string s] w fun e w' => e = .returned (.tuple #[.int .i64 (bt s.data.toList 0 % 32 * 64 + bt s.data.toList 1 % 64 : Nat), .int .i64 2]) ∧ ∃ n, w' = w.drewN n := by
  have hl := ct_lt hc
  rw [size_list] at hl
  have hb := byte_at s 0 hs
  have hb1 := byte_at s 1 hl
  have hlt1 := bt_lt s.data.toList 1
  have C := more_at s 1 1 rfl true hc (by omega)
  clear hc
  generalize bt s.data.toList 0 = c at *
  generalize bt s.data.toList 1 = c1 at *
  have k0 : ¬ (c : Int) < 128 := by omega
  have k1 : 194 ≤ (c : Int) := by omega
  have k2 : (c : Int) ≤ 223 := by omega
  have hl' : (1 : Int) < s.size := by omega
  obtain ⟨a, ha, Ha⟩ := low_and c 31 31 5 rfl rfl (by omega) (by omega)
  obtain ⟨b, hb', Hb⟩ := low_and8 c1 hlt1
  have a1 : a < 32 := by have := Ha.out; omega
  have b1 : b < 64 := by have := Hb.out; omega
  obtain ⟨j, hj, Hj⟩ := join_or (a * 64) b 6 ((a : Int) * 64) (by omega) (by omega) (by omega) (by omega) (by omega)
  go_enter Try.func54, Try.ntmps54
  go_wp2_with (go_at_call 57; refine (C.out _).mono ?_; rintro e w' ⟨rfl, rfl⟩)
  go_ret2
  exact ⟨ret_pair (by rw [Hj.out, Ha.out, Hb.out]) rfl, 0, rfl⟩
def val3 (l : List UInt8) : Nat := bt l 0 % 16 * 4096 + bt l 1 % 64 * 64 + bt l 2 % 64
set_option maxRecDepth 100000 in
theorem one_3 (s : ByteArray) (w : World) (hs : 0 < s.size) (h1 : 224 ≤ bt s.data.toList 0) (h2 : bt s.data.toList 0 ≤ 239) (hc : ct s.data.toList 1 = true) (hc2 : ct s.data.toList 2 = true) (J R K : Int) (hJ : J = (val3 s.data.toList : Nat))
    (h : R = J ∧ K = 3 ∧ (2048 ≤ J ∧ J < 55296 ∨ 57343 < J) ∨ R = -1 ∧ K = 1 ∧ (J < 2048 ∨ 55296 ≤ J ∧ J ≤ 57343)) :
    Calls Try.prog 54 #[.string s] w fun e w' => e = .returned (.tuple #[.int .i64 R, .int .i64 K]) ∧ ∃ n, w' = w.drewN n := by
  have hl := ct_lt hc2
  rw [size_list] at hl
  have hb := byte_at s 0 hs
  have hb1 := byte_at s 1 (by omega)
  have hb2 := byte_at s 2 hl
  have hlt1 := bt_lt s.data.toList 1
  have hlt2 := bt_lt s.data.toList 2
  have C := more_at s 1 1 rfl true hc (by omega)
  have C2 := more_at s 2 2 rfl true hc2 (by omega)
  clear hc hc2
  unfold val3 at *
  generalize bt s.data.toList 0 = c at *
  generalize bt s.data.toList 1 = c1 at *
  generalize bt s.data.toList 2 = c2 at *
  have k0 : ¬ (c : Int) < 128 := by omega
  have k1 : 194 ≤ (c : Int) := by omega
  have k2 : ¬ (c : Int) ≤ 223 := by omega
  have k3 : 224 ≤ (c : Int) := by omega
  have k4 : (c : Int) ≤ 239 := by omega
  have hl' : (1 : Int) < s.size := by omega
  have hl2' : (2 : Int) < s.size := by omega
  obtain ⟨a, ha, Ha⟩ := low_and c 15 15 4 rfl rfl (by omega) (by omega)
  obtain ⟨b, hb', Hb⟩ := low_and8 c1 hlt1
  obtain ⟨d, hd', Hd⟩ := low_and8 c2 hlt2
  have a1 : a < 16 := by have := Ha.out; omega
  have b1 : b < 64 := by have := Hb.out; omega
  have d1 : d < 64 := by have := Hd.out; omega
  obtain ⟨i, hi, Hi⟩ := join_or (a * 4096) (b * 64) 12 ((a : Int) * 4096) (by omega) (by omega) (by omega) (by omega) (by omega)
  obtain ⟨j, hj, Hj⟩ := join_or i d 6 (i : Int) rfl (by rw [Hi.out]; omega) (by omega) (by omega) (by rw [Hi.out]; omega)
  have hj1 : j = c % 16 * 4096 + c1 % 64 * 64 + c2 % 64 := by rw [Hj.out, Hi.out, Ha.out, Hb.out, Hd.out]
  have q1 : IntKind.i64.wrap ((a : Int) * 4096) = (a : Int) * 4096 := IntWalk.i64_in _ (by omega)
  have q2 : IntKind.i64.wrap ((b : Int) * 64) = (b : Int) * 64 := IntWalk.i64_in _ (by omega)
  rw [← hj1] at hJ
  have hi' : bits .or .i64 ((a : Int) * 4096) ((b : Int) * 64) = (i : Int) := by rw [← hi]; congr 1
  rw [← hJ] at hj
  clear hi hj1 hJ Hj Hi Ha Hb Hd
  rcases h with ⟨rfl, rfl, ⟨g1, g2⟩ | g1⟩ | ⟨rfl, rfl, g1 | ⟨g1, g2⟩⟩
  all_goals
    go_enter Try.func54, Try.ntmps54
    go_wp2_with (go_at_call 57; first | (with_reducible refine (C.out _).mono ?_; rintro e w' ⟨rfl, rfl⟩) | (with_reducible refine (C2.out _).mono ?_; rintro e w' ⟨rfl, rfl⟩))
    go_quiet (fail)
    go_wp2
    go_ret2
    exact ⟨ret_pair rfl rfl, _, rfl⟩
def val4 (l : List UInt8) : Nat := bt l 0 % 8 * 262144 + bt l 1 % 64 * 4096 + bt l 2 % 64 * 64 + bt l 3 % 64
set_option maxRecDepth 100000 in
theorem one_4 (s : ByteArray) (w : World) (hs : 0 < s.size) (h1 : 240 ≤ bt s.data.toList 0) (h2 : bt s.data.toList 0 ≤ 244) (hc : ct s.data.toList 1 = true) (hc2 : ct s.data.toList 2 = true) (hc3 : ct s.data.toList 3 = true) (J R K : Int) (hJ : J = (val4 s.data.toList : Nat))
    (h : R = J ∧ K = 4 ∧ 65536 ≤ J ∧ J ≤ 1114111 ∨ R = -1 ∧ K = 1 ∧ (J < 65536 ∨ 1114111 < J)) :
    Calls Try.prog 54 #[.string s] w fun e w' => e = .returned (.tuple #[.int .i64 R, .int .i64 K]) ∧ ∃ n, w' = w.drewN n := by
  have hl := ct_lt hc3
  rw [size_list] at hl
  have hb := byte_at s 0 hs
  have hb1 := byte_at s 1 (by omega)
  have hb2 := byte_at s 2 (by omega)
  have hb3 := byte_at s 3 hl
  have hlt1 := bt_lt s.data.toList 1
  have hlt2 := bt_lt s.data.toList 2
  have hlt3 := bt_lt s.data.toList 3
  have C := more_at s 1 1 rfl true hc (by omega)
  have C2 := more_at s 2 2 rfl true hc2 (by omega)
  have C3 := more_at s 3 3 rfl true hc3 (by omega)
  clear hc hc2 hc3
  unfold val4 at *
  generalize bt s.data.toList 0 = c at *
  generalize bt s.data.toList 1 = c1 at *
  generalize bt s.data.toList 2 = c2 at *
  generalize bt s.data.toList 3 = c3 at *
  have k0 : ¬ (c : Int) < 128 := by omega
  have k1 : 194 ≤ (c : Int) := by omega
  have k2 : ¬ (c : Int) ≤ 223 := by omega
  have k3 : 224 ≤ (c : Int) := by omega
  have k4 : ¬ (c : Int) ≤ 239 := by omega
  have k5 : 240 ≤ (c : Int) := by omega
  have k6 : (c : Int) ≤ 244 := by omega
  have hl' : (1 : Int) < s.size := by omega
  have hl2' : (2 : Int) < s.size := by omega
  have hl3' : (3 : Int) < s.size := by omega
  obtain ⟨a, ha, Ha⟩ := low_and c 7 7 3 rfl rfl (by omega) (by omega)
  obtain ⟨b, hb', Hb⟩ := low_and8 c1 hlt1
  obtain ⟨d, hd', Hd⟩ := low_and8 c2 hlt2
  obtain ⟨g, hg', Hg⟩ := low_and8 c3 hlt3
  have a1 : a < 8 := by have := Ha.out; omega
  have b1 : b < 64 := by have := Hb.out; omega
  have d1 : d < 64 := by have := Hd.out; omega
  have g1 : g < 64 := by have := Hg.out; omega
  obtain ⟨i, hi, Hi⟩ := join_or (a * 262144) (b * 4096) 18 ((a : Int) * 262144) (by omega) (by omega) (by omega) (by omega) (by omega)
  obtain ⟨m, hm, Hm⟩ := join_or i (d * 64) 12 (i : Int) rfl (by rw [Hi.out]; omega) (by omega) (by omega) (by rw [Hi.out]; omega)
  obtain ⟨j, hj, Hj⟩ := join_or m g 6 (m : Int) rfl (by rw [Hm.out, Hi.out]; omega) (by omega) (by omega) (by rw [Hm.out, Hi.out]; omega)
  have hj1 : j = c % 8 * 262144 + c1 % 64 * 4096 + c2 % 64 * 64 + c3 % 64 := by rw [Hj.out, Hm.out, Hi.out, Ha.out, Hb.out, Hd.out, Hg.out]
  have q1 : IntKind.i64.wrap ((a : Int) * 262144) = (a : Int) * 262144 := IntWalk.i64_in _ (by omega)
  have q2 : IntKind.i64.wrap ((b : Int) * 4096) = (b : Int) * 4096 := IntWalk.i64_in _ (by omega)
  have q3 : IntKind.i64.wrap ((d : Int) * 64) = (d : Int) * 64 := IntWalk.i64_in _ (by omega)
  rw [← hj1] at hJ
  have hi' : bits .or .i64 ((a : Int) * 262144) ((b : Int) * 4096) = (i : Int) := by rw [← hi]; congr 1
  have hm' : bits .or .i64 (i : Int) ((d : Int) * 64) = (m : Int) := by rw [← hm]; congr 1
  rw [← hJ] at hj
  clear hi hm hj1 hJ Hj Hm Hi Ha Hb Hd Hg
  rcases h with ⟨rfl, rfl, p1, p2⟩ | ⟨rfl, rfl, p1 | p1⟩
  all_goals
    go_enter Try.func54, Try.ntmps54
    go_wp2_with (go_at_call 57; first | (with_reducible refine (C.out _).mono ?_; rintro e w' ⟨rfl, rfl⟩) | (with_reducible refine (C2.out _).mono ?_; rintro e w' ⟨rfl, rfl⟩) | (with_reducible refine (C3.out _).mono ?_; rintro e w' ⟨rfl, rfl⟩))
    go_quiet (fail)
    go_wp2
    go_ret2
    exact ⟨ret_pair rfl rfl, _, rfl⟩
end Go.Proofs.Ytigalcmhongleaa.NF

/-
  The reference's way to one rune: the whole.
-/
namespace Go.Proofs.Ytigalcmhongleaa.NF
open Go.RowKit NM

def loneB (c : Nat) (t1 t2 t3 : Bool) : Prop :=
  c < 194 ∨ 194 ≤ c ∧ c ≤ 223 ∧ t1 = false ∨ 224 ≤ c ∧ c ≤ 239 ∧ t1 = false ∨ 224 ≤ c ∧ c ≤ 239 ∧ t1 = true ∧ t2 = false ∨ 240 ≤ c ∧ c ≤ 244 ∧ t1 = false ∨ 240 ≤ c ∧ c ≤ 244 ∧ t1 = true ∧ t2 = false ∨ 240 ≤ c ∧ c ≤ 244 ∧ t1 = true ∧ t2 = true ∧ t3 = false ∨ 245 ≤ c
set_option maxRecDepth 100000 in
set_option maxHeartbeats 2000000 in
theorem one_no (s : ByteArray) (c : Nat) (t1 t2 t3 : Bool) (w : World) (hs : 0 < s.size) (e0 : bt s.data.toList 0 = c) (e1 : ct s.data.toList 1 = t1) (e2 : ct s.data.toList 2 = t2) (e3 : ct s.data.toList 3 = t3) (h128 : 128 ≤ c)
    (h : loneB c t1 t2 t3) :
    Calls Try.prog 54 #[.string s] w fun e w' => e = .returned (.tuple #[.int .i64 (-1), .int .i64 1]) ∧ ∃ n, w' = w.drewN n := by
  have hb := byte_at s 0 hs
  have hlt := bt_lt s.data.toList 0
  rw [e0] at hb hlt
  clear e0
  have C := more_at s 1 1 rfl t1 e1 (by omega)
  have C2 := more_at s 2 2 rfl t2 e2 (by omega)
  have C3 := more_at s 3 3 rfl t3 e3 (by omega)
  clear e1 e2 e3
  have k0 : 128 ≤ (c : Int) := by omega
  have kk : (c : Int) < 256 := by omega
  unfold loneB at h
  rcases h with h | ⟨h1, h2, rfl⟩ | ⟨h1, h2, rfl⟩ | ⟨h1, h2, rfl, rfl⟩ | ⟨h1, h2, rfl⟩ | ⟨h1, h2, rfl, rfl⟩ | ⟨h1, h2, rfl, rfl, rfl⟩ | h
  · have k1 : (c : Int) < 194 := by omega
    go_enter Try.func54, Try.ntmps54
    go_wp2_with fail
    go_ret2
    exact ⟨rfl, 0, rfl⟩
  · have k1 : 194 ≤ (c : Int) := by omega
    have k2 : (c : Int) ≤ 223 := by omega
    go_enter Try.func54, Try.ntmps54
    go_wp2_with (go_at_call 57; first | (with_reducible refine (C.out _).mono ?_; rintro e w' ⟨rfl, rfl⟩))
    go_ret2
    exact ⟨rfl, 0, rfl⟩
  · have k1 : 224 ≤ (c : Int) := by omega
    have k2 : (c : Int) ≤ 239 := by omega
    go_enter Try.func54, Try.ntmps54
    go_wp2_with (go_at_call 57; first | (with_reducible refine (C.out _).mono ?_; rintro e w' ⟨rfl, rfl⟩))
    go_ret2
    exact ⟨rfl, 0, rfl⟩
  · have k1 : 224 ≤ (c : Int) := by omega
    have k2 : (c : Int) ≤ 239 := by omega
    go_enter Try.func54, Try.ntmps54
    go_wp2_with (go_at_call 57; first | (with_reducible refine (C.out _).mono ?_; rintro e w' ⟨rfl, rfl⟩) | (with_reducible refine (C2.out _).mono ?_; rintro e w' ⟨rfl, rfl⟩))
    go_ret2
    exact ⟨rfl, 0, rfl⟩
  · have k1 : 240 ≤ (c : Int) := by omega
    have k2 : (c : Int) ≤ 244 := by omega
    go_enter Try.func54, Try.ntmps54
    go_wp2_with (go_at_call 57; first | (with_reducible refine (C.out _).mono ?_; rintro e w' ⟨rfl, rfl⟩))
    go_ret2
    exact ⟨rfl, 0, rfl⟩
  · have k1 : 240 ≤ (c : Int) := by omega
    have k2 : (c : Int) ≤ 244 := by omega
    go_enter Try.func54, Try.ntmps54
    go_wp2_with (go_at_call 57; first | (with_reducible refine (C.out _).mono ?_; rintro e w' ⟨rfl, rfl⟩) | (with_reducible refine (C2.out _).mono ?_; rintro e w' ⟨rfl, rfl⟩))
    go_ret2
    exact ⟨rfl, 0, rfl⟩
  · have k1 : 240 ≤ (c : Int) := by omega
    have k2 : (c : Int) ≤ 244 := by omega
    go_enter Try.func54, Try.ntmps54
    go_wp2_with (go_at_call 57; first | (with_reducible refine (C.out _).mono ?_; rintro e w' ⟨rfl, rfl⟩) | (with_reducible refine (C2.out _).mono ?_; rintro e w' ⟨rfl, rfl⟩) | (with_reducible refine (C3.out _).mono ?_; rintro e w' ⟨rfl, rfl⟩))
    go_ret2
    exact ⟨rfl, 0, rfl⟩
  · have k1 : 245 ≤ (c : Int) := by omega
    go_enter Try.func54, Try.ntmps54
    go_wp2_with fail
    go_ret2
    exact ⟨rfl, 0, rfl⟩
theorem bool_no {b : Bool} (h : ¬ b = true) : b = false := by simpa using h
theorem one_any (s : ByteArray) (w : World) (hs : 0 < s.size) :
    Calls Try.prog 54 #[.string s] w fun e w' => e = .returned (.tuple #[.int .i64 (dec s.data.toList).1, .int .i64 ((dec s.data.toList).2 : Nat)]) ∧ ∃ n, w' = w.drewN n := by
  have hlt := bt_lt s.data.toList 0
  by_cases h0 : bt s.data.toList 0 < 128
  · have e : dec s.data.toList = (((bt s.data.toList 0 : Nat) : Int), 1) := by unfold dec; rw [if_pos h0]
    rw [e]
    exact one_1 s w hs h0
  have N : loneB (bt s.data.toList 0) (ct s.data.toList 1) (ct s.data.toList 2) (ct s.data.toList 3) → dec s.data.toList = (-1, 1) →
      Calls Try.prog 54 #[.string s] w fun e w' => e = .returned (.tuple #[.int .i64 (dec s.data.toList).1, .int .i64 ((dec s.data.toList).2 : Nat)]) ∧ ∃ n, w' = w.drewN n := fun h e => by
    rw [e]
    exact one_no s _ _ _ _ w hs rfl rfl rfl rfl (by omega) h
  by_cases c1 : bt s.data.toList 0 / 32 = 6 ∧ ct s.data.toList 1 = true
  · by_cases hv : 194 ≤ bt s.data.toList 0
    · have e : dec s.data.toList = (((bt s.data.toList 0 % 32 * 64 + bt s.data.toList 1 % 64 : Nat) : Int), 2) := by
        unfold dec; rw [if_neg h0, if_pos c1, if_pos (by omega)]
      rw [e]
      exact one_2 s w hs hv (by omega) c1.2
    · refine N (by unfold loneB; omega) ?_
      unfold dec; rw [if_neg h0, if_pos c1, if_neg (by omega)]
  by_cases c2 : bt s.data.toList 0 / 16 = 14 ∧ ct s.data.toList 1 = true ∧ ct s.data.toList 2 = true
  · have h3 := one_3 s w hs (by omega) (by omega) c2.2.1 c2.2.2 _ (dec s.data.toList).1 ((dec s.data.toList).2 : Nat) rfl
    apply h3
    unfold val3 dec
    rw [if_neg h0, if_neg c1, if_pos c2]
    split
    · refine .inl ⟨rfl, rfl, ?_⟩; omega
    · refine .inr ⟨rfl, rfl, ?_⟩; omega
  by_cases c3 : bt s.data.toList 0 / 8 = 30 ∧ ct s.data.toList 1 = true ∧ ct s.data.toList 2 = true ∧ ct s.data.toList 3 = true
  · by_cases hv : bt s.data.toList 0 ≤ 244
    · have h4 := one_4 s w hs (by omega) hv c3.2.1 c3.2.2.1 c3.2.2.2 _ (dec s.data.toList).1 ((dec s.data.toList).2 : Nat) rfl
      apply h4
      unfold val4 dec
      rw [if_neg h0, if_neg c1, if_neg c2, if_pos c3]
      split
      · refine .inl ⟨rfl, rfl, ?_, ?_⟩ <;> omega
      · refine .inr ⟨rfl, rfl, ?_⟩; omega
    · refine N (by unfold loneB; omega) ?_
      unfold dec; rw [if_neg h0, if_neg c1, if_neg c2, if_pos c3, if_neg (by omega)]
  · refine N ?_ (by unfold dec; rw [if_neg h0, if_neg c1, if_neg c2, if_neg c3])
    generalize bt s.data.toList 0 = c at *
    generalize ct s.data.toList 1 = t1 at *
    generalize ct s.data.toList 2 = t2 at *
    generalize ct s.data.toList 3 = t3 at *
    clear N
    unfold loneB
    cases t1 <;> cases t2 <;> cases t3 <;> simp at c1 c2 c3 ⊢ <;> omega
end Go.Proofs.Ytigalcmhongleaa.NF

/-
  The reference for layer 2: the runes of a text as a list, stems, versions, what stands about the @.
-/
namespace Go.Proofs.Ytigalcmhongleaa.NF
open Go.RowKit NM

theorem below_drewN {B : Nat} {a w : World} (h : Below B a w) (n : Nat) : Below B a (w.drewN n) := ⟨h.os, h.tape, h.output, h.size, h.block⟩
def Blk (w : World) (g : Nat) (t : TypeId) (cs : Array Value) : Prop := w.heap[g]? = some (.cells cs t (0, 0))
theorem Blk.cell {w : World} {g : Nat} {t : TypeId} {cs : Array Value} (h : Blk w g t cs) (i : Nat) : w.cell? ⟨g, i, none⟩ = cs[i]? := cell_of_row w g i cs t (0, 0) h
theorem Blk.new (w : World) (t : TypeId) (cs : Array Value) : Blk (w.alloc (.cells cs t)) w.heap.size t cs := heap_alloc_new w _
theorem infoInt : (Try.prog.info? 3).map (fun i => (i.zero, i.size, i.bytes)) = some (some (.int .i64 0), 1, 8) := by kernel_rfl
def strLen : Value → Nat
  | .string s => s.size
  | _ => 0
def ints (xs : List Int) : List Value := xs.map (Value.int .i64)
/-- a call told a list of numbers of its own -/
def IsList (B : Nat) (xs : List Int) (w : World) (e : Ending) (w' : World) : Prop :=
  ∃ v, e = .returned v ∧ w'.ownsRow B 3 1 v xs.length (ints xs) ∧ Below B w w'
theorem bs_step (s : ByteArray) (k : Nat) : (s.extract k s.size).data.toList = s.data.toList.drop k := by rw [extract_from]; rfl

theorem refList_any (s : ByteArray) (w : World) (hs : s.size ≤ 2097152) :
    Calls Try.prog 47 #[.string s] w (IsList w.heap.size (runes s.data.toList) w) := by
  obtain ⟨i0, hi, hz0, hz1, hz2⟩ := info_parts infoInt
  have HS := Lib.hid hs
  clear hs
  go_enter Try.func47, Try.ntmps47
  go_wp2_with fail
  go_loopw [0, 3] (fun a v wr => ∃ (t : ByteArray) (xs : List Int) (q : Value), a = .string t ∧ q = v ∧ wr.ownsRow w.heap.size 3 1 q xs.length (ints xs) ∧ Below w.heap.size w wr ∧ Hid (xs ++ runes t.data.toList = runes s.data.toList) ∧ Hid (xs.length + t.size ≤ s.size)) (fun a _ _ => strLen a)
  case atStart => exact ⟨s, [], _, rfl, rfl, World.ownsRow_nil _ _ _ _, Below.refl _ _, by show _ = _; rfl, by show _ ≤ _; simp⟩
  case round =>
    obtain ⟨t, xs, q, rfl, rfl, hown, hw, HX, HL⟩ := hrel
    by_cases hlt : 0 < t.size
    · have hlt' : (0 : Int) < t.size := by omega
      have hwd := width_at t.data.toList 0 (by rw [size_list]; omega)
      rw [List.drop_zero, size_list] at hwd
      obtain ⟨hwd1, hwd2, hwd3⟩ := hwd
      have ST := Lib.hid (runes_at t.data.toList 0 (by rw [size_list]; omega))
      have hn8 : (xs.length + 1) * 8 ≤ 140737488355328 := by have := HL.out; have := HS.out; omega
      have hnm : xs.length + 1 ≤ maxLen := by unfold maxLen; omega
      obtain ⟨r, Hr⟩ : ∃ r, Hid (r = (dec t.data.toList).1) := ⟨_, Lib.hid rfl⟩
      obtain ⟨k, hk⟩ : ∃ k, k = (dec t.data.toList).2 := ⟨_, rfl⟩
      have C0 : Calls Try.prog 54 #[.string t] wr fun e w' => e = .returned (.tuple #[.int .i64 r, .int .i64 (k : Nat)]) ∧ w'.ownsRow w.heap.size 3 1 q xs.length (ints xs) ∧ Below w.heap.size w w' :=
        (one_any t wr hlt).mono fun e w' ⟨he, m, hm⟩ => by subst hm; exact ⟨by rw [he, Hr.out, hk], hown, below_drewN hw m⟩
      have C := Lib.hid C0
      clear C0 hown hw
      rw [← hk] at hwd1 hwd2 hwd3
      have Hk := Lib.hid hk
      clear hk
      have hk0 : (0 : Int) ≤ (k : Int) := by omega
      have hk1 : (k : Int) ≤ (t.size : Int) := by omega
      go_wp2_with (first | (go_at_call 54; refine C.out.mono ?_; rintro e W1 ⟨rfl, hown, hw⟩) | (at_builtin; refine wpList_append_own _ rfl _ _ 80 rfl w.heap.size 3 i0 (.int .i64 0) 1 8 Try.underlying80 hi hz0 hz1 hz2 rfl (by decide) _ _ _ rfl (hown.alloc _) ⟨W1.heap.size, 0, none⟩ 1 1 [.int .i64 r] rfl rfl ?c1 ?c2 hnm hn8 ?c5 ?_))
      case c1 =>
        intro j u hu
        cases j with
        | zero => simp at hu; subst hu; exact (Blk.new _ _ _).cell 0
        | succ j => simp at hu
      case c2 => intro u hu; simp at hu; subst hu; rfl
      case c5 => have := hw.size; simp; omega
      intro v' w1 hown1 hgrow _
      go_wp2_with fail
      go_roundw
      case rel =>
        refine ⟨_, xs ++ [r], _, rfl, rfl, ?_, ?_, ?_, ?_⟩
        · simpa [ints] using hown1
        · exact (hw.alloc hw.size _).grown hgrow (Nat.le_trans hw.size (by simp)) (fun g hg => (hown.lt g hg).1)
        · show _ = _
          have := ST.out
          simp only [List.drop_zero, Nat.zero_add] at this
          rw [bs_step, ← HX.out, this, Hr.out, Hk.out]
          simp
        · show _ ≤ _
          have := HL.out
          rw [extract_from, bs_size, List.length_drop, size_list]
          simp
          omega
      case measure =>
        simp only [strLen]
        rw [extract_from, bs_size, List.length_drop, size_list]
        omega
    · have hn : ¬ (0 : Int) < t.size := by omega
      go_wp2_with fail
      go_ret
      have ht : t.data.toList = [] := List.length_eq_zero_iff.1 (by rw [size_list]; omega)
      have e := HX.out
      rw [ht, runes_nil, List.append_nil] at e
      exact ⟨_, rfl, by rw [← e]; exact hown, hw⟩

theorem refRunes_any (s : ByteArray) (w : World) (hs : s.size ≤ 2097152) :
    Calls Try.prog 43 #[.string s] w fun e w' => e = .returned (.int .i64 ((runes s.data.toList).length : Nat)) ∧ Below w.heap.size w w' := by
  have C0 : Calls Try.prog 47 #[.string s] w fun e w' => ∃ b c, e = .returned (.slice b (runes s.data.toList).length c) ∧ Below w.heap.size w w' :=
    (refList_any s w hs).mono fun e w' ⟨v, he, hown, hb⟩ => by
      subst he
      rcases hown.2 with ⟨rfl, h0⟩ | ⟨g, cap, cur, rfl, hg, hcell, hcap, hcm, hsz, hcur⟩
      · exact ⟨none, 0, by rw [h0], hb⟩
      · exact ⟨_, _, rfl, hb⟩
  have C := Lib.hid C0
  clear C0
  go_enter Try.func43, Try.ntmps43
  go_wp2_with (go_at_call 47; refine C.out.mono ?_; rintro e w' ⟨b, c, rfl, hb⟩)
  go_ret
  exact ⟨rfl, hb⟩
theorem stem_step (xs : List Int) (k : Nat) (h : k < xs.length) : (xs.drop k).all bodyB = (bodyB (xs.getD k 0) && (xs.drop (k + 1)).all bodyB) := by
  rw [List.drop_eq_getElem_cons h, List.all_cons, List.getD_eq_getElem?_getD, List.getElem?_eq_getElem h]
  rfl
theorem ints_at (xs : List Int) (k : Nat) (h : k < xs.length) : (ints xs)[k]? = some (.int .i64 (xs.getD k 0)) := by
  unfold ints
  rw [List.getElem?_map, List.getD_eq_getElem?_getD, List.getElem?_eq_getElem h]
  rfl
theorem refStem_any (s : ByteArray) (w : World) (hs : s.size ≤ 2097152) :
    Calls Try.prog 41 #[.string s] w fun e w' => e = .returned (.bool (stemL (runes s.data.toList))) ∧ Below w.heap.size w w' := by
  have C := Lib.hid (refList_any s w hs)
  generalize runes s.data.toList = xs at C
  clear hs
  go_enter Try.func41, Try.ntmps41
  go_wp2_with fail
  refine C.out.mono ?_
  rintro e w1 ⟨v, rfl, hown, hb⟩
  rcases hown.2 with ⟨rfl, h0⟩ | ⟨g, cap, cur, rfl, hg, hcell, hcap, hcm, hsz, hcur⟩
  · have hx : xs = [] := List.length_eq_zero_iff.1 h0
    subst hx
    go_wp2
    go_ret
    exact ⟨rfl, hb⟩
  · by_cases h0 : xs = []
    · subst h0
      go_wp2
      go_ret
      exact ⟨rfl, hb⟩
    · have hpos : 0 < xs.length := List.length_pos_iff.2 h0
      have c0 := (hown.cellAt 0 (by omega)).trans (ints_at xs 0 hpos)
      have HC := Lib.hid (fun (k : Nat) (hk : k < xs.length) => (hown.cellAt k (by omega)).trans (ints_at xs k hk))
      have SS := Lib.hid (fun (k : Nat) (hk : k < xs.length) => stem_step xs k hk)
      have E0 : Hid (stemL xs = (letterB (xs.getD 0 0) && (xs.drop 1).all bodyB)) := by
        cases xs with
        | nil => exact absurd rfl h0
        | cons x t => rfl
      have E1 : Hid (∀ k, xs.length ≤ k → (xs.drop k).all bodyB = true) := fun k hk => by rw [List.drop_eq_nil_of_le hk]; rfl
      clear h0 hown hcell hsz hcur
      unfold maxLen at hcm
      generalize hn : xs.length = n at *
      clear hn
      obtain ⟨S, HXS⟩ : ∃ S, Hid (stemL xs = S) := ⟨_, Lib.hid rfl⟩
      rw [HXS.out] at E0
      have hpos' : (0 : Int) < n := by omega
      have hn0 : ((n : Int) == 0) = false := by simp; omega
      have L0 := Lib.hid (refLetter_any (xs.getD 0 0) w1)
      by_cases hl : letterB (xs.getD 0 0) = true
      · rw [hl] at L0 E0
        clear hl
        go_wp2_with (first | (go_at_call 48; refine L0.out.mono ?_; rintro e w' ⟨rfl, rfl⟩))
        clear c0
        go_loop [4] (fun i => ∃ k : Nat, k ≤ n ∧ i = .int .i64 k ∧ Hid (S = (xs.drop k).all bodyB)) (fun i => n - (intOf i).toNat)
        case atStart => exact ⟨1, by omega, rfl, E0.out.trans (Bool.true_and _)⟩
        case round =>
          obtain ⟨k, hk, rfl, HK⟩ := hrel
          by_cases hlt : k < n
          · have hlt' : (k : Int) < n := by omega
            have ck := HC.out k hlt
            have K := HK.out
            rw [SS.out k hlt] at K
            clear HK
            generalize xs.getD k 0 = x at *
            have D := Lib.hid (refDigit_any x w1)
            have L := Lib.hid (refLetter_any x w1)
            have HK := Lib.hid K
            clear K
            have kn : (k : Int) ≤ 9223372036854775806 := by omega
            cases hbl : letterB x with
            | true =>
              rw [hbl] at L
              have K2 : Hid (S = (xs.drop (k + 1)).all bodyB) := by have := HK.out; rw [show bodyB x = true by unfold bodyB; rw [hbl]; rfl, Bool.true_and] at this; exact this
              clear hbl
              go_wp2_with (first | (go_at_call 48; refine L.out.mono ?_; rintro e w' ⟨rfl, rfl⟩))
              go_roundw
              case rel => exact ⟨k + 1, by omega, by go_num, K2⟩
              case measure => simp [intOf]; omega
            | false =>
              rw [hbl] at L
              cases hbd : digitB x with
              | true =>
                rw [hbd] at D
                have K2 : Hid (S = (xs.drop (k + 1)).all bodyB) := by have := HK.out; rw [show bodyB x = true by unfold bodyB; rw [hbl, hbd]; rfl, Bool.true_and] at this; exact this
                clear hbl hbd
                go_wp2_with (first | (go_at_call 48; refine L.out.mono ?_; rintro e w' ⟨rfl, rfl⟩) | (go_at_call 49; refine D.out.mono ?_; rintro e w' ⟨rfl, rfl⟩))
                go_roundw
                case rel => exact ⟨k + 1, by omega, by go_num, K2⟩
                case measure => simp [intOf]; omega
              | false =>
                rw [hbd] at D
                by_cases h95 : x = 95
                · have K2 : Hid (S = (xs.drop (k + 1)).all bodyB) := by have := HK.out; rw [show bodyB x = true by unfold bodyB; simp [h95], Bool.true_and] at this; exact this
                  clear hbl hbd
                  have h95' : (x != 95) = false := by simp [h95]
                  clear h95
                  go_wp2_with (first | (go_at_call 48; refine L.out.mono ?_; rintro e w' ⟨rfl, rfl⟩) | (go_at_call 49; refine D.out.mono ?_; rintro e w' ⟨rfl, rfl⟩))
                  go_roundw
                  case rel => exact ⟨k + 1, by omega, by go_num, K2⟩
                  case measure => simp [intOf]; omega
                · have K2 : Hid (S = false) := by have := HK.out; rw [show bodyB x = false by unfold bodyB; rw [hbl, hbd]; simpa using h95, Bool.false_and] at this; exact this
                  clear hbl hbd
                  have h95' : (x != 95) = true := by simpa using h95
                  clear h95
                  go_wp2_with (first | (go_at_call 48; refine L.out.mono ?_; rintro e w' ⟨rfl, rfl⟩) | (go_at_call 49; refine D.out.mono ?_; rintro e w' ⟨rfl, rfl⟩))
                  go_ret
                  exact ⟨by rw [HXS.out, K2.out]; rfl, hb⟩
          · have hnlt : ¬ (k : Int) < n := by omega
            have K2 : Hid (S = true) := HK.out.trans (E1.out k (by omega))
            go_wp2
            go_ret
            exact ⟨by rw [HXS.out, K2.out]; rfl, hb⟩
      · rw [show letterB (xs.getD 0 0) = false by simpa using hl] at L0 E0
        clear hl
        go_wp2_with (first | (go_at_call 48; refine L0.out.mono ?_; rintro e w' ⟨rfl, rfl⟩))
        go_ret
        exact ⟨by rw [HXS.out, E0.out]; rfl, hb⟩
end Go.Proofs.Ytigalcmhongleaa.NF

/-
  The reference for layer 2: versions, what stands about the @, names.
-/
namespace Go.Proofs.Ytigalcmhongleaa.NF
open Go.RowKit NM

theorem drop_bt (l : List UInt8) (k : Nat) (h : k < l.length) : ∃ c : UInt8, l.drop k = c :: l.drop (k + 1) ∧ c.toNat = bt l k := by
  refine ⟨l[k], List.drop_eq_getElem_cons h, ?_⟩
  unfold bt
  rw [List.getD_eq_getElem?_getD, List.getElem?_eq_getElem h]
  rfl
theorem verG_at (l : List UInt8) (k v : Nat) (h : k < l.length) : verG v (l.drop k) = if 48 ≤ bt l k ∧ bt l k ≤ 57 then verG (10 * v + (bt l k - 48)) (l.drop (k + 1)) else 0 := by
  obtain ⟨c, e, hc⟩ := drop_bt l k h
  rw [e, ← hc]
  rfl
theorem verG_end (l : List UInt8) (k v : Nat) (h : ¬ k < l.length) : verG v (l.drop k) = v := by
  rw [List.drop_eq_nil_of_le (by omega)]; rfl
theorem refVersion_any (s : ByteArray) (w : World) (hs : s.size ≤ 9223372036854775807) :
    Calls Try.prog 42 #[.string s] w fun e w' => e = .returned (.int .i64 (ver s.data.toList : Nat)) ∧ w = w' := by
  have HV := Lib.hid (ver_ref s.data.toList)
  by_cases h1 : s.size = 0
  · have E : Hid (ver s.data.toList = 0) := by
      show _ = _
      rw [ver_ref]
      unfold verR
      rw [if_pos (by rw [size_list]; omega)]
    have h1' : (s.size : Int) < 1 := by omega
    clear h1
    go_enter Try.func42, Try.ntmps42
    go_wp2_with fail
    go_ret
    exact ⟨ret_int (by rw [E.out]; rfl), rfl⟩
  · by_cases h3 : 3 < s.size
    · have E : Hid (ver s.data.toList = 0) := by
        show _ = _
        rw [ver_ref]
        unfold verR
        rw [if_pos (by rw [size_list]; omega)]
      have h1' : 1 ≤ (s.size : Int) := by omega
      have h3' : 3 < (s.size : Int) := by omega
      clear h1 h3
      go_enter Try.func42, Try.ntmps42
      go_wp2_with fail
      go_ret
      exact ⟨ret_int (by rw [E.out]; rfl), rfl⟩
    · have h1' : 1 ≤ (s.size : Int) := by omega
      have h3' : (s.size : Int) ≤ 3 := by omega
      have hz : 0 < s.size := by omega
      have hz' : (0 : Int) < s.size := by omega
      have hb := byte_at s 0 hz
      by_cases h48 : bt s.data.toList 0 = 48
      · have E : Hid (ver s.data.toList = 0) := by
          show _ = _
          rw [ver_ref]
          unfold verR
          rw [if_pos (by omega)]
        have h48' : (((bt s.data.toList 0 : Nat) : Int) == 48) = true := by simp [h48]
        clear h1 h3 h48
        go_enter Try.func42, Try.ntmps42
        go_wp2_with fail
        go_ret
        exact ⟨ret_int (by rw [E.out]; rfl), rfl⟩
      · have E : Hid (ver s.data.toList = verG 0 s.data.toList) := by
          show _ = _
          rw [ver_ref]
          unfold verR
          rw [if_neg (by rw [size_list]; omega)]
        have h48' : (((bt s.data.toList 0 : Nat) : Int) == 48) = false := by simp; omega
        clear h1 h48
        go_enter Try.func42, Try.ntmps42
        go_wp2_with fail
        clear hb h48'
        go_loop [3, 4] (fun a i => ∃ k v : Nat, k ≤ s.size ∧ i = .int .i64 k ∧ a = .int .i64 v ∧ Hid (v < 10 ^ k) ∧ Hid (verG v (s.data.toList.drop k) = verG 0 s.data.toList)) (fun _ i => s.size - (intOf i).toNat)
        case atStart => exact ⟨0, 0, by omega, rfl, rfl, by show _ < _; simp, by show _ = _; rfl⟩
        case round =>
          obtain ⟨k, v, hk, rfl, rfl, HB, HG⟩ := hrel
          by_cases hlt : k < s.size
          · have hlt' : (k : Int) < s.size := by omega
            have hb := byte_at s k hlt
            have hb256 := bt_lt s.data.toList k
            have hv : v ≤ 99 := by
              have h2 := HB.out
              have : 10 ^ k ≤ 10 ^ 2 := Nat.pow_le_pow_right (by omega) (by omega)
              omega
            have S := HG.out
            rw [verG_at _ _ _ (by rw [size_list]; exact hlt)] at S
            have HB2 : Hid (bt s.data.toList k ≤ 57 → 10 * v + (bt s.data.toList k - 48) < 10 ^ (k + 1)) := fun h => by have := HB.out; rw [Nat.pow_succ]; omega
            generalize bt s.data.toList k = b at *
            have HS := Lib.hid S
            clear S HG
            have D := Lib.hid (refDigit_any b w)
            by_cases hd : 48 ≤ b ∧ b ≤ 57
            · have hdb : digitB b = true := by unfold digitB; simp; omega
              rw [hdb] at D
              clear hdb
              obtain ⟨hd1, hd2⟩ := hd
              have K : Hid (verG (10 * v + (b - 48)) (s.data.toList.drop (k + 1)) = verG 0 s.data.toList) := by have := HS.out; rwa [if_pos ⟨hd1, hd2⟩] at this
              have hd1' : (48 : Int) ≤ b := by omega
              have hd2' : (b : Int) ≤ 57 := by omega
              go_wp2_with (first | (go_at_call 49; refine D.out.mono ?_; rintro e w' ⟨rfl, rfl⟩))
              go_roundw
              case rel => exact ⟨k + 1, 10 * v + (b - 48), by omega, by go_num, by go_num, HB2.out hd2, K⟩
              case measure => simp [intOf]; omega
            · have hdb : digitB b = false := by unfold digitB; simp; omega
              rw [hdb] at D
              clear hdb
              have K : Hid (0 = verG 0 s.data.toList) := by have := HS.out; rwa [if_neg hd] at this
              clear hd
              go_wp2_with (first | (go_at_call 49; refine D.out.mono ?_; rintro e w' ⟨rfl, rfl⟩))
              go_ret
              exact ⟨ret_int (by rw [E.out, ← K.out]; rfl), rfl⟩
          · have hn : ¬ (k : Int) < s.size := by omega
            have K := HG.out
            rw [verG_end _ _ _ (by rw [size_list]; exact hlt)] at K
            have HK := Lib.hid K
            clear K
            go_wp2_with fail
            go_ret
            exact ⟨ret_int (by rw [E.out, ← HK.out]), rfl⟩
theorem pre_here (l : List UInt8) (k : Nat) (h : k < l.length) (hp : k ≤ (pre l).length) (hb : bt l k = 64) : (pre l).length = k ∧ hasAt l = true := by
  have ha : hasAt l = true := by
    cases ha : hasAt l with
    | true => rfl
    | false =>
      exfalso
      obtain ⟨c, e, hc⟩ := drop_bt l k h
      have hm : c ∈ l := List.mem_of_mem_drop (i := k) (by rw [e]; exact List.mem_cons_self)
      have e64 : c = 64 := UInt8.toNat_inj.1 (by rw [hc, hb]; rfl)
      unfold hasAt at ha
      subst e64
      have : l.contains 64 = true := List.contains_iff_mem.2 hm
      rw [ha] at this
      cases this
  refine ⟨?_, ha⟩
  rcases Nat.lt_or_ge k (pre l).length with h' | h'
  · exfalso
    have e := take_pre l
    have h1 : bt (pre l) k = bt l k := by
      have e3 : (l.take (pre l).length)[k]? = l[k]? := by rw [List.getElem?_take, if_pos h']
      rw [e] at e3
      unfold bt
      rw [List.getD_eq_getElem?_getD, List.getD_eq_getElem?_getD, e3]
    obtain ⟨c, e2, hc⟩ := drop_bt (pre l) k h'
    have hm : c ∈ pre l := List.mem_of_mem_drop (i := k) (by rw [e2]; exact List.mem_cons_self)
    have e64 : c = 64 := UInt8.toNat_inj.1 (by rw [hc, h1, hb]; rfl)
    have h3 := pre_hasAt l
    unfold hasAt at h3
    subst e64
    have : (pre l).contains 64 = true := List.contains_iff_mem.2 hm
    rw [h3] at this
    cases this
  · omega
theorem pre_next (l : List UInt8) (k : Nat) (h : k < l.length) (hp : k ≤ (pre l).length) (hb : bt l k ≠ 64) : k + 1 ≤ (pre l).length := by
  rcases Nat.lt_or_ge k (pre l).length with h' | h'
  · exact h'
  · exfalso
    have ek : (pre l).length = k := by omega
    have e := pre_eq l
    cases ha : hasAt l with
    | true =>
      rw [if_pos ha] at e
      apply hb
      have : bt (pre l ++ 64 :: post l) (pre l).length = 64 := by
        unfold bt
        rw [List.getD_eq_getElem?_getD, List.getElem?_append_right (Nat.le_refl _)]
        simp
      rwa [← e, ek] at this
    | false =>
      rw [(pre_none l ha).1] at ek
      omega
theorem pre_all (l : List UInt8) (hp : l.length ≤ (pre l).length) : hasAt l = false := by
  cases ha : hasAt l with
  | true => have := pre_len l ha; omega
  | false => rfl
theorem refParts_yes (s : ByteArray) (w : World) (hs : s.size ≤ 9223372036854775807) (h : hasAt s.data.toList = true) :
    Calls Try.prog 40 #[.string s] w fun e w' => e = .returned (.tuple #[.string (bs (pre s.data.toList)), .string (bs (post s.data.toList)), .bool true]) ∧ ∃ n, w' = w.drewN n := by
  have H := Lib.hid h
  clear h
  go_enter Try.func40, Try.ntmps40
  go_wp2_with fail
  go_loop [5] (fun i => ∃ k : Nat, k ≤ s.size ∧ i = .int .i64 k ∧ Hid (k ≤ (pre s.data.toList).length)) (fun i => s.size - (intOf i).toNat)
  case atStart => exact ⟨0, by omega, rfl, Nat.zero_le _⟩
  case round =>
    obtain ⟨k, hk, rfl, HP⟩ := hrel
    by_cases hlt : k < s.size
    · have hlt' : (k : Int) < s.size := by omega
      have hb := byte_at s k hlt
      have k0 : (0 : Int) ≤ k := by omega
      have k1 : (k : Int) ≤ s.size := by omega
      by_cases h64 : bt s.data.toList k = 64
      · have h64' : (((bt s.data.toList k : Nat) : Int) == 64) = true := by simp [h64]
        have P := pre_here _ k (by rw [size_list]; exact hlt) HP.out h64
        have E1 := extract_pre s
        have E2 := extract_post s H.out
        rw [P.1] at E1 E2
        have HE1 := Lib.hid E1
        have HE2 := Lib.hid E2
        have q1 : IntKind.i64.wrap ((k : Int) + 1) = (k : Int) + 1 := IntWalk.i64_in _ (by omega)
        have q2 : (0 : Int) ≤ (k : Int) + 1 := by omega
        have q3 : (k : Int) + 1 ≤ s.size := by omega
        have q4 : ((k : Int) + 1).toNat = k + 1 := by omega
        clear E1 E2 h64 P
        go_wp2_with fail
        go_quiet (fail)
        clear q1 q2 q3 q4
        go_wp2
        exact bodyPost_ret (v := .tuple #[.string (s.extract 0 k), .string (s.extract (k + 1) s.size), .bool true]) (by simp [results, Try.results40, go_sem]) rfl ⟨by rw [HE1.out, HE2.out], _, rfl⟩
      · have h64' : (((bt s.data.toList k : Nat) : Int) == 64) = false := by simp; omega
        have P := Lib.hid (pre_next _ k (by rw [size_list]; exact hlt) HP.out h64)
        clear h64
        go_wp2_with fail
        go_roundw
        case rel => exact ⟨k + 1, by omega, by go_num, P.out⟩
        case measure => simp [intOf]; omega
    · exfalso
      have := pre_all s.data.toList (by rw [size_list]; have := HP.out; omega)
      rw [H.out] at this
      cases this
theorem refParts_no (s : ByteArray) (w : World) (hs : s.size ≤ 9223372036854775807) (h : hasAt s.data.toList = false) :
    Calls Try.prog 40 #[.string s] w fun e w' => e = .returned (.tuple #[.string s, .string (bs []), .bool false]) ∧ ∃ n, w' = w.drewN n := by
  have H := Lib.hid h
  clear h
  go_enter Try.func40, Try.ntmps40
  go_wp2_with fail
  go_loop [5] (fun i => ∃ k : Nat, k ≤ s.size ∧ i = .int .i64 k ∧ Hid (k ≤ (pre s.data.toList).length)) (fun i => s.size - (intOf i).toNat)
  case atStart => exact ⟨0, by omega, rfl, Nat.zero_le _⟩
  case round =>
    obtain ⟨k, hk, rfl, HP⟩ := hrel
    by_cases hlt : k < s.size
    · have hlt' : (k : Int) < s.size := by omega
      have hb := byte_at s k hlt
      by_cases h64 : bt s.data.toList k = 64
      · exfalso
        have P := pre_here _ k (by rw [size_list]; exact hlt) HP.out h64
        rw [H.out] at P
        cases P.2
      · have h64' : (((bt s.data.toList k : Nat) : Int) == 64) = false := by simp; omega
        have P := Lib.hid (pre_next _ k (by rw [size_list]; exact hlt) HP.out h64)
        clear h64
        go_wp2_with fail
        go_roundw
        case rel => exact ⟨k + 1, by omega, by go_num, P.out⟩
        case measure => simp [intOf]; omega
    · have hn : ¬ (k : Int) < s.size := by omega
      go_wp2_with fail
      exact bodyPost_ret (v := .tuple #[.string s, .string (bs []), .bool false]) (by simp [results, Try.results40, go_sem, bs]) rfl ⟨rfl, 0, rfl⟩
end Go.Proofs.Ytigalcmhongleaa.NF

/-
  Joined texts: NameOwn, NameOwn2. Nothing here is a statement of the seed.
-/
/-
  Package name, call by call: runes, stems, versions.
-/
namespace Go.Proofs.Ytigalcmhongleaa.NF
open Go.RowKit NM

theorem iterPos_of {w : World} {k : Nat} {s : ByteArray} {p : Nat} (h : w.heap[k]? = some (.stringIter s p)) : w.iterPos k = p := by simp [World.iterPos, h]
/-- what a range tells of the rune at a place -/
theorem next_at {P : Program} (w : World) (k : Nat) (s : ByteArray) (p : Nat) (hit : w.heap[k]? = some (.stringIter s p)) (hp : p < s.size) : ∀ ty, (Instr.next (.pointer (some ⟨k, 0, none⟩)) true ty).run P w =
    .ok (.tuple #[.bool true, .int .i64 p, .int .i32 (told (dec (s.data.toList.drop p)).1)]) (w.iterAt k s (p + (dec (s.data.toList.drop p)).2)) := fun ty => by
  rw [Lib.run_next_any_at w k s p ty hit hp, (decode_dec s p).1, (decode_dec s p).2]
theorem told_bd (l : List UInt8) : 0 ≤ told (dec l).1 ∧ told (dec l).1 ≤ 1114111 := by
  have hb := bt_lt l 0
  rcases dec_kind l with ⟨h1, h2⟩ | ⟨h1, ⟨h2, _⟩ | ⟨h2, h3⟩⟩
  · rw [h2]; unfold told; split <;> simp at * <;> omega
  · rw [h2]; unfold told; simp
  · unfold told; split <;> omega
theorem nameRunes_any (s : ByteArray) (w : World) (hs : s.size ≤ 9223372036854775807) :
    Calls Try.prog 34 #[.string s] w fun e w' => e = .returned (.int .i64 ((runes s.data.toList).length : Nat)) ∧ Below w.heap.size w w' := by
  go_enter Try.func34, Try.ntmps34
  go_wp2_with fail
  go_loopw [3] (fun a wr => ∃ p n : Nat, a = .int .i64 n ∧ wr.heap[w.heap.size]? = some (.stringIter s p) ∧ Below w.heap.size w wr ∧ n ≤ p ∧ p ≤ s.size ∧ Hid (n + (runes (s.data.toList.drop p)).length = (runes s.data.toList).length)) (fun _ wr => s.size - wr.iterPos w.heap.size)
  case atStart => exact ⟨0, 0, rfl, World.iter_heap w s 0, (Below.refl _ _).alloc (Nat.le_refl _) _, by omega, by omega, by show _ = _; simp⟩
  case round =>
    obtain ⟨p, n, rfl, hit, hbw, hnp, hps, HR⟩ := hrel
    have hpos0 := iterPos_of hit
    by_cases hp : p < s.size
    · have hnx := next_at (P := Try.prog) wr w.heap.size s p hit hp
      have hwd := width_at s.data.toList p (by rw [size_list]; exact hp)
      rw [size_list] at hwd
      have RS := runes_at s.data.toList p (by rw [size_list]; exact hp)
      generalize (dec (s.data.toList.drop p)).2 = k at *
      generalize (dec (s.data.toList.drop p)).1 = r at *
      have HR2 : Hid (n + 1 + (runes (s.data.toList.drop (p + k))).length = (runes s.data.toList).length) := by
        show _ = _
        rw [← HR.out, RS]
        simp
        omega
      clear RS HR
      have hit2 := Lib.iterAt_heap wr w.heap.size s p (p + k) hit
      have hbw2 := Lib.below_iterAt hbw (k := w.heap.size) (Nat.le_refl _) s (p + k)
      obtain ⟨W1, hW1⟩ : ∃ W1, W1 = wr.iterAt w.heap.size s (p + k) := ⟨_, rfl⟩
      rw [← hW1] at hnx hit2 hbw2
      clear hW1 hit hbw
      obtain ⟨hwd1, hwd2, hwd3⟩ := hwd
      go_wp2_with fail
      go_roundw
      case rel => exact ⟨p + k, n + 1, by go_num, hit2, hbw2, by omega, by omega, HR2⟩
      case measure => rw [iterPos_of hit2, hpos0]; omega
    · have hnx := fun ty => Lib.run_next_end_at (P := Try.prog) wr w.heap.size s p ty hit hp
      have HE := Lib.hid (runes_end s.data.toList p (by rw [size_list]; exact hp))
      clear hit
      go_wp2_with fail
      go_ret
      exact ⟨ret_int (by rw [← HR.out, HE.out]; simp), hbw⟩

/-- how far a stem has been gone over -/
def stemAt (l : List UInt8) (p : Nat) : Prop := p = 0 ∨ 0 < p ∧ stemL (runes l) = (runes (l.drop p)).all bodyB
def okAt (p : Nat) (d : Int) : Bool := if p = 0 then letterB d else bodyB d
theorem stemAt_yes (l : List UInt8) (p k : Nat) (d : Int) (h : stemAt l p) (hr : runes (l.drop p) = d :: runes (l.drop (p + k))) (hk : 1 ≤ k) (ho : okAt p d = true) : stemAt l (p + k) := by
  refine .inr ⟨by omega, ?_⟩
  unfold okAt at ho
  rcases h with rfl | ⟨hp, he⟩
  · rw [List.drop_zero] at hr
    rw [hr, if_pos rfl] at *
    simp only [stemL]
    rw [ho, Bool.true_and]
  · rw [if_neg (by omega)] at ho
    rw [he, hr, List.all_cons, ho, Bool.true_and]
theorem stemAt_no (l : List UInt8) (p k : Nat) (d : Int) (h : stemAt l p) (hr : runes (l.drop p) = d :: runes (l.drop (p + k))) (ho : okAt p d = false) : stemL (runes l) = false := by
  unfold okAt at ho
  rcases h with rfl | ⟨hp, he⟩
  · rw [List.drop_zero] at hr
    rw [hr, if_pos rfl] at *
    simp only [stemL]
    rw [ho, Bool.false_and]
  · rw [if_neg (by omega)] at ho
    rw [he, hr, List.all_cons, ho, Bool.false_and]
theorem stemAt_end (l : List UInt8) (p : Nat) (h : stemAt l p) (hq : p ≤ l.length) (hp : ¬ p < l.length) : stemL (runes l) = decide (0 < l.length) := by
  rcases h with rfl | ⟨h0, he⟩
  · have : l = [] := List.length_eq_zero_iff.1 (by omega)
    subst this
    rfl
  · rw [he, runes_end l p hp]
    cases l with
    | nil => simp at hq; omega
    | cons c t => simp
theorem wrong_yes (s : ByteArray) (p : Nat) (h : (dec (s.data.toList.drop p)).1 = -1) : ((told (dec (s.data.toList.drop p)).1 == 65533) && !(badText.isPrefixOf (s.extract p s.size).data.toList)) = true := by
  have ht : told (dec (s.data.toList.drop p)).1 = 65533 := by rw [h]; rfl
  rw [ht, bs_step, (bad_iff _ ht).2 h]
  rfl
theorem wrong_no (s : ByteArray) (p : Nat) (h : (dec (s.data.toList.drop p)).1 ≠ -1) : ((told (dec (s.data.toList.drop p)).1 == 65533) && !(badText.isPrefixOf (s.extract p s.size).data.toList)) = false := by
  by_cases ht : told (dec (s.data.toList.drop p)).1 = 65533
  · have : badText.isPrefixOf (s.data.toList.drop p) = true := by
      cases hb : badText.isPrefixOf (s.data.toList.drop p) with
      | true => rfl
      | false => exact absurd ((bad_iff _ ht).1 hb) h
    rw [bs_step, this]
    simp
  · have : (told (dec (s.data.toList.drop p)).1 == 65533) = false := by simpa using ht
    rw [this, Bool.false_and]
theorem told_right (l : List UInt8) (h : (dec l).1 ≠ -1) : told (dec l).1 = (dec l).1 := by
  rcases dec_kind l with ⟨h1, h2⟩ | ⟨h1, ⟨h2, _⟩ | ⟨h2, h3⟩⟩
  · rw [h2]; unfold told; rw [if_neg (by simp)]
  · exact absurd h2 h
  · unfold told; rw [if_neg (by omega)]
theorem isStem_any (s : ByteArray) (w : World) (hs : s.size ≤ 9223372036854775807) :
    Calls Try.prog 45 #[.string s] w fun e w' => e = .returned (.bool (stemL (runes s.data.toList))) ∧ Below w.heap.size w w' := by
  go_enter Try.func45, Try.ntmps45
  go_wp2_with fail
  go_loopw [3, 4] (fun _ _ wr => ∃ p : Nat, wr.heap[w.heap.size]? = some (.stringIter s p) ∧ Below w.heap.size w wr ∧ p ≤ s.size ∧ Hid (stemAt s.data.toList p)) (fun _ _ wr => s.size - wr.iterPos w.heap.size)
  case atStart => exact ⟨0, World.iter_heap w s 0, (Below.refl _ _).alloc (Nat.le_refl _) _, by omega, .inl rfl⟩
  case round =>
    obtain ⟨p, hit, hbw, hps, HR⟩ := hrel
    have hpos0 := iterPos_of hit
    by_cases hp : p < s.size
    · have hnx := next_at (P := Try.prog) wr w.heap.size s p hit hp
      have hwd := width_at s.data.toList p (by rw [size_list]; exact hp)
      rw [size_list] at hwd
      have RS := runes_at s.data.toList p (by rw [size_list]; exact hp)
      have hbd := told_bd (s.data.toList.drop p)
      have k0 : (0 : Int) ≤ p := by omega
      have k1 : (p : Int) ≤ s.size := by omega
      have hit2 := Lib.iterAt_heap wr w.heap.size s p (p + (dec (s.data.toList.drop p)).2) hit
      have hbw2 := Lib.below_iterAt hbw (k := w.heap.size) (Nat.le_refl _) s (p + (dec (s.data.toList.drop p)).2)
      obtain ⟨W1, hW1⟩ : ∃ W1, W1 = wr.iterAt w.heap.size s (p + (dec (s.data.toList.drop p)).2) := ⟨_, rfl⟩
      rw [← hW1] at hnx hit2 hbw2
      clear hW1 hit hbw
      have CW := Lib.hid (isWrong_any (s.extract p s.size) (told (dec (s.data.toList.drop p)).1) W1 (by omega))
      obtain ⟨hwd1, hwd2, hwd3⟩ := hwd
      by_cases hd : (dec (s.data.toList.drop p)).1 = -1
      · rw [wrong_yes s p hd] at CW
        have N : Hid (stemL (runes s.data.toList) = false) := stemAt_no _ p _ _ HR.out RS (by rw [hd]; unfold okAt; split <;> rfl)
        clear RS hd
        generalize (dec (s.data.toList.drop p)).2 = k at *
        generalize told (dec (s.data.toList.drop p)).1 = r at *
        go_wp2_with (first | (go_at_call 51; refine CW.out.mono ?_; rintro e w' ⟨rfl, rfl⟩))
        go_ret
        exact ⟨ret_bool N.out.symm, hbw2⟩
      · rw [wrong_no s p hd] at CW
        rw [told_right _ hd] at *
        have Yes := Lib.hid (fun ho => stemAt_yes _ p _ _ HR.out RS hwd1 ho)
        have No := Lib.hid (fun ho => stemAt_no _ p _ _ HR.out RS ho)
        clear RS hd
        generalize (dec (s.data.toList.drop p)).2 = k at *
        generalize (dec (s.data.toList.drop p)).1 = r at *
        have L := Lib.hid (isLetter_any r W1 (by omega))
        have D := Lib.hid (isDigit_any r W1 (by omega))
        cases hl : letterB r with
        | true =>
          rw [hl] at L
          have K := Lib.hid (Yes.out (by unfold okAt; split <;> simp [hl, bodyB]))
          clear hl
          go_wp2_with (first | (go_at_call 51; refine CW.out.mono ?_; rintro e w' ⟨rfl, rfl⟩) | (go_at_call 52; refine L.out.mono ?_; rintro e w' ⟨rfl, rfl⟩))
          go_roundw
          case rel => exact ⟨p + k, hit2, hbw2, by omega, K.out⟩
          case measure => rw [iterPos_of hit2, hpos0]; omega
        | false =>
          rw [hl] at L
          by_cases h0 : p = 0
          · have K := Lib.hid (No.out (by unfold okAt; rw [if_pos h0, hl]))
            have h0' : ((p : Int) == 0) = true := by simp [h0]
            clear hl h0
            go_wp2_with (first | (go_at_call 51; refine CW.out.mono ?_; rintro e w' ⟨rfl, rfl⟩) | (go_at_call 52; refine L.out.mono ?_; rintro e w' ⟨rfl, rfl⟩))
            go_ret
            exact ⟨ret_bool K.out.symm, hbw2⟩
          · have h0' : ((p : Int) == 0) = false := by simp; omega
            cases hdg : digitB r with
            | true =>
              rw [hdg] at D
              have K := Lib.hid (Yes.out (by unfold okAt; rw [if_neg h0]; simp [hdg, bodyB]))
              clear hl h0 hdg
              go_wp2_with (first | (go_at_call 51; refine CW.out.mono ?_; rintro e w' ⟨rfl, rfl⟩) | (go_at_call 52; refine L.out.mono ?_; rintro e w' ⟨rfl, rfl⟩) | (go_at_call 53; refine D.out.mono ?_; rintro e w' ⟨rfl, rfl⟩))
              go_roundw
              case rel => exact ⟨p + k, hit2, hbw2, by omega, K.out⟩
              case measure => rw [iterPos_of hit2, hpos0]; omega
            | false =>
              rw [hdg] at D
              by_cases h95 : r = 95
              · have h95' : (r != 95) = false := by simp [h95]
                have K := Lib.hid (Yes.out (by unfold okAt; rw [if_neg h0]; simp [h95, bodyB]))
                clear hl h0 hdg h95
                go_wp2_with (first | (go_at_call 51; refine CW.out.mono ?_; rintro e w' ⟨rfl, rfl⟩) | (go_at_call 52; refine L.out.mono ?_; rintro e w' ⟨rfl, rfl⟩) | (go_at_call 53; refine D.out.mono ?_; rintro e w' ⟨rfl, rfl⟩))
                go_roundw
                case rel => exact ⟨p + k, hit2, hbw2, by omega, K.out⟩
                case measure => rw [iterPos_of hit2, hpos0]; omega
              · have h95' : (r != 95) = true := by simpa using h95
                have K := Lib.hid (No.out (by unfold okAt; rw [if_neg h0]; simp [hl, hdg, h95, bodyB]))
                clear hl h0 hdg h95
                go_wp2_with (first | (go_at_call 51; refine CW.out.mono ?_; rintro e w' ⟨rfl, rfl⟩) | (go_at_call 52; refine L.out.mono ?_; rintro e w' ⟨rfl, rfl⟩) | (go_at_call 53; refine D.out.mono ?_; rintro e w' ⟨rfl, rfl⟩))
                go_ret
                exact ⟨ret_bool K.out.symm, hbw2⟩
    · have hnx := fun ty => Lib.run_next_end_at (P := Try.prog) wr w.heap.size s p ty hit hp
      have HE := Lib.hid (stemAt_end s.data.toList p HR.out (by rw [size_list]; exact hps) (by rw [size_list]; exact hp))
      clear hit
      go_wp2_with fail
      go_ret
      refine ⟨ret_bool ?_, hbw⟩
      rw [HE.out, Lib.toList_data]
      cases s.data.toList <;> simp

theorem verF_at (l : List UInt8) (k v : Nat) (h : k < l.length) : verF v (l.drop k) = if 48 ≤ bt l k ∧ bt l k ≤ 57 then (if 10 * v + (bt l k - 48) = 0 ∨ 999 < 10 * v + (bt l k - 48) then 0 else verF (10 * v + (bt l k - 48)) (l.drop (k + 1))) else 0 := by
  obtain ⟨c, e, hc⟩ := drop_bt l k h
  rw [e, ← hc]
  rfl
theorem verF_end (l : List UInt8) (k v : Nat) (h : ¬ k < l.length) : verF v (l.drop k) = v := by
  rw [List.drop_eq_nil_of_le (by omega)]; rfl
/-- a digit's rune is its byte -/
theorem digit_rune (l : List UInt8) (p : Nat) : digitB (told (dec (l.drop p)).1) = decide (48 ≤ bt l p ∧ bt l p ≤ 57) ∧ (48 ≤ bt l p ∧ bt l p ≤ 57 → told (dec (l.drop p)).1 = (bt l p : Nat) ∧ (dec (l.drop p)).2 = 1) := by
  have e : bt (l.drop p) 0 = bt l p := by rw [bt_drop]; rfl
  rcases dec_kind (l.drop p) with ⟨h1, h2⟩ | ⟨h1, h2⟩
  · rw [h2, e]
    rw [e] at h1
    have ht : told ((bt l p : Nat) : Int) = (bt l p : Nat) := by unfold told; rw [if_neg (by omega)]
    simp only []
    rw [ht]
    refine ⟨?_, fun _ => ⟨rfl, by trivial⟩⟩
    unfold digitB
    rw [Bool.eq_iff_iff]
    simp only [decide_eq_true_eq]
    omega
  · rw [e] at h1
    refine ⟨?_, fun h => by omega⟩
    have ht : 128 ≤ told (dec (l.drop p)).1 := by
      rcases h2 with ⟨h2, _⟩ | ⟨h2, _⟩
      · rw [h2]; unfold told; simp
      · unfold told; rw [if_neg (by omega)]; exact h2
    unfold digitB
    rw [Bool.eq_iff_iff]
    simp only [decide_eq_true_eq]
    omega
/-- what parseVersion tells -/
theorem parseVersion_any (s : ByteArray) (w : World) (hs : s.size ≤ 9223372036854775807) :
    Calls Try.prog 46 #[.string s] w fun e w' => e = .returned (.tuple #[.int .i64 (ver s.data.toList : Nat), .bool (decide (ver s.data.toList ≠ 0))]) ∧ Below w.heap.size w w' := by
  go_enter Try.func46, Try.ntmps46
  go_wp2_with fail
  go_loopw [4, 6] (fun a _ wr => ∃ p v : Nat, a = .int .i64 v ∧ wr.heap[w.heap.size]? = some (.stringIter s p) ∧ Below w.heap.size w wr ∧ p ≤ s.size ∧ v ≤ 999 ∧ Hid (verF v (s.data.toList.drop p) = ver s.data.toList)) (fun _ _ wr => s.size - wr.iterPos w.heap.size)
  case atStart => exact ⟨0, 0, rfl, World.iter_heap w s 0, (Below.refl _ _).alloc (Nat.le_refl _) _, by omega, by omega, by show _ = _; rfl⟩
  case round =>
    obtain ⟨p, v, rfl, hit, hbw, hps, hv, HR⟩ := hrel
    have hpos0 := iterPos_of hit
    by_cases hp : p < s.size
    · have hnx := next_at (P := Try.prog) wr w.heap.size s p hit hp
      have RS := verF_at s.data.toList p v (by rw [size_list]; exact hp)
      have hbd := told_bd (s.data.toList.drop p)
      have hdr := digit_rune s.data.toList p
      have hit2 := Lib.iterAt_heap wr w.heap.size s p (p + (dec (s.data.toList.drop p)).2) hit
      have hbw2 := Lib.below_iterAt hbw (k := w.heap.size) (Nat.le_refl _) s (p + (dec (s.data.toList.drop p)).2)
      obtain ⟨W1, hW1⟩ : ∃ W1, W1 = wr.iterAt w.heap.size s (p + (dec (s.data.toList.drop p)).2) := ⟨_, rfl⟩
      rw [← hW1] at hnx hit2 hbw2
      clear hW1 hit hbw
      have D := Lib.hid (isDigit_any (told (dec (s.data.toList.drop p)).1) W1 (by omega))
      by_cases hd : 48 ≤ bt s.data.toList p ∧ bt s.data.toList p ≤ 57
      · rw [if_pos hd] at RS
        obtain ⟨e1, e2⟩ := hdr.2 hd
        rw [hdr.1, decide_eq_true hd] at D
        rw [e1] at D hnx
        rw [e2] at hit2
        clear hdr hbd e1 e2
        generalize (dec (s.data.toList.drop p)).2 = k at *
        generalize bt s.data.toList p = b at *
        obtain ⟨hd1, hd2⟩ := hd
        have b1 : (48 : Int) ≤ b := by omega
        have b2 : (b : Int) ≤ 57 := by omega
        have HRS := Lib.hid RS
        clear RS
        by_cases hz : 10 * v + (b - 48) = 0 ∨ 999 < 10 * v + (b - 48)
        · have E : Hid (ver s.data.toList = 0) := by have := HRS.out; rw [if_pos hz] at this; exact HR.out.symm.trans this
          rcases hz with hz | hz
          · have v0 : v = 0 := by omega
            have b0 : b = 48 := by omega
            subst v0 b0
            clear hz
            go_wp2_with (first | (go_at_call 53; refine D.out.mono ?_; rintro e w' ⟨rfl, rfl⟩))
            go_ret2
            exact ⟨by rw [E.out]; rfl, hbw2⟩
          · have z1 : 999 < 10 * (v : Int) + ((b : Int) - 48) := by omega
            have z2 : (10 * (v : Int) + ((b : Int) - 48) == 0) = false := by simp; omega
            clear hz
            go_wp2_with (first | (go_at_call 53; refine D.out.mono ?_; rintro e w' ⟨rfl, rfl⟩))
            go_ret2
            exact ⟨by rw [E.out]; rfl, hbw2⟩
        · have E : Hid (verF (10 * v + (b - 48)) (s.data.toList.drop (p + 1)) = ver s.data.toList) := by have := HRS.out; rw [if_neg hz] at this; exact this.symm.trans HR.out
          have z1 : ¬ 999 < 10 * (v : Int) + ((b : Int) - 48) := by omega
          have z2 : (10 * (v : Int) + ((b : Int) - 48) == 0) = false := by simp; omega
          have z3 : 10 * v + (b - 48) ≤ 999 := by omega
          clear hz
          go_wp2_with (first | (go_at_call 53; refine D.out.mono ?_; rintro e w' ⟨rfl, rfl⟩))
          go_roundw
          case rel => exact ⟨p + 1, 10 * v + (b - 48), by go_num, hit2, hbw2, by omega, z3, E⟩
          case measure => rw [iterPos_of hit2, hpos0]; omega
      · rw [if_neg hd] at RS
        rw [hdr.1, decide_eq_false hd] at D
        have E : Hid (ver s.data.toList = 0) := HR.out.symm.trans RS
        clear hdr RS
        generalize (dec (s.data.toList.drop p)).2 = k at *
        generalize told (dec (s.data.toList.drop p)).1 = r at *
        clear hd
        go_wp2_with (first | (go_at_call 53; refine D.out.mono ?_; rintro e w' ⟨rfl, rfl⟩))
        go_ret2
        exact ⟨by rw [E.out]; rfl, hbw2⟩
    · have hnx := fun ty => Lib.run_next_end_at (P := Try.prog) wr w.heap.size s p ty hit hp
      have HE := Lib.hid (verF_end s.data.toList p v (by rw [size_list]; exact hp))
      have E : Hid (ver s.data.toList = v) := HR.out.symm.trans HE.out
      clear hit
      by_cases hv0 : 0 < v
      · have hv1 : 0 < (v : Int) := by omega
        go_wp2_with fail
        go_ret2
        exact ⟨by rw [E.out, decide_eq_true (by omega)]; rfl, hbw⟩
      · have hv1 : v = 0 := by omega
        subst hv1
        go_wp2_with fail
        go_ret2
        exact ⟨by rw [E.out]; rfl, hbw⟩
end Go.Proofs.Ytigalcmhongleaa.NF

/-
  Package name, call by call: what stands about the @, names, stems and versions, order. And the reference's.
-/
namespace Go.Proofs.Ytigalcmhongleaa.NF
open Go.RowKit NM

theorem clone_any (s : ByteArray) (w : World) (hs : s.size ≤ 281474976710656) :
    Calls Try.prog 28 #[.string s] w fun e w' => e = .returned (.string s) ∧ Below w.heap.size w w' := by
  have C := Lib.hid (Try.stringslite_Clone s w hs)
  go_enter Try.func28, Try.ntmps28
  go_wp2_with (go_at_call 39; refine C.out.mono ?_; rintro e w' ⟨rfl, hb⟩)
  go_ret
  exact ⟨rfl, hb⟩
/-- the text of one @ -/
def atText : ByteArray := ⟨#[64]⟩
theorem index_yes (s : ByteArray) (w : World) (h : hasAt s.data.toList = true) :
    Calls Try.prog 55 #[.string s, .string ⟨#[64]⟩] w fun e w' => e = .returned (.int .i64 ((pre s.data.toList).length : Nat)) ∧ w = w' := by
  have C := Try.stringslite_Index_one s 64 w
  rw [index_some _ h] at C
  exact C.mono fun e w' ⟨he, hw⟩ => ⟨he, hw.symm⟩
theorem index_no (s : ByteArray) (w : World) (h : hasAt s.data.toList = false) :
    Calls Try.prog 55 #[.string s, .string ⟨#[64]⟩] w fun e w' => e = .returned (.int .i64 (-1)) ∧ w = w' := by
  have C := Try.stringslite_Index_one s 64 w
  rw [index_none _ h] at C
  exact C.mono fun e w' ⟨he, hw⟩ => ⟨he, hw.symm⟩
theorem slCut_yes (s : ByteArray) (w : World) (hs : s.size ≤ 9223372036854775807) (h : hasAt s.data.toList = true) :
    Calls Try.prog 50 #[.string s, .string ⟨#[64]⟩] w fun e w' => e = .returned (.tuple #[.string (bs (pre s.data.toList)), .string (bs (post s.data.toList)), .bool true]) ∧ ∃ n, w' = w.drewN n := by
  have C := Lib.hid (index_yes s w h)
  have E1 := Lib.hid (extract_pre s)
  have E2 := Lib.hid (extract_post s h)
  have hl := pre_len _ h
  rw [size_list] at hl
  clear h
  generalize (pre s.data.toList).length = k at C E1 E2 hl
  have k0 : (0 : Int) ≤ k := by omega
  have k1 : (k : Int) ≤ s.size := by omega
  have q1 : IntKind.i64.wrap ((k : Int) + 1) = (k : Int) + 1 := IntWalk.i64_in _ (by omega)
  have q2 : (0 : Int) ≤ (k : Int) + 1 := by omega
  have q3 : (k : Int) + 1 ≤ s.size := by omega
  have q4 : ((k : Int) + 1).toNat = k + 1 := by omega
  go_enter Try.func50, Try.ntmps50
  go_wp2_with (go_at_call 55; refine C.out.mono ?_; rintro e w' ⟨rfl, rfl⟩)
  go_quiet (fail)
  clear q1 q2 q3 q4
  go_wp2
  exact bodyPost_ret (v := .tuple #[.string (s.extract 0 k), .string (s.extract (k + 1) s.size), .bool true]) (by simp [results, Try.results50, go_sem]) rfl ⟨by rw [E1.out, E2.out], _, rfl⟩
theorem slCut_no (s : ByteArray) (w : World) (hs : s.size ≤ 9223372036854775807) (h : hasAt s.data.toList = false) :
    Calls Try.prog 50 #[.string s, .string ⟨#[64]⟩] w fun e w' => e = .returned (.tuple #[.string s, .string (bs []), .bool false]) ∧ ∃ n, w' = w.drewN n := by
  have C := Lib.hid (index_no s w h)
  clear h
  go_enter Try.func50, Try.ntmps50
  go_wp2_with (go_at_call 55; refine C.out.mono ?_; rintro e w' ⟨rfl, rfl⟩)
  exact bodyPost_ret (v := .tuple #[.string s, .string (bs []), .bool false]) (by simp [results, Try.results50, go_sem, bs]) rfl ⟨rfl, 0, rfl⟩
/-- what both ways through Cut share -/
def cutL (l : List UInt8) : Value := if hasAt l then .tuple #[.string (bs (pre l)), .string (bs (post l)), .bool true] else .tuple #[.string (bs (pre l)), .string (bs []), .bool false]
theorem cut_yes (s : ByteArray) (w : World) (hs : s.size ≤ 9223372036854775807) (h : hasAt s.data.toList = true) :
    Calls Try.prog 44 #[.string s, .string ⟨#[64]⟩] w fun e w' => e = .returned (.tuple #[.string (bs (pre s.data.toList)), .string (bs (post s.data.toList)), .bool true]) ∧ ∃ n, w' = w.drewN n := by
  have C := Lib.hid (slCut_yes s w hs h)
  clear h
  go_enter Try.func44, Try.ntmps44
  go_wp2_with (go_at_call 50; refine C.out.mono ?_; rintro e w' ⟨rfl, hb⟩)
  exact bodyPost_ret (v := .tuple #[.string (bs (pre s.data.toList)), .string (bs (post s.data.toList)), .bool true]) (by simp [results, Try.results44, go_sem]) rfl ⟨rfl, hb⟩
theorem cut_no (s : ByteArray) (w : World) (hs : s.size ≤ 9223372036854775807) (h : hasAt s.data.toList = false) :
    Calls Try.prog 44 #[.string s, .string ⟨#[64]⟩] w fun e w' => e = .returned (.tuple #[.string s, .string (bs []), .bool false]) ∧ ∃ n, w' = w.drewN n := by
  have C := Lib.hid (slCut_no s w hs h)
  clear h
  go_enter Try.func44, Try.ntmps44
  go_wp2_with (go_at_call 50; refine C.out.mono ?_; rintro e w' ⟨rfl, hb⟩)
  exact bodyPost_ret (v := .tuple #[.string s, .string (bs []), .bool false]) (by simp [results, Try.results44, go_sem]) rfl ⟨rfl, hb⟩
end Go.Proofs.Ytigalcmhongleaa.NF

/-
  Package name and the reference for layer 2: names, stems and versions, order.
-/
namespace Go.Proofs.Ytigalcmhongleaa.NF
open Go.RowKit NM

/-- a call tells a value, and nothing that was there turns -/
def Says (P : Program) (f : FuncId) (args : Array Value) (v : Value) : Prop := ∀ w : World, Calls P f args w fun e w' => e = .returned v ∧ Below w.heap.size w w'
theorem Says.at {P : Program} {f : FuncId} {args : Array Value} {v : Value} (h : Says P f args v) (w : World) : Calls P f args w fun e w' => e = .returned v ∧ Below w.heap.size w w' := h w
/-- the same, told of what was there when the law began -/
theorem inw {P : Program} {f : FuncId} {args : Array Value} {v : Value} (h : Says P f args v) (W0 u : World) (hb : Below W0.heap.size W0 u) :
    Calls P f args u fun e w' => e = .returned v ∧ Below W0.heap.size W0 w' := (h u).mono fun _ _ ⟨he, h2⟩ => ⟨he, hb.trans (h2.mono hb.size)⟩
theorem says_same {P : Program} {f : FuncId} {args : Array Value} {v : Value} (h : ∀ w : World, Calls P f args w fun e w' => e = .returned v ∧ w = w') : Says P f args v :=
  fun w => (h w).mono fun e w' ⟨he, hw⟩ => ⟨he, by subst hw; exact Below.refl _ _⟩
theorem says_drew {P : Program} {f : FuncId} {args : Array Value} {v : Value} (h : ∀ w : World, Calls P f args w fun e w' => e = .returned v ∧ ∃ n, w' = w.drewN n) : Says P f args v :=
  fun w => (h w).mono fun e w' ⟨he, n, hw⟩ => ⟨he, by subst hw; exact below_drewN (Below.refl _ _) n⟩
theorem chain2 {w w1 w2 : World} (h1 : Below w.heap.size w w1) (h2 : Below w1.heap.size w1 w2) : Below w.heap.size w w2 := h1.trans (h2.mono h1.size)
theorem chain3 {w w1 w2 w3 : World} (h1 : Below w.heap.size w w1) (h2 : Below w1.heap.size w1 w2) (h3 : Below w2.heap.size w2 w3) : Below w.heap.size w w3 := chain2 (chain2 h1 h2) h3
theorem chain4 {w w1 w2 w3 w4 : World} (h1 : Below w.heap.size w w1) (h2 : Below w1.heap.size w1 w2) (h3 : Below w2.heap.size w2 w3) (h4 : Below w3.heap.size w3 w4) : Below w.heap.size w w4 := chain2 (chain3 h1 h2 h3) h4
theorem post_len (l : List UInt8) : (post l).length ≤ l.length := by
  have e := pre_eq l
  cases h : hasAt l with
  | true =>
    rw [if_pos h] at e
    have : l.length = (pre l).length + ((post l).length + 1) := by conv => lhs; rw [e]
                                                                   simp
    omega
  | false => rw [(pre_none l h).2]; simp
theorem pre_size (s : ByteArray) : (bs (pre s.data.toList)).size ≤ s.size := by rw [bs_size, ← size_list]; exact pre_len_le _
theorem post_size (s : ByteArray) : (bs (post s.data.toList)).size ≤ s.size := by rw [bs_size, ← size_list]; exact post_len _
theorem pre_self (s : ByteArray) (h : hasAt s.data.toList = false) : bs (pre s.data.toList) = s := by rw [(pre_none _ h).1]; rfl

theorem cutS_yes (s : ByteArray) (hs : s.size ≤ 9223372036854775807) (h : hasAt s.data.toList = true) :
    Says Try.prog 44 #[.string s, .string ⟨#[64]⟩] (.tuple #[.string (bs (pre s.data.toList)), .string (bs (post s.data.toList)), .bool true]) := says_drew fun w => cut_yes s w hs h
theorem cutS_no (s : ByteArray) (hs : s.size ≤ 9223372036854775807) (h : hasAt s.data.toList = false) :
    Says Try.prog 44 #[.string s, .string ⟨#[64]⟩] (.tuple #[.string (bs (pre s.data.toList)), .string (bs []), .bool false]) := says_drew fun w => by
  rw [pre_self s h]; exact cut_no s w hs h
theorem isStemS (l : List UInt8) (b : Bool) (hb : stemL (runes l) = b) (hl : l.length ≤ 9223372036854775807) : Says Try.prog 45 #[.string (bs l)] (.bool b) := fun w => by
  have h := isStem_any (bs l) w (by rw [bs_size]; exact hl)
  rw [bs_list, hb] at h
  exact h
theorem parseVersionS (l : List UInt8) (hl : l.length ≤ 9223372036854775807) : Says Try.prog 46 #[.string (bs l)] (.tuple #[.int .i64 (ver l : Nat), .bool (decide (ver l ≠ 0))]) := fun w => by
  have h := parseVersion_any (bs l) w (by rw [bs_size]; exact hl)
  rw [bs_list] at h
  exact h
theorem parts_yes (s : ByteArray) (hs : s.size ≤ 9223372036854775807) (h : nameB s.data.toList = true) :
    Says Try.prog 33 #[.string s] (.tuple #[.string (bs (pre s.data.toList)), .int .i64 (ver (post s.data.toList) : Nat), .bool true]) := by
  intro w
  have h0 := h
  unfold nameB at h
  rw [Bool.and_eq_true] at h
  have p1 := pre_len_le s.data.toList
  have p2 := post_len s.data.toList
  rw [size_list] at p1 p2
  have C2 := isStemS (pre s.data.toList) true h.1 (by omega)
  cases ha : hasAt s.data.toList with
  | true =>
    have C1 := cutS_yes s hs ha
    have hv : decide (ver (post s.data.toList) ≠ 0) = true := by have := h.2; rw [ha] at this; simpa using this
    have C3 := parseVersionS (post s.data.toList) (by omega)
    rw [hv] at C3
    clear h h0 ha hv p1 p2
    generalize pre s.data.toList = A at *
    generalize post s.data.toList = B at *
    generalize ver B = V at *
    go_enter Try.func33, Try.ntmps33
    go_wp2_with (first | (go_at_call 44; refine (C1.at _).mono ?_; rintro e w1 ⟨rfl, h1⟩) | (go_at_call 45; refine (C2.at _).mono ?_; rintro e w2 ⟨rfl, h2⟩) | (go_at_call 46; refine (C3.at _).mono ?_; rintro e w3 ⟨rfl, h3⟩))
    exact bodyPost_ret (v := .tuple #[.string (bs A), .int .i64 (V : Nat), .bool true]) (by simp [results, Try.results33, go_sem]) rfl ⟨rfl, chain3 h1 h2 h3⟩
  | false =>
    have C1 := cutS_no s hs ha
    have E : Hid (ver (post s.data.toList) = 0) := by show _ = _; rw [(pre_none _ ha).2]; rfl
    clear h h0 ha p1 p2
    generalize pre s.data.toList = A at *
    go_enter Try.func33, Try.ntmps33
    go_wp2_with (first | (go_at_call 44; refine (C1.at _).mono ?_; rintro e w1 ⟨rfl, h1⟩) | (go_at_call 45; refine (C2.at _).mono ?_; rintro e w2 ⟨rfl, h2⟩))
    exact bodyPost_ret (v := .tuple #[.string (bs A), .int .i64 0, .bool true]) (by simp [results, Try.results33, go_sem]) rfl ⟨by rw [E.out]; rfl, chain2 h1 h2⟩
theorem parts_no (s : ByteArray) (hs : s.size ≤ 9223372036854775807) (h : nameB s.data.toList = false) :
    Says Try.prog 33 #[.string s] (.tuple #[.string ⟨#[]⟩, .int .i64 0, .bool false]) := by
  intro w
  unfold nameB at h
  have p1 := pre_len_le s.data.toList
  have p2 := post_len s.data.toList
  rw [size_list] at p1 p2
  have C2 := isStemS (pre s.data.toList) _ rfl (by omega)
  cases hst : stemL (runes (pre s.data.toList)) with
  | false =>
    rw [hst] at C2
    have C1 : ∃ t b, Says Try.prog 44 #[.string s, .string ⟨#[64]⟩] (.tuple #[.string (bs (pre s.data.toList)), .string t, .bool b]) := by
      cases ha : hasAt s.data.toList with
      | true => exact ⟨_, _, cutS_yes s hs ha⟩
      | false => exact ⟨_, _, cutS_no s hs ha⟩
    obtain ⟨t, b, C1⟩ := C1
    clear h hst p1 p2
    generalize pre s.data.toList = A at *
    go_enter Try.func33, Try.ntmps33
    go_wp2_with (first | (go_at_call 44; refine (C1.at _).mono ?_; rintro e w1 ⟨rfl, h1⟩) | (go_at_call 45; refine (C2.at _).mono ?_; rintro e w2 ⟨rfl, h2⟩))
    exact bodyPost_ret (v := .tuple #[.string ⟨#[]⟩, .int .i64 0, .bool false]) (by simp [results, Try.results33, go_sem]) rfl ⟨rfl, chain2 h1 h2⟩
  | true =>
    rw [hst] at C2
    have ha : hasAt s.data.toList = true := by
      rw [hst, Bool.true_and] at h
      cases ha : hasAt s.data.toList with
      | true => rfl
      | false => rw [ha] at h; cases h
    have C1 := cutS_yes s hs ha
    have hv : decide (ver (post s.data.toList) ≠ 0) = false := by rw [hst, ha] at h; simpa using h
    have C3 := parseVersionS (post s.data.toList) (by omega)
    rw [hv] at C3
    clear h hst ha hv p1 p2
    generalize pre s.data.toList = A at *
    generalize post s.data.toList = B at *
    generalize ver B = V at *
    go_enter Try.func33, Try.ntmps33
    go_wp2_with (first | (go_at_call 44; refine (C1.at _).mono ?_; rintro e w1 ⟨rfl, h1⟩) | (go_at_call 45; refine (C2.at _).mono ?_; rintro e w2 ⟨rfl, h2⟩) | (go_at_call 46; refine (C3.at _).mono ?_; rintro e w3 ⟨rfl, h3⟩))
    exact bodyPost_ret (v := .tuple #[.string ⟨#[]⟩, .int .i64 0, .bool false]) (by simp [results, Try.results33, go_sem]) rfl ⟨rfl, chain3 h1 h2 h3⟩
theorem checkS (s : ByteArray) (hs : s.size ≤ 9223372036854775807) (k : Int) (hk : chk s.data.toList = k) : Says Try.prog 25 #[.string s] (.int .i64 k) := by
  subst hk
  intro w
  cases hn : nameB s.data.toList with
  | false =>
    have C1 := parts_no s hs hn
    have E : Hid (chk s.data.toList = 6) := chk_bad _ hn
    clear hn
    go_enter Try.func25, Try.ntmps25
    go_wp2_with (first | (go_at_call 33; refine (C1.at _).mono ?_; rintro e w1 ⟨rfl, h1⟩))
    go_ret
    exact ⟨ret_int E.out.symm, h1⟩
  | true =>
    have C1 := parts_yes s hs hn
    have C2 := Lib.hid (fun w => nameRunes_any s w hs)
    by_cases hr : 24 < (runes s.data.toList).length
    · have E : Hid (chk s.data.toList = 5) := by show _ = _; unfold chk; rw [hn, if_pos rfl, if_pos hr]
      have hr' : 24 < (((runes s.data.toList).length : Nat) : Int) := by omega
      clear hn hr
      generalize (runes s.data.toList).length = R at *
      go_enter Try.func25, Try.ntmps25
      go_wp2_with (first | (go_at_call 33; refine (C1.at _).mono ?_; rintro e w1 ⟨rfl, h1⟩) | (go_at_call 34; refine (C2.out _).mono ?_; rintro e w2 ⟨rfl, h2⟩))
      go_ret
      exact ⟨ret_int E.out.symm, chain2 h1 h2⟩
    · have E : Hid (chk s.data.toList = 0) := by show _ = _; unfold chk; rw [hn, if_pos rfl, if_neg hr]
      have hr' : ¬ 24 < (((runes s.data.toList).length : Nat) : Int) := by omega
      clear hn hr
      generalize (runes s.data.toList).length = R at *
      go_enter Try.func25, Try.ntmps25
      go_wp2_with (first | (go_at_call 33; refine (C1.at _).mono ?_; rintro e w1 ⟨rfl, h1⟩) | (go_at_call 34; refine (C2.out _).mono ?_; rintro e w2 ⟨rfl, h2⟩))
      go_ret
      exact ⟨ret_int E.out.symm, chain2 h1 h2⟩
end Go.Proofs.Ytigalcmhongleaa.NF
