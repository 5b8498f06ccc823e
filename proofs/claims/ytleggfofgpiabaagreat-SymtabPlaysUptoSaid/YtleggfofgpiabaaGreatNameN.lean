/-
  Joined texts: NameOne, NameOne2. Nothing here is a statement of the seed.
-/
import Derived.Test.YtleggfofgpiabaaGreatNameFn
import Derived.Laws.BitsAllLaws
import Derived.IntWalk
set_option linter.unusedSimpArgs false
set_option linter.unusedVariables false
/-
  The reference's way to one rune.
-/
namespace Go.Proofs.YtleggfofgpiabaaGreat.NF
open Go.RowKit NM

theorem ofInt_i64 (a : Nat) (ha : a < 9223372036854775808) : (BitVec.ofInt 64 (a : Int)).toNat = a := by
  rw [BitVec.ofInt_natCast, BitVec.toNat_ofNat]; exact Nat.mod_eq_of_lt (by omega)
theorem i64_and_nat (a b : Nat) (ha : a < 9223372036854775808) (hb : b < 9223372036854775808) : bits .and .i64 (a : Int) (b : Int) = ((a &&& b : Nat) : Int) := by
  have hx : a &&& b < 2 ^ 63 := Nat.and_lt_two_pow _ (by omega)
  show IntKind.i64.wrap ((BitVec.ofInt 64 (a : Int) &&& BitVec.ofInt 64 (b : Int)).toNat : Int) = _
  rw [BitVec.toNat_and, ofInt_i64 a ha, ofInt_i64 b hb, IntKind.wrap_i64]
  omega
theorem i64_or_nat (a b : Nat) (ha : a < 9223372036854775808) (hb : b < 9223372036854775808) : bits .or .i64 (a : Int) (b : Int) = ((a ||| b : Nat) : Int) := by
  have hx : a ||| b < 2 ^ 63 := Nat.or_lt_two_pow (by omega) (by omega)
  show IntKind.i64.wrap ((BitVec.ofInt 64 (a : Int) ||| BitVec.ofInt 64 (b : Int)).toNat : Int) = _
  rw [BitVec.toNat_or, ofInt_i64 a ha, ofInt_i64 b hb, IntKind.wrap_i64]
  omega
theorem low_and (c m : Nat) (M : Int) (k : Nat) (hM : M = (m : Int)) (hm : m = 2 ^ k - 1) (hk : k ≤ 8) (hc : c < 256) : ∃ a : Nat, bits .and .i64 (c : Int) M = (a : Int) ∧ Hid (a = c % 2 ^ k) := by
  subst hM
  have : 2 ^ k ≤ 2 ^ 8 := Nat.pow_le_pow_right (by omega) hk
  refine ⟨c % 2 ^ k, ?_, Lib.hid rfl⟩
  rw [i64_and_nat c m (by omega) (by omega), hm, Nat.and_two_pow_sub_one_eq_mod]
theorem low_and8 (c : Nat) (hc : c < 256) : ∃ a : Nat, bits .and .u8 (c : Int) 63 = (a : Int) ∧ Hid (a = c % 64) := by
  refine ⟨c % 64, ?_, Lib.hid rfl⟩
  rw [show (63 : Int) = ((63 : Nat) : Int) from rfl, u8_and_nat c 63 hc (by omega), nat_mask6]
theorem join_or (x y k : Nat) (X : Int) (hX' : X = (x : Int)) (hx : x % 2 ^ k = 0) (hy : y < 2 ^ k) (hk : k ≤ 20) (hX : x ≤ 4000000) : ∃ j : Nat, bits .or .i64 X (y : Int) = (j : Int) ∧ Hid (j = x + y) := by
  subst hX'
  refine ⟨x + y, ?_, Lib.hid rfl⟩
  have : 2 ^ k ≤ 2 ^ 20 := Nat.pow_le_pow_right (by omega) hk
  rw [i64_or_nat x y (by omega) (by omega), nat_join k x y hx hy]

theorem one_1 (s : ByteArray) (w : World) (hs : 0 < s.size) (h : bt s.data.toList 0 < 128) :
    Calls Tryz.prog 96 #[.string s] w fun e w' => e = .returned (.tuple #[.int .i64 (bt s.data.toList 0 : Nat), .int .i64 1]) ∧ ∃ n, w' = w.drewN n := by
  have hb := byte_at s 0 hs
  have h' : ((bt s.data.toList 0 : Nat) : Int) < 128 := by omega
  go_enter Tryz.func96, Tryz.ntmps96
  go_wp2
  go_ret2
  exact ⟨rfl, 0, rfl⟩
theorem more_at (s : ByteArray) (k : Nat) (K : Int) (hK : K = (k : Int)) (b : Bool) (hc : ct s.data.toList k = b) (hk : k ≤ 4) : Hid (∀ w, Calls Tryz.prog 102 #[.string s, .int .i64 K] w fun e w' => e = .returned (.bool b) ∧ w = w') := by
  subst hK
  intro w
  have h := more_any s k w (by omega)
  rw [hc] at h
  exact h
theorem ret_pair {a b c d : Int} (h : a = b) (h2 : c = d) : Ending.returned (.tuple #[.int .i64 a, .int .i64 c]) = .returned (.tuple #[.int .i64 b, .int .i64 d]) := by rw [h, h2]
theorem one_2 (s : ByteArray) (w : World) (hs : 0 < s.size) (h1 : 194 ≤ bt s.data.toList 0) (h2 : bt s.data.toList 0 ≤ 223) (hc : ct s.data.toList 1 = true) :
    Calls Tryz.prog 96 #[.string s] w fun e w' => e = .returned (.tuple #[.int .i64 (bt s.data.toList 0 % 32 * 64 + bt s.data.toList 1 % 64 : Nat), .int .i64 2]) ∧ ∃ n, w' = w.drewN n := by
  have hl := ct_lt hc
  rw [size_list] at hl
  have hb := byte_at s 0 hs
  have hb1 := byte_at s 1 hl
  have hlt1 := bt_lt s.data.toList 1
  have C := more_at s 1 1 rfl true hc (by omega)
  clear hc
  generalize bt s.data.toList 0 = c at *
  generalize bt s.data.toList 1 = c1 at *
  have k0 : ¬ (c : Int) < 128 := by omega
  have k1 : 194 ≤ (c : Int) := by omega
  have k2 : (c : Int) ≤ 223 := by omega
  have hl' : (1 : Int) < s.size := by omega
  obtain ⟨a, ha, Ha⟩ := low_and c 31 31 5 rfl rfl (by omega) (by omega)
  obtain ⟨b, hb', Hb⟩ := low_and8 c1 hlt1
  have a1 : a < 32 := by have := Ha.out; omega
  have b1 : b < 64 := by have := Hb.out; omega
  obtain ⟨j, hj, Hj⟩ := join_or (a * 64) b 6 ((a : Int) * 64) (by omega) (by omega) (by omega) (by omega) (by omega)
  go_enter Tryz.func96, Tryz.ntmps96
  go_wp2_with (go_at_call 102; refine (C.out _).mono ?_; rintro e w' ⟨rfl, rfl⟩)
  go_ret2
  exact ⟨ret_pair (by rw [Hj.out, Ha.out, Hb.out]) rfl, 0, rfl⟩
def val3 (l : List UInt8) : Nat := bt l 0 % 16 * 4096 + bt l 1 % 64 * 64 + bt l 2 % 64
set_option maxRecDepth 100000 in
theorem one_3 (s : ByteArray) (w : World) (hs : 0 < s.size) (h1 : 224 ≤ bt s.data.toList 0) (h2 : bt s.data.toList 0 ≤ 239) (hc : ct s.data.toList 1 = true) (hc2 : ct s.data.toList 2 = true) (J R K : Int) (hJ : J = (val3 s.data.toList : Nat))
    (h : R = J ∧ K = 3 ∧ (2048 ≤ J ∧ J < 55296 ∨ 57343 < J) ∨ R = -1 ∧ K = 1 ∧ (J < 2048 ∨ 55296 ≤ J ∧ J ≤ 57343)) :
    Calls Tryz.prog 96 #[.string s] w fun e w' => e = .returned (.tuple #[.int .i64 R, .int .i64 K]) ∧ ∃ n, w' = w.drewN n := by
  have hl := ct_lt hc2
  rw [size_list] at hl
  have hb := byte_at s 0 hs
  have hb1 := byte_at s 1 (by omega)
  have hb2 := byte_at s 2 hl
  have hlt1 := bt_lt s.data.toList 1
  have hlt2 := bt_lt s.data.toList 2
  have C := more_at s 1 1 rfl true hc (by omega)
  have C2 := more_at s 2 2 rfl true hc2 (by omega)
  clear hc hc2
  unfold val3 at *
  generalize bt s.data.toList 0 = c at *
  generalize bt s.data.toList 1 = c1 at *
  generalize bt s.data.toList 2 = c2 at *
  have k0 : ¬ (c : Int) < 128 := by omega
  have k1 : 194 ≤ (c : Int) := by omega
  have k2 : ¬ (c : Int) ≤ 223 := by omega
  have k3 : 224 ≤ (c : Int) := by omega
  have k4 : (c : Int) ≤ 239 := by omega
  have hl' : (1 : Int) < s.size := by omega
  have hl2' : (2 : Int) < s.size := by omega
  obtain ⟨a, ha, Ha⟩ := low_and c 15 15 4 rfl rfl (by omega) (by omega)
  obtain ⟨b, hb', Hb⟩ := low_and8 c1 hlt1
  obtain ⟨d, hd', Hd⟩ := low_and8 c2 hlt2
  have a1 : a < 16 := by have := Ha.out; omega
  have b1 : b < 64 := by have := Hb.out; omega
  have d1 : d < 64 := by have := Hd.out; omega
  obtain ⟨i, hi, Hi⟩ := join_or (a * 4096) (b * 64) 12 ((a : Int) * 4096) (by omega) (by omega) (by omega) (by omega) (by omega)
  obtain ⟨j, hj, Hj⟩ := join_or i d 6 (i : Int) rfl (by rw [Hi.out]; omega) (by omega) (by omega) (by rw [Hi.out]; omega)
  have hj1 : j = c % 16 * 4096 + c1 % 64 * 64 + c2 % 64 := by rw [Hj.out, Hi.out, Ha.out, Hb.out, Hd.out]
  have q1 : IntKind.i64.wrap ((a : Int) * 4096) = (a : Int) * 4096 := IntWalk.i64_in _ (by omega)
  have q2 : IntKind.i64.wrap ((b : Int) * 64) = (b : Int) * 64 := IntWalk.i64_in _ (by omega)
  rw [← hj1] at hJ
  have hi' : bits .or .i64 ((a : Int) * 4096) ((b : Int) * 64) = (i : Int) := by rw [← hi]; congr 1
  rw [← hJ] at hj
  clear hi hj1 hJ Hj Hi Ha Hb Hd
  rcases h with ⟨rfl, rfl, ⟨g1, g2⟩ | g1⟩ | ⟨rfl, rfl, g1 | ⟨g1, g2⟩⟩
  all_goals
    go_enter Tryz.func96, Tryz.ntmps96
    go_wp2_with (go_at_call 102; first | (with_reducible refine (C.out _).mono ?_; rintro e w' ⟨rfl, rfl⟩) | (with_reducible refine (C2.out _).mono ?_; rintro e w' ⟨rfl, rfl⟩))
    go_quiet (fail)
    go_wp2
    go_ret2
    exact ⟨ret_pair rfl rfl, _, rfl⟩
def val4 (l : List UInt8) : Nat := bt l 0 % 8 * 262144 + bt l 1 % 64 * 4096 + bt l 2 % 64 * 64 + bt l 3 % 64
set_option maxRecDepth 100000 in
theorem one_4 (s : ByteArray) (w : World) (hs : 0 < s.size) (h1 : 240 ≤ bt s.data.toList 0) (h2 : bt s.data.toList 0 ≤ 244) (hc : ct s.data.toList 1 = true) (hc2 : ct s.data.toList 2 = true) (hc3 : ct s.data.toList 3 = true) (J R K : Int) (hJ : J = (val4 s.data.toList : Nat))
    (h : R = J ∧ K = 4 ∧ 65536 ≤ J ∧ J ≤ 1114111 ∨ R = -1 ∧ K = 1 ∧ (J < 65536 ∨ 1114111 < J)) :
    Calls Tryz.prog 96 #[.string s] w fun e w' => e = .returned (.tuple #[.int .i64 R, .int .i64 K]) ∧ ∃ n, w' = w.drewN n := by
  have hl := ct_lt hc3
  rw [size_list] at hl
  have hb := byte_at s 0 hs
  have hb1 := byte_at s 1 (by omega)
  have hb2 := byte_at s 2 (by omega)
  have hb3 := byte_at s 3 hl
  have hlt1 := bt_lt s.data.toList 1
  have hlt2 := bt_lt s.data.toList 2
  have hlt3 := bt_lt s.data.toList 3
  have C := more_at s 1 1 rfl true hc (by omega)
  have C2 := more_at s 2 2 rfl true hc2 (by omega)
  have C3 := more_at s 3 3 rfl true hc3 (by omega)
  clear hc hc2 hc3
  unfold val4 at *
  generalize bt s.data.toList 0 = c at *
  generalize bt s.data.toList 1 = c1 at *
  generalize bt s.data.toList 2 = c2 at *
  generalize bt s.data.toList 3 = c3 at *
  have k0 : ¬ (c : Int) < 128 := by omega
  have k1 : 194 ≤ (c : Int) := by omega
  have k2 : ¬ (c : Int) ≤ 223 := by omega
  have k3 : 224 ≤ (c : Int) := by omega
  have k4 : ¬ (c : Int) ≤ 239 := by omega
  have k5 : 240 ≤ (c : Int) := by omega
  have k6 : (c : Int) ≤ 244 := by omega
  have hl' : (1 : Int) < s.size := by omega
  have hl2' : (2 : Int) < s.size := by omega
  have hl3' : (3 : Int) < s.size := by omega
  obtain ⟨a, ha, Ha⟩ := low_and c 7 7 3 rfl rfl (by omega) (by omega)
  obtain ⟨b, hb', Hb⟩ := low_and8 c1 hlt1
  obtain ⟨d, hd', Hd⟩ := low_and8 c2 hlt2
  obtain ⟨g, hg', Hg⟩ := low_and8 c3 hlt3
  have a1 : a < 8 := by have := Ha.out; omega
  have b1 : b < 64 := by have := Hb.out; omega
  have d1 : d < 64 := by have := Hd.out; omega
  have g1 : g < 64 := by have := Hg.out; omega
  obtain ⟨i, hi, Hi⟩ := join_or (a * 262144) (b * 4096) 18 ((a : Int) * 262144) (by omega) (by omega) (by omega) (by omega) (by omega)
  obtain ⟨m, hm, Hm⟩ := join_or i (d * 64) 12 (i : Int) rfl (by rw [Hi.out]; omega) (by omega) (by omega) (by rw [Hi.out]; omega)
  obtain ⟨j, hj, Hj⟩ := join_or m g 6 (m : Int) rfl (by rw [Hm.out, Hi.out]; omega) (by omega) (by omega) (by rw [Hm.out, Hi.out]; omega)
  have hj1 : j = c % 8 * 262144 + c1 % 64 * 4096 + c2 % 64 * 64 + c3 % 64 := by rw [Hj.out, Hm.out, Hi.out, Ha.out, Hb.out, Hd.out, Hg.out]
  have q1 : IntKind.i64.wrap ((a : Int) * 262144) = (a : Int) * 262144 := IntWalk.i64_in _ (by omega)
  have q2 : IntKind.i64.wrap ((b : Int) * 4096) = (b : Int) * 4096 := IntWalk.i64_in _ (by omega)
  have q3 : IntKind.i64.wrap ((d : Int) * 64) = (d : Int) * 64 := IntWalk.i64_in _ (by omega)
  rw [← hj1] at hJ
  have hi' : bits .or .i64 ((a : Int) * 262144) ((b : Int) * 4096) = (i : Int) := by rw [← hi]; congr 1
  have hm' : bits .or .i64 (i : Int) ((d : Int) * 64) = (m : Int) := by rw [← hm]; congr 1
  rw [← hJ] at hj
  clear hi hm hj1 hJ Hj Hm Hi Ha Hb Hd Hg
  rcases h with ⟨rfl, rfl, p1, p2⟩ | ⟨rfl, rfl, p1 | p1⟩
  all_goals
    go_enter Tryz.func96, Tryz.ntmps96
    go_wp2_with (go_at_call 102; first | (with_reducible refine (C.out _).mono ?_; rintro e w' ⟨rfl, rfl⟩) | (with_reducible refine (C2.out _).mono ?_; rintro e w' ⟨rfl, rfl⟩) | (with_reducible refine (C3.out _).mono ?_; rintro e w' ⟨rfl, rfl⟩))
    go_quiet (fail)
    go_wp2
    go_ret2
    exact ⟨ret_pair rfl rfl, _, rfl⟩
end Go.Proofs.YtleggfofgpiabaaGreat.NF

/-
  The reference's way to one rune: the whole.
-/
namespace Go.Proofs.YtleggfofgpiabaaGreat.NF
open Go.RowKit NM

def loneB (c : Nat) (t1 t2 t3 : Bool) : Prop :=
  c < 194 ∨ 194 ≤ c ∧ c ≤ 223 ∧ t1 = false ∨ 224 ≤ c ∧ c ≤ 239 ∧ t1 = false ∨ 224 ≤ c ∧ c ≤ 239 ∧ t1 = true ∧ t2 = false ∨ 240 ≤ c ∧ c ≤ 244 ∧ t1 = false ∨ 240 ≤ c ∧ c ≤ 244 ∧ t1 = true ∧ t2 = false ∨ 240 ≤ c ∧ c ≤ 244 ∧ t1 = true ∧ t2 = true ∧ t3 = false ∨ 245 ≤ c
set_option maxRecDepth 100000 in
set_option maxHeartbeats 2000000 in
theorem one_no (s : ByteArray) (c : Nat) (t1 t2 t3 : Bool) (w : World) (hs : 0 < s.size) (e0 : bt s.data.toList 0 = c) (e1 : ct s.data.toList 1 = t1) (e2 : ct s.data.toList 2 = t2) (e3 : ct s.data.toList 3 = t3) (h128 : 128 ≤ c)
    (h : loneB c t1 t2 t3) :
    Calls Tryz.prog 96 #[.string s] w fun e w' => e = .returned (.tuple #[.int .i64 (-1), .int .i64 1]) ∧ ∃ n, w' = w.drewN n := by
  have hb := byte_at s 0 hs
  have hlt := bt_lt s.data.toList 0
  rw [e0] at hb hlt
  clear e0
  have C := more_at s 1 1 rfl t1 e1 (by omega)
  have C2 := more_at s 2 2 rfl t2 e2 (by omega)
  have C3 := more_at s 3 3 rfl t3 e3 (by omega)
  clear e1 e2 e3
  have k0 : 128 ≤ (c : Int) := by omega
  have kk : (c : Int) < 256 := by omega
  unfold loneB at h
  rcases h with h | ⟨h1, h2, rfl⟩ | ⟨h1, h2, rfl⟩ | ⟨h1, h2, rfl, rfl⟩ | ⟨h1, h2, rfl⟩ | ⟨h1, h2, rfl, rfl⟩ | ⟨h1, h2, rfl, rfl, rfl⟩ | h
  · have k1 : (c : Int) < 194 := by omega
    go_enter Tryz.func96, Tryz.ntmps96
    go_wp2_with fail
    go_ret2
    exact ⟨rfl, 0, rfl⟩
  · have k1 : 194 ≤ (c : Int) := by omega
    have k2 : (c : Int) ≤ 223 := by omega
    go_enter Tryz.func96, Tryz.ntmps96
    go_wp2_with (go_at_call 102; first | (with_reducible refine (C.out _).mono ?_; rintro e w' ⟨rfl, rfl⟩))
    go_ret2
    exact ⟨rfl, 0, rfl⟩
  · have k1 : 224 ≤ (c : Int) := by omega
    have k2 : (c : Int) ≤ 239 := by omega
    go_enter Tryz.func96, Tryz.ntmps96
    go_wp2_with (go_at_call 102; first | (with_reducible refine (C.out _).mono ?_; rintro e w' ⟨rfl, rfl⟩))
    go_ret2
    exact ⟨rfl, 0, rfl⟩
  · have k1 : 224 ≤ (c : Int) := by omega
    have k2 : (c : Int) ≤ 239 := by omega
    go_enter Tryz.func96, Tryz.ntmps96
    go_wp2_with (go_at_call 102; first | (with_reducible refine (C.out _).mono ?_; rintro e w' ⟨rfl, rfl⟩) | (with_reducible refine (C2.out _).mono ?_; rintro e w' ⟨rfl, rfl⟩))
    go_ret2
    exact ⟨rfl, 0, rfl⟩
  · have k1 : 240 ≤ (c : Int) := by omega
    have k2 : (c : Int) ≤ 244 := by omega
    go_enter Tryz.func96, Tryz.ntmps96
    go_wp2_with (go_at_call 102; first | (with_reducible refine (C.out _).mono ?_; rintro e w' ⟨rfl, rfl⟩))
    go_ret2
    exact ⟨rfl, 0, rfl⟩
  · have k1 : 240 ≤ (c : Int) := by omega
    have k2 : (c : Int) ≤ 244 := by omega
    go_enter Tryz.func96, Tryz.ntmps96
    go_wp2_with (go_at_call 102; first | (with_reducible refine (C.out _).mono ?_; rintro e w' ⟨rfl, rfl⟩) | (with_reducible refine (C2.out _).mono ?_; rintro e w' ⟨rfl, rfl⟩))
    go_ret2
    exact ⟨rfl, 0, rfl⟩
  · have k1 : 240 ≤ (c : Int) := by omega
    have k2 : (c : Int) ≤ 244 := by omega
    go_enter Tryz.func96, Tryz.ntmps96
    go_wp2_with (go_at_call 102; first | (with_reducible refine (C.out _).mono ?_; rintro e w' ⟨rfl, rfl⟩) | (with_reducible refine (C2.out _).mono ?_; rintro e w' ⟨rfl, rfl⟩) | (with_reducible refine (C3.out _).mono ?_; rintro e w' ⟨rfl, rfl⟩))
    go_ret2
    exact ⟨rfl, 0, rfl⟩
  · have k1 : 245 ≤ (c : Int) := by omega
    go_enter Tryz.func96, Tryz.ntmps96
    go_wp2_with fail
    go_ret2
    exact ⟨rfl, 0, rfl⟩
theorem bool_no {b : Bool} (h : ¬ b = true) : b = false := by simpa using h
theorem one_any (s : ByteArray) (w : World) (hs : 0 < s.size) :
    Calls Tryz.prog 96 #[.string s] w fun e w' => e = .returned (.tuple #[.int .i64 (dec s.data.toList).1, .int .i64 ((dec s.data.toList).2 : Nat)]) ∧ ∃ n, w' = w.drewN n := by
  have hlt := bt_lt s.data.toList 0
  by_cases h0 : bt s.data.toList 0 < 128
  · have e : dec s.data.toList = (((bt s.data.toList 0 : Nat) : Int), 1) := by unfold dec; rw [if_pos h0]
    rw [e]
    exact one_1 s w hs h0
  have N : loneB (bt s.data.toList 0) (ct s.data.toList 1) (ct s.data.toList 2) (ct s.data.toList 3) → dec s.data.toList = (-1, 1) →
      Calls Tryz.prog 96 #[.string s] w fun e w' => e = .returned (.tuple #[.int .i64 (dec s.data.toList).1, .int .i64 ((dec s.data.toList).2 : Nat)]) ∧ ∃ n, w' = w.drewN n := fun h e => by
    rw [e]
    exact one_no s _ _ _ _ w hs rfl rfl rfl rfl (by omega) h
  by_cases c1 : bt s.data.toList 0 / 32 = 6 ∧ ct s.data.toList 1 = true
  · by_cases hv : 194 ≤ bt s.data.toList 0
    · have e : dec s.data.toList = (((bt s.data.toList 0 % 32 * 64 + bt s.data.toList 1 % 64 : Nat) : Int), 2) := by
        unfold dec; rw [if_neg h0, if_pos c1, if_pos (by omega)]
      rw [e]
      exact one_2 s w hs hv (by omega) c1.2
    · refine N (by unfold loneB; omega) ?_
      unfold dec; rw [if_neg h0, if_pos c1, if_neg (by omega)]
  by_cases c2 : bt s.data.toList 0 / 16 = 14 ∧ ct s.data.toList 1 = true ∧ ct s.data.toList 2 = true
  · have h3 := one_3 s w hs (by omega) (by omega) c2.2.1 c2.2.2 _ (dec s.data.toList).1 ((dec s.data.toList).2 : Nat) rfl
    apply h3
    unfold val3 dec
    rw [if_neg h0, if_neg c1, if_pos c2]
    split
    · refine .inl ⟨rfl, rfl, ?_⟩; omega
    · refine .inr ⟨rfl, rfl, ?_⟩; omega
  by_cases c3 : bt s.data.toList 0 / 8 = 30 ∧ ct s.data.toList 1 = true ∧ ct s.data.toList 2 = true ∧ ct s.data.toList 3 = true
  · by_cases hv : bt s.data.toList 0 ≤ 244
    · have h4 := one_4 s w hs (by omega) hv c3.2.1 c3.2.2.1 c3.2.2.2 _ (dec s.data.toList).1 ((dec s.data.toList).2 : Nat) rfl
      apply h4
      unfold val4 dec
      rw [if_neg h0, if_neg c1, if_neg c2, if_pos c3]
      split
      · refine .inl ⟨rfl, rfl, ?_, ?_⟩ <;> omega
      · refine .inr ⟨rfl, rfl, ?_⟩; omega
    · refine N (by unfold loneB; omega) ?_
      unfold dec; rw [if_neg h0, if_neg c1, if_neg c2, if_pos c3, if_neg (by omega)]
  · refine N ?_ (by unfold dec; rw [if_neg h0, if_neg c1, if_neg c2, if_neg c3])
    generalize bt s.data.toList 0 = c at *
    generalize ct s.data.toList 1 = t1 at *
    generalize ct s.data.toList 2 = t2 at *
    generalize ct s.data.toList 3 = t3 at *
    clear N
    unfold loneB
    cases t1 <;> cases t2 <;> cases t3 <;> simp at c1 c2 c3 ⊢ <;> omega
end Go.Proofs.YtleggfofgpiabaaGreat.NF
