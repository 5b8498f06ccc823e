/-
  Words of bytes; bounds.
-/
import Derived.Test.YtdlinlkdielmkaaWireFn3
set_option linter.unusedSimpArgs false
set_option linter.unusedVariables false
namespace Go.Proofs.Ytdlinlkdielmkaa.NR
open Go.RowKit WM

def joinW : List UInt8 → Nat
  | [] => 0
  | c :: t => c.toNat + 256 * joinW t
theorem joinW_lt : ∀ l : List UInt8, joinW l < 256 ^ l.length
  | [] => by simp [joinW]
  | c :: t => by
    have := joinW_lt t
    have := lt256 c
    rw [joinW, List.length_cons, Nat.pow_succ]
    omega
theorem joinW_snoc : ∀ (l : List UInt8) (c : UInt8), joinW (l ++ [c]) = joinW l + c.toNat * 256 ^ l.length
  | [], c => by simp [joinW]
  | d :: t, c => by
    have e := joinW_snoc t c
    rw [List.cons_append, joinW, e, joinW, List.length_cons, Nat.pow_succ, Nat.mul_add]
    have : c.toNat * (256 ^ t.length * 256) = 256 * (c.toNat * 256 ^ t.length) := by
      rw [← Nat.mul_assoc, Nat.mul_comm]
    omega
theorem joinW_four (l : List UInt8) (h : l.length = 4) : joinW l = word4 l := by
  match l, h with
  | [a, b, c, d], _ => simp only [joinW, word4]; omega
theorem wrap32_small (x : Int) (h0 : 0 ≤ x) (h : x < 4294967296) : IntKind.u32.wrap x = x := by
  rw [IntKind.wrap_u32]; omega
theorem pow8 (k : Nat) : 2 ^ (8 * k) = 256 ^ k := by rw [Nat.pow_mul]
theorem word_step (J k : Nat) (y : UInt8) (hJ : J < 256 ^ k) (hk : k ≤ 3) :
    bits .or .u32 (J : Int) ((y.toNat : Int) % 4294967296 * 2 ^ (8 * k) % 4294967296) = ((J + y.toNat * 256 ^ k : Nat) : Int) := by
  have hy := lt256 y
  have hp : 256 ^ k ≤ 256 ^ 3 := Nat.pow_le_pow_right (by omega) hk
  have hm : y.toNat * 256 ^ k < 256 * 256 ^ 3 := by
    have h1 : y.toNat * 256 ^ k ≤ 255 * 256 ^ k := Nat.mul_le_mul_right _ (by omega)
    have h2 : 255 * 256 ^ k ≤ 255 * 256 ^ 3 := Nat.mul_le_mul_left _ hp
    omega
  have e1 : (y.toNat : Int) * 2 ^ (8 * k) = ((y.toNat * 256 ^ k : Nat) : Int) := by
    rw [← pow8, Int.natCast_mul, Int.natCast_pow]
    rfl
  rw [Int.emod_eq_of_lt (a := (y.toNat : Int)) (by omega) (by omega), e1, Int.emod_eq_of_lt (by omega) (by omega), u32_or_nat _ _ (by omega) (by omega), ← pow8, or_add _ _ _ (by rw [pow8]; exact hJ)]
theorem toWord_none (G : Nat → Prop) (v : Value) (w : World) (hr : Reads G w v (u8s [])) :
    Calls Try.prog 83 #[v] w fun e w' => e = .returned (.int .u32 0) ∧ w = w' := by
  obtain ⟨a, cap, rfl, h1, h2⟩ := hr.shape
  go_enter Try.func83, Try.ntmps83
  go_wp2_with fail
  refine wp_loop_rounds 1 ?_
  rw [rounds_succ]
  go_wp2
  go_ret
  exact ⟨rfl, rfl⟩
theorem toWord_four (G : Nat → Prop) (l : List UInt8) (v : Value) (w : World) (hr : Reads G w v (u8s l)) (hl : l.length = 4) :
    Calls Try.prog 83 #[v] w fun e w' => e = .returned (.int .u32 (word4 l : Nat)) ∧ w = w' := by
  obtain ⟨g, off, cap, rfl, hg, h1, h2, hcell⟩ := hr.cells (by intro h; have := congrArg List.length h; simp [u8s] at this; subst this; simp at hl)
  rw [u8s_len] at *
  have HC0 : ∀ k, k < l.length → ∃ y : UInt8, l[k]? = some y ∧ w.cell? ⟨g, off + k, none⟩ = some (.int .u8 (y.toNat : Int)) := fun k hk =>
    ⟨l[k], by simp, (hcell k (by omega)).trans (u8s_get _ l[k] k (by simp))⟩
  have HC := Lib.hid HC0
  have HW := Lib.hid (joinW_four l hl)
  clear hcell hr h1 HC0 h2
  have HL := Lib.hid hl
  rw [hl]
  clear hl
  go_enter Try.func83, Try.ntmps83
  go_wp2_with fail
  go_loop [3, 8] (fun a i => ∃ k : Nat, k ≤ 4 ∧ i = .int .i64 (k : Int) ∧ a = .int .u32 (joinW (l.take k) : Nat)) (fun _ i => 4 - (intOf i).toNat)
  case atStart => exact ⟨0, by omega, rfl, rfl⟩
  case round =>
    obtain ⟨k, hk, rfl, rfl⟩ := hrel
    by_cases hlt : k < 4
    · have hlt' : (k : Int) < 4 := by omega
      obtain ⟨y, hly, hck⟩ := HC.out k (by rw [HL.out]; exact hlt)
      have HY := Lib.hid hly
      clear hly
      have hj := joinW_lt (l.take k)
      rw [List.length_take, HL.out, Nat.min_eq_left hk] at hj
      generalize hJJ : joinW (l.take k) = J at *
      have HJ := Lib.hid hJJ
      clear hJJ
      go_wp2_with fail
      go_roundw
      case rel =>
        refine ⟨k + 1, by omega, by go_num, ?_⟩
        rw [word_step J k y hj (by omega), List.take_add_one, HY.out]
        simp only [Option.toList]
        rw [joinW_snoc, List.length_take, HL.out, Nat.min_eq_left hk, HJ.out]
      case measure => simp [intOf]; omega
    · have hn : ¬ (k : Int) < 4 := by omega
      go_wp2_with fail
      go_ret
      rw [List.take_of_length_le (by rw [HL.out]; omega), HW.out]
      exact ⟨rfl, rfl⟩
theorem bound_any (m : Int) (w : World) (h : -9223372036854775808 ≤ m ∧ m ≤ 9223372036854775807) :
    Calls Try.prog 86 #[.int .i64 m] w fun e w' => e = .returned (.int .u32 (min (max m 0) 4294967295)) ∧ w = w' := by
  obtain ⟨h1, h2⟩ := h
  go_enter Try.func86, Try.ntmps86
  go_wp2
  go_ret
  exact ⟨rfl, rfl⟩
theorem endless_any (G : Nat → Prop) (l : List UInt8) (v : Value) (w : World) (hr : Reads G w v (u8s l)) (k : Int) (hk : k = if l.length = 5 then 4 else 3) :
    Calls Try.prog 92 #[v] w fun e w' => e = .returned (.int .i64 k) ∧ w = w' := by
  obtain ⟨a, cap, rfl, h1, h2⟩ := hr.shape
  rw [u8s_len]
  clear hr h1 h2
  by_cases h5 : l.length = 5
  · rw [if_pos h5] at hk
    subst hk
    have h5' : ((l.length : Int) == 5) = true := by simp [h5]
    clear h5
    go_enter Try.func92, Try.ntmps92
    go_wp2
    go_ret
    exact ⟨rfl, rfl⟩
  · rw [if_neg h5] at hk
    subst hk
    have h5' : ((l.length : Int) == 5) = false := by simp; omega
    clear h5
    go_enter Try.func92, Try.ntmps92
    go_wp2
    go_ret
    exact ⟨rfl, rfl⟩
theorem takeW_at : ∀ (n k : Nat) (l : List UInt8), k < n → (takeW n l)[k]? = some (word4 ((l.drop (4 * k)).take 4))
  | 0, k, l, h => by omega
  | n + 1, 0, l, h => by simp [takeW]
  | n + 1, k + 1, l, h => by
    rw [takeW, List.getElem?_cons_succ, takeW_at n k (l.drop 4) (by omega), List.drop_drop, show 4 + 4 * k = 4 * (k + 1) by omega]
/-- the words so far, and noughts -/
def halfW (n k : Nat) (l : List UInt8) : List Value := u32s ((takeW n l).take k) ++ List.replicate (n - k) (.int .u32 0)
theorem halfW_end (n : Nat) (l : List UInt8) : halfW n n l = u32s (takeW n l) := by
  unfold halfW
  rw [List.take_of_length_le (by rw [takeW_length]; omega), Nat.sub_self]
  simp
theorem halfW_len (n k : Nat) (l : List UInt8) (h : k ≤ n) : (halfW n k l).length = n := by
  simp [halfW, u32s, takeW_length]; omega
theorem halfW_step (n k : Nat) (l : List UInt8) (h : k < n) : (halfW n k l).set k (.int .u32 (word4 ((l.drop (4 * k)).take 4) : Nat)) = halfW n (k + 1) l := by
  have e := takeW_at n k l h
  have hl : (u32s ((takeW n l).take k)).length = k := by simp [u32s, takeW_length]; omega
  unfold halfW
  generalize word4 ((l.drop (4 * k)).take 4) = x at *
  rw [List.set_append_right _ _ (by omega), hl, Nat.sub_self, List.take_add_one, e, show n - k = (n - (k + 1)) + 1 by omega, List.replicate_succ]
  simp [u32s]
end Go.Proofs.Ytdlinlkdielmkaa.NR
