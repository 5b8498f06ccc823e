/-
  Plain facts on numbers for the layer word, more: what is put is read; a word is its parts; signs; digits.
-/
import Derived.Test.YtoohfmkhjhcopaaGreatDoorWordMath
import Derived.Test.YtoohfmkhjhcopaaGreatDoorWordParse
set_option linter.unusedSimpArgs false
set_option linter.unusedVariables false
namespace Go.Proofs.YtoohfmkhjhcopaaGreatDoor.WM
open Go.RowKit WF

theorem cutN_one (w i : Nat) : cutN w i 1 = w / 2 ^ i % 2 := by simp [cutN]
theorem cut_put_out (x a n v i : Nat) (hx : x < 4294967296) (h : a + n ≤ 32) (hi : ¬ (a ≤ i ∧ i < a + n)) : cutN (putN x a n v) i 1 = cutN x i 1 := by
  rw [cutN_one, cutN_one, put_bit_out x a n v i hx h hi]
theorem cut_put (x a n v : Nat) (hx : x < 4294967296) (h : a + n ≤ 32) : cutN (putN x a n v) a n = v % 2 ^ n := by
  apply Nat.eq_of_testBit_eq
  intro i
  rw [cutN_testBit, Nat.testBit_mod_two_pow, putN_testBit x a n v _ hx h]
  by_cases hi : i < n
  · rw [if_pos (by omega), show a + i - a = i by omega]
  · simp [hi]
theorem put_cut (x a n v : Nat) (hx : x < 4294967296) (h : a + n ≤ 32) : putN (putN x a n v) a n (cutN x a n) = x := by
  apply Nat.eq_of_testBit_eq
  intro i
  rw [putN_testBit _ a n _ _ (putN_lt x a n v hx) h, putN_testBit x a n v _ hx h, cutN_testBit]
  by_cases hi : a ≤ i ∧ i < a + n
  · have e : a + (i - a) = i := by omega
    have e2 : i - a < n := by omega
    simp [hi, e, e2]
  · simp [hi]
theorem put_put (x k : Nat) (hx : x < 4294967296) (hk : k ≤ 32) : putN (putN 0 0 k (cutN x 0 k)) k (32 - k) (cutN x k (32 - k)) = x := by
  apply Nat.eq_of_testBit_eq
  intro i
  rw [putN_testBit _ k (32 - k) _ _ (putN_lt 0 0 k _ (by omega)) (by omega), putN_testBit 0 0 k _ _ (by omega) (by omega), cutN_testBit, cutN_testBit]
  by_cases h1 : k ≤ i ∧ i < k + (32 - k)
  · have e : k + (i - k) = i := by omega
    have e2 : i - k < 32 - k := by omega
    rw [if_pos h1, e]
    simp [e2]
  · rw [if_neg h1]
    by_cases h2 : i < k
    · simp [h2]
    · have hi : x.testBit i = false := Nat.testBit_lt_two_pow (Nat.lt_of_lt_of_le hx (show 2 ^ 32 ≤ 2 ^ i from Nat.pow_le_pow_right (by omega) (by omega)))
      simp [h2, hi]
theorem mask_eq (v : Nat) (n : Int) (hv : v < 4294967296) (hn : 0 ≤ n ∧ n ≤ 32) : bits .and .u32 (v : Int) ((2 ^ n.toNat % 4294967296 - 1) % 4294967296) = ((v % 2 ^ n.toNat : Nat) : Int) := by
  rw [low_eq n.toNat (by omega), u32_and_nat _ _ hv (low_lt n.toNat (by omega)), and_low]
theorem mask_all (v : Nat) (hv : v < 4294967296) : bits .and .u32 (v : Int) 4294967295 = ((v % 2 ^ 32 : Nat) : Int) := by
  have := u32_and_nat v 4294967295 hv (by omega)
  rw [show ((4294967295 : Nat) : Int) = 4294967295 from rfl] at this
  rw [this]
  congr 1
  exact and_low v 32

theorem fit_sgn (x : Nat) (n : Int) (h : 1 ≤ n ∧ n ≤ 32) : fitB (sgnI x n.toNat) n.toNat = true := by
  unfold fitB sgnI
  rw [decide_eq_true_iff]
  rcases width_cases n h with rfl | rfl | rfl | rfl | rfl | rfl | rfl | rfl | rfl | rfl | rfl | rfl | rfl | rfl | rfl | rfl | rfl | rfl | rfl | rfl | rfl | rfl | rfl | rfl | rfl | rfl | rfl | rfl | rfl | rfl | rfl | rfl <;> simp <;> split <;> omega
theorem cut_sgn (v n : Int) (h : 1 ≤ n ∧ n ≤ 32) : cutI (sgnI (v % 4294967296).toNat n.toNat) n = cutI v n := by
  unfold cutI sgnI
  simp only [if_neg (show ¬ n < 1 by omega), if_neg (show ¬ 32 < n by omega)]
  rcases width_cases n h with rfl | rfl | rfl | rfl | rfl | rfl | rfl | rfl | rfl | rfl | rfl | rfl | rfl | rfl | rfl | rfl | rfl | rfl | rfl | rfl | rfl | rfl | rfl | rfl | rfl | rfl | rfl | rfl | rfl | rfl | rfl | rfl <;> simp <;> first | omega | (split <;> omega)
theorem fit_same (v n : Int) (h : 1 ≤ n ∧ n ≤ 32) (hv : -2147483648 ≤ v ∧ v ≤ 2147483647) : (fitB v n.toNat = true ↔ sgnI (v % 4294967296).toNat n.toNat = v) := by
  unfold fitB sgnI
  rw [decide_eq_true_iff]
  rcases width_cases n h with rfl | rfl | rfl | rfl | rfl | rfl | rfl | rfl | rfl | rfl | rfl | rfl | rfl | rfl | rfl | rfl | rfl | rfl | rfl | rfl | rfl | rfl | rfl | rfl | rfl | rfl | rfl | rfl | rfl | rfl | rfl | rfl <;> simp <;> split <;> omega

/-! digits -/
theorem hex_size (x : Nat) : (strOfNums (hexL x)).size = 8 := by rw [strOfNums_size]; simp [hexL]
theorem hexd_bd (d : Nat) (h : d < 16) : 0 ≤ hexd d ∧ hexd d < 256 := by unfold hexd; split <;> omega
theorem hex_bt (x j : Nat) (h : j < 8) : bt (strOfNums (hexL x)) j = hexd (cutN x (4 * (7 - j)) 4) := by
  unfold bt
  rw [strOfNums_data]
  have hd := hexd_bd (cutN x (4 * (7 - j)) 4) (cutN_lt x (4 * (7 - j)) 4)
  simp [hexL, h]
  omega
theorem hex_ok (x : Nat) : okW (strOfNums (hexL x)) := ⟨hex_size x, fun j hj => by
  rw [hex_bt x j hj, dv_hexd _ (cutN_lt x (4 * (7 - j)) 4)]
  have := cutN_lt x (4 * (7 - j)) 4
  omega⟩
theorem hex_pv (x : Nat) (hx : x < 4294967296) : ∀ k, k ≤ 8 → pv (strOfNums (hexL x)) k = x / 2 ^ (4 * (8 - k))
  | 0, _ => by simp [pv]; omega
  | k + 1, h => by
    rw [pv, hex_pv x hx k (by omega), hex_bt x k (by omega), dv_hexd _ (cutN_lt x (4 * (7 - k)) 4), Int.toNat_natCast]
    unfold cutN
    rw [show 4 * (8 - k) = 4 * (7 - k) + 4 by omega, show 8 - (k + 1) = 7 - k by omega, Nat.pow_add, ← Nat.div_div_eq_div_mul]
    omega
theorem pv_shift (s : ByteArray) (j : Nat) : ∀ i, okN s (j + i) → pv s (j + i) / 2 ^ (4 * i) = pv s j
  | 0, _ => by simp
  | i + 1, h => by
    have ih := pv_shift s j i (fun q hq => h q (by omega))
    have hd := h (j + i) (by omega)
    have hb := dv_bd (bt s (j + i))
    rw [show j + (i + 1) = j + i + 1 by omega, pv, show 4 * (i + 1) = 4 + 4 * i by omega, Nat.pow_add, ← Nat.div_div_eq_div_mul]
    rw [show (pv s (j + i) * 16 + (dv (bt s (j + i))).toNat) / 2 ^ 4 = pv s (j + i) by omega]
    exact ih
theorem cut_pv (s : ByteArray) (h : okN s 8) (j : Nat) (hj : j < 8) : (cutN (pv s 8) (4 * (7 - j)) 4 : Nat) = (dv (bt s j)).toNat := by
  have h1 := pv_shift s (j + 1) (7 - j) (by rw [show j + 1 + (7 - j) = 8 by omega]; exact h)
  rw [show j + 1 + (7 - j) = 8 by omega] at h1
  have hd := h j hj
  have hb := dv_bd (bt s j)
  unfold cutN
  rw [h1, pv]
  omega
theorem hex_of_pv (s : ByteArray) (h : okW s) : strOfNums (hexL (pv s 8)) = s := by
  obtain ⟨h8, hok⟩ := h
  have hl : ((hexL (pv s 8)).map fun n => UInt8.ofNat n.toNat) = s.data.toList := by
    apply List.ext_getElem?
    intro j
    by_cases hj : j < 8
    · have hs : j < s.data.toList.length := by
        have : s.data.toList.length = s.size := by rw [Array.length_toList]; rfl
        omega
      rw [List.getElem?_eq_getElem hs]
      have hd := hexd_dv (bt s j) (hok j hj)
      have hc := cut_pv s hok j hj
      simp only [hexL, List.map_map, List.getElem?_map, List.getElem?_range hj, Option.map_some, Function.comp]
      rw [hc, hd]
      unfold bt
      rw [List.getD_eq_getElem?_getD, List.getElem?_eq_getElem hs]
      simp
    · have : s.data.toList.length = s.size := by rw [Array.length_toList]; rfl
      rw [List.getElem?_eq_none (by simp [hexL]; omega), List.getElem?_eq_none (by omega)]
  have : (strOfNums (hexL (pv s 8))).data.toList = s.data.toList := by rw [strOfNums_data]; exact hl
  have h2 : (strOfNums (hexL (pv s 8))).data = s.data := Array.toList_inj.1 this
  cases s
  generalize strOfNums _ = t at h2
  cases t
  simpa using h2
end Go.Proofs.YtoohfmkhjhcopaaGreatDoor.WM
