/-
  Plain facts on instructions and their words, as numbers. Nothing of the program is used.
-/
import Derived.Test.YtdnjilnnlgphhaaWordMath
set_option linter.unusedSimpArgs false
set_option linter.unusedVariables false
namespace Go.Proofs.Ytdnjilnnlgphhaa.IM
open WM

/-- which parts an operation uses -/
def uD (o : Int) : Bool := decide ((2 ≤ o ∧ o ≤ 13) ∨ o = 15 ∨ o = 16)
def uA (o : Int) : Bool := decide ((3 ≤ o ∧ o ≤ 13) ∨ o = 15 ∨ o = 16 ∨ o = 19)
def uB (o : Int) : Bool := decide (3 ≤ o ∧ o ≤ 10)
def uI (o : Int) : Bool := decide (o = 2 ∨ (11 ≤ o ∧ o ≤ 17) ∨ o = 21)
/-- a part that is not there, or not used and not 0 -/
def badB (o d a b m : Int) : Bool := decide (21 < o ∨ 7 < d ∨ 7 < a ∨ 7 < b ∨ ¬ ((2 ≤ o ∧ o ≤ 13) ∨ o = 15 ∨ o = 16) ∧ d ≠ 0 ∨ ¬ ((3 ≤ o ∧ o ≤ 13) ∨ o = 15 ∨ o = 16 ∨ o = 19) ∧ a ≠ 0 ∨ ¬ (3 ≤ o ∧ o ≤ 10) ∧ b ≠ 0 ∨ ¬ (o = 2 ∨ (11 ≤ o ∧ o ≤ 17) ∨ o = 21) ∧ m ≠ 0)
def badP (o d a b m : Int) : Bool := decide (7 < d ∨ 7 < a ∨ 7 < b ∨ ¬ ((2 ≤ o ∧ o ≤ 13) ∨ o = 15 ∨ o = 16) ∧ d ≠ 0 ∨ ¬ ((3 ≤ o ∧ o ≤ 13) ∨ o = 15 ∨ o = 16 ∨ o = 19) ∧ a ≠ 0 ∨ ¬ (3 ≤ o ∧ o ≤ 10) ∧ b ≠ 0 ∨ ¬ (o = 2 ∨ (11 ≤ o ∧ o ≤ 17) ∨ o = 21) ∧ m ≠ 0)
theorem badP_eq (o d a b m : Int) : badB o d a b m = (decide (21 < o) || badP o d a b m) := by
  unfold badB badP
  rw [Bool.eq_iff_iff]
  simp
/-- a number that its place does not hold -/
def farB (o m : Int) : Bool := decide (m < -1048576 ∨ 1048575 < m ∨ (o = 17 ∨ o = 21) ∧ m < 0 ∨ o = 21 ∧ 63 < m)
def chk (o d a b m : Int) : Int := if badB o d a b m then 10 else if farB o m then 11 else 0
/-- the word of an instruction that may be -/
def low (o b m : Int) : Int := if 3 ≤ o ∧ o ≤ 10 then b else m % 2097152
def enc (o d a b m : Int) : Int := o * 134217728 + d * 16777216 + a * 2097152 + low o b m
def encR (o d a b m : Int) : Int := if chk o d a b m = 0 then enc o d a b m else 0
/-- may it be? -/
def InsOk (o d a b m : Int) : Prop := 0 ≤ o ∧ o ≤ 21 ∧ 0 ≤ d ∧ d ≤ 7 ∧ 0 ≤ a ∧ a ≤ 7 ∧ 0 ≤ b ∧ b ≤ 7 ∧ -1048576 ≤ m ∧ m ≤ 1048575 ∧ (((2 ≤ o ∧ o ≤ 13) ∨ o = 15 ∨ o = 16) ∨ d = 0) ∧ (((3 ≤ o ∧ o ≤ 13) ∨ o = 15 ∨ o = 16 ∨ o = 19) ∨ a = 0) ∧
  ((3 ≤ o ∧ o ≤ 10) ∨ b = 0) ∧ ((o = 2 ∨ (11 ≤ o ∧ o ≤ 17) ∨ o = 21) ∨ m = 0) ∧ ((o = 17 ∨ o = 21) → 0 ≤ m) ∧ (o = 21 → m ≤ 63)
theorem chk_good {o d a b m : Int} (ho : 0 ≤ o) (hd : 0 ≤ d) (ha : 0 ≤ a) (hb : 0 ≤ b) : chk o d a b m = 0 ↔ InsOk o d a b m := by
  unfold chk badB farB InsOk
  simp only [decide_eq_true_eq]
  split
  · omega
  · split <;> omega
theorem chk_cases (o d a b m : Int) : chk o d a b m = 0 ∨ chk o d a b m = 10 ∨ chk o d a b m = 11 := by
  unfold chk
  split
  · simp
  · split <;> simp
/-- the parts of a word -/
def pO (w : Int) : Int := w / 134217728
def pD (w : Int) : Int := w / 16777216 % 8
def pA (w : Int) : Int := w / 2097152 % 8
def pB (w : Int) : Int := if 3 ≤ pO w ∧ pO w ≤ 10 then w % 8 else 0
def pM (w : Int) : Int := if 3 ≤ pO w ∧ pO w ≤ 10 then 0 else if w % 2097152 < 1048576 then w % 2097152 else w % 2097152 - 2097152
/-- is there an instruction with this word? -/
def hasB (w : Int) : Bool := decide (chk (pO w) (pD w) (pA w) (pB w) (pM w) = 0 ∧ enc (pO w) (pD w) (pA w) (pB w) (pM w) = w)
theorem part_bd {w : Int} (h : 0 ≤ w ∧ w ≤ 4294967295) : (0 ≤ pO w ∧ pO w ≤ 31) ∧ (0 ≤ pD w ∧ pD w ≤ 7) ∧ (0 ≤ pA w ∧ pA w ≤ 7) ∧ (0 ≤ pB w ∧ pB w ≤ 7) ∧ -1048576 ≤ pM w ∧ pM w ≤ 1048575 := by
  unfold pB pM pD pA pO
  refine ⟨by omega, by omega, by omega, by split <;> omega, by split <;> (try split) <;> omega, by split <;> (try split) <;> omega⟩
theorem enc_bd {o d a b m : Int} (h : InsOk o d a b m) : 0 ≤ enc o d a b m ∧ enc o d a b m ≤ 4294967295 := by
  unfold InsOk at h
  unfold enc low
  split <;> omega
/-- what is laid is read -/
theorem parts_enc {o d a b m : Int} (h : InsOk o d a b m) : pO (enc o d a b m) = o ∧ pD (enc o d a b m) = d ∧ pA (enc o d a b m) = a ∧ pB (enc o d a b m) = b ∧ pM (enc o d a b m) = m := by
  have e1 : 0 ≤ low o b m ∧ low o b m < 2097152 := by
    unfold InsOk at h
    unfold low
    split <;> omega
  have hO : pO (enc o d a b m) = o := by
    unfold InsOk at h
    unfold pO enc
    omega
  refine ⟨hO, ?_, ?_, ?_, ?_⟩
  · unfold InsOk at h
    unfold pD enc
    omega
  · unfold InsOk at h
    unfold pA enc
    omega
  · unfold pB
    rw [hO]
    unfold InsOk at h
    unfold enc low
    split <;> omega
  · unfold pM
    rw [hO]
    unfold InsOk at h
    unfold enc low
    split
    · omega
    · split <;> omega
theorem has_enc {o d a b m : Int} (h : InsOk o d a b m) : hasB (enc o d a b m) = true := by
  obtain ⟨e1, e2, e3, e4, e5⟩ := parts_enc h
  unfold hasB
  rw [e1, e2, e3, e4, e5]
  have g := h
  unfold InsOk at g
  simp [(chk_good (by omega) (by omega) (by omega) (by omega)).2 h]
theorem enc_inj {o d a b m o' d' a' b' m' : Int} (h : InsOk o d a b m) (h' : InsOk o' d' a' b' m') (e : enc o d a b m = enc o' d' a' b' m') : o = o' ∧ d = d' ∧ a = a' ∧ b = b' ∧ m = m' := by
  obtain ⟨e1, e2, e3, e4, e5⟩ := parts_enc h
  obtain ⟨f1, f2, f3, f4, f5⟩ := parts_enc h'
  rw [e] at e1 e2 e3 e4 e5
  exact ⟨e1.symm.trans f1, e2.symm.trans f2, e3.symm.trans f3, e4.symm.trans f4, e5.symm.trans f5⟩
theorem has_good {w : Int} (hw : 0 ≤ w ∧ w ≤ 4294967295) (h : hasB w = true) : InsOk (pO w) (pD w) (pA w) (pB w) (pM w) ∧ enc (pO w) (pD w) (pA w) (pB w) (pM w) = w := by
  unfold hasB at h
  rw [decide_eq_true_eq] at h
  obtain ⟨b1, b2, b3, b4, _⟩ := part_bd hw
  exact ⟨(chk_good b1.1 b2.1 b3.1 b4.1).1 h.1, h.2⟩

/-! the parts as the calls of layer 1 tell them -/
/-- a part that is put where there is nothing from there on down -/
theorem put_add (q a n v : Nat) (hq : 2 ^ (a + n) * q < 4294967296) (x : Nat) (hx : x < 2 ^ a) (h : a + n ≤ 32) (hv : v < 2 ^ n) : putN (2 ^ (a + n) * q + x) a n v = 2 ^ (a + n) * q + 2 ^ a * v + x := by
  have hlt : 2 ^ (a + n) * q + x < 4294967296 := by
    have hd : 4294967296 = 2 ^ (a + n) * 2 ^ (32 - (a + n)) := by rw [← Nat.pow_add, show a + n + (32 - (a + n)) = 32 by omega]
    rw [hd] at hq ⊢
    have hq' : q < 2 ^ (32 - (a + n)) := Nat.lt_of_mul_lt_mul_left hq
    have h1 : 2 ^ a ≤ 2 ^ (a + n) := Nat.pow_le_pow_right (by omega) (by omega)
    calc 2 ^ (a + n) * q + x < 2 ^ (a + n) * q + 2 ^ (a + n) := by omega
      _ = 2 ^ (a + n) * (q + 1) := by rw [Nat.mul_add, Nat.mul_one]
      _ ≤ _ := Nat.mul_le_mul_left _ hq'
  apply Nat.eq_of_testBit_eq
  intro i
  have hx2 : x < 2 ^ (a + n) := Nat.lt_of_lt_of_le hx (Nat.pow_le_pow_right (by omega) (by omega))
  have hy : 2 ^ a * v + x < 2 ^ (a + n) := by
    rw [Nat.pow_add]
    calc 2 ^ a * v + x < 2 ^ a * v + 2 ^ a := by omega
      _ = 2 ^ a * (v + 1) := by rw [Nat.mul_add, Nat.mul_one]
      _ ≤ _ := Nat.mul_le_mul_left _ hv
  rw [putN_testBit _ _ _ _ _ hlt h, Nat.testBit_two_pow_mul_add _ hx2, show 2 ^ (a + n) * q + 2 ^ a * v + x = 2 ^ (a + n) * q + (2 ^ a * v + x) by omega, Nat.testBit_two_pow_mul_add _ hy, Nat.testBit_two_pow_mul_add _ hx]
  by_cases h1 : i < a
  · rw [if_neg (by omega), if_pos (by omega), if_pos (by omega), if_pos h1]
  · by_cases h2 : i < a + n
    · rw [if_pos (by omega), if_pos h2, if_neg h1]
    · rw [if_neg (by omega), if_neg h2, if_neg h2]
theorem put1 (v : Nat) (hv : v < 32) : putN 0 27 5 v = 134217728 * v := by
  have := put_add 0 27 5 v (by simp) 0 (by simp) (by omega) (by omega)
  simpa using this
theorem put2 (q v : Nat) (hq : q < 32) (hv : v < 8) : putN (134217728 * q) 24 3 v = 134217728 * q + 16777216 * v := by
  have := put_add q 24 3 v (by simp; omega) 0 (by simp) (by omega) (by omega)
  simpa using this
theorem put3 (q v : Nat) (hq : q < 256) (hv : v < 8) : putN (16777216 * q) 21 3 v = 16777216 * q + 2097152 * v := by
  have := put_add q 21 3 v (by simp; omega) 0 (by simp) (by omega) (by omega)
  simpa using this
theorem put4 (q v : Nat) (hq : q < 2048) (hv : v < 2097152) : putN (2097152 * q) 0 21 v = 2097152 * q + v := by
  have := put_add q 0 21 v (by simp; omega) 0 (by simp) (by omega) (by omega)
  simpa using this
theorem put5 (q v : Nat) (hq : q < 2048) (hv : v < 8) : putN (2097152 * q) 0 3 v = 2097152 * q + v := by
  have := put_add (262144 * q) 0 3 v (by simp; omega) 0 (by simp) (by omega) (by omega)
  rw [show 2097152 * q = 8 * (262144 * q) by omega]
  simpa using this
theorem head_eq (o d a : Nat) (ho : o < 32) (hd : d < 8) (ha : a < 8) : putN (putN (putN 0 27 5 o) 24 3 d) 21 3 a = 2097152 * (64 * o + 8 * d + a) := by
  rw [put1 o ho, put2 o d ho hd, show 134217728 * o + 16777216 * d = 16777216 * (8 * o + d) by omega, put3 _ a (by omega) ha]
  omega
theorem cutI_21 (m : Int) : cutI m 21 = m % 2097152 := by simp [cutI]
/-- the program's word with B, the reference's, and the word with a number -/
theorem enc_b {o d a b m : Int} (h : InsOk o d a b m) (hB : 3 ≤ o ∧ o ≤ 10) :
    ((putN (putN (putN (putN 0 27 5 o.toNat) 24 3 d.toNat) 21 3 a.toNat) 0 3 b.toNat : Nat) : Int) = enc o d a b m ∧ ((putN (putN (putN (putN 0 27 5 o.toNat) 24 3 d.toNat) 21 3 a.toNat) 0 21 b.toNat : Nat) : Int) = enc o d a b m := by
  unfold InsOk at h
  rw [head_eq _ _ _ (by omega) (by omega) (by omega), put5 _ _ (by omega) (by omega), put4 _ _ (by omega) (by omega)]
  unfold enc low
  rw [if_pos hB]
  omega
theorem enc_m {o d a b m : Int} (h : InsOk o d a b m) (hB : ¬ (3 ≤ o ∧ o ≤ 10)) :
    ((putN (putN (putN (putN 0 27 5 o.toNat) 24 3 d.toNat) 21 3 a.toNat) 0 21 (cutI m 21).toNat : Nat) : Int) = enc o d a b m := by
  unfold InsOk at h
  rw [cutI_21, head_eq _ _ _ (by omega) (by omega) (by omega), put4 _ _ (by omega) (by omega)]
  unfold enc low
  rw [if_neg hB]
  omega
theorem cut_O (w : Nat) (h : w < 4294967296) : ((cutN w 27 5 : Nat) : Int) = pO w := by unfold cutN pO; omega
theorem cut_D (w : Nat) : ((cutN w 24 3 : Nat) : Int) = pD w := by unfold cutN pD; omega
theorem cut_A (w : Nat) : ((cutN w 21 3 : Nat) : Int) = pA w := by unfold cutN pA; omega
theorem cut_B (w : Nat) (hB : 3 ≤ pO w ∧ pO w ≤ 10) : ((cutN w 0 3 : Nat) : Int) = pB w := by unfold pB; rw [if_pos hB]; unfold cutN; omega
theorem sgn_M (w : Nat) (hB : ¬ (3 ≤ pO w ∧ pO w ≤ 10)) : sgnI w 21 = pM w ∧ sgnI (cutN w 0 21) 21 = pM w := by
  unfold pM
  rw [if_neg hB]
  unfold sgnI cutN
  simp
  omega
end Go.Proofs.Ytdnjilnnlgphhaa.IM
