/-
  Joined texts: WireMath, WireRow, WireApp. Nothing here is a statement of the seed.
-/
import Derived.Test.YtigalcmhongleaaProg
import Derived.WalkKit
import Derived.WalkSmall
import Derived.BigQuiet
import Derived.Deep.QuietTactic
import Derived.Lib.Hide
import Derived.Lib.OthersKept
import Derived.Lib.Strings
import Derived.Lib.AppendStr
import Derived.Lib.SlBytesRow
import Derived.Laws.AppendOwn
import Derived.Laws.AppendOwnNone
set_option linter.unusedSimpArgs false
set_option linter.unusedVariables false
/-
  Numbers, texts and words as bytes: lists alone. Nothing of the program.
-/
namespace Go.Proofs.Ytigalcmhongleaa.WM

/-- a number, laid -/
def varL (n : Nat) : List UInt8 := if n < 128 then [UInt8.ofNat n] else UInt8.ofNat (n % 128 + 128) :: varL (n / 128)
termination_by n
decreasing_by omega
theorem varL_low (n : Nat) (h : n < 128) : varL n = [UInt8.ofNat n] := by rw [varL, if_pos h]
theorem varL_high (n : Nat) (h : 128 ≤ n) : varL n = UInt8.ofNat (n % 128 + 128) :: varL (n / 128) := by rw [varL, if_neg (by omega)]
def wordL (n : Nat) : List UInt8 := [UInt8.ofNat n, UInt8.ofNat (n / 256), UInt8.ofNat (n / 65536), UInt8.ofNat (n / 16777216)]
def textL (s : List UInt8) : List UInt8 := varL (s.length % 4294967296) ++ s
def manyL : List Nat → List UInt8
  | [] => []
  | w :: l => wordL w ++ manyL l
def wordsL (l : List Nat) : List UInt8 := varL (l.length % 4294967296) ++ manyL l
theorem manyL_append : ∀ (a b : List Nat), manyL (a ++ b) = manyL a ++ manyL b
  | [], _ => rfl
  | w :: a, b => by rw [List.cons_append, manyL, manyL_append a b, manyL, List.append_assoc]
theorem manyL_length : ∀ l : List Nat, (manyL l).length = 4 * l.length
  | [] => rfl
  | w :: l => by rw [manyL, List.length_append, manyL_length l]; simp [wordL]; omega
theorem toNat_ofNat (n : Nat) : (UInt8.ofNat n).toNat = n % 256 := by simp
theorem lt256 (c : UInt8) : c.toNat < 256 := c.toNat_lt
theorem ofNat_toNat (c : UInt8) : UInt8.ofNat c.toNat = c := by simp

theorem varL_ne (n : Nat) : varL n ≠ [] := by
  rw [varL]; split <;> simp
theorem varL_len : ∀ (k n : Nat), n < 128 ^ (k + 1) → (varL n).length ≤ k + 1
  | 0, n, h => by rw [varL_low n (by omega)]; simp
  | k + 1, n, h => by
    by_cases h1 : n < 128
    · rw [varL_low n h1]; simp
    · rw [varL_high n (by omega), List.length_cons]
      have := varL_len k (n / 128) (Nat.div_lt_of_lt_mul (by rw [Nat.pow_succ] at h; omega))
      omega
theorem varL_pos (n : Nat) : 0 < (varL n).length := List.length_pos_iff.2 (varL_ne n)
theorem varL_five (n : Nat) (h : n < 4294967296) : (varL n).length ≤ 5 := varL_len 4 n (by omega)

/-- the number of its parts -/
def joinL : List UInt8 → Nat
  | [] => 0
  | c :: t => c.toNat % 128 + 128 * joinL t
theorem joinL_lt : ∀ l : List UInt8, joinL l < 128 ^ l.length
  | [] => by simp [joinL]
  | c :: t => by
    have := joinL_lt t
    rw [joinL, List.length_cons, Nat.pow_succ]
    omega
theorem joinL_snoc : ∀ (l : List UInt8) (c : UInt8), joinL (l ++ [c]) = joinL l + c.toNat % 128 * 128 ^ l.length
  | [], c => by simp [joinL]
  | d :: t, c => by
    have e := joinL_snoc t c
    rw [List.cons_append, joinL, e, joinL, List.length_cons, Nat.pow_succ, Nat.mul_add]
    have : c.toNat % 128 * (128 ^ t.length * 128) = 128 * (c.toNat % 128 * 128 ^ t.length) := by
      rw [← Nat.mul_assoc, Nat.mul_comm]
    omega
theorem pow7 (k : Nat) : 2 ^ (7 * k) = 128 ^ k := by rw [Nat.pow_mul]
theorem or_add (x y k : Nat) (h : x < 2 ^ k) : x ||| (y * 2 ^ k) = x + y * 2 ^ k := by
  have e := Nat.two_pow_add_eq_or_of_lt h y
  rw [Nat.mul_comm (2 ^ k) y] at e
  rw [Nat.or_comm, ← e, Nat.add_comm]

/-- going on, until a byte that ends it -/
def vr (most : Nat) : Nat → Nat → Nat → List UInt8 → Nat × Nat × List UInt8
  | 0, _, _, _ => (4, 0, [])
  | _ + 1, _, _, [] => (3, 0, [])
  | f + 1, i, n, c :: t =>
    if 128 ≤ c.toNat then vr most f (i + 1) (n + c.toNat % 128 * 128 ^ i) t
    else if 4294967295 < n + c.toNat % 128 * 128 ^ i ∨ (0 < i ∧ c.toNat = 0) then (4, 0, [])
    else if most < n + c.toNat % 128 * 128 ^ i then (5, 0, [])
    else (0, n + c.toNat % 128 * 128 ^ i, t)
/-- the number that is laid next: the error, the number, what is left -/
def rdVar (most : Nat) (xs : List UInt8) : Nat × Nat × List UInt8 := vr most 5 0 0 xs
theorem vr_run (most : Nat) : ∀ (ys : List UInt8) (f i n : Nat) (c : UInt8) (t : List UInt8), (∀ y ∈ ys, 128 ≤ y.toNat) → c.toNat < 128 → ys.length < f →
    vr most f i n (ys ++ c :: t) =
      if 4294967295 < n + 128 ^ i * joinL (ys ++ [c]) ∨ (0 < i + ys.length ∧ c.toNat = 0) then (4, 0, [])
      else if most < n + 128 ^ i * joinL (ys ++ [c]) then (5, 0, []) else (0, n + 128 ^ i * joinL (ys ++ [c]), t)
  | [], 0, i, n, c, t, _, hc, hf => by simp at hf
  | [], f + 1, i, n, c, t, _, hc, hf => by
    simp only [List.nil_append, joinL, List.length_nil, Nat.add_zero, Nat.mul_zero]
    rw [vr, if_neg (by omega), Nat.mul_comm (c.toNat % 128)]
  | y :: ys, 0, i, n, c, t, _, hc, hf => by simp at hf
  | y :: ys, f + 1, i, n, c, t, hy, hc, hf => by
    have h1 := hy y (List.mem_cons.2 (Or.inl rfl))
    rw [List.cons_append, vr, if_pos h1, vr_run most ys f (i + 1) _ c t (fun z hz => hy z (List.mem_cons.2 (Or.inr hz))) hc (by simpa using hf)]
    have e : n + y.toNat % 128 * 128 ^ i + 128 ^ (i + 1) * joinL (ys ++ [c]) = n + 128 ^ i * joinL (y :: ys ++ [c]) := by
      rw [List.cons_append, joinL, Nat.pow_succ, Nat.mul_add, Nat.mul_comm (y.toNat % 128), Nat.mul_assoc]
      omega
    rw [e, List.length_cons, show i + 1 + ys.length = i + (ys.length + 1) by omega]
theorem vr_long (most : Nat) : ∀ (f i n : Nat) (xs : List UInt8), (∀ y ∈ xs.take f, 128 ≤ y.toNat) → f ≤ xs.length → vr most f i n xs = (4, 0, [])
  | 0, _, _, _, _, _ => rfl
  | f + 1, i, n, [], _, h => by simp at h
  | f + 1, i, n, c :: t, hy, h => by
    have h1 := hy c (by simp)
    rw [vr, if_pos h1]
    exact vr_long most f _ _ t (fun z hz => hy z (by rw [List.take_succ_cons]; exact List.mem_cons.2 (Or.inr hz))) (by simpa using h)
theorem vr_cut (most : Nat) : ∀ (f i n : Nat) (xs : List UInt8), (∀ y ∈ xs, 128 ≤ y.toNat) → xs.length < f → vr most f i n xs = (3, 0, [])
  | 0, _, _, _, _, h => by omega
  | f + 1, i, n, [], _, h => rfl
  | f + 1, i, n, c :: t, hy, h => by
    have h1 := hy c (by simp)
    rw [vr, if_pos h1]
    exact vr_cut most f _ _ t (fun z hz => hy z (List.mem_cons.2 (Or.inr hz))) (by simpa using h)
/-- what comes of it: nothing beside an error -/
theorem vr_none (most : Nat) : ∀ (f i n : Nat) (xs : List UInt8), (vr most f i n xs).1 ≠ 0 → (vr most f i n xs).2 = (0, [])
  | 0, _, _, _, _ => rfl
  | f + 1, i, n, [], _ => rfl
  | f + 1, i, n, c :: t, h => by
    unfold vr at h ⊢
    split
    · rename_i h1; rw [if_pos h1] at h; exact vr_none most f _ _ t h
    · rename_i h1
      rw [if_neg h1] at h
      split
      · rfl
      · rename_i h2
        rw [if_neg h2] at h
        split
        · rfl
        · rename_i h3; rw [if_neg h3] at h; simp at h
theorem vr_good (most : Nat) : ∀ (f i n : Nat) (xs : List UInt8), (vr most f i n xs).1 = 0 → (vr most f i n xs).2.1 ≤ most ∧ (vr most f i n xs).2.1 ≤ 4294967295 ∧ (vr most f i n xs).2.2.length < xs.length
  | 0, _, _, _, h => by simp [vr] at h
  | f + 1, i, n, [], h => by simp [vr] at h
  | f + 1, i, n, c :: t, h => by
    unfold vr at h ⊢
    split
    · rename_i h1; rw [if_pos h1] at h; have := vr_good most f _ _ t h; rw [List.length_cons]; omega
    · rename_i h1
      rw [if_neg h1] at h
      split
      · rename_i h2; rw [if_pos h2] at h; simp at h
      · rename_i h2
        rw [if_neg h2] at h
        split
        · rename_i h3; rw [if_pos h3] at h; simp at h
        · simp; omega
theorem vr_errs (most : Nat) : ∀ (f i n : Nat) (xs : List UInt8), (vr most f i n xs).1 = 0 ∨ (vr most f i n xs).1 = 3 ∨ (vr most f i n xs).1 = 4 ∨ (vr most f i n xs).1 = 5
  | 0, _, _, _ => by simp [vr]
  | f + 1, i, n, [] => by simp [vr]
  | f + 1, i, n, c :: t => by
    unfold vr
    split
    · exact vr_errs most f _ _ t
    · split
      · simp
      · split <;> simp

/-- a number that is laid: its bytes but the last go on, the last ends it, and is no 0 behind another -/
theorem varL_parts (n : Nat) : ∃ ys c, varL n = ys ++ [c] ∧ (∀ y ∈ ys, 128 ≤ y.toNat) ∧ c.toNat < 128 ∧ (ys = [] ∨ c.toNat ≠ 0) ∧ joinL (varL n) = n := by
  by_cases h : n < 128
  · refine ⟨[], UInt8.ofNat n, by rw [varL_low n h]; rfl, by simp, by rw [toNat_ofNat]; omega, Or.inl rfl, ?_⟩
    rw [varL_low n h, joinL, joinL, toNat_ofNat]; omega
  · obtain ⟨ys, c, e, h1, h2, h3, h4⟩ := varL_parts (n / 128)
    refine ⟨UInt8.ofNat (n % 128 + 128) :: ys, c, by rw [varL_high n (by omega), e]; rfl, ?_, h2, Or.inr ?_, ?_⟩
    · intro y hy
      rcases List.mem_cons.1 hy with rfl | hy
      · rw [toNat_ofNat]; omega
      · exact h1 y hy
    · rcases h3 with h3 | h3
      · subst h3
        rw [e] at h4
        simp [joinL] at h4
        omega
      · exact h3
    · rw [varL_high n (by omega), joinL, h4, toNat_ofNat]; omega
termination_by n
decreasing_by omega
/-- what is laid is read again -/
theorem rdVar_varL (n most : Nat) (t : List UInt8) (hn : n < 4294967296) (hm : n ≤ most) : rdVar most (varL n ++ t) = (0, n, t) := by
  obtain ⟨ys, c, e, h1, h2, h3, h4⟩ := varL_parts n
  have h5 := varL_five n hn
  rw [e] at h4 h5
  have := vr_run most ys 5 0 0 c t h1 h2 (by simp at h5; omega)
  unfold rdVar
  rw [e, List.append_assoc, List.singleton_append, this, h4]
  simp only [Nat.pow_zero, Nat.one_mul, Nat.zero_add]
  rw [if_neg, if_neg (by omega)]
  rintro (h | ⟨h, h'⟩)
  · omega
  · rcases h3 with h3 | h3
    · subst h3; simp at h
    · exact h3 h'
theorem varL_joinL : ∀ (ys : List UInt8) (c : UInt8), (∀ y ∈ ys, 128 ≤ y.toNat) → c.toNat < 128 → (ys = [] ∨ c.toNat ≠ 0) → varL (joinL (ys ++ [c])) = ys ++ [c]
  | [], c, _, hc, _ => by
    have e : joinL ([] ++ [c]) = c.toNat := by simp [joinL]; omega
    rw [e, varL_low _ hc, ofNat_toNat]; rfl
  | y :: ys, c, hy, hc, h3 => by
    have hc0 : c.toNat ≠ 0 := by
      rcases h3 with h3 | h3
      · cases h3
      · exact h3
    have ih := varL_joinL ys c (fun z hz => hy z (List.mem_cons.2 (Or.inr hz))) hc (Or.inr hc0)
    have hpos : 0 < joinL (ys ++ [c]) := by
      rw [joinL_snoc]
      have : 0 < c.toNat % 128 * 128 ^ ys.length := Nat.mul_pos (by omega) (Nat.pow_pos (by omega))
      omega
    have hyy := hy y (by simp)
    have := lt256 y
    rw [List.cons_append, joinL, varL_high _ (by omega)]
    rw [show (y.toNat % 128 + 128 * joinL (ys ++ [c])) % 128 + 128 = y.toNat by omega, show (y.toNat % 128 + 128 * joinL (ys ++ [c])) / 128 = joinL (ys ++ [c]) by omega, ih, ofNat_toNat]
/-- where the first byte is that ends a number, among so many -/
theorem find_last : ∀ (f : Nat) (xs : List UInt8), (∀ y ∈ xs.take f, 128 ≤ y.toNat) ∨ ∃ ys c t, xs = ys ++ c :: t ∧ (∀ y ∈ ys, 128 ≤ y.toNat) ∧ c.toNat < 128 ∧ ys.length < f
  | 0, xs => Or.inl (by simp)
  | f + 1, [] => Or.inl (by simp)
  | f + 1, c :: t => by
    by_cases h : c.toNat < 128
    · exact Or.inr ⟨[], c, t, rfl, by simp, h, by simp⟩
    · rcases find_last f t with h1 | ⟨ys, d, u, e, h1, h2, h3⟩
      · refine Or.inl fun y hy => ?_
        rw [List.take_succ_cons] at hy
        rcases List.mem_cons.1 hy with rfl | hy
        · omega
        · exact h1 y hy
      · refine Or.inr ⟨c :: ys, d, u, by rw [e]; rfl, ?_, h2, by simpa using h3⟩
        intro y hy
        rcases List.mem_cons.1 hy with rfl | hy
        · omega
        · exact h1 y hy
/-- bytes that are read as a number are those that are laid for it -/
theorem rdVar_only (most : Nat) (xs : List UInt8) (n : Nat) (t : List UInt8) (h : rdVar most xs = (0, n, t)) : xs = varL n ++ t ∧ n ≤ most := by
  unfold rdVar at h
  rcases find_last 5 xs with h1 | ⟨ys, c, u, e, h1, h2, h3⟩
  · by_cases hl : 5 ≤ xs.length
    · rw [vr_long most 5 0 0 xs h1 hl] at h; simp at h
    · rw [vr_cut most 5 0 0 xs (fun y hy => h1 y (by rw [List.take_of_length_le (by omega)]; exact hy)) (by omega)] at h; simp at h
  · rw [e, vr_run most ys 5 0 0 c u h1 h2 h3] at h
    simp only [Nat.pow_zero, Nat.one_mul, Nat.zero_add] at h
    split at h
    · simp at h
    · rename_i h4
      split at h
      · simp at h
      · rename_i h5
        simp only [Prod.mk.injEq, true_and] at h
        obtain ⟨rfl, rfl⟩ := h
        rw [varL_joinL ys c h1 h2 ?_]
        · exact ⟨by rw [e, List.append_assoc]; rfl, by omega⟩
        · cases ys with
          | nil => exact Or.inl rfl
          | cons y ys => exact Or.inr fun h0 => h4 (Or.inr ⟨by simp, h0⟩)

/-- so many bytes: the error, them, what is left -/
def rdText (most : Nat) (xs : List UInt8) : Nat × List UInt8 × List UInt8 :=
  if (rdVar most xs).1 = 0 then
    if (rdVar most xs).2.1 ≤ (rdVar most xs).2.2.length then (0, (rdVar most xs).2.2.take (rdVar most xs).2.1, (rdVar most xs).2.2.drop (rdVar most xs).2.1) else (3, [], [])
  else ((rdVar most xs).1, [], [])
def word4 : List UInt8 → Nat
  | [a, b, c, d] => a.toNat + b.toNat * 256 + c.toNat * 65536 + d.toNat * 16777216
  | _ => 0
def rdWord (xs : List UInt8) : Nat × Nat × List UInt8 := if 4 ≤ xs.length then (0, word4 (xs.take 4), xs.drop 4) else (3, 0, [])
def takeW : Nat → List UInt8 → List Nat
  | 0, _ => []
  | k + 1, xs => word4 (xs.take 4) :: takeW k (xs.drop 4)
def rdWords (most : Nat) (xs : List UInt8) : Nat × List Nat × List UInt8 :=
  if (rdVar most xs).1 = 0 then
    if 4 * (rdVar most xs).2.1 ≤ (rdVar most xs).2.2.length then (0, takeW (rdVar most xs).2.1 (rdVar most xs).2.2, (rdVar most xs).2.2.drop (4 * (rdVar most xs).2.1)) else (3, [], [])
  else ((rdVar most xs).1, [], [])
theorem word4_wordL (n : Nat) (h : n < 4294967296) : word4 (wordL n) = n := by
  simp only [wordL, word4, toNat_ofNat]; omega
theorem word4_lt (xs : List UInt8) : word4 xs < 4294967296 := by
  unfold word4
  split
  · rename_i a b c d
    have := lt256 a; have := lt256 b; have := lt256 c; have := lt256 d
    omega
  · omega
theorem takeW_length : ∀ (k : Nat) (xs : List UInt8), (takeW k xs).length = k
  | 0, _ => rfl
  | k + 1, xs => by rw [takeW, List.length_cons, takeW_length k]
theorem takeW_manyL : ∀ (l : List Nat) (t : List UInt8), (∀ w ∈ l, w < 4294967296) → takeW l.length (manyL l ++ t) = l
  | [], t, _ => rfl
  | w :: l, t, h => by
    have e : (manyL (w :: l) ++ t) = wordL w ++ (manyL l ++ t) := by rw [manyL, List.append_assoc]
    rw [List.length_cons, takeW, e]
    have h4 : (wordL w ++ (manyL l ++ t)).take 4 = wordL w := List.take_left' rfl
    have h5 : (wordL w ++ (manyL l ++ t)).drop 4 = manyL l ++ t := List.drop_left' rfl
    rw [h4, h5, word4_wordL w (h w (by simp)), takeW_manyL l t (fun x hx => h x (List.mem_cons.2 (Or.inr hx)))]
theorem rdText_textL (s t : List UInt8) (hs : s.length < 4294967296) (most : Nat) (hm : s.length ≤ most) : rdText most (textL s ++ t) = (0, s, t) := by
  have e : rdVar most (textL s ++ t) = (0, s.length, s ++ t) := by
    rw [textL, List.append_assoc, Nat.mod_eq_of_lt hs]
    exact rdVar_varL _ _ _ hs hm
  unfold rdText
  rw [e]
  simp
theorem rdWord_wordL (n : Nat) (t : List UInt8) (h : n < 4294967296) : rdWord (wordL n ++ t) = (0, n, t) := by
  have h4 : (wordL n ++ t).take 4 = wordL n := List.take_left' rfl
  have h5 : (wordL n ++ t).drop 4 = t := List.drop_left' rfl
  unfold rdWord
  rw [if_pos (by simp [wordL]), h4, h5, word4_wordL n h]
theorem rdWords_wordsL (l : List Nat) (t : List UInt8) (hl : l.length < 4294967296) (hw : ∀ w ∈ l, w < 4294967296) (most : Nat) (hm : l.length ≤ most) : rdWords most (wordsL l ++ t) = (0, l, t) := by
  have e : rdVar most (wordsL l ++ t) = (0, l.length, manyL l ++ t) := by
    rw [wordsL, List.append_assoc, Nat.mod_eq_of_lt hl]
    exact rdVar_varL _ _ _ hl hm
  unfold rdWords
  rw [e]
  simp only [if_true]
  rw [if_pos (by simp [manyL_length]), takeW_manyL l t hw, ← manyL_length l, List.drop_left]
/-- how many bytes: one for each seven bits -/
def sizeL (n : Nat) : Nat := (varL n).length
theorem varL_at (n : Nat) : ∀ (i : Nat) (h : i < (varL n).length), (128 ≤ ((varL n)[i]).toNat) ↔ i + 1 < (varL n).length := by
  obtain ⟨ys, c, e, h1, h2, h3, h4⟩ := varL_parts n
  rw [e]
  intro i h
  rw [List.length_append, List.length_singleton] at h ⊢
  by_cases hi : i < ys.length
  · rw [List.getElem_append_left hi]
    exact ⟨fun _ => by omega, fun _ => h1 _ (List.getElem_mem hi)⟩
  · rw [List.getElem_append_right (by omega)]
    have : i - ys.length = 0 := by omega
    simp only [this, List.getElem_cons_zero]
    omega
end Go.Proofs.Ytigalcmhongleaa.WM

/-
  Slices that are only read, told by what they read as: over any program. Frames: which blocks a call may turn.
-/
namespace Go.Proofs.Ytigalcmhongleaa.NR
open Go.RowKit

def bs (l : List UInt8) : ByteArray := ⟨l.toArray⟩
theorem bs_list (l : List UInt8) : (bs l).data.toList = l := rfl
theorem bs_of (s : ByteArray) : bs s.data.toList = s := rfl
theorem bs_size (l : List UInt8) : (bs l).size = l.length := by simp [bs, ByteArray.size]
theorem size_list (s : ByteArray) : s.data.toList.length = s.size := by rw [Array.length_toList]; rfl
theorem ret_bool {a b : Bool} (h : a = b) : Ending.returned (.bool a) = .returned (.bool b) := by rw [h]
theorem ret_int {k : IntKind} {a b : Int} (h : a = b) : Ending.returned (.int k a) = .returned (.int k b) := by rw [h]
def u8s (l : List UInt8) : List Value := l.map fun c => Value.int .u8 (c.toNat : Int)
def u32s (l : List Nat) : List Value := l.map fun (n : Nat) => Value.int .u32 (n : Int)
theorem u8s_len (l : List UInt8) : (u8s l).length = l.length := by simp [u8s]
theorem u32s_len (l : List Nat) : (u32s l).length = l.length := by simp [u32s]
theorem u8s_at (l : List UInt8) (j : Nat) (h : j < l.length) : (u8s l)[j]? = some (.int .u8 (l[j].toNat : Int)) := by simp [u8s, h]
theorem u32s_at (l : List Nat) (j : Nat) (h : j < l.length) : (u32s l)[j]? = some (.int .u32 (l[j] : Int)) := by simp [u32s, h]
theorem u8s_append (a b : List UInt8) : u8s (a ++ b) = u8s a ++ u8s b := by simp [u8s]
theorem u32s_append (a b : List Nat) : u32s (a ++ b) = u32s a ++ u32s b := by simp [u32s]
theorem u8s_take (l : List UInt8) (k : Nat) : u8s (l.take k) = (u8s l).take k := by simp [u8s]
theorem u8s_drop (l : List UInt8) (k : Nat) : u8s (l.drop k) = (u8s l).drop k := by simp [u8s]
theorem u8s_one (l : List UInt8) : ∀ u ∈ u8s l, u.oneCell' = true := by
  intro u hu
  obtain ⟨_, _, rfl⟩ := List.mem_map.1 hu
  rfl
theorem u32s_one (l : List Nat) : ∀ u ∈ u32s l, u.oneCell' = true := by
  intro u hu
  obtain ⟨_, _, rfl⟩ := List.mem_map.1 hu
  rfl
theorem strCells_bs (s : ByteArray) : Lib.strCells s = u8s s.data.toList := rfl

/-- the slice v reads as these cells, in blocks of which G holds -/
def Reads (G : Nat → Prop) (w : World) (v : Value) (xs : List Value) : Prop :=
  ∃ a cap, v = .slice a xs.length cap ∧ xs.length ≤ cap ∧ cap ≤ maxLen ∧ (a = none → cap = 0) ∧
    (xs = [] ∨ ∃ g off, a = some ⟨g, off, none⟩ ∧ G g ∧ ∀ j, j < xs.length → w.cell? ⟨g, off + j, none⟩ = xs[j]?)
section
variable {G : Nat → Prop} {w w' : World} {v : Value} {xs : List Value}
theorem Reads.keep (h : Reads G w v xs) (hk : ∀ g, G g → g < w.heap.size → w'.heap[g]? = w.heap[g]?) : Reads G w' v xs := by
  obtain ⟨a, cap, e, h1, h2, h3, h4⟩ := h
  refine ⟨a, cap, e, h1, h2, h3, ?_⟩
  rcases h4 with h4 | ⟨g, off, ea, hg, hc⟩
  · exact Or.inl h4
  · by_cases h0 : xs = []
    · exact Or.inl h0
    · refine Or.inr ⟨g, off, ea, hg, fun j hj => ?_⟩
      have hc0 := hc j hj
      rw [List.getElem?_eq_getElem hj] at hc0
      have hlt := World.block_lt_of_cell? w _ hc0
      rw [World.cell?_of_block (w := w) (a := ⟨g, off + j, none⟩) (hk g hg hlt)]
      exact hc j hj
theorem Reads.mono {G' : Nat → Prop} (h : Reads G w v xs) (hG : ∀ g, G g → G' g) : Reads G' w v xs := by
  obtain ⟨a, cap, e, h1, h2, h3, h4⟩ := h
  refine ⟨a, cap, e, h1, h2, h3, ?_⟩
  rcases h4 with h4 | ⟨g, off, ea, hg, hc⟩
  · exact Or.inl h4
  · exact Or.inr ⟨g, off, ea, hG g hg, hc⟩
/-- it lies among the blocks that are there -/
theorem Reads.there (h : Reads G w v xs) : Reads (fun g => G g ∧ g < w.heap.size) w v xs := by
  obtain ⟨a, cap, e, h1, h2, h3, h4⟩ := h
  refine ⟨a, cap, e, h1, h2, h3, ?_⟩
  rcases h4 with h4 | ⟨g, off, ea, hg, hc⟩
  · exact Or.inl h4
  · by_cases h0 : xs = []
    · exact Or.inl h0
    · refine Or.inr ⟨g, off, ea, ⟨hg, ?_⟩, hc⟩
      have hj : 0 < xs.length := List.length_pos_iff.2 h0
      have hc0 := hc 0 hj
      rw [List.getElem?_eq_getElem hj] at hc0
      exact World.block_lt_of_cell? w _ hc0
theorem Reads.drewN (h : Reads G w v xs) (n : Nat) : Reads G (w.drewN n) v xs := h.keep fun _ _ _ => rfl
theorem Reads.alloc (h : Reads G w v xs) (o : Obj) : Reads G (w.alloc o) v xs := h.keep fun g _ hg => Below.heap_alloc w o g hg
theorem Reads.below {B : Nat} (h : Reads (· < B) w v xs) (hb : Below B w w') : Reads (· < B) w' v xs := h.keep fun g hg _ => hb.block g hg
theorem Reads.of_owns {B : Nat} {e : TypeId} {n : Nat} (h : w.ownsRow B e 1 v n xs) : Reads (fun g => B ≤ g ∧ v.ownBlock = some g) w v xs := by
  have hl : xs.length = n := by simpa using h.1
  rcases h.2 with ⟨rfl, h0⟩ | ⟨g, cap, cur, rfl, hg, hcell, hcap, hcm, hsz, hcur⟩
  · have hx : xs = [] := List.length_eq_zero_iff.1 (by omega)
    subst hx
    exact ⟨none, 0, rfl, Nat.le_refl _, by simp [maxLen], fun _ => rfl, Or.inl rfl⟩
  · subst hl
    refine ⟨_, cap, rfl, hcap, hcm, (fun h => by cases h), Or.inr ⟨g, 0, rfl, ⟨hg, rfl⟩, fun j hj => ?_⟩⟩
    rw [Nat.zero_add]
    exact h.cellAt j (by simpa using hj)
theorem Reads.nil (G : Nat → Prop) (w : World) : Reads G w (.slice none 0 0) [] := ⟨none, 0, rfl, Nat.le_refl _, by simp [maxLen], fun _ => rfl, Or.inl rfl⟩
/-- what a slice of n is like -/
theorem Reads.shape (h : Reads G w v xs) : ∃ a cap, v = .slice a xs.length cap ∧ xs.length ≤ cap ∧ cap ≤ maxLen := by
  obtain ⟨a, cap, e, h1, h2, _⟩ := h
  exact ⟨a, cap, e, h1, h2⟩
theorem Reads.form (h : Reads G w v xs) : ∃ a n c, v = .slice a n c := by
  obtain ⟨a, cap, e, _⟩ := h
  exact ⟨a, _, cap, e⟩
theorem Reads.cells (h : Reads G w v xs) (h0 : xs ≠ []) : ∃ g off cap, v = .slice (some ⟨g, off, none⟩) xs.length cap ∧ G g ∧ xs.length ≤ cap ∧ cap ≤ maxLen ∧ ∀ j, j < xs.length → w.cell? ⟨g, off + j, none⟩ = xs[j]? := by
  obtain ⟨a, cap, e, h1, h2, h3, h4⟩ := h
  rcases h4 with h4 | ⟨g, off, ea, hg, hc⟩
  · exact absurd h4 h0
  · subst ea
    exact ⟨g, off, cap, e, hg, h1, h2, hc⟩
end

section
variable {P : Program} {G : Nat → Prop} {w : World} {v : Value} {xs : List Value} {t : TypeId}
/-- a piece of it -/
theorem Reads.sub (h : Reads G w v xs) (lo hi : Nat) (h1 : lo ≤ hi) (h2 : hi ≤ xs.length) (cap : Nat) (a : Option Addr) (hv : v = .slice a xs.length cap) :
    Reads G w (sliced a lo hi cap 1) ((xs.take hi).drop lo) := by
  obtain ⟨a', cap', e, h3, h4, h5, h6⟩ := h
  rw [hv] at e
  simp only [Value.slice.injEq, true_and] at e
  obtain ⟨rfl, rfl⟩ := e
  have hl : ((xs.take hi).drop lo).length = hi - lo := by rw [List.length_drop, List.length_take, Nat.min_eq_left h2]
  refine ⟨_, cap - lo, by rw [hl]; rfl, by rw [hl]; omega, by omega, ?_, ?_⟩
  · intro hn
    split at hn
    · omega
    · cases a with
      | none => have := h5 rfl; omega
      | some p => cases hn
  · by_cases h0 : lo = hi
    · exact Or.inl (List.length_eq_zero_iff.1 (by omega))
    · refine Or.inr ?_
      rcases h6 with h6 | ⟨g, off, ea, hg, hc⟩
      · subst h6; simp at h2; omega
      · subst ea
        refine ⟨g, off + lo, ?_, hg, fun j hj => ?_⟩
        · rw [if_neg (by omega), Nat.mul_one]
          simp only [Option.map_some, Option.some.injEq]
          unfold Addr.add
          split
          · subst_vars; simp
          · rfl
        · rw [Nat.add_assoc, hc (lo + j) (by omega), List.getElem?_drop, List.getElem?_take_of_lt (by omega)]
theorem Reads.drop (h : Reads G w v xs) (ht : P.underlying t = some (.slice (P.elem t))) (hz : ∀ u, (sizeOf (P.elem t)).run P u = .ok 1 u) (k : Nat) (hk : k ≤ xs.length) :
    ∃ v', (∀ (K : IntKind) (u : World), (Instr.slice t v (some (.int K (k : Int))) none none).run P u = .ok v' u) ∧ Reads G w v' (xs.drop k) := by
  have h' := h
  obtain ⟨a, cap, rfl, h1, _⟩ := h
  refine ⟨sliced a k xs.length cap 1, fun K u => ?_, ?_⟩
  · rw [run_slice_l (P := P) u t a xs.length cap ht K (k : Int) (by omega) (by omega), hz]
    rfl
  · have := Reads.sub h' k xs.length hk (Nat.le_refl _) cap a rfl
    rwa [List.take_length] at this
theorem Reads.take (h : Reads G w v xs) (ht : P.underlying t = some (.slice (P.elem t))) (hz : ∀ u, (sizeOf (P.elem t)).run P u = .ok 1 u) (k : Nat) (hk : k ≤ xs.length) :
    ∃ v', (∀ (K : IntKind) (u : World), (Instr.slice t v none (some (.int K (k : Int))) none).run P u = .ok v' u) ∧ Reads G w v' (xs.take k) := by
  have h' := h
  obtain ⟨a, cap, rfl, h1, _⟩ := h
  refine ⟨sliced a 0 k cap 1, fun K u => ?_, ?_⟩
  · rw [run_slice_h (P := P) u t a xs.length cap ht K (k : Int) (by omega) (by omega), hz]
    rfl
  · have := Reads.sub h' 0 k (by omega) hk cap a rfl
    rwa [List.drop_zero] at this
theorem Reads.cut (h : Reads G w v xs) (ht : P.underlying t = some (.slice (P.elem t))) (hz : ∀ u, (sizeOf (P.elem t)).run P u = .ok 1 u) (lo hi : Nat) (hl : lo ≤ hi) (hk : hi ≤ xs.length) :
    ∃ v', (∀ (K K' : IntKind) (u : World), (Instr.slice t v (some (.int K (lo : Int))) (some (.int K' (hi : Int))) none).run P u = .ok v' u) ∧ Reads G w v' ((xs.take hi).drop lo) := by
  have h' := h
  obtain ⟨a, cap, rfl, h1, _⟩ := h
  refine ⟨sliced a lo hi cap 1, fun K K' u => ?_, ?_⟩
  · rw [run_slice_lh (P := P) u t a xs.length cap ht K K' (lo : Int) (hi : Int) (by omega) (by omega) (by omega), hz]
    rfl
  · exact Reads.sub h' lo hi hl hk cap a rfl
/-- its bytes as a text -/
theorem Reads.text {l : List UInt8} {src dst e : TypeId} (h : Reads G w v (u8s l)) (hs : P.underlying src = some (.slice e)) (he : P.underlying e = some (.int .u8)) (hd : P.underlying dst = some .string) :
    (convert src dst v).run P w = .ok (.string (bs l)) w := by
  obtain ⟨a, cap, rfl, h1, h2, h3, h4⟩ := h
  rw [u8s_len] at *
  rcases h4 with h4 | ⟨g, off, rfl, hg, hc⟩
  · have : l = [] := by cases l with
      | nil => rfl
      | cons x t => simp [u8s] at h4
    subst this
    rw [run_convert_bytes_string (P := P) w src dst e a _ cap hs he hd]
    cases a with
    | none => simp [Conv.bytesToString, loadCells, loadCellsFrom]; rfl
    | some p => 
      exact run_bytesToString (P := P) w p 0 cap [] (by simp [loadCells, loadCellsFrom])
  · have := Lib.run_convert_whole (P := P) w src e dst hs he hd g off (bs l) (fun i hi => ?_) cap
    · rw [bs_size] at this; exact this
    · rw [bs_size] at hi
      rw [hc i hi, u8s_at l i hi]
      rfl
end

/-! frames -/
theorem grown_refl (w : World) (row : Option Nat) : w.grownBy w row := ⟨rfl, rfl, rfl, Nat.le_refl _, fun _ _ _ => rfl⟩
theorem grown_trans {a b c : World} {row : Option Nat} (h : a.grownBy b row) (k : b.grownBy c row) : a.grownBy c row :=
  ⟨k.os.trans h.os, k.tape.trans h.tape, k.output.trans h.output, Nat.le_trans h.size k.size, fun i hi hr => (k.block i (Nat.lt_of_lt_of_le hi h.size) hr).trans (h.block i hi hr)⟩
theorem grown_below {a b : World} (row : Option Nat) (h : Below a.heap.size a b) : a.grownBy b row := ⟨h.os, h.tape, h.output, h.size, fun k hk _ => h.block k hk⟩
/-- behind a call that made memory, and turned one block at the most -/
theorem grown_then {a b c : World} {row : Option Nat} (h : a.grownBy b row) (k : Below a.heap.size b c) : a.grownBy c row :=
  ⟨k.os.trans h.os, k.tape.trans h.tape, k.output.trans h.output, Nat.le_trans h.size k.size, fun i hi hr => (k.block i hi).trans (h.block i hi hr)⟩
theorem below_then {a b c : World} {B p : Nat} (h : Below B a b) (k : b.grownBy c (some p)) (hp : B ≤ p) (hB : B ≤ b.heap.size) : Below B a c :=
  h.trans ⟨k.os, k.tape, k.output, k.size, fun i hi => k.block i (by omega) (fun e => by have := Option.some.inj e; omega)⟩
theorem below_of {w0 a b : World} (h : Below w0.heap.size w0 a) (k : Below a.heap.size a b) : Below w0.heap.size w0 b := h.trans (k.mono h.size)
theorem below_new (w : World) (o : Obj) : Below w.heap.size w (w.alloc o) := (Below.refl _ _).alloc (Nat.le_refl _) o
theorem owns_below {w w' : World} {B : Nat} {e : TypeId} {size n : Nat} {v : Value} {xs : List Value} (h : w.ownsRow B e size v n xs) (k : Below w.heap.size w w') : w'.ownsRow B e size v n xs :=
  h.kept (grown_below none k) (by cases hv : v.ownBlock <;> simp)
theorem owns_base {w : World} {B B' : Nat} {e : TypeId} {size n : Nat} {v : Value} {xs : List Value} (h : w.ownsRow B e size v n xs) (hB : B' ≤ B) : w.ownsRow B' e size v n xs := by
  obtain ⟨h1, h2⟩ := h
  refine ⟨h1, ?_⟩
  rcases h2 with h2 | ⟨g, cap, cur, e, hg, h3⟩
  · exact Or.inl h2
  · exact Or.inr ⟨g, cap, cur, e, Nat.le_trans hB hg, h3⟩
end Go.Proofs.Ytigalcmhongleaa.NR

/-
  A slice that is read, appended to one of the call's own, whatever its address.
-/
namespace Go.Proofs.Ytigalcmhongleaa.NR
open Go.RowKit

theorem wpList_append_reads {P : Program} (w : World) {ops : Array Oper} {rest : List Oper} {o : Oper} {a : Act} {Q : Exit → Act → World → Prop} (hgd : o.guard = none) (s x : Operand) (t : TypeId)
    (ho : o.op = .call { callee := .builtin .append, args := #[s, x], argTypes := #[t, t] })
    (base : Nat) (e : TypeId) (i : TypeInfo) (z : Value) (bytes : Nat) (ht : P.underlying t = some (.slice e)) (hi : P.info? e = some i) (hz : i.zero = some z)
    (hsize : i.size = 1) (hby : i.bytes = bytes) (hzs : z.cells.size = 1)
    (v : Value) (n : Nat) (xs : List Value) (hs : a.eval s = v) (hown : w.ownsRow base e 1 v n xs)
    (G : Nat → Prop) (v2 : Value) (ys : List Value) (hx : a.eval x = v2) (hr : Reads G w v2 ys) (h1 : ∀ u ∈ ys, u.oneCell' = true)
    (h63 : n + ys.length ≤ maxLen) (hbytes : (n + ys.length) * bytes ≤ 140737488355328) (hbase : base ≤ w.heap.size)
    (h : ∀ v' w', w'.ownsRow base e 1 v' (n + ys.length) (xs ++ ys) → w.grownBy w' v.ownBlock → wpList P ops Q rest (a.put o.dst v') w') : wpList P ops Q (o :: rest) a w := by
  obtain ⟨ao, cap, rfl, h2, h3, h4, h5⟩ := hr
  cases ao with
  | none =>
    have hc := h4 rfl
    subst hc
    have hy : ys = [] := List.length_eq_zero_iff.1 (by omega)
    subst hy
    refine wpList_append_own_none hgd s x t ho base e i 1 ht hi v n xs hs hown hx ?_
    exact h v w (by simpa using hown) ⟨rfl, rfl, rfl, Nat.le_refl _, fun _ _ _ => rfl⟩
  | some p =>
    have hcells : ∀ j u, ys[j]? = some u → w.cell? (p.add j) = some u := by
      intro j u hj
      have hlt := (List.getElem?_eq_some_iff.1 hj).1
      rcases h5 with h5 | ⟨g, off, ea, hg, hc⟩
      · rw [h5] at hj; simp at hj
      · obtain rfl := Option.some.inj ea
        rw [Addr.add_lit, hc j hlt, hj]
    exact wpList_append_own w hgd s x t ho base e i z 1 bytes ht hi hz hsize hby hzs (by decide) v n xs hs hown p ys.length cap ys hx (by simp) hcells h1 h63 hbytes hbase (fun v' w' g1 g2 _ => h v' w' g1 g2)
end Go.Proofs.Ytigalcmhongleaa.NR
