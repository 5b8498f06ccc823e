/-
  Numbers, texts and words as bytes: lists alone. Nothing of the program.
-/
set_option linter.unusedSimpArgs false
set_option linter.unusedVariables false
namespace Go.Proofs.Ytdlinlkdielmkaa.WM

/-- a number, laid -/
def varL (n : Nat) : List UInt8 := if n < 128 then [UInt8.ofNat n] else UInt8.ofNat (n % 128 + 128) :: varL (n / 128)
termination_by n
decreasing_by omega
theorem varL_low (n : Nat) (h : n < 128) : varL n = [UInt8.ofNat n] := by rw [varL, if_pos h]
theorem varL_high (n : Nat) (h : 128 ≤ n) : varL n = UInt8.ofNat (n % 128 + 128) :: varL (n / 128) := by rw [varL, if_neg (by omega)]
def wordL (n : Nat) : List UInt8 := [UInt8.ofNat n, UInt8.ofNat (n / 256), UInt8.ofNat (n / 65536), UInt8.ofNat (n / 16777216)]
def textL (s : List UInt8) : List UInt8 := varL (s.length % 4294967296) ++ s
def manyL : List Nat → List UInt8
  | [] => []
  | w :: l => wordL w ++ manyL l
def wordsL (l : List Nat) : List UInt8 := varL (l.length % 4294967296) ++ manyL l
theorem manyL_append : ∀ (a b : List Nat), manyL (a ++ b) = manyL a ++ manyL b
  | [], _ => rfl
  | w :: a, b => by rw [List.cons_append, manyL, manyL_append a b, manyL, List.append_assoc]
theorem manyL_length : ∀ l : List Nat, (manyL l).length = 4 * l.length
  | [] => rfl
  | w :: l => by rw [manyL, List.length_append, manyL_length l]; simp [wordL]; omega
theorem toNat_ofNat (n : Nat) : (UInt8.ofNat n).toNat = n % 256 := by simp
theorem lt256 (c : UInt8) : c.toNat < 256 := c.toNat_lt
theorem ofNat_toNat (c : UInt8) : UInt8.ofNat c.toNat = c := by simp

theorem varL_ne (n : Nat) : varL n ≠ [] := by
  rw [varL]; split <;> simp
theorem varL_len : ∀ (k n : Nat), n < 128 ^ (k + 1) → (varL n).length ≤ k + 1
  | 0, n, h => by rw [varL_low n (by omega)]; simp
  | k + 1, n, h => by
    by_cases h1 : n < 128
    · rw [varL_low n h1]; simp
    · rw [varL_high n (by omega), List.length_cons]
      have := varL_len k (n / 128) (Nat.div_lt_of_lt_mul (by rw [Nat.pow_succ] at h; omega))
      omega
theorem varL_pos (n : Nat) : 0 < (varL n).length := List.length_pos_iff.2 (varL_ne n)
theorem varL_five (n : Nat) (h : n < 4294967296) : (varL n).length ≤ 5 := varL_len 4 n (by omega)

/-- the number of its parts -/
def joinL : List UInt8 → Nat
  | [] => 0
  | c :: t => c.toNat % 128 + 128 * joinL t
theorem joinL_lt : ∀ l : List UInt8, joinL l < 128 ^ l.length
  | [] => by simp [joinL]
  | c :: t => by
    have := joinL_lt t
    rw [joinL, List.length_cons, Nat.pow_succ]
    omega
theorem joinL_snoc : ∀ (l : List UInt8) (c : UInt8), joinL (l ++ [c]) = joinL l + c.toNat % 128 * 128 ^ l.length
  | [], c => by simp [joinL]
  | d :: t, c => by
    have e := joinL_snoc t c
    rw [List.cons_append, joinL, e, joinL, List.length_cons, Nat.pow_succ, Nat.mul_add]
    have : c.toNat % 128 * (128 ^ t.length * 128) = 128 * (c.toNat % 128 * 128 ^ t.length) := by
      rw [← Nat.mul_assoc, Nat.mul_comm]
    omega
theorem pow7 (k : Nat) : 2 ^ (7 * k) = 128 ^ k := by rw [Nat.pow_mul]
theorem or_add (x y k : Nat) (h : x < 2 ^ k) : x ||| (y * 2 ^ k) = x + y * 2 ^ k := by
  have e := Nat.two_pow_add_eq_or_of_lt h y
  rw [Nat.mul_comm (2 ^ k) y] at e
  rw [Nat.or_comm, ← e, Nat.add_comm]

/-- going on, until a byte that ends it -/
def vr (most : Nat) : Nat → Nat → Nat → List UInt8 → Nat × Nat × List UInt8
  | 0, _, _, _ => (4, 0, [])
  | _ + 1, _, _, [] => (3, 0, [])
  | f + 1, i, n, c :: t =>
    if 128 ≤ c.toNat then vr most f (i + 1) (n + c.toNat % 128 * 128 ^ i) t
    else if 4294967295 < n + c.toNat % 128 * 128 ^ i ∨ (0 < i ∧ c.toNat = 0) then (4, 0, [])
    else if most < n + c.toNat % 128 * 128 ^ i then (5, 0, [])
    else (0, n + c.toNat % 128 * 128 ^ i, t)
/-- the number that is laid next: the error, the number, what is left -/
def rdVar (most : Nat) (xs : List UInt8) : Nat × Nat × List UInt8 := vr most 5 0 0 xs
theorem vr_run (most : Nat) : ∀ (ys : List UInt8) (f i n : Nat) (c : UInt8) (t : List UInt8), (∀ y ∈ ys, 128 ≤ y.toNat) → c.toNat < 128 → ys.length < f →
    vr most f i n (ys ++ c :: t) =
      if 4294967295 < n + 128 ^ i * joinL (ys ++ [c]) ∨ (0 < i + ys.length ∧ c.toNat = 0) then (4, 0, [])
      else if most < n + 128 ^ i * joinL (ys ++ [c]) then (5, 0, []) else (0, n + 128 ^ i * joinL (ys ++ [c]), t)
  | [], 0, i, n, c, t, _, hc, hf => by simp at hf
  | [], f + 1, i, n, c, t, _, hc, hf => by
    simp only [List.nil_append, joinL, List.length_nil, Nat.add_zero, Nat.mul_zero]
    rw [vr, if_neg (by omega), Nat.mul_comm (c.toNat % 128)]
  | y :: ys, 0, i, n, c, t, _, hc, hf => by simp at hf
  | y :: ys, f + 1, i, n, c, t, hy, hc, hf => by
    have h1 := hy y (List.mem_cons.2 (Or.inl rfl))
    rw [List.cons_append, vr, if_pos h1, vr_run most ys f (i + 1) _ c t (fun z hz => hy z (List.mem_cons.2 (Or.inr hz))) hc (by simpa using hf)]
    have e : n + y.toNat % 128 * 128 ^ i + 128 ^ (i + 1) * joinL (ys ++ [c]) = n + 128 ^ i * joinL (y :: ys ++ [c]) := by
      rw [List.cons_append, joinL, Nat.pow_succ, Nat.mul_add, Nat.mul_comm (y.toNat % 128), Nat.mul_assoc]
      omega
    rw [e, List.length_cons, show i + 1 + ys.length = i + (ys.length + 1) by omega]
theorem vr_long (most : Nat) : ∀ (f i n : Nat) (xs : List UInt8), (∀ y ∈ xs.take f, 128 ≤ y.toNat) → f ≤ xs.length → vr most f i n xs = (4, 0, [])
  | 0, _, _, _, _, _ => rfl
  | f + 1, i, n, [], _, h => by simp at h
  | f + 1, i, n, c :: t, hy, h => by
    have h1 := hy c (by simp)
    rw [vr, if_pos h1]
    exact vr_long most f _ _ t (fun z hz => hy z (by rw [List.take_succ_cons]; exact List.mem_cons.2 (Or.inr hz))) (by simpa using h)
theorem vr_cut (most : Nat) : ∀ (f i n : Nat) (xs : List UInt8), (∀ y ∈ xs, 128 ≤ y.toNat) → xs.length < f → vr most f i n xs = (3, 0, [])
  | 0, _, _, _, _, h => by omega
  | f + 1, i, n, [], _, h => rfl
  | f + 1, i, n, c :: t, hy, h => by
    have h1 := hy c (by simp)
    rw [vr, if_pos h1]
    exact vr_cut most f _ _ t (fun z hz => hy z (List.mem_cons.2 (Or.inr hz))) (by simpa using h)
/-- what comes of it: nothing beside an error -/
theorem vr_none (most : Nat) : ∀ (f i n : Nat) (xs : List UInt8), (vr most f i n xs).1 ≠ 0 → (vr most f i n xs).2 = (0, [])
  | 0, _, _, _, _ => rfl
  | f + 1, i, n, [], _ => rfl
  | f + 1, i, n, c :: t, h => by
    unfold vr at h ⊢
    split
    · rename_i h1; rw [if_pos h1] at h; exact vr_none most f _ _ t h
    · rename_i h1
      rw [if_neg h1] at h
      split
      · rfl
      · rename_i h2
        rw [if_neg h2] at h
        split
        · rfl
        · rename_i h3; rw [if_neg h3] at h; simp at h
theorem vr_good (most : Nat) : ∀ (f i n : Nat) (xs : List UInt8), (vr most f i n xs).1 = 0 → (vr most f i n xs).2.1 ≤ most ∧ (vr most f i n xs).2.1 ≤ 4294967295 ∧ (vr most f i n xs).2.2.length < xs.length
  | 0, _, _, _, h => by simp [vr] at h
  | f + 1, i, n, [], h => by simp [vr] at h
  | f + 1, i, n, c :: t, h => by
    unfold vr at h ⊢
    split
    · rename_i h1; rw [if_pos h1] at h; have := vr_good most f _ _ t h; rw [List.length_cons]; omega
    · rename_i h1
      rw [if_neg h1] at h
      split
      · rename_i h2; rw [if_pos h2] at h; simp at h
      · rename_i h2
        rw [if_neg h2] at h
        split
        · rename_i h3; rw [if_pos h3] at h; simp at h
        · simp; omega
theorem vr_errs (most : Nat) : ∀ (f i n : Nat) (xs : List UInt8), (vr most f i n xs).1 = 0 ∨ (vr most f i n xs).1 = 3 ∨ (vr most f i n xs).1 = 4 ∨ (vr most f i n xs).1 = 5
  | 0, _, _, _ => by simp [vr]
  | f + 1, i, n, [] => by simp [vr]
  | f + 1, i, n, c :: t => by
    unfold vr
    split
    · exact vr_errs most f _ _ t
    · split
      · simp
      · split <;> simp

/-- a number that is laid: its bytes but the last go on, the last ends it, and is no 0 behind another -/
theorem varL_parts (n : Nat) : ∃ ys c, varL n = ys ++ [c] ∧ (∀ y ∈ ys, 128 ≤ y.toNat) ∧ c.toNat < 128 ∧ (ys = [] ∨ c.toNat ≠ 0) ∧ joinL (varL n) = n := by
  by_cases h : n < 128
  · refine ⟨[], UInt8.ofNat n, by rw [varL_low n h]; rfl, by simp, by rw [toNat_ofNat]; omega, Or.inl rfl, ?_⟩
    rw [varL_low n h, joinL, joinL, toNat_ofNat]; omega
  · obtain ⟨ys, c, e, h1, h2, h3, h4⟩ := varL_parts (n / 128)
    refine ⟨UInt8.ofNat (n % 128 + 128) :: ys, c, by rw [varL_high n (by omega), e]; rfl, ?_, h2, Or.inr ?_, ?_⟩
    · intro y hy
      rcases List.mem_cons.1 hy with rfl | hy
      · rw [toNat_ofNat]; omega
      · exact h1 y hy
    · rcases h3 with h3 | h3
      · subst h3
        rw [e] at h4
        simp [joinL] at h4
        omega
      · exact h3
    · rw [varL_high n (by omega), joinL, h4, toNat_ofNat]; omega
termination_by n
decreasing_by omega
/-- what is laid is read again -/
theorem rdVar_varL (n most : Nat) (t : List UInt8) (hn : n < 4294967296) (hm : n ≤ most) : rdVar most (varL n ++ t) = (0, n, t) := by
  obtain ⟨ys, c, e, h1, h2, h3, h4⟩ := varL_parts n
  have h5 := varL_five n hn
  rw [e] at h4 h5
  have := vr_run most ys 5 0 0 c t h1 h2 (by simp at h5; omega)
  unfold rdVar
  rw [e, List.append_assoc, List.singleton_append, this, h4]
  simp only [Nat.pow_zero, Nat.one_mul, Nat.zero_add]
  rw [if_neg, if_neg (by omega)]
  rintro (h | ⟨h, h'⟩)
  · omega
  · rcases h3 with h3 | h3
    · subst h3; simp at h
    · exact h3 h'
theorem varL_joinL : ∀ (ys : List UInt8) (c : UInt8), (∀ y ∈ ys, 128 ≤ y.toNat) → c.toNat < 128 → (ys = [] ∨ c.toNat ≠ 0) → varL (joinL (ys ++ [c])) = ys ++ [c]
  | [], c, _, hc, _ => by
    have e : joinL ([] ++ [c]) = c.toNat := by simp [joinL]; omega
    rw [e, varL_low _ hc, ofNat_toNat]; rfl
  | y :: ys, c, hy, hc, h3 => by
    have hc0 : c.toNat ≠ 0 := by
      rcases h3 with h3 | h3
      · cases h3
      · exact h3
    have ih := varL_joinL ys c (fun z hz => hy z (List.mem_cons.2 (Or.inr hz))) hc (Or.inr hc0)
    have hpos : 0 < joinL (ys ++ [c]) := by
      rw [joinL_snoc]
      have : 0 < c.toNat % 128 * 128 ^ ys.length := Nat.mul_pos (by omega) (Nat.pow_pos (by omega))
      omega
    have hyy := hy y (by simp)
    have := lt256 y
    rw [List.cons_append, joinL, varL_high _ (by omega)]
    rw [show (y.toNat % 128 + 128 * joinL (ys ++ [c])) % 128 + 128 = y.toNat by omega, show (y.toNat % 128 + 128 * joinL (ys ++ [c])) / 128 = joinL (ys ++ [c]) by omega, ih, ofNat_toNat]
/-- where the first byte is that ends a number, among so many -/
theorem find_last : ∀ (f : Nat) (xs : List UInt8), (∀ y ∈ xs.take f, 128 ≤ y.toNat) ∨ ∃ ys c t, xs = ys ++ c :: t ∧ (∀ y ∈ ys, 128 ≤ y.toNat) ∧ c.toNat < 128 ∧ ys.length < f
  | 0, xs => Or.inl (by simp)
  | f + 1, [] => Or.inl (by simp)
  | f + 1, c :: t => by
    by_cases h : c.toNat < 128
    · exact Or.inr ⟨[], c, t, rfl, by simp, h, by simp⟩
    · rcases find_last f t with h1 | ⟨ys, d, u, e, h1, h2, h3⟩
      · refine Or.inl fun y hy => ?_
        rw [List.take_succ_cons] at hy
        rcases List.mem_cons.1 hy with rfl | hy
        · omega
        · exact h1 y hy
      · refine Or.inr ⟨c :: ys, d, u, by rw [e]; rfl, ?_, h2, by simpa using h3⟩
        intro y hy
        rcases List.mem_cons.1 hy with rfl | hy
        · omega
        · exact h1 y hy
/-- bytes that are read as a number are those that are laid for it -/
theorem rdVar_only (most : Nat) (xs : List UInt8) (n : Nat) (t : List UInt8) (h : rdVar most xs = (0, n, t)) : xs = varL n ++ t ∧ n ≤ most := by
  unfold rdVar at h
  rcases find_last 5 xs with h1 | ⟨ys, c, u, e, h1, h2, h3⟩
  · by_cases hl : 5 ≤ xs.length
    · rw [vr_long most 5 0 0 xs h1 hl] at h; simp at h
    · rw [vr_cut most 5 0 0 xs (fun y hy => h1 y (by rw [List.take_of_length_le (by omega)]; exact hy)) (by omega)] at h; simp at h
  · rw [e, vr_run most ys 5 0 0 c u h1 h2 h3] at h
    simp only [Nat.pow_zero, Nat.one_mul, Nat.zero_add] at h
    split at h
    · simp at h
    · rename_i h4
      split at h
      · simp at h
      · rename_i h5
        simp only [Prod.mk.injEq, true_and] at h
        obtain ⟨rfl, rfl⟩ := h
        rw [varL_joinL ys c h1 h2 ?_]
        · exact ⟨by rw [e, List.append_assoc]; rfl, by omega⟩
        · cases ys with
          | nil => exact Or.inl rfl
          | cons y ys => exact Or.inr fun h0 => h4 (Or.inr ⟨by simp, h0⟩)

/-- so many bytes: the error, them, what is left -/
def rdText (most : Nat) (xs : List UInt8) : Nat × List UInt8 × List UInt8 :=
  if (rdVar most xs).1 = 0 then
    if (rdVar most xs).2.1 ≤ (rdVar most xs).2.2.length then (0, (rdVar most xs).2.2.take (rdVar most xs).2.1, (rdVar most xs).2.2.drop (rdVar most xs).2.1) else (3, [], [])
  else ((rdVar most xs).1, [], [])
def word4 : List UInt8 → Nat
  | [a, b, c, d] => a.toNat + b.toNat * 256 + c.toNat * 65536 + d.toNat * 16777216
  | _ => 0
def rdWord (xs : List UInt8) : Nat × Nat × List UInt8 := if 4 ≤ xs.length then (0, word4 (xs.take 4), xs.drop 4) else (3, 0, [])
def takeW : Nat → List UInt8 → List Nat
  | 0, _ => []
  | k + 1, xs => word4 (xs.take 4) :: takeW k (xs.drop 4)
def rdWords (most : Nat) (xs : List UInt8) : Nat × List Nat × List UInt8 :=
  if (rdVar most xs).1 = 0 then
    if 4 * (rdVar most xs).2.1 ≤ (rdVar most xs).2.2.length then (0, takeW (rdVar most xs).2.1 (rdVar most xs).2.2, (rdVar most xs).2.2.drop (4 * (rdVar most xs).2.1)) else (3, [], [])
  else ((rdVar most xs).1, [], [])
theorem word4_wordL (n : Nat) (h : n < 4294967296) : word4 (wordL n) = n := by
  simp only [wordL, word4, toNat_ofNat]; omega
theorem word4_lt (xs : List UInt8) : word4 xs < 4294967296 := by
  unfold word4
  split
  · rename_i a b c d
    have := lt256 a; have := lt256 b; have := lt256 c; have := lt256 d
    omega
  · omega
theorem takeW_length : ∀ (k : Nat) (xs : List UInt8), (takeW k xs).length = k
  | 0, _ => rfl
  | k + 1, xs => by rw [takeW, List.length_cons, takeW_length k]
theorem takeW_manyL : ∀ (l : List Nat) (t : List UInt8), (∀ w ∈ l, w < 4294967296) → takeW l.length (manyL l ++ t) = l
  | [], t, _ => rfl
  | w :: l, t, h => by
    have e : (manyL (w :: l) ++ t) = wordL w ++ (manyL l ++ t) := by rw [manyL, List.append_assoc]
    rw [List.length_cons, takeW, e]
    have h4 : (wordL w ++ (manyL l ++ t)).take 4 = wordL w := List.take_left' rfl
    have h5 : (wordL w ++ (manyL l ++ t)).drop 4 = manyL l ++ t := List.drop_left' rfl
    rw [h4, h5, word4_wordL w (h w (by simp)), takeW_manyL l t (fun x hx => h x (List.mem_cons.2 (Or.inr hx)))]
theorem rdText_textL (s t : List UInt8) (hs : s.length < 4294967296) (most : Nat) (hm : s.length ≤ most) : rdText most (textL s ++ t) = (0, s, t) := by
  have e : rdVar most (textL s ++ t) = (0, s.length, s ++ t) := by
    rw [textL, List.append_assoc, Nat.mod_eq_of_lt hs]
    exact rdVar_varL _ _ _ hs hm
  unfold rdText
  rw [e]
  simp
theorem rdWord_wordL (n : Nat) (t : List UInt8) (h : n < 4294967296) : rdWord (wordL n ++ t) = (0, n, t) := by
  have h4 : (wordL n ++ t).take 4 = wordL n := List.take_left' rfl
  have h5 : (wordL n ++ t).drop 4 = t := List.drop_left' rfl
  unfold rdWord
  rw [if_pos (by simp [wordL]), h4, h5, word4_wordL n h]
theorem rdWords_wordsL (l : List Nat) (t : List UInt8) (hl : l.length < 4294967296) (hw : ∀ w ∈ l, w < 4294967296) (most : Nat) (hm : l.length ≤ most) : rdWords most (wordsL l ++ t) = (0, l, t) := by
  have e : rdVar most (wordsL l ++ t) = (0, l.length, manyL l ++ t) := by
    rw [wordsL, List.append_assoc, Nat.mod_eq_of_lt hl]
    exact rdVar_varL _ _ _ hl hm
  unfold rdWords
  rw [e]
  simp only [if_true]
  rw [if_pos (by simp [manyL_length]), takeW_manyL l t hw, ← manyL_length l, List.drop_left]
/-- how many bytes: one for each seven bits -/
def sizeL (n : Nat) : Nat := (varL n).length
theorem varL_at (n : Nat) : ∀ (i : Nat) (h : i < (varL n).length), (128 ≤ ((varL n)[i]).toNat) ↔ i + 1 < (varL n).length := by
  obtain ⟨ys, c, e, h1, h2, h3, h4⟩ := varL_parts n
  rw [e]
  intro i h
  rw [List.length_append, List.length_singleton] at h ⊢
  by_cases hi : i < ys.length
  · rw [List.getElem_append_left hi]
    exact ⟨fun _ => by omega, fun _ => h1 _ (List.getElem_mem hi)⟩
  · rw [List.getElem_append_right (by omega)]
    have : i - ys.length = 0 := by omega
    simp only [this, List.getElem_cons_zero]
    omega
end Go.Proofs.Ytdlinlkdielmkaa.WM
