/-
  A tree over the runs: each place above has the most of the two below it. Plain facts on lists; nothing here is a statement of the seed.
-/
import Derived.Test.YtegcekniolajeaaAllocMath2
set_option linter.unusedSimpArgs false
set_option linter.unusedVariables false
namespace Go.Proofs.Ytegcekniolajeaa.AL

abbrev at0 (T : List Nat) (i : Nat) : Nat := T.getD i 0
def Settled (T : List Nat) (m : Nat) : Prop := at0 T m = max (at0 T (2 * m)) (at0 T (2 * m + 1))
/-- the tree T over h leaves, all right -/
structure Tree (T : List Nat) (d : Nat) : Prop where
  len : T.length = 2 * 2 ^ d
  set : ∀ m, 1 ≤ m → m < 2 ^ d → Settled T m
theorem at_set (T : List Nat) (i j v : Nat) (h : i < T.length) : at0 (T.set i v) j = if i = j then v else at0 T j := by
  unfold at0
  rw [List.getD_eq_getElem?_getD, List.getD_eq_getElem?_getD, List.getElem?_set]
  by_cases e : i = j
  · subst e; simp [h]
  · simp [e]
theorem pow_pos2 (d : Nat) : 1 ≤ 2 ^ d := Nat.pos_of_ne_zero (by simp)
/-- no leaf below a place has more than it -/
theorem under {T : List Nat} {d : Nat} (h : Tree T d) : ∀ (k m : Nat), 1 ≤ m → m * 2 ^ k < 2 * 2 ^ d → 2 ^ d ≤ m * 2 ^ k → ∀ j, m * 2 ^ k ≤ j → j < (m + 1) * 2 ^ k → at0 T j ≤ at0 T m
  | 0, m, h1, h2, h3, j, h4, h5 => by
    simp only [Nat.pow_zero, Nat.mul_one] at *
    have : j = m := by omega
    subst this; exact Nat.le_refl _
  | k + 1, m, h1, h2, h3, j, h4, h5 => by
    have hp := pow_pos2 k
    have e1 : m * 2 ^ (k + 1) = 2 * m * 2 ^ k := by rw [Nat.pow_succ]; rw [Nat.mul_comm (2 ^ k) 2, ← Nat.mul_assoc, Nat.mul_comm m 2]
    have e2 : (m + 1) * 2 ^ (k + 1) = (2 * m + 1 + 1) * 2 ^ k := by rw [Nat.pow_succ, Nat.mul_comm (2 ^ k) 2, ← Nat.mul_assoc]; congr 1; omega
    have e3 : (2 * m + 1) * 2 ^ k = 2 * m * 2 ^ k + 2 ^ k := by rw [Nat.add_mul]; omega
    have e4 : (2 * m + 1 + 1) * 2 ^ k = 2 * m * 2 ^ k + 2 ^ k + 2 ^ k := by rw [Nat.add_mul, Nat.add_mul]; omega
    have hm : m < 2 ^ d := by
      have h6 : m * 2 ≤ m * 2 ^ (k + 1) := Nat.mul_le_mul_left m (by rw [Nat.pow_succ]; omega)
      omega
    have hs := h.set m h1 hm
    unfold Settled at hs
    rw [e1] at h2 h3 h4
    rw [e2, e4] at h5
    have h7 : 2 * m * 2 ^ k + 2 ^ k < 2 * 2 ^ d := by
      -- both are multiples of 2^k
      rcases Nat.lt_or_ge k (d + 1) with hk | hk
      · obtain ⟨c, hc⟩ : ∃ c, 2 * 2 ^ d = c * 2 ^ k * 2 := ⟨2 ^ (d - k), by rw [← Nat.pow_add, show d - k + k = d by omega, Nat.mul_comm]⟩
        rw [hc] at h2 ⊢
        have e5 : c * 2 ^ k * 2 = (2 * c) * 2 ^ k := by rw [Nat.mul_comm (c * 2 ^ k) 2, ← Nat.mul_assoc]
        rw [e5] at h2 ⊢
        have h8 : 2 * m < 2 * c := Nat.lt_of_mul_lt_mul_right h2
        have h9 : (2 * m + 1) * 2 ^ k < (2 * c) * 2 ^ k := Nat.mul_lt_mul_of_pos_right (by omega) hp
        rw [← e3]; exact h9
      · have h8 : 2 ^ (d + 1) ≤ 2 ^ k := Nat.pow_le_pow_right (by decide) hk
        have h9 : 1 * 2 ^ k ≤ 2 * m * 2 ^ k := Nat.mul_le_mul_right _ (by omega)
        rw [Nat.pow_succ] at h8
        omega
    rcases Nat.lt_or_ge j ((2 * m + 1) * 2 ^ k) with hj | hj
    · have := under h k (2 * m) (by omega) (by omega) (by omega) j h4 hj
      omega
    · have := under h k (2 * m + 1) (by omega) (by rw [e3]; exact h7) (by rw [e3]; omega) j hj (by rw [e4]; exact h5)
      omega
/-- on the way down: at place i, k levels ahead; no leaf ahead of its own has so many -/
def Way (T : List Nat) (d n i : Nat) : Prop := 1 ≤ i ∧ n ≤ at0 T i ∧ ∃ k, i * 2 ^ k < 2 * 2 ^ d ∧ 2 ^ d ≤ i * 2 ^ k ∧ ∀ j, 2 ^ d ≤ j → j < i * 2 ^ k → at0 T j < n
theorem way_start {T : List Nat} {d n : Nat} (h : n ≤ at0 T 1) : Way T d n 1 := ⟨Nat.le_refl _, h, d, by have := pow_pos2 d; omega, by omega, fun j h1 h2 => by omega⟩
theorem way_lt {T : List Nat} {d n i : Nat} (h : Way T d n i) : i < 2 * 2 ^ d := by
  obtain ⟨h1, _, k, h2, _⟩ := h
  have : i * 1 ≤ i * 2 ^ k := Nat.mul_le_mul_left _ (pow_pos2 k)
  omega
theorem way_step {T : List Nat} {d n i : Nat} (ht : Tree T d) (h : Way T d n i) (hi : i < 2 ^ d) : (at0 T (2 * i) < n → Way T d n (2 * i + 1)) ∧ (n ≤ at0 T (2 * i) → Way T d n (2 * i)) := by
  obtain ⟨h1, h2, k, h3, h4, h5⟩ := h
  cases k with
  | zero => simp only [Nat.pow_zero, Nat.mul_one] at h4; omega
  | succ k =>
    have hs := ht.set i h1 hi
    unfold Settled at hs
    have hp := pow_pos2 k
    have e1 : i * 2 ^ (k + 1) = 2 * i * 2 ^ k := by rw [Nat.pow_succ]; rw [Nat.mul_comm (2 ^ k) 2, ← Nat.mul_assoc, Nat.mul_comm i 2]
    have e3 : (2 * i + 1) * 2 ^ k = 2 * i * 2 ^ k + 2 ^ k := by rw [Nat.add_mul]; omega
    rw [e1] at h3 h4 h5
    refine ⟨fun hlt => ?_, fun hle => ⟨by omega, hle, k, h3, h4, h5⟩⟩
    have h7 : 2 * i * 2 ^ k + 2 ^ k < 2 * 2 ^ d := by
      rcases Nat.lt_or_ge k (d + 1) with hk | hk
      · obtain ⟨c, hc⟩ : ∃ c, 2 * 2 ^ d = c * 2 ^ k * 2 := ⟨2 ^ (d - k), by rw [← Nat.pow_add, show d - k + k = d by omega, Nat.mul_comm]⟩
        rw [hc] at h3 ⊢
        have e5 : c * 2 ^ k * 2 = (2 * c) * 2 ^ k := by rw [Nat.mul_comm (c * 2 ^ k) 2, ← Nat.mul_assoc]
        rw [e5] at h3 ⊢
        have h8 : 2 * i < 2 * c := Nat.lt_of_mul_lt_mul_right h3
        have h9 : (2 * i + 1) * 2 ^ k < (2 * c) * 2 ^ k := Nat.mul_lt_mul_of_pos_right (by omega) hp
        rw [← e3]; exact h9
      · have h8 : 2 ^ (d + 1) ≤ 2 ^ k := Nat.pow_le_pow_right (by decide) hk
        have h9 : 1 * 2 ^ k ≤ 2 * i * 2 ^ k := Nat.mul_le_mul_right _ (by omega)
        rw [Nat.pow_succ] at h8
        omega
    refine ⟨by omega, by omega, k, by rw [e3]; exact h7, by rw [e3]; omega, fun j hj1 hj2 => ?_⟩
    rw [e3] at hj2
    rcases Nat.lt_or_ge j (2 * i * 2 ^ k) with hj | hj
    · exact h5 j hj1 hj
    · have := under ht k (2 * i) (by omega) h3 h4 j hj (by rw [e3]; exact hj2)
      omega
/-- what stands in the leaves -/
def leaves (T : List Nat) (d : Nat) : List Nat := T.drop (2 ^ d)
theorem tk_at (n : Nat) : ∀ (l : List Nat) (i : Nat), i < l.length → n ≤ l.getD i 0 → (∀ j, j < i → l.getD j 0 < n) → tk l n = some (l.set i (l.getD i 0 - n))
  | [], i, h, _, _ => by simp at h
  | r :: rs, 0, _, h2, _ => by simp at h2; simp [tk, h2]
  | r :: rs, i + 1, h1, h2, h3 => by
    have h0 := h3 0 (by omega)
    simp at h0
    have := tk_at n rs i (by simpa using h1) (by simpa using h2) (fun j hj => by simpa using h3 (j + 1) (by omega))
    rw [tk, if_neg (by omega), this]
    simp
theorem tk_not (n : Nat) : ∀ l : List Nat, (∀ j, j < l.length → l.getD j 0 < n) → tk l n = none
  | [], _ => rfl
  | r :: rs, h => by
    have h0 := h 0 (by simp)
    simp at h0
    rw [tk, if_neg (by omega), tk_not n rs (fun j hj => by simpa using h (j + 1) (by simpa using hj))]
    rfl
theorem leaves_at {T : List Nat} {d : Nat} (j : Nat) : (leaves T d).getD j 0 = at0 T (2 ^ d + j) := by
  unfold leaves at0
  rw [List.getD_eq_getElem?_getD, List.getD_eq_getElem?_getD, List.getElem?_drop]
theorem way_end {T : List Nat} {d n i : Nat} (ht : Tree T d) (h : Way T d n i) (hi : 2 ^ d ≤ i) : tk (leaves T d) n = some (leaves (T.set i (at0 T i - n)) d) := by
  have hlt := way_lt h
  obtain ⟨h1, h2, k, h3, h4, h5⟩ := h
  have hk : i * 1 ≤ i * 2 ^ k := Nat.mul_le_mul_left _ (pow_pos2 k)
  have hl : (leaves T d).length = 2 ^ d := by unfold leaves; rw [List.length_drop, ht.len]; omega
  have e : i = 2 ^ d + (i - 2 ^ d) := by omega
  rw [tk_at n (leaves T d) (i - 2 ^ d) (by omega) (by rw [leaves_at, ← e]; exact h2) (fun j hj => by rw [leaves_at]; exact h5 _ (by omega) (by omega))]
  rw [leaves_at, ← e]
  unfold leaves
  rw [List.drop_set, if_neg (by omega)]
theorem root_not {T : List Nat} {d n : Nat} (ht : Tree T d) (h : at0 T 1 < n) : tk (leaves T d) n = none := by
  apply tk_not
  intro j hj
  have hl : (leaves T d).length = 2 ^ d := by unfold leaves; rw [List.length_drop, ht.len]; omega
  rw [leaves_at]
  have := under ht d 1 (Nat.le_refl _) (by have := pow_pos2 d; omega) (by omega) (2 ^ d + j) (by omega) (by omega)
  omega
/-! the way up -/
/-- m stands above i -/
def Over (m i : Nat) : Prop := ∃ e, i / 2 / 2 ^ e = m
theorem over_up {m i : Nat} (h : Over m i) : m = i / 2 ∨ Over m (i / 2) := by
  obtain ⟨e, he⟩ := h
  cases e with
  | zero => left; simpa using he.symm
  | succ e => right; exact ⟨e, by rw [← he, Nat.pow_succ, Nat.mul_comm, ← Nat.div_div_eq_div_mul]⟩
theorem over_half {m i : Nat} (h : 2 * m = i ∨ 2 * m + 1 = i) : Over m i := ⟨0, by simp; omega⟩
/-- all is right, but above i perhaps -/
structure Off (T : List Nat) (d i : Nat) : Prop where
  len : T.length = 2 * 2 ^ d
  set : ∀ m, 1 ≤ m → m < 2 ^ d → ¬ Over m i → Settled T m
theorem off_start {T : List Nat} {d i : Nat} (h : Tree T d) (hi : 2 ^ d ≤ i) (hlt : i < 2 * 2 ^ d) (v : Nat) : Off (T.set i v) d i := by
  refine ⟨by rw [List.length_set]; exact h.len, fun m h1 h2 h3 => ?_⟩
  have hs := h.set m h1 h2
  have hn : ¬ (2 * m = i ∨ 2 * m + 1 = i) := fun e => h3 (over_half e)
  have hT : i < T.length := by rw [h.len]; exact hlt
  unfold Settled at hs ⊢
  rw [at_set T i m v hT, at_set T i _ v hT, at_set T i _ v hT, if_neg (by omega), if_neg (by omega), if_neg (by omega)]
  exact hs
theorem off_step {T : List Nat} {d i : Nat} (h : Off T d i) (hi : 1 < i) (hlt : i < 2 * 2 ^ d) : Off (T.set (i / 2) (max (at0 T (2 * (i / 2))) (at0 T (2 * (i / 2) + 1)))) d (i / 2) := by
  refine ⟨by rw [List.length_set]; exact h.len, fun m h1 h2 h3 => ?_⟩
  have hT : i / 2 < T.length := by rw [h.len]; omega
  unfold Settled
  rw [at_set T _ m _ hT, at_set T _ _ _ hT, at_set T _ _ _ hT]
  have hn : ¬ (2 * m = i / 2 ∨ 2 * m + 1 = i / 2) := fun e => h3 (over_half e)
  rw [if_neg (show ¬ i / 2 = 2 * m by omega), if_neg (show ¬ i / 2 = 2 * m + 1 by omega)]
  by_cases e : i / 2 = m
  · rw [if_pos e, e]
  · rw [if_neg e]
    refine h.set m h1 h2 (fun ho => ?_)
    rcases over_up ho with h4 | h4
    · exact e h4.symm
    · exact h3 h4
theorem off_end {T : List Nat} {d i : Nat} (h : Off T d i) (hi : i ≤ 1) : Tree T d := by
  refine ⟨h.len, fun m h1 h2 => h.set m h1 h2 (fun ⟨e, he⟩ => ?_)⟩
  have : i / 2 = 0 := by omega
  rw [this, Nat.zero_div] at he
  omega
theorem leaves_up {T : List Nat} {d i v : Nat} (h : i < 2 ^ d) : leaves (T.set i v) d = leaves T d := by unfold leaves; rw [List.drop_set_of_lt h]
/-! the making -/
/-- all is right behind i -/
structure Part (T : List Nat) (d i : Nat) : Prop where
  len : T.length = 2 * 2 ^ d
  set : ∀ m, i < m → m < 2 ^ d → Settled T m
theorem part_start (T : List Nat) (d : Nat) (h : T.length = 2 * 2 ^ d) : Part T d (2 ^ d - 1) := ⟨h, fun m h1 h2 => by omega⟩
theorem part_step {T : List Nat} {d i : Nat} (h : Part T d (i + 1)) (hi : i + 1 < 2 ^ d) : Part (T.set (i + 1) (max (at0 T (2 * (i + 1))) (at0 T (2 * (i + 1) + 1)))) d i := by
  refine ⟨by rw [List.length_set]; exact h.len, fun m h1 h2 => ?_⟩
  have hT : i + 1 < T.length := by rw [h.len]; omega
  unfold Settled
  rw [at_set T _ m _ hT, at_set T _ _ _ hT, at_set T _ _ _ hT]
  rw [if_neg (show ¬ i + 1 = 2 * m by omega), if_neg (show ¬ i + 1 = 2 * m + 1 by omega)]
  by_cases e : i + 1 = m
  · rw [if_pos e, e]
  · rw [if_neg e]
    exact h.set m (by omega) h2
theorem part_end {T : List Nat} {d : Nat} (h : Part T d 0) : Tree T d := ⟨h.len, fun m h1 h2 => h.set m (by omega) h2⟩
/-- the leaves as they are made: the runs, and noughts -/
theorem leaves_made (rs : List Nat) (d : Nat) (h : rs.length ≤ 2 ^ d) : leaves (List.replicate (2 ^ d) 0 ++ (rs ++ List.replicate (2 ^ d - rs.length) 0)) d = rs ++ List.replicate (2 ^ d - rs.length) 0 := by
  unfold leaves
  rw [List.drop_append]; simp
theorem fit_made (rs : List Nat) (k : Nat) (ns : List Int) : fitR (rs ++ List.replicate k 0) ns = fitR rs ns := by
  rw [← fit_nz ns (rs ++ List.replicate k 0), ← fit_nz ns rs]
  congr 1
  simp [nz]
theorem bound_tk (M n : Nat) : ∀ (l t : List Nat), tk l n = some t → (∀ x ∈ l, x ≤ M) → ∀ x ∈ t, x ≤ M
  | [], t, h, _ => by cases h
  | r :: rs, t, h, hb => by
    rw [tk] at h
    split at h
    · obtain rfl := Option.some.inj h
      intro x hx
      rcases List.mem_cons.1 hx with rfl | hx
      · have := hb r (by simp); omega
      · exact hb x (by simp [hx])
    · cases hh : tk rs n with
      | none => rw [hh] at h; cases h
      | some u =>
        rw [hh] at h
        obtain rfl := Option.some.inj h
        intro x hx
        rcases List.mem_cons.1 hx with rfl | hx
        · exact hb x (by simp)
        · exact bound_tk M n rs u hh (fun y hy => hb y (by simp [hy])) x hx
end Go.Proofs.Ytegcekniolajeaa.AL
