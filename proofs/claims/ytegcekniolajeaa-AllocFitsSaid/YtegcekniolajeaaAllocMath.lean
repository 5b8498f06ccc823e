/-
  Runs of free places in a row, told over lists. Plain facts on lists; nothing here is a statement of the seed.
-/
set_option linter.unusedSimpArgs false
set_option linter.unusedVariables false
namespace Go.Proofs.Ytegcekniolajeaa.AL

abbrev Pr := Nat × Nat
/-- a run that ends -/
def emit (f c : Nat) : List Pr := if c = 0 then [] else [(f, c)]
/-- the runs of l, c free ones ahead of it, which begin at f -/
def rg : Nat → Nat → List Bool → List Pr
  | f, c, [] => emit f c
  | f, c, true :: r => emit f c ++ rg (f + c + 1) 0 r
  | f, c, false :: r => rg f (c + 1) r
/-- how many free ones stand ahead -/
def ld : List Bool → Nat
  | [] => 0
  | true :: _ => 0
  | false :: r => ld r + 1
/-- the runs behind the one that we are in -/
def sk : Nat → List Bool → List Pr
  | _, [] => []
  | i, true :: r => rg (i + 1) 0 r
  | i, false :: r => sk (i + 1) r
def nx (b : Bool) (i : Nat) (l : List Bool) : List Pr := if b then sk i l else rg i 0 l
/-- the first place with n free ones, c of them ahead, from f on -/
def fnd (n : Nat) : Nat → Nat → List Bool → Option Nat
  | f, c, [] => if n ≤ c then some f else none
  | f, c, true :: r => if n ≤ c then some f else fnd n (f + c + 1) 0 r
  | f, c, false :: r => fnd n f (c + 1) r
def fdr (n : Nat) : Nat → List Bool → Option Nat
  | _, [] => none
  | i, x :: r => if n ≤ ld (x :: r) then some i else fdr n (i + 1) r

theorem ld_le : ∀ l : List Bool, ld l ≤ l.length
  | [] => Nat.le_refl _
  | true :: r => Nat.zero_le _
  | false :: r => by have := ld_le r; simp only [ld, List.length_cons]; omega
theorem ld_rep (c : Nat) (l : List Bool) : ld (List.replicate c false ++ l) = c + ld l := by
  induction c with
  | zero => simp
  | succ c ih => simp only [List.replicate_succ, List.cons_append, ld, ih]; omega
theorem ld_true : ∀ (l : List Bool) (k : Nat), k ≤ ld l → l[k]? = some true → ld l = k
  | [], k, _, h => by simp at h
  | true :: r, k, hk, _ => by simp only [ld] at hk ⊢; omega
  | false :: r, 0, _, h => by simp at h
  | false :: r, k + 1, hk, h => by
    simp only [ld] at hk ⊢
    have := ld_true r k (by omega) (by simpa using h)
    omega
theorem ld_false : ∀ (l : List Bool) (k : Nat), k ≤ ld l → l[k]? = some false → k + 1 ≤ ld l
  | [], k, _, h => by simp at h
  | true :: r, 0, hk, h => by simp at h
  | true :: r, k + 1, hk, _ => by simp only [ld] at hk; omega
  | false :: r, 0, _, _ => by simp only [ld]; omega
  | false :: r, k + 1, hk, h => by
    simp only [ld] at hk ⊢
    have := ld_false r k (by omega) (by simpa using h)
    omega
/-- what stands ahead is free -/
theorem ld_at : ∀ (l : List Bool) (k : Nat), k < ld l → l[k]? = some false
  | [], k, h => by simp [ld] at h
  | true :: r, k, h => by simp [ld] at h
  | false :: r, 0, _ => rfl
  | false :: r, k + 1, h => by
    simp only [ld] at h
    simpa using ld_at r k (by omega)
theorem ld_stop : ∀ (l : List Bool), ld l < l.length → l[ld l]? = some true
  | [], h => by simp at h
  | true :: r, _ => rfl
  | false :: r, h => by
    simp only [ld, List.length_cons] at h ⊢
    simpa using ld_stop r (by omega)
theorem ld_of : ∀ (l : List Bool) (n : Nat), n ≤ l.length → (∀ k, k < n → l[k]? = some false) → n ≤ ld l
  | l, 0, _, _ => Nat.zero_le _
  | [], n + 1, h, _ => by simp at h
  | true :: r, n + 1, _, h => by have := h 0 (by omega); simp at this
  | false :: r, n + 1, hn, h => by
    simp only [ld]
    have := ld_of r n (by simpa using hn) (fun k hk => by simpa using h (k + 1) (by omega))
    omega

theorem rg_sk : ∀ (l : List Bool) (f c : Nat), 1 ≤ c → rg f c l = (f, c + ld l) :: sk (f + c) l
  | [], f, c, h => by simp only [rg, emit, sk, ld]; rw [if_neg (by omega)]; simp
  | true :: r, f, c, h => by simp only [rg, emit, sk, ld]; rw [if_neg (by omega)]; simp
  | false :: r, f, c, h => by
    simp only [rg, sk, ld]
    rw [rg_sk r f (c + 1) (by omega)]
    congr 2; omega
theorem nx_used (b : Bool) (i : Nat) (r : List Bool) : nx b i (true :: r) = nx false (i + 1) r := by
  cases b <;> simp [nx, sk, rg, emit]
theorem nx_in (i : Nat) (r : List Bool) : nx true i (false :: r) = nx true (i + 1) r := by simp [nx, sk]
theorem nx_new (i : Nat) (r : List Bool) : nx false i (false :: r) = (i, 1 + ld r) :: nx true (i + 1) r := by
  simp only [nx, rg, Bool.false_eq_true, if_false, if_true]
  rw [rg_sk r i (0 + 1) (by omega)]
theorem nx_nil (b : Bool) (i : Nat) : nx b i [] = [] := by cases b <;> simp [nx, sk, rg, emit]

theorem find_rg (n : Nat) (hn : 1 ≤ n) : ∀ (l : List Bool) (f c : Nat), ((rg f c l).find? fun p => decide (n ≤ p.2)).map (·.1) = fnd n f c l := by
  have he : ∀ f c, (emit f c).find? (fun p => decide (n ≤ p.2)) = if n ≤ c then some (f, c) else none := by
    intro f c
    unfold emit
    by_cases h0 : c = 0
    · rw [if_pos h0, if_neg (by omega)]; rfl
    · rw [if_neg h0]
      by_cases h1 : n ≤ c <;> simp [h1]
  intro l
  induction l with
  | nil => intro f c; simp only [rg, fnd, he]; split <;> rfl
  | cons x r ih =>
    intro f c
    cases x with
    | true =>
      simp only [rg, fnd, List.find?_append, he]
      split
      · simp
      · simpa using ih (f + c + 1) 0
    | false => simp only [rg, fnd]; exact ih f (c + 1)
theorem fdr_skip (n : Nat) : ∀ (c f : Nat) (r : List Bool), c < n → fdr n f (List.replicate c false ++ true :: r) = fdr n (f + c + 1) r
  | 0, f, r, h => by
    have e : ld (true :: r) = 0 := rfl
    rw [List.replicate_zero, List.nil_append, fdr, if_neg (by rw [e]; omega)]
  | c + 1, f, r, h => by
    rw [List.replicate_succ, List.cons_append, fdr]
    have : ld (false :: (List.replicate c false ++ true :: r)) = c + 1 := by simp only [ld, ld_rep, Nat.add_zero]
    rw [if_neg (by rw [this]; omega), fdr_skip n c (f + 1) r (by omega)]
    congr 1; omega
theorem fdr_none (n : Nat) : ∀ (c f : Nat), c < n → fdr n f (List.replicate c false) = none
  | 0, f, h => rfl
  | c + 1, f, h => by
    rw [List.replicate_succ, fdr]
    have : ld (false :: List.replicate c false) = c + 1 := by
      have := ld_rep c []
      simp only [List.append_nil] at this
      simp only [ld, this, Nat.add_zero]
    rw [if_neg (by rw [this]; omega), fdr_none n c (f + 1) (by omega)]
theorem fdr_hit (n : Nat) (hn : 1 ≤ n) (f : Nat) (l : List Bool) (h : n ≤ ld l) : fdr n f l = some f := by
  cases l with
  | nil => simp [ld] at h; omega
  | cons x r => rw [fdr, if_pos h]
theorem fdr_fnd (n : Nat) (hn : 1 ≤ n) : ∀ (l : List Bool) (f c : Nat), fdr n f (List.replicate c false ++ l) = fnd n f c l
  | [], f, c => by
    simp only [fnd]
    by_cases h : n ≤ c
    · rw [if_pos h, fdr_hit n hn f _ (by rw [ld_rep]; omega)]
    · rw [if_neg h, List.append_nil, fdr_none n c f (by omega)]
  | true :: r, f, c => by
    simp only [fnd]
    by_cases h : n ≤ c
    · rw [if_pos h, fdr_hit n hn f _ (by rw [ld_rep]; omega)]
    · rw [if_neg h, fdr_skip n c f r (by omega)]
      have := fdr_fnd n hn r (f + c + 1) 0
      simpa using this
  | false :: r, f, c => by
    simp only [fnd]
    rw [← fdr_fnd n hn r f (c + 1)]
    congr 1
    rw [List.replicate_succ', List.append_assoc]
    rfl
/-- where there is room for n in l -/
def F (l : List Bool) (n : Nat) : Option Nat := fnd n 0 0 l
def R (l : List Bool) : List Pr := rg 0 0 l
theorem find_R (l : List Bool) (n : Nat) (hn : 1 ≤ n) : ((R l).find? fun p => decide (n ≤ p.2)).map (·.1) = F l n := find_rg n hn l 0 0
theorem fdr_F (l : List Bool) (n : Nat) (hn : 1 ≤ n) : fdr n 0 l = F l n := by
  have := fdr_fnd n hn l 0 0
  simp only [List.replicate_zero, List.nil_append] at this
  exact this
theorem fdr_some (n : Nat) : ∀ (l : List Bool) (f k : Nat), fdr n f l = some k → f ≤ k ∧ k < f + l.length ∧ n ≤ ld (l.drop (k - f)) ∧ ∀ i, i < k - f → ¬ n ≤ ld (l.drop i)
  | [], f, k, h => by simp [fdr] at h
  | x :: r, f, k, h => by
    rw [fdr] at h
    by_cases hc : n ≤ ld (x :: r)
    · rw [if_pos hc] at h
      obtain rfl := Option.some.inj h
      refine ⟨Nat.le_refl _, by simp, by simpa using hc, fun i hi => by omega⟩
    · rw [if_neg hc] at h
      obtain ⟨h1, h2, h3, h4⟩ := fdr_some n r (f + 1) k h
      have e : k - f = (k - (f + 1)) + 1 := by omega
      refine ⟨by omega, by simp only [List.length_cons]; omega, by rw [e]; exact h3, fun i hi => ?_⟩
      cases i with
      | zero => exact hc
      | succ i => exact h4 i (by omega)
theorem fdr_nothing (n : Nat) : ∀ (l : List Bool) (f : Nat), fdr n f l = none → ∀ i, i < l.length → ¬ n ≤ ld (l.drop i)
  | [], f, _, i, hi => by simp at hi
  | x :: r, f, h, i, hi => by
    rw [fdr] at h
    by_cases hc : n ≤ ld (x :: r)
    · rw [if_pos hc] at h; cases h
    · rw [if_neg hc] at h
      cases i with
      | zero => exact hc
      | succ i => exact fdr_nothing n r (f + 1) h i (by simpa using hi)
theorem F_some {l : List Bool} {n k : Nat} (hn : 1 ≤ n) (h : F l n = some k) : k + n ≤ l.length ∧ n ≤ ld (l.drop k) ∧ ∀ i, i < k → ¬ n ≤ ld (l.drop i) := by
  rw [← fdr_F l n hn] at h
  obtain ⟨_, h2, h3, h4⟩ := fdr_some n l 0 k h
  have := ld_le (l.drop k)
  rw [List.length_drop] at this
  refine ⟨by simp only [Nat.sub_zero] at h3; omega, h3, h4⟩
theorem F_none {l : List Bool} {n : Nat} (hn : 1 ≤ n) (h : F l n = none) : ∀ i, i < l.length → ¬ n ≤ ld (l.drop i) := by
  rw [← fdr_F l n hn] at h
  exact fdr_nothing n l 0 h

/-! the longest, and all -/
def big : List Pr → Nat
  | [] => 0
  | p :: r => max p.2 (big r)
def sum : List Pr → Nat
  | [] => 0
  | p :: r => p.2 + sum r
theorem big_append (a b : List Pr) : big (a ++ b) = max (big a) (big b) := by
  induction a with
  | nil => simp [big]
  | cons p r ih => simp only [List.cons_append, big, ih]; omega
theorem sum_append (a b : List Pr) : sum (a ++ b) = sum a + sum b := by
  induction a with
  | nil => simp [sum]
  | cons p r ih => simp only [List.cons_append, sum, ih]; omega
theorem big_le_sum : ∀ l : List Pr, big l ≤ sum l
  | [] => Nat.le_refl _
  | p :: r => by have := big_le_sum r; simp only [big, sum]; omega
/-- how many are free -/
def fre (l : List Bool) : Nat := l.countP (! ·)
theorem sum_rg : ∀ (l : List Bool) (f c : Nat), sum (rg f c l) = c + fre l
  | [], f, c => by simp only [rg, emit, fre]; split <;> simp [sum, *]
  | true :: r, f, c => by
    simp only [rg, sum_append, sum_rg r, fre, List.countP_cons]
    have : sum (emit f c) = c := by unfold emit; split <;> simp [sum, *]
    rw [this]; simp
  | false :: r, f, c => by
    simp only [rg, sum_rg r, fre, List.countP_cons]
    simp; omega
theorem sum_R (l : List Bool) : sum (R l) = fre l := by unfold R; rw [sum_rg]; omega
theorem fre_le (l : List Bool) : fre l ≤ l.length := List.countP_le_length
theorem big_ge (n : Nat) (hn : 1 ≤ n) : ∀ l : List Pr, n ≤ big l ↔ (l.find? fun p => decide (n ≤ p.2)).isSome = true
  | [] => by simp [big]; omega
  | p :: r => by
    have ih := big_ge n hn r
    simp only [big, List.find?_cons]
    by_cases h : n ≤ p.2
    · simp [h]; omega
    · simp only [h, decide_false]
      rw [← ih]; omega
theorem big_F (l : List Bool) (n : Nat) (hn : 1 ≤ n) : n ≤ big (R l) ↔ (F l n).isSome = true := by
  rw [big_ge n hn, ← find_R l n hn, Option.isSome_map]
/-- they rise, between two of them something is used -/
def Rise (N : Nat) : Int → List Pr → Prop
  | _, [] => True
  | e, p :: r => e < (p.1 : Int) ∧ 1 ≤ p.2 ∧ p.1 + p.2 ≤ N ∧ Rise N ((p.1 : Int) + p.2) r
theorem rise_rg (N : Nat) : ∀ (l : List Bool) (f c : Nat) (e : Int), e < f → f + c + l.length ≤ N → Rise N e (rg f c l)
  | [], f, c, e, h, hN => by
    simp only [rg, emit]
    split
    · trivial
    · simp only [List.length_nil] at hN; exact ⟨h, by omega, by simpa using hN, trivial⟩
  | true :: r, f, c, e, h, hN => by
    simp only [List.length_cons] at hN
    simp only [rg, emit]
    split
    · exact rise_rg N r (f + c + 1) 0 e (by omega) (by omega)
    · exact ⟨h, by omega, by show f + c ≤ N; omega, rise_rg N r (f + c + 1) 0 _ (by show (f : Int) + c < _; omega) (by omega)⟩
  | false :: r, f, c, e, h, hN => by
    simp only [List.length_cons] at hN
    exact rise_rg N r f (c + 1) e h (by omega)
theorem rise_R (l : List Bool) : Rise l.length (-1) (R l) := rise_rg l.length l 0 0 (-1) (by decide) (by omega)
theorem rg_len : ∀ (l : List Bool) (f c : Nat), (rg f c l).length ≤ l.length + (if c = 0 then 0 else 1)
  | [], f, c => by simp only [rg, emit]; split <;> simp
  | true :: r, f, c => by
    have := rg_len r (f + c + 1) 0
    simp only [rg, emit, List.length_append, List.length_cons] at this ⊢
    split <;> simp at this ⊢ <;> omega
  | false :: r, f, c => by
    have := rg_len r f (c + 1)
    simp only [rg, List.length_cons] at this ⊢
    split <;> simp at this ⊢ <;> omega
theorem R_len (l : List Bool) : (R l).length ≤ l.length := by have := rg_len l 0 0; simpa [R] using this
theorem rg_bd : ∀ (l : List Bool) (f c : Nat), ∀ p ∈ rg f c l, p.1 ≤ f + c + l.length ∧ p.2 ≤ c + l.length
  | [], f, c, p, h => by
    simp only [rg, emit] at h
    split at h <;> simp at h
    subst h; simp
  | true :: r, f, c, p, h => by
    simp only [rg, List.mem_append] at h
    simp only [List.length_cons]
    rcases h with h | h
    · unfold emit at h
      split at h <;> simp at h
      subst h; simp; omega
    · have := rg_bd r (f + c + 1) 0 p h; omega
  | false :: r, f, c, p, h => by
    have := rg_bd r f (c + 1) p h
    simp only [List.length_cons]; omega
theorem R_bd (l : List Bool) : ∀ p ∈ R l, p.1 ≤ l.length ∧ p.2 ≤ l.length := fun p h => by have := rg_bd l 0 0 p h; omega

/-! one place more is free -/
theorem ld_set : ∀ (l : List Bool) (p i : Nat), ld (l.drop i) ≤ ld ((l.set p false).drop i) := by
  have base : ∀ (l : List Bool) (p : Nat), ld l ≤ ld (l.set p false) := by
    intro l
    induction l with
    | nil => intro p; simp
    | cons x r ih =>
      intro p
      cases p with
      | zero => cases x <;> simp [ld]
      | succ p => cases x <;> simp only [List.set_cons_succ, ld]
                  · have := ih p; omega
                  · omega
  intro l p i
  by_cases h : p < i
  · rw [List.drop_set_of_lt h]; exact Nat.le_refl _
  · rw [List.drop_set, if_neg h]; exact base _ _
theorem F_set {l : List Bool} {n k : Nat} (p : Nat) (hn : 1 ≤ n) (h : F l n = some k) : ∃ j, F (l.set p false) n = some j ∧ j ≤ k := by
  obtain ⟨h1, h2, h3⟩ := F_some hn h
  have hs := ld_set l p k
  cases hf : F (l.set p false) n with
  | none => exact absurd (Nat.le_trans h2 hs) (F_none hn hf k (by rw [List.length_set]; omega))
  | some j =>
    refine ⟨j, rfl, ?_⟩
    obtain ⟨_, _, g3⟩ := F_some hn hf
    rcases Nat.lt_or_ge k j with hj | hj
    · exact absurd (Nat.le_trans h2 hs) (g3 k hj)
    · exact hj
theorem fre_set : ∀ (l : List Bool) (p : Nat), fre l ≤ fre (l.set p false)
  | [], p => by simp
  | x :: r, 0 => by cases x <;> simp [fre]
  | x :: r, p + 1 => by
    have := fre_set r p
    simp only [List.set_cons_succ, fre, List.countP_cons] at this ⊢
    omega
theorem big_set (l : List Bool) (p : Nat) : big (R l) ≤ big (R (l.set p false)) := by
  by_cases h : 1 ≤ big (R l)
  · have h1 := (big_F l _ h).1 (Nat.le_refl _)
    obtain ⟨k, hk⟩ := Option.isSome_iff_exists.1 h1
    obtain ⟨j, hj, _⟩ := F_set p h hk
    exact (big_F _ _ h).2 (by rw [hj]; rfl)
  · omega
end Go.Proofs.Ytegcekniolajeaa.AL
