/-
  An owner's pages stand one behind the other. Plain mathematics.
-/
import Derived.Test.YthpdpocglfafaaaPageMath2
set_option linter.unusedSimpArgs false
set_option linter.unusedVariables false
namespace Go.Proofs.Ythpdpocglfafaaa.PM

def RunJ (l : List Pg) : Prop := ∀ i k, i < k → k < l.length → (l.getD i zero).st ≠ 0 → (l.getD k zero).st ≠ 0 → (l.getD k zero).ow = (l.getD i zero).ow →
  (∀ j, i ≤ j → j ≤ k → (l.getD j zero).st = (l.getD i zero).st ∧ (l.getD j zero).ow = (l.getD i zero).ow ∧ (l.getD j zero).ep = (l.getD i zero).ep) ∧ ((l.getD k zero).ex = true → (l.getD i zero).ex = true)
theorem RunJ.zeros_ (n : Nat) : RunJ (zeros n) := fun i k _ _ h => by rw [zeros_at] at h; exact absurd rfl h
theorem RunJ.turned {c : Pg → Bool} {f : Nat → Pg → Pg} {l : List Pg} (h : RunJ l) (hc : ∀ p q : Pg, p.st = q.st → p.ow = q.ow → c p = c q)
    (hf : ∀ n m (p q : Pg), n ≤ m → c p = true → c q = true → q.st = p.st → q.ow = p.ow → q.ep = p.ep → (q.ex = true → p.ex = true) → (f m q).st = (f n p).st ∧ (f m q).ow = (f n p).ow ∧ (f m q).ep = (f n p).ep ∧ ((f m q).ex = true → (f n p).ex = true))
    (hu : ∀ n (p : Pg), c p = true → (f n p).st ≠ 0 → p.st ≠ 0 ∧ (f n p).ow = p.ow) : RunJ (upd c f l) := by
  intro i k hik hk h1 h2 h3
  rw [upd_len] at hk
  have old : ∀ j, j < l.length → ((upd c f l).getD j zero).st ≠ 0 → (l.getD j zero).st ≠ 0 ∧ ((upd c f l).getD j zero).ow = (l.getD j zero).ow := by
    intro j hj hs
    rw [upd_at hj] at hs ⊢
    cases hcj : c (l.getD j zero)
    · rw [hcj] at hs; exact ⟨hs, rfl⟩
    · rw [hcj] at hs; exact hu _ _ hcj hs
  obtain ⟨a1, a2⟩ := old i (by omega) h1
  obtain ⟨b1, b2⟩ := old k hk h2
  have hmid := h i k hik hk a1 b1 (by rw [← a2, ← b2]; exact h3)
  have hex : ∀ j, i ≤ j → j ≤ k → ((l.getD j zero).ex = true → (l.getD i zero).ex = true) := by
    intro j hj1 hj2
    by_cases e : i = j
    · subst e; exact id
    · obtain ⟨m1, m2, _⟩ := hmid.1 j hj1 hj2
      exact (h i j (by omega) (by omega) a1 (by rw [m1]; exact a1) m2).2
  have hcc : ∀ j, i ≤ j → j ≤ k → c (l.getD j zero) = c (l.getD i zero) := fun j hj1 hj2 => by
    obtain ⟨m1, m2, _⟩ := hmid.1 j hj1 hj2
    exact hc _ _ m1 m2
  cases hci : c (l.getD i zero)
  · have same : ∀ j, i ≤ j → j ≤ k → (PM.upd c f l).getD j zero = l.getD j zero := fun j hj1 hj2 => by
      rw [upd_at (by omega), hcc j hj1 hj2, hci]; rfl
    refine ⟨fun j hj1 hj2 => ?_, ?_⟩
    · rw [same j hj1 hj2, same i (Nat.le_refl _) (by omega)]; exact hmid.1 j hj1 hj2
    · rw [same k (by omega) (Nat.le_refl _), same i (Nat.le_refl _) (by omega)]; exact hmid.2
  · have new : ∀ j, i ≤ j → j ≤ k → (PM.upd c f l).getD j zero = f (rank c l j) (l.getD j zero) := fun j hj1 hj2 => by
      rw [upd_at (by omega), hcc j hj1 hj2, hci]; rfl
    have key : ∀ j, i ≤ j → j ≤ k → _ := fun j hj1 hj2 => hf (rank c l i) (rank c l j) (l.getD i zero) (l.getD j zero) (rank_mono c l hj1) hci (by rw [hcc j hj1 hj2]; exact hci) (hmid.1 j hj1 hj2).1 (hmid.1 j hj1 hj2).2.1 (hmid.1 j hj1 hj2).2.2 (hex j hj1 hj2)
    refine ⟨fun j hj1 hj2 => ?_, ?_⟩
    · rw [new j hj1 hj2, new i (Nat.le_refl _) (by omega)]
      obtain ⟨k1, k2, k3, _⟩ := key j hj1 hj2
      exact ⟨k1, k2, k3⟩
    · rw [new k (by omega) (Nat.le_refl _), new i (Nat.le_refl _) (by omega)]
      exact (key k (by omega) (Nat.le_refl _)).2.2.2
theorem ownS_same {o a b : Int} (p q : Pg) (h1 : p.st = q.st) (h2 : p.ow = q.ow) : ownS o a b p = ownS o a b q := by unfold ownS; rw [h1, h2]
theorem RunJ.stage {l : List Pg} (h : RunJ l) (hf : FineL l) (a n o : Int) : RunJ (stageL l a n o) := by
  unfold stageL
  split
  · rename_i h0
    obtain ⟨ho, hn, ha, han, ht⟩ := stage_o h0
    obtain ⟨A, rfl⟩ := Int.eq_ofNat_of_zero_le ha
    obtain ⟨N, rfl⟩ := Int.eq_ofNat_of_zero_le (show 0 ≤ n by omega)
    simp only [Int.toNat_natCast]
    have hAN : A + N ≤ l.length := by omega
    have hno : ∀ j, j < l.length → ¬ inWay l A N o j := fun j hj hw => by
      rw [(ths_iff hf ho hAN).2 ⟨j, hj, hw⟩] at ht; cases ht
    intro i k hik hk h1 h2 h3
    rw [fill_len] at hk
    have hi : i < l.length := by omega
    rw [fill_at hi] at h1 h3
    rw [fill_at hk] at h2 h3
    by_cases ri : A ≤ i ∧ i < A + N
    · rw [if_pos ri] at h1 h3
      by_cases rk : A ≤ k ∧ k < A + N
      · refine ⟨fun j hj1 hj2 => ?_, ?_⟩
        · rw [fill_at (by omega), fill_at hi, if_pos ⟨by omega, by omega⟩, if_pos ri]; exact ⟨rfl, rfl, rfl⟩
        · rw [fill_at hk, fill_at hi, if_pos rk, if_pos ri]; exact id
      · rw [if_neg rk] at h2 h3
        exact absurd ⟨h2, Or.inl h3⟩ (hno k hk)
    · rw [if_neg ri] at h1 h3
      by_cases rk : A ≤ k ∧ k < A + N
      · rw [if_pos rk] at h2 h3
        exact absurd ⟨h1, Or.inl h3.symm⟩ (hno i hi)
      · rw [if_neg rk] at h2 h3
        have hm := h i k hik hk h1 h2 h3
        have out : ∀ j, i ≤ j → j ≤ k → (fill l A N (stg o)).getD j zero = l.getD j zero := fun j hj1 hj2 => by
          rw [fill_at (by omega)]
          by_cases rj : A ≤ j ∧ j < A + N
          · obtain ⟨m1, _⟩ := hm.1 j hj1 hj2
            exact absurd ⟨by rw [m1]; exact h1, Or.inr rj⟩ (hno j (by omega))
          · rw [if_neg rj]
        refine ⟨fun j hj1 hj2 => ?_, ?_⟩
        · rw [out j hj1 hj2, out i (Nat.le_refl _) (by omega)]; exact hm.1 j hj1 hj2
        · rw [out k (by omega) (Nat.le_refl _), out i (Nat.le_refl _) (by omega)]; exact hm.2
  · exact h
theorem RunJ.pub {l : List Pg} (h : RunJ l) (o c : Int) : RunJ (pubL l o c) := by
  unfold pubL
  split
  · refine h.turned ownS_same ?_ ?_
    · intro n m p q hnm hp hq h1 h2 h3 h4
      refine ⟨rfl, h2, h3, fun hx => ?_⟩
      have : (m : Int) < c := of_decide_eq_true hx
      exact decide_eq_true (show (n : Int) < c by omega)
    · intro n p hp _
      obtain ⟨_, h1⟩ := ownS_st hp
      exact ⟨by omega, rfl⟩
  · exact h
theorem RunJ.ret {l : List Pg} (h : RunJ l) (o e : Int) : RunJ (retL l o e) := by
  refine h.turned ownS_same ?_ ?_
  · intro n m p q hnm hp hq h1 h2 h3 h4
    exact ⟨rfl, h2, rfl, h4⟩
  · intro n p hp _
    obtain ⟨_, h1⟩ := ownS_st hp
    exact ⟨by omega, rfl⟩
theorem RunJ.rel {l : List Pg} (h : RunJ l) (o : Int) : RunJ (relL l o) := by
  refine h.turned ownS_same ?_ ?_
  · intro n m p q hnm hp hq h1 h2 h3 h4
    exact ⟨rfl, rfl, rfl, id⟩
  · intro n p hp h0
    exact absurd rfl h0
theorem RunJ.act (l : List Pg) (x : Ac) (hf : FineL l) (h : RunJ l) : RunJ (actL l x) := by
  unfold actL
  split
  · exact h.stage hf _ _ _
  · split
    · exact h.pub _ _
    · split
      · exact h.ret _ _
      · exact h.rel _
end Go.Proofs.Ythpdpocglfafaaa.PM
