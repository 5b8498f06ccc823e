/-
  An owner's pages through their life. Plain mathematics.
-/
import Derived.Test.YthpdpocglfafaaaPageMath3
set_option linter.unusedSimpArgs false
set_option linter.unusedVariables false
namespace Go.Proofs.Ythpdpocglfafaaa.PM

/-- K pages from A on are told by f -/
def putR (A K : Nat) (f : Nat → Pg) (l : List Pg) : List Pg := l.mapIdx fun j p => if A ≤ j ∧ j < A + K then f (j - A) else p
theorem putR_len (A K : Nat) (f : Nat → Pg) (l : List Pg) : (putR A K f l).length = l.length := by simp [putR]
theorem putR_at {A K : Nat} {f : Nat → Pg} {l : List Pg} {j : Nat} (h : j < l.length) : (putR A K f l).getD j zero = if A ≤ j ∧ j < A + K then f (j - A) else l.getD j zero := by
  rw [getD_in (by rw [putR_len]; exact h), getD_in h]
  simp [putR]
theorem rank_in {c : Pg → Bool} {l : List Pg} {A K : Nat} (h : ∀ j, j < l.length → c (l.getD j zero) = decide (A ≤ j ∧ j < A + K)) : ∀ j, j ≤ l.length → rank c l j = min (j - A) K := by
  intro j
  induction j with
  | zero => intro _; rw [rank_zero]; omega
  | succ j ih =>
    intro hj
    have hj' := ih (by omega)
    have hc := h j (by omega)
    by_cases hin : A ≤ j ∧ j < A + K
    · rw [rank_yes (by rw [hc]; exact decide_eq_true hin), hj']; omega
    · rw [rank_no (by rw [hc]; exact decide_eq_false hin), hj']; omega
theorem own_no {o a b : Int} {p : Pg} (h : p.ow ≠ o) : ownS o a b p = false := by simp [ownS, h]
section
variable {l : List Pg} {A K : Nat} {o a b : Int} {f : Nat → Pg} {F : Nat → Pg → Pg}
theorem put_own (h5 : ∀ j, j < l.length → (l.getD j zero).ow ≠ o) (hf : ∀ i, ownS o a b (f i) = true) : ∀ j, j < (putR A K f l).length → ownS o a b ((putR A K f l).getD j zero) = decide (A ≤ j ∧ j < A + K) := by
  intro j hj
  rw [putR_len] at hj
  rw [putR_at hj]
  by_cases hin : A ≤ j ∧ j < A + K
  · rw [if_pos hin, hf, decide_eq_true hin]
  · rw [if_neg hin, own_no (h5 j hj), decide_eq_false hin]
theorem put_num (h5 : ∀ j, j < l.length → (l.getD j zero).ow ≠ o) (hf : ∀ i, ownS o a b (f i) = true) (hK : A + K ≤ l.length) : num (ownS o a b) (putR A K f l) = K := by
  unfold num
  rw [rank_in (put_own h5 hf) _ (Nat.le_refl _), putR_len]
  omega
theorem put_none (h5 : ∀ j, j < l.length → (l.getD j zero).ow ≠ o) (hf : ∀ i, ownS o a b (f i) = false) : num (ownS o a b) (putR A K f l) = 0 := by
  unfold num
  rw [any_rank]
  intro j hj
  rw [putR_len] at hj
  rw [putR_at hj]
  split
  · exact hf _
  · exact own_no (h5 j hj)
theorem put_upd (h5 : ∀ j, j < l.length → (l.getD j zero).ow ≠ o) (hf : ∀ i, ownS o a b (f i) = true) : upd (ownS o a b) F (putR A K f l) = putR A K (fun i => F i (f i)) l := by
  refine ext_getD (by rw [upd_len, putR_len, putR_len]) fun j hj => ?_
  rw [upd_len] at hj
  have hj' : j < l.length := by rw [putR_len] at hj; exact hj
  rw [upd_at hj, put_own h5 hf j hj, rank_in (put_own h5 hf) j (by omega), putR_at hj', putR_at hj']
  by_cases hin : A ≤ j ∧ j < A + K
  · rw [decide_eq_true hin, if_pos hin, if_pos hin, if_pos rfl, show min (j - A) K = j - A by omega]
  · rw [decide_eq_false hin, if_neg hin, if_neg hin]; rfl
theorem none_num (h5 : ∀ j, j < l.length → (l.getD j zero).ow ≠ o) : num (ownS o a b) l = 0 := by
  unfold num
  rw [any_rank]
  exact fun j hj => own_no (h5 j hj)
end
def lv0 (N : Nat) : List Pg := stageL (zeros N) 0 1 9
def f2 (code : Nat) (i : Nat) : Pg := ⟨2, decide ((i : Int) < (code : Int)), !decide ((i : Int) < (code : Int)), 5, 0⟩
def f3 (code : Nat) (e : Int) (i : Nat) : Pg := ⟨3, decide ((i : Int) < (code : Int)), !decide ((i : Int) < (code : Int)), 5, e⟩
theorem lv0_len (N : Nat) : (lv0 N).length = N := by unfold lv0; rw [stageL_len]; simp [zeros]
theorem lv0_e (N : Nat) : stageE (zeros N) 0 1 9 = if N = 0 then 11 else 0 := by
  unfold stageE
  have hl : ((zeros N).length : Int) = N := by simp [zeros]
  rw [if_neg (by omega), hl]
  by_cases h : N = 0
  · rw [if_pos (by omega), if_pos h]
  · rw [if_neg (by omega), if_neg h]
    have : ths (zeros N) 0 1 9 = false := by
      unfold ths
      rw [Bool.or_eq_false_iff]
      refine ⟨?_, ?_⟩ <;> rw [List.any_eq_false]
      · intro x hx
        have : x = zero := List.eq_of_mem_replicate (List.mem_of_mem_drop (List.mem_of_mem_take hx))
        subst this; simp [used_no.2 rfl]
      · intro x hx
        have : x = zero := List.eq_of_mem_replicate hx
        subst this; decide
    rw [this]; rfl
theorem lv0_at {N j : Nat} (h : j < N) : (lv0 N).getD j zero = if j = 0 then stg 9 else zero := by
  unfold lv0 stageL
  rw [lv0_e, if_neg (show ¬ N = 0 by omega), if_pos rfl]
  have hz : j < (zeros N).length := by simp [zeros]; exact h
  rw [fill_at hz, zeros_at]
  by_cases h0 : j = 0
  · subst h0; rfl
  · rw [if_neg h0, if_neg]
    show ¬ ((0 : Int).toNat ≤ j ∧ j < (0 : Int).toNat + (1 : Int).toNat)
    simp; omega
theorem lv0_no5 {N : Nat} : ∀ j, j < (lv0 N).length → ((lv0 N).getD j zero).ow ≠ 5 := by
  intro j hj
  rw [lv0_len] at hj
  rw [lv0_at hj]
  split <;> decide
theorem lv_fail (N : Nat) : pubE (lv0 N) 5 0 = 8 ∧ pubL (lv0 N) 5 0 = lv0 N ∧ ∀ e, retE (lv0 N) 5 = 8 ∧ (retL (lv0 N) 5 e).length = (lv0 N).length := by
  have e : pubE (lv0 N) 5 0 = 8 := by unfold pubE; rw [if_pos (none_num lv0_no5)]
  exact ⟨e, by unfold pubL; rw [e]; rfl, fun x => ⟨by unfold retE; rw [if_pos (none_num lv0_no5)], retL_len ..⟩⟩
theorem lv_good {N A K : Nat} (code : Nat) (e : Int) (hc : code ≤ K) (h : stageE (lv0 N) A K 5 = 0) :
    N ≠ 0 ∧ 1 ≤ A ∧ A + K ≤ N ∧ 1 ≤ K ∧ stageL (lv0 N) A K 5 = putR A K (fun _ => stg 5) (lv0 N) ∧ pubE (putR A K (fun _ => stg 5) (lv0 N)) 5 code = 0 ∧ pubL (putR A K (fun _ => stg 5) (lv0 N)) 5 code = putR A K (f2 code) (lv0 N) ∧
      retE (putR A K (f2 code) (lv0 N)) 5 = 0 ∧ retL (putR A K (f2 code) (lv0 N)) 5 e = putR A K (f3 code e) (lv0 N) ∧ pubE (putR A K (f3 code e) (lv0 N)) 5 0 = 8 ∧ pubL (putR A K (f3 code e) (lv0 N)) 5 0 = putR A K (f3 code e) (lv0 N) ∧
      relE (putR A K (f3 code e) (lv0 N)) 5 = 0 ∧ relL (putR A K (f3 code e) (lv0 N)) 5 = putR A K (fun _ => zero) (lv0 N) := by
  obtain ⟨_, h1, _, h2, ht⟩ := stage_o h
  rw [lv0_len] at h2
  have hK : 1 ≤ K := by omega
  have hAK : A + K ≤ N := by omega
  have hN : N ≠ 0 := by omega
  have hA : 1 ≤ A := by
    rcases Nat.eq_zero_or_pos A with h0 | h0
    · exfalso
      subst h0
      have : ths (lv0 N) ((0 : Nat) : Int) K 5 = true := by
        unfold ths
        rw [Bool.or_eq_true, any_iff, any_iff]
        refine Or.inl ⟨0, ?_, ?_⟩
        · rw [List.length_take, List.length_drop, lv0_len]; simp; omega
        · have e : (((lv0 N).drop (((0 : Nat) : Int)).toNat).take (K : Int).toNat).getD 0 zero = (lv0 N).getD 0 zero := by
            simp only [Int.toNat_natCast, List.drop_zero]
            rw [List.getD_eq_getElem?_getD, List.getD_eq_getElem?_getD, List.getElem?_take_of_lt (by omega)]
          rw [e, lv0_at (by omega)]; rfl
      rw [this] at ht; cases ht
    · exact h0
  have hL : A + K ≤ (lv0 N).length := by rw [lv0_len]; exact hAK
  have n5 := lv0_no5 (N := N)
  have o1 : ∀ i : Nat, ownS 5 1 1 ((fun _ : Nat => stg 5) i) = true := fun _ => rfl
  have o2 : ∀ i, ownS 5 2 2 (f2 code i) = true := fun _ => rfl
  have o3 : ∀ i, ownS 5 1 3 (f3 code e i) = true := fun _ => rfl
  have o4 : ∀ i, ownS 5 1 1 (f3 code e i) = false := fun _ => rfl
  have e1 : pubE (putR A K (fun _ => stg 5) (lv0 N)) 5 code = 0 := by
    unfold pubE; rw [put_num n5 o1 hL, if_neg (by omega), if_neg (by omega)]
  have e4 : pubE (putR A K (f3 code e) (lv0 N)) 5 0 = 8 := by unfold pubE; rw [put_none n5 o4, if_pos rfl]
  refine ⟨hN, hA, hAK, hK, ?_, e1, ?_, ?_, ?_, e4, ?_, ?_, ?_⟩
  · unfold stageL
    rw [if_pos h]
    refine ext_getD (by rw [fill_len, putR_len]) fun j hj => ?_
    rw [fill_len] at hj
    rw [fill_at hj, putR_at hj]
    simp only [Int.toNat_natCast]
  · unfold pubL; rw [if_pos e1, put_upd n5 o1]; rfl
  · unfold retE; rw [put_num n5 o2 hL, if_neg (by omega)]
  · unfold retL; rw [put_upd n5 o2]; rfl
  · unfold pubL; rw [e4]; rfl
  · unfold relE; rw [put_num n5 o3 hL, if_neg (by omega)]
  · unfold relL; rw [put_upd n5 o3]; rfl
end Go.Proofs.Ythpdpocglfafaaa.PM
