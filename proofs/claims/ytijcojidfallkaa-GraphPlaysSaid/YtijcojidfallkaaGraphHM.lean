/-
  A heap of texts as a list alone: what goes up, what goes down. Nothing here is a statement of the seed, no function of the program is named.
-/
import Derived.Test.YtijcojidfallkaaGraphHA
set_option linter.unusedSimpArgs false
set_option linter.unusedVariables false
namespace Go.Proofs.Ytijcojidfallkaa.GH
open GM
theorem nless_trans {a b c : Tx} (h : Op.bytesLess a b = false) (k : Op.bytesLess b c = false) : Op.bytesLess a c = false := by
  cases h1 : Op.bytesLess a c with
  | false => rfl
  | true =>
    cases h2 : Op.bytesLess b a with
    | true => rw [less_trans _ _ _ h2 h1] at k; cases k
    | false => rw [less_tri _ _ h h2] at h1; rw [h1] at k; cases k
theorem nless_of {a b c : Tx} (h : Op.bytesLess a b = false) (k : Op.bytesLess c b = true) : Op.bytesLess a c = false := by
  cases h1 : Op.bytesLess a c with
  | false => rfl
  | true => rw [less_trans _ _ _ h1 k] at h; cases h
/-- the first n are a heap -/
def HeapL (n : Nat) (l : List Tx) : Prop := ∀ i, 0 < i → i < n → Op.bytesLess (l.getD i []) (l.getD ((i - 1) / 2) []) = false
theorem HeapL.least {n : Nat} {l : List Tx} (h : HeapL n l) : ∀ i, i < n → Op.bytesLess (l.getD i []) (l.getD 0 []) = false := by
  intro i
  induction i using Nat.strongRecOn with
  | _ i ih =>
    intro hi
    by_cases h0 : i = 0
    · subst h0; exact less_irr _
    · exact nless_trans (h i (by omega) hi) (ih ((i - 1) / 2) (by omega) (by omega))
/-- all but j, which may have to go up -/
structure UpI (l : List Tx) (j : Nat) : Prop where
  ok : ∀ i, 0 < i → i < l.length → i ≠ j → Op.bytesLess (l.getD i []) (l.getD ((i - 1) / 2) []) = false
  ch : ∀ i, 0 < i → i < l.length → (i - 1) / 2 = j → 0 < j → Op.bytesLess (l.getD i []) (l.getD ((j - 1) / 2) []) = false
theorem UpI.stop {l : List Tx} {j : Nat} (h : UpI l j) (hj : j = 0 ∨ Op.bytesLess (l.getD j []) (l.getD ((j - 1) / 2) []) = false) : HeapL l.length l := fun i h0 hi => by
  by_cases e : i = j
  · subst e
    rcases hj with hj | hj
    · omega
    · exact hj
  · exact h.ok i h0 hi e
theorem UpI.step {l : List Tx} {j : Nat} (h : UpI l j) (h0 : 0 < j) (hj : j < l.length) (hl : Op.bytesLess (l.getD j []) (l.getD ((j - 1) / 2) []) = true) : UpI (sw l ((j - 1) / 2) j) ((j - 1) / 2) := by
  obtain ⟨p, hp⟩ : ∃ p, p = (j - 1) / 2 := ⟨_, rfl⟩
  rw [← hp] at hl ⊢
  have hpj : p < j := by omega
  have hA := fun k => sw_at l (i := p) (j := j) (by omega) hj k
  refine ⟨fun i hi hil hne => ?_, fun i hi hil hpi hp0 => ?_⟩
  · rw [sw_len] at hil
    rw [hA, hA]
    by_cases e : i = j
    · subst e
      rw [if_pos rfl, ← hp, if_neg (by omega), if_pos rfl]
      exact less_asym _ _ hl
    · rw [if_neg e, if_neg hne]
      by_cases e1 : (i - 1) / 2 = j
      · rw [if_pos e1]
        have := h.ch i hi hil e1 h0
        rw [← hp] at this
        exact this
      · rw [if_neg e1]
        have h1 := h.ok i hi hil e
        by_cases e2 : (i - 1) / 2 = p
        · rw [if_pos e2]
          rw [e2] at h1
          exact nless_of h1 hl
        · rw [if_neg e2]; exact h1
  · rw [sw_len] at hil
    rw [hA, hA, if_neg (show ¬ (p - 1) / 2 = j by omega), if_neg (show ¬ (p - 1) / 2 = p by omega)]
    have h2 := h.ok p hp0 (by omega) (by omega)
    by_cases e : i = j
    · rw [if_pos e]; exact h2
    · rw [if_neg e, if_neg (by omega)]
      have h1 := h.ok i hi hil e
      rw [hpi] at h1
      exact nless_trans h1 h2
/-- all of the first n but i's children, for i may have to go down -/
structure DnI (n : Nat) (l : List Tx) (i : Nat) : Prop where
  ok : ∀ c, 0 < c → c < n → (c - 1) / 2 ≠ i → Op.bytesLess (l.getD c []) (l.getD ((c - 1) / 2) []) = false
  ch : ∀ c, 0 < c → c < n → (c - 1) / 2 = i → 0 < i → Op.bytesLess (l.getD c []) (l.getD ((i - 1) / 2) []) = false
theorem DnI.stop {n : Nat} {l : List Tx} {i : Nat} (h : DnI n l i) (hc : ∀ c, 0 < c → c < n → (c - 1) / 2 = i → Op.bytesLess (l.getD c []) (l.getD i []) = false) : HeapL n l := fun c h0 hi => by
  by_cases e : (c - 1) / 2 = i
  · rw [e]; exact hc c h0 hi e
  · exact h.ok c h0 hi e
/-- j is the lowest child of i -/
structure LowC (n : Nat) (l : List Tx) (i j : Nat) : Prop where
  lt : j < n
  pos : 0 < j
  par : (j - 1) / 2 = i
  low : ∀ c, 0 < c → c < n → (c - 1) / 2 = i → Op.bytesLess (l.getD c []) (l.getD j []) = false
theorem LowC.end_ {n : Nat} {l : List Tx} {i j : Nat} (h : LowC n l i j) (d : DnI n l i) (hl : Op.bytesLess (l.getD j []) (l.getD i []) = false) : HeapL n l := d.stop fun c h0 hc e => nless_trans (h.low c h0 hc e) hl
theorem LowC.step {n : Nat} {l : List Tx} {i j : Nat} (h : LowC n l i j) (d : DnI n l i) (hn : n ≤ l.length) (hl : Op.bytesLess (l.getD j []) (l.getD i []) = true) : DnI n (sw l i j) j := by
  have h1 := h.lt
  have h2 := h.par
  have h3 := h.pos
  have hij : i < j := by omega
  have hA := fun k => sw_at l (i := i) (j := j) (by omega) (by omega) k
  refine ⟨fun c hc hcn hne => ?_, fun c hc hcn hp hj0 => ?_⟩
  · rw [hA, hA, if_neg hne]
    by_cases e1 : c = j
    · rw [if_pos e1, if_pos (by rw [e1]; exact h2)]
      exact less_asym _ _ hl
    · rw [if_neg e1]
      by_cases e2 : c = i
      · subst e2
        rw [if_pos rfl, if_neg (by omega)]
        exact d.ch j h3 h1 h2 hc
      · rw [if_neg e2]
        by_cases e3 : (c - 1) / 2 = i
        · rw [if_pos e3]; exact h.low c hc hcn e3
        · rw [if_neg e3]; exact d.ok c hc hcn e3
  · have e1 : c ≠ j := by omega
    have e2 : c ≠ i := by omega
    rw [hA, hA, if_neg e1, if_neg e2, h2, if_neg (by omega), if_pos rfl]
    have := d.ok c hc hcn (by omega)
    rw [hp] at this
    exact this
end Go.Proofs.Ytijcojidfallkaa.GH
