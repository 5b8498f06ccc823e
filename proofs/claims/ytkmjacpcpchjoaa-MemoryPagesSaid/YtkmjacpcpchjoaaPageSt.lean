/-
  A few states, asked for one. Nothing here is a statement of the seed.
-/
import Derived.Test.YtkmjacpcpchjoaaPageFn
set_option linter.unusedSimpArgs false
set_option linter.unusedVariables false
namespace Go.Proofs.Ytkmjacpcpchjoaa.PF
open Go.RowKit PM PR

/-- the states a and b (or a alone) in block g -/
def Sts (w : World) (v : Value) (g : Nat) (a b : Int) : Prop :=
  (v = .slice (some ⟨g, 0, none⟩) 1 1 ∧ a = b ∧ Whole w g 67 #[.int .u8 a]) ∨ (v = .slice (some ⟨g, 0, none⟩) 2 2 ∧ Whole w g 67 #[.int .u8 a, .int .u8 b])
theorem Sts.belowS {w w' : World} {v : Value} {g : Nat} {a b : Int} (h : Sts w v g a b) (hb : Below w.heap.size w w') : Sts w' v g a b := by
  rcases h with ⟨h1, h2, h3⟩ | ⟨h1, h3⟩
  · exact Or.inl ⟨h1, h2, h3.belowS hb⟩
  · exact Or.inr ⟨h1, h3.belowS hb⟩
theorem Sts.fr {S : Nat → Prop} {w w' : World} {v : Value} {g : Nat} {a b : Int} (h : Sts w v g a b) (hb : Fr S w w') (hg : ¬ S g) : Sts w' v g a b := by
  rcases h with ⟨h1, h2, h3⟩ | ⟨h1, h3⟩
  · exact Or.inl ⟨h1, h2, h3.fr hb hg⟩
  · exact Or.inr ⟨h1, h3.fr hb hg⟩
theorem Sts.lt {w : World} {v : Value} {g : Nat} {a b : Int} (h : Sts w v g a b) : g < w.heap.size := by
  rcases h with ⟨h1, h2, h3⟩ | ⟨h1, h3⟩ <;> exact h3.lt
theorem Sts.ne_ {w : World} {v : Value} {g k : Nat} {a b : Int} {t : TypeId} {cs : Array Value} (h : Sts w v g a b) (hk : Whole w k t cs) (ht : t ≠ 67) : k ≠ g := by
  rcases h with ⟨h1, h2, h3⟩ | ⟨h1, h3⟩ <;> exact hk.ne_ h3 ht
theorem index1 (a st : Int) (g : Nat) (w : World) (h : Whole w g 67 #[.int .u8 a]) :
    Calls Try.prog 93 #[.slice (some ⟨g, 0, none⟩) 1 1, .int .u8 st] w fun e w' => e = .returned (.int .i64 (if st = a then 0 else -1)) ∧ w = w' := by
  have hc := h.cell 0
  simp only [List.getElem?_toArray, List.getElem?_cons_zero] at hc
  clear h
  by_cases h1 : st = a
  · subst h1
    rw [if_pos rfl]
    go_enter Try.func93, Try.ntmps93
    go_wp2_with fail
    refine wp_loop_rounds 1 ?_
    rw [rounds_succ]
    go_wp2_with fail
    go_ret
    exact ⟨rfl, rfl⟩
  · rw [if_neg h1]
    have h1' : (st == a) = false := by simpa using h1
    clear h1
    go_enter Try.func93, Try.ntmps93
    go_wp2_with fail
    refine wp_loop_rounds 2 ?_
    rw [rounds_succ]
    go_wp2_with fail
    rw [rounds_succ]
    go_wp2_with fail
    go_ret
    exact ⟨rfl, rfl⟩
theorem index2 (a b st : Int) (g : Nat) (w : World) (h : Whole w g 67 #[.int .u8 a, .int .u8 b]) :
    Calls Try.prog 93 #[.slice (some ⟨g, 0, none⟩) 2 2, .int .u8 st] w fun e w' => e = .returned (.int .i64 (if st = a then 0 else if st = b then 1 else -1)) ∧ w = w' := by
  have hc := h.cell 0
  have hc2 := h.cell 1
  simp only [List.getElem?_toArray, List.getElem?_cons_zero, List.getElem?_cons_succ] at hc hc2
  clear h
  by_cases h1 : st = a
  · subst h1
    rw [if_pos rfl]
    go_enter Try.func93, Try.ntmps93
    go_wp2_with fail
    refine wp_loop_rounds 1 ?_
    rw [rounds_succ]
    go_wp2_with fail
    go_ret
    exact ⟨rfl, rfl⟩
  · rw [if_neg h1]
    have h1' : (st == a) = false := by simpa using h1
    clear h1
    by_cases h2 : st = b
    · subst h2
      rw [if_pos rfl]
      go_enter Try.func93, Try.ntmps93
      go_wp2_with fail
      refine wp_loop_rounds 2 ?_
      rw [rounds_succ]
      go_wp2_with fail
      rw [rounds_succ]
      go_wp2_with fail
      go_ret
      exact ⟨rfl, rfl⟩
    · rw [if_neg h2]
      have h2' : (st == b) = false := by simpa using h2
      clear h2
      go_enter Try.func93, Try.ntmps93
      go_wp2_with fail
      refine wp_loop_rounds 3 ?_
      rw [rounds_succ]
      go_wp2_with fail
      rw [rounds_succ]
      go_wp2_with fail
      rw [rounds_succ]
      go_wp2_with fail
      go_ret
      exact ⟨rfl, rfl⟩
theorem contains_way (v : Value) (st r : Int) (w : World) (C : Calls Try.prog 93 #[v, .int .u8 st] w fun e w' => e = .returned (.int .i64 r) ∧ w = w') (q : Bool) (hq : decide (0 ≤ r) = q) :
    Calls Try.prog 85 #[v, .int .u8 st] w fun e w' => e = .returned (.bool q) ∧ w = w' := by
  have C1 := Lib.hid C
  clear C
  go_enter Try.func85, Try.ntmps85
  go_wp2_with (go_at_call 93; refine C1.out.mono ?_; rintro e w1 ⟨rfl, rfl⟩)
  go_ret
  exact ⟨by rw [← hq]; rfl, rfl⟩
theorem contains_any (v : Value) (g : Nat) (a b st : Int) (w : World) (h : Sts w v g a b) :
    Calls Try.prog 85 #[v, .int .u8 st] w fun e w' => e = .returned (.bool (decide (st = a) || decide (st = b))) ∧ w = w' := by
  rcases h with ⟨rfl, rfl, h3⟩ | ⟨rfl, h3⟩
  · refine contains_way _ _ _ _ (index1 a st g w h3) _ ?_
    by_cases h : st = a <;> simp [h]
  · refine contains_way _ _ _ _ (index2 a b st g w h3) _ ?_
    by_cases h : st = a
    · rw [if_pos h]; simp [h]
    · rw [if_neg h]
      by_cases h' : st = b
      · rw [if_pos h']; simp [h']
      · rw [if_neg h']; simp [h, h']
end Go.Proofs.Ytkmjacpcpchjoaa.PF
