/-
  The reference's way to one rune: the whole.
-/
import Derived.Test.YtenilpofmfcofaaDoorNameOne
set_option linter.unusedSimpArgs false
set_option linter.unusedVariables false
namespace Go.Proofs.YtenilpofmfcofaaDoor.NF
open Go.RowKit NM

def loneB (c : Nat) (t1 t2 t3 : Bool) : Prop :=
  c < 194 ∨ 194 ≤ c ∧ c ≤ 223 ∧ t1 = false ∨ 224 ≤ c ∧ c ≤ 239 ∧ t1 = false ∨ 224 ≤ c ∧ c ≤ 239 ∧ t1 = true ∧ t2 = false ∨ 240 ≤ c ∧ c ≤ 244 ∧ t1 = false ∨ 240 ≤ c ∧ c ≤ 244 ∧ t1 = true ∧ t2 = false ∨ 240 ≤ c ∧ c ≤ 244 ∧ t1 = true ∧ t2 = true ∧ t3 = false ∨ 245 ≤ c
set_option maxRecDepth 100000 in
set_option maxHeartbeats 2000000 in
theorem one_no (s : ByteArray) (c : Nat) (t1 t2 t3 : Bool) (w : World) (hs : 0 < s.size) (e0 : bt s.data.toList 0 = c) (e1 : ct s.data.toList 1 = t1) (e2 : ct s.data.toList 2 = t2) (e3 : ct s.data.toList 3 = t3) (h128 : 128 ≤ c)
    (h : loneB c t1 t2 t3) :
    Calls Tryd.prog 46 #[.string s] w fun e w' => e = .returned (.tuple #[.int .i64 (-1), .int .i64 1]) ∧ ∃ n, w' = w.drewN n := by
  have hb := byte_at s 0 hs
  have hlt := bt_lt s.data.toList 0
  rw [e0] at hb hlt
  clear e0
  have C := more_at s 1 1 rfl t1 e1 (by omega)
  have C2 := more_at s 2 2 rfl t2 e2 (by omega)
  have C3 := more_at s 3 3 rfl t3 e3 (by omega)
  clear e1 e2 e3
  have k0 : 128 ≤ (c : Int) := by omega
  have kk : (c : Int) < 256 := by omega
  unfold loneB at h
  rcases h with h | ⟨h1, h2, rfl⟩ | ⟨h1, h2, rfl⟩ | ⟨h1, h2, rfl, rfl⟩ | ⟨h1, h2, rfl⟩ | ⟨h1, h2, rfl, rfl⟩ | ⟨h1, h2, rfl, rfl, rfl⟩ | h
  · have k1 : (c : Int) < 194 := by omega
    go_enter Tryd.func46, Tryd.ntmps46
    go_wp2_with fail
    go_ret2
    exact ⟨rfl, 0, rfl⟩
  · have k1 : 194 ≤ (c : Int) := by omega
    have k2 : (c : Int) ≤ 223 := by omega
    go_enter Tryd.func46, Tryd.ntmps46
    go_wp2_with (go_at_call 55; first | (with_reducible refine (C.out _).mono ?_; rintro e w' ⟨rfl, rfl⟩))
    go_ret2
    exact ⟨rfl, 0, rfl⟩
  · have k1 : 224 ≤ (c : Int) := by omega
    have k2 : (c : Int) ≤ 239 := by omega
    go_enter Tryd.func46, Tryd.ntmps46
    go_wp2_with (go_at_call 55; first | (with_reducible refine (C.out _).mono ?_; rintro e w' ⟨rfl, rfl⟩))
    go_ret2
    exact ⟨rfl, 0, rfl⟩
  · have k1 : 224 ≤ (c : Int) := by omega
    have k2 : (c : Int) ≤ 239 := by omega
    go_enter Tryd.func46, Tryd.ntmps46
    go_wp2_with (go_at_call 55; first | (with_reducible refine (C.out _).mono ?_; rintro e w' ⟨rfl, rfl⟩) | (with_reducible refine (C2.out _).mono ?_; rintro e w' ⟨rfl, rfl⟩))
    go_ret2
    exact ⟨rfl, 0, rfl⟩
  · have k1 : 240 ≤ (c : Int) := by omega
    have k2 : (c : Int) ≤ 244 := by omega
    go_enter Tryd.func46, Tryd.ntmps46
    go_wp2_with (go_at_call 55; first | (with_reducible refine (C.out _).mono ?_; rintro e w' ⟨rfl, rfl⟩))
    go_ret2
    exact ⟨rfl, 0, rfl⟩
  · have k1 : 240 ≤ (c : Int) := by omega
    have k2 : (c : Int) ≤ 244 := by omega
    go_enter Tryd.func46, Tryd.ntmps46
    go_wp2_with (go_at_call 55; first | (with_reducible refine (C.out _).mono ?_; rintro e w' ⟨rfl, rfl⟩) | (with_reducible refine (C2.out _).mono ?_; rintro e w' ⟨rfl, rfl⟩))
    go_ret2
    exact ⟨rfl, 0, rfl⟩
  · have k1 : 240 ≤ (c : Int) := by omega
    have k2 : (c : Int) ≤ 244 := by omega
    go_enter Tryd.func46, Tryd.ntmps46
    go_wp2_with (go_at_call 55; first | (with_reducible refine (C.out _).mono ?_; rintro e w' ⟨rfl, rfl⟩) | (with_reducible refine (C2.out _).mono ?_; rintro e w' ⟨rfl, rfl⟩) | (with_reducible refine (C3.out _).mono ?_; rintro e w' ⟨rfl, rfl⟩))
    go_ret2
    exact ⟨rfl, 0, rfl⟩
  · have k1 : 245 ≤ (c : Int) := by omega
    go_enter Tryd.func46, Tryd.ntmps46
    go_wp2_with fail
    go_ret2
    exact ⟨rfl, 0, rfl⟩
theorem bool_no {b : Bool} (h : ¬ b = true) : b = false := by simpa using h
theorem one_any (s : ByteArray) (w : World) (hs : 0 < s.size) :
    Calls Tryd.prog 46 #[.string s] w fun e w' => e = .returned (.tuple #[.int .i64 (dec s.data.toList).1, .int .i64 ((dec s.data.toList).2 : Nat)]) ∧ ∃ n, w' = w.drewN n := by
  have hlt := bt_lt s.data.toList 0
  by_cases h0 : bt s.data.toList 0 < 128
  · have e : dec s.data.toList = (((bt s.data.toList 0 : Nat) : Int), 1) := by unfold dec; rw [if_pos h0]
    rw [e]
    exact one_1 s w hs h0
  have N : loneB (bt s.data.toList 0) (ct s.data.toList 1) (ct s.data.toList 2) (ct s.data.toList 3) → dec s.data.toList = (-1, 1) →
      Calls Tryd.prog 46 #[.string s] w fun e w' => e = .returned (.tuple #[.int .i64 (dec s.data.toList).1, .int .i64 ((dec s.data.toList).2 : Nat)]) ∧ ∃ n, w' = w.drewN n := fun h e => by
    rw [e]
    exact one_no s _ _ _ _ w hs rfl rfl rfl rfl (by omega) h
  by_cases c1 : bt s.data.toList 0 / 32 = 6 ∧ ct s.data.toList 1 = true
  · by_cases hv : 194 ≤ bt s.data.toList 0
    · have e : dec s.data.toList = (((bt s.data.toList 0 % 32 * 64 + bt s.data.toList 1 % 64 : Nat) : Int), 2) := by
        unfold dec; rw [if_neg h0, if_pos c1, if_pos (by omega)]
      rw [e]
      exact one_2 s w hs hv (by omega) c1.2
    · refine N (by unfold loneB; omega) ?_
      unfold dec; rw [if_neg h0, if_pos c1, if_neg (by omega)]
  by_cases c2 : bt s.data.toList 0 / 16 = 14 ∧ ct s.data.toList 1 = true ∧ ct s.data.toList 2 = true
  · have h3 := one_3 s w hs (by omega) (by omega) c2.2.1 c2.2.2 _ (dec s.data.toList).1 ((dec s.data.toList).2 : Nat) rfl
    apply h3
    unfold val3 dec
    rw [if_neg h0, if_neg c1, if_pos c2]
    split
    · refine .inl ⟨rfl, rfl, ?_⟩; omega
    · refine .inr ⟨rfl, rfl, ?_⟩; omega
  by_cases c3 : bt s.data.toList 0 / 8 = 30 ∧ ct s.data.toList 1 = true ∧ ct s.data.toList 2 = true ∧ ct s.data.toList 3 = true
  · by_cases hv : bt s.data.toList 0 ≤ 244
    · have h4 := one_4 s w hs (by omega) hv c3.2.1 c3.2.2.1 c3.2.2.2 _ (dec s.data.toList).1 ((dec s.data.toList).2 : Nat) rfl
      apply h4
      unfold val4 dec
      rw [if_neg h0, if_neg c1, if_neg c2, if_pos c3]
      split
      · refine .inl ⟨rfl, rfl, ?_, ?_⟩ <;> omega
      · refine .inr ⟨rfl, rfl, ?_⟩; omega
    · refine N (by unfold loneB; omega) ?_
      unfold dec; rw [if_neg h0, if_neg c1, if_neg c2, if_pos c3, if_neg (by omega)]
  · refine N ?_ (by unfold dec; rw [if_neg h0, if_neg c1, if_neg c2, if_neg c3])
    generalize bt s.data.toList 0 = c at *
    generalize ct s.data.toList 1 = t1 at *
    generalize ct s.data.toList 2 = t2 at *
    generalize ct s.data.toList 3 = t3 at *
    clear N
    unfold loneB
    cases t1 <;> cases t2 <;> cases t3 <;> simp at c1 c2 c3 ⊢ <;> omega
end Go.Proofs.YtenilpofmfcofaaDoor.NF
