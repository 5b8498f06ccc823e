/-
  What needs no memory: numbers of pages, gates, slots; what the reference tells out of its own value. Nothing here is a statement of the seed.
-/
import Derived.Test.YtkmjacpcpchjoaaMemRow
set_option linter.unusedSimpArgs false
set_option linter.unusedVariables false
namespace Go.Proofs.Ytkmjacpcpchjoaa.MF
open Go.RowKit PM PR PF MM MR

theorem pageOf_any (a : Int) (h : 0 ≤ a ∧ a ≤ 4294967295) (w : World) : Calls Try.prog 15 #[.int .u32 a] w fun e w' => e = .returned (.int .i64 (pageOf a)) ∧ w = w' := by
  obtain ⟨h1, h2⟩ := h
  unfold pageOf
  by_cases h3 : a < 80
  · rw [if_pos (Or.inl h3)]
    go_enter Try.func15, Try.ntmps15
    go_wp2_with fail
    go_ret
    exact ⟨rfl, rfl⟩
  · by_cases h4 : 4176 ≤ a
    · rw [if_pos (Or.inr h4)]
      go_enter Try.func15, Try.ntmps15
      go_wp2_with fail
      go_ret
      exact ⟨rfl, rfl⟩
    · rw [if_neg (by omega)]
      obtain ⟨b, rfl⟩ : ∃ b, a = b + 80 := ⟨a - 80, by omega⟩
      rw [show b + 80 - 80 = b by omega]
      have h5 : 0 ≤ b := by omega
      have h6 : b < 4096 := by omega
      go_enter Try.func15, Try.ntmps15
      go_wp2_with fail
      go_ret
      exact ⟨ret_int (by go_num), rfl⟩
theorem refPageOf_any (a : Int) (h : 0 ≤ a ∧ a ≤ 4294967295) (w : World) : Calls Try.prog 16 #[.int .u32 a] w fun e w' => e = .returned (.int .i64 (pageOf a)) ∧ w = w' := by
  obtain ⟨h1, h2⟩ := h
  unfold pageOf
  by_cases h3 : a < 80
  · rw [if_pos (Or.inl h3)]
    go_enter Try.func16, Try.ntmps16
    go_wp2_with fail
    go_ret
    exact ⟨rfl, rfl⟩
  · by_cases h4 : 4176 ≤ a
    · rw [if_pos (Or.inr h4)]
      go_enter Try.func16, Try.ntmps16
      go_wp2_with fail
      go_ret
      exact ⟨rfl, rfl⟩
    · rw [if_neg (by omega)]
      obtain ⟨b, rfl⟩ : ∃ b, a = b + 80 := ⟨a - 80, by omega⟩
      rw [show b + 80 - 80 = b by omega]
      have h5 : 0 ≤ b := by omega
      have h6 : b < 4096 := by omega
      go_enter Try.func16, Try.ntmps16
      go_wp2_with fail
      go_ret
      exact ⟨ret_int (by go_num), rfl⟩
theorem isGate_any (g : Int) (w : World) : Calls Try.prog 50 #[.int .i64 g] w fun e w' => e = .returned (.bool (decide (0 ≤ g ∧ g < 8))) ∧ w = w' := by
  by_cases h : 0 ≤ g
  · rw [show decide (0 ≤ g ∧ g < 8) = decide (g < 8) by simp [h]]
    go_enter Try.func50, Try.ntmps50
    go_wp2_with fail
    go_ret
    exact ⟨rfl, rfl⟩
  · rw [show decide (0 ≤ g ∧ g < 8) = false by simp [h]]
    go_enter Try.func50, Try.ntmps50
    go_wp2_with fail
    go_ret
    exact ⟨rfl, rfl⟩
theorem slot_good {k : Int} (h : 0 ≤ k ∧ k < 64) : IM.InsOk 21 0 0 0 k := by unfold IM.InsOk; omega
theorem enc_says (k : Int) (h : 0 ≤ k ∧ k < 64) : Says Try.prog 76 #[.agg #[.int .u8 21, .int .u8 0, .int .u8 0, .int .u8 0, .int .i32 k]] (.tuple #[.int .u32 (slotW k), .int .i64 0]) := IF.encode_yes 21 0 0 0 k (slot_good h)
theorem refEnc_says (k : Int) (h : 0 ≤ k ∧ k < 64) : Says Try.prog 29 #[.agg #[.int .u8 21, .int .u8 0, .int .u8 0, .int .u8 0, .int .i32 k]] (.tuple #[.int .u32 (slotW k), .int .i64 0]) := IF.refEncode_yes 21 0 0 0 k (slot_good h)
theorem slot_any (k : Int) (h : 0 ≤ k ∧ k < 64) : Says Try.prog 46 #[.int .u32 k] (.int .u32 (slotW k)) := by
  intro w
  have C := Lib.hid (enc_says k h)
  obtain ⟨h1, h2⟩ := h
  generalize slotW k = s at *
  go_enter Try.func46, Try.ntmps46
  go_wp2_with (go_at_call 76; (with_reducible refine (C.out.at _).mono ?_); rintro e w1 ⟨rfl, hb⟩)
  go_ret
  exact ⟨rfl, hb⟩
theorem refSize_any (G : Nat → Int) (gr n c gw m d : Nat) (hm : m ≤ 4096) : Says Try.prog 18 #[rV G gr n c gw m d] (.int .i64 (80 + (m : Int))) := by
  intro w
  have hm1 : (m : Int) ≤ 4096 := by omega
  have hm0 : (0 : Int) ≤ m := by omega
  go_enter Try.func18, Try.ntmps18
  go_wp2_with fail
  go_ret
  exact ⟨ret_int (by go_num), below_new _ _⟩
theorem refThere_any (G : Nat → Int) (gr n c gw m d : Nat) (hm : m ≤ 4096) (a : Int) (h : 0 ≤ a ∧ a ≤ 4294967295) : Says Try.prog 56 #[rV G gr n c gw m d, .int .u32 a] (.bool (decide (80 ≤ a ∧ a < 80 + (m : Int)))) := by
  intro w
  have C := Lib.hid (refSize_any G gr n c gw m d hm)
  have hm1 : (m : Int) ≤ 4096 := by omega
  have hm0 : (0 : Int) ≤ m := by omega
  obtain ⟨h1, h2⟩ := h
  by_cases h3 : 80 ≤ a
  · rw [show decide (80 ≤ a ∧ a < 80 + (m : Int)) = decide (a < 80 + (m : Int)) by simp [h3]]
    generalize (m : Int) = M at *
    go_enter Try.func56, Try.ntmps56
    go_wp2_with (go_at_call 18; (with_reducible refine (C.out.at _).mono ?_); rintro e w1 ⟨rfl, hb⟩)
    go_ret
    exact ⟨ret_bool (by go_num), (below_new _ _).trans (hb.mono (by simp))⟩
  · rw [show decide (80 ≤ a ∧ a < 80 + (m : Int)) = false by simp [h3]]
    go_enter Try.func56, Try.ntmps56
    go_wp2_with fail
    go_ret
    exact ⟨rfl, below_new _ _⟩
theorem refGate_any (G : Nat → Int) (gr n c gw m d : Nat) (g : Int) : Says Try.prog 43 #[rV G gr n c gw m d, .int .i64 g] (.int .u32 (if g < 0 ∨ 8 ≤ g then 0 else G g.toNat)) := by
  intro w
  by_cases h1 : g < 0
  · rw [if_pos (Or.inl h1)]
    go_enter Try.func43, Try.ntmps43
    go_wp2_with fail
    go_ret
    exact ⟨rfl, below_new _ _⟩
  · by_cases h2 : 8 ≤ g
    · rw [if_pos (Or.inr h2)]
      have h3 : 7 < g := by omega
      go_enter Try.func43, Try.ntmps43
      go_wp2_with fail
      go_ret
      exact ⟨rfl, below_new _ _⟩
    · rw [if_neg (by omega)]
      rcases (show g = 0 ∨ g = 1 ∨ g = 2 ∨ g = 3 ∨ g = 4 ∨ g = 5 ∨ g = 6 ∨ g = 7 by omega) with rfl | rfl | rfl | rfl | rfl | rfl | rfl | rfl <;> clear h1 h2
      all_goals
        go_enter Try.func43, Try.ntmps43
        go_wp2_with fail
        go_ret
        exact ⟨rfl, below_new _ _⟩
end Go.Proofs.Ytkmjacpcpchjoaa.MF
