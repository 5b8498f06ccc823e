/-
  New tables: the program's and the reference's. Nothing here is a statement of the seed.
-/
import Derived.Test.YtkmjacpcpchjoaaPageTab
import Derived.Maps.AppendAt
set_option linter.unusedSimpArgs false
set_option linter.unusedVariables false
namespace Go.Proofs.Ytkmjacpcpchjoaa.PF
open Go.RowKit PM PR

theorem infoPg : (Try.prog.info? 69).map (fun i => (i.zero, i.size, i.bytes)) = some (some (.agg #[.int .u8 0, .bool false, .bool false, .int .u16 0, .int .u64 0]), 5, 16) := by kernel_rfl
theorem made_zeros (n : Nat) : (madeCells (Value.agg #[.int .u8 0, .bool false, .bool false, .int .u16 0, .int .u64 0]).cells (n * 5)).toList = cs (zeros n) := by
  apply List.ext_getElem?
  intro i
  by_cases hi : i < n * 5
  · have hq : i / 5 < (zeros n).length := by simp [zeros]; omega
    have hm : i % 5 < 5 := by omega
    have h := cs_at (zeros n) (i / 5) (i % 5) hq hm
    have e : i / 5 * 5 + i % 5 = i := by omega
    rw [e, zeros_at] at h
    rw [h]
    have : i % 5 = 0 ∨ i % 5 = 1 ∨ i % 5 = 2 ∨ i % 5 = 3 ∨ i % 5 = 4 := by omega
    rcases this with h | h | h | h | h <;> simp [madeCells, hi, Value.cells, h, pcs, zero]
  · have hl := cs_len (zeros n)
    have hz : (zeros n).length = n := by simp [zeros]
    rw [List.getElem?_eq_none (by rw [Array.length_toList, size_madeCells]; omega), List.getElem?_eq_none (by rw [hl, hz]; omega)]
theorem zeros_len (n : Nat) : (zeros n).length = n := by simp [zeros]
theorem made_row {w : World} {B n g : Nat} (h : w.ownsRow B 69 5 (.slice (some ⟨g, 0, none⟩) n n) n (cs (zeros n))) : Row w g (zeros n) := by
  obtain ⟨g', c, e, _, _, _, _, hr⟩ := Row.of_owns h (by simp)
  simp only [Value.slice.injEq, Option.some.injEq, Addr.mk.injEq] at e
  obtain ⟨⟨rfl, _⟩, _⟩ := e
  exact hr
/-- a table of zero pages, all of its blocks new -/
def NewTb (n : Nat) (w : World) (e : Ending) (w' : World) : Prop := ∃ p g, e = .returned (.pointer (some ⟨p, 0, none⟩)) ∧ Tb w' p g (zeros n) ∧ w.heap.size ≤ p ∧ w.heap.size ≤ g ∧ Below w.heap.size w w'
def NewRt (n : Nat) (w : World) (e : Ending) (w' : World) : Prop := ∃ g c, e = .returned (.agg #[.slice (some ⟨g, 0, none⟩) n c]) ∧ Rt w' g (zeros n) (.slice (some ⟨g, 0, none⟩) n c) ∧ w.heap.size ≤ g ∧ Below w.heap.size w w'
theorem new_tb {w w1 : World} {n : Nat} (h256 : n ≤ 256) (hown : w1.ownsRow w.heap.size 69 5 (.slice (some ⟨w.heap.size, 0, none⟩) n n) n (cs (zeros n))) (hgrow : w.grownBy w1 none) :
    NewTb n w (.returned (.pointer (some ⟨w1.heap.size, 0, none⟩))) (w1.alloc (.cells #[.slice (some ⟨w.heap.size, 0, none⟩) n n] 86)) := by
  have hr := made_row hown
  have hb1 : Below w.heap.size w w1 := (Below.refl _ _).grown hgrow (Nat.le_refl _) (fun k hk => by cases hk)
  refine ⟨w1.heap.size, w.heap.size, rfl, ⟨by rw [zeros_len]; exact h256, hr.alloc _, n, by rw [zeros_len]; exact Nat.le_refl _, by unfold maxLen; omega, ?_⟩, hb1.size, Nat.le_refl _, hb1.alloc hb1.size _⟩
  rw [zeros_len]
  exact Whole.new _ _ _
theorem new_any (k : Int) (w : World) : Calls Try.prog 35 #[.int .i64 k] w (NewTb (min (max k 0) 256).toNat w) := by
  obtain ⟨i0, hi, hz0, hz1, hz2⟩ := info_parts infoPg
  by_cases h0 : k < 0
  · rw [show (min (max k 0) 256).toNat = 0 by omega]
    go_enter Try.func35, Try.ntmps35
    go_wp2_with (at_make; refine wpList_make_full _ rfl _ _ 28 rfl w.heap.size 69 i0 _ 5 Try.underlying28 hi hz0 hz1 _ _ _ _ 0 rfl rfl (by omega) (by omega) (by rw [hz2]; omega) (by simp [maxLen]) (Nat.le_refl _) ?_; intro w1 hown1 hgrow1)
    rw [made_zeros] at hown1
    go_ret
    exact new_tb (by omega) hown1 hgrow1
  · by_cases h1 : 256 < k
    · rw [show (min (max k 0) 256).toNat = 256 by omega]
      go_enter Try.func35, Try.ntmps35
      go_wp2_with (at_make; refine wpList_make_full _ rfl _ _ 28 rfl w.heap.size 69 i0 _ 5 Try.underlying28 hi hz0 hz1 _ _ _ _ 256 rfl rfl (by omega) (by omega) (by rw [hz2]; omega) (by simp [maxLen]) (Nat.le_refl _) ?_; intro w1 hown1 hgrow1)
      rw [made_zeros] at hown1
      go_ret
      exact new_tb (by omega) hown1 hgrow1
    · obtain ⟨n, rfl⟩ := Int.eq_ofNat_of_zero_le (show 0 ≤ k by omega)
      rw [show (min (max (n : Int) 0) 256).toNat = n by omega]
      have hn : (n : Int) ≤ 256 := by omega
      have hn0 : (0 : Int) ≤ n := by omega
      go_enter Try.func35, Try.ntmps35
      go_wp2_with (at_make; refine wpList_make_full _ rfl _ _ 28 rfl w.heap.size 69 i0 _ 5 Try.underlying28 hi hz0 hz1 _ _ _ _ n rfl rfl (by omega) (by omega) (by rw [hz2]; omega) (by unfold maxLen; omega) (Nat.le_refl _) ?_; intro w1 hown1 hgrow1)
      rw [made_zeros] at hown1
      go_ret
      exact new_tb (by omega) hown1 hgrow1
theorem new_rt {w w1 : World} {n : Nat} {o : Obj} (h256 : n ≤ 256) (hown : w1.ownsRow (w.heap.size + 1) 69 5 (.slice (some ⟨w.heap.size + 1, 0, none⟩) n n) n (cs (zeros n))) (hgrow : (w.alloc o).grownBy w1 none) {u : Value} :
    NewRt n w (.returned (.agg #[.slice (some ⟨w.heap.size + 1, 0, none⟩) n n])) (w1.setCell ⟨w.heap.size, 0, none⟩ u) := by
  have hr := made_row hown
  have hb1 : Below w.heap.size w w1 := ((below_new w o).grown hgrow (by simp) (fun k hk => by cases hk))
  exact ⟨w.heap.size + 1, n, rfl, ⟨by rw [zeros_len]; exact h256, hr.far (by simp) _, n, by rw [zeros_len]; exact Nat.le_refl _, by unfold maxLen; omega, by rw [zeros_len]⟩, by omega, hb1.setCell (Nat.le_refl _) _⟩
set_option maxRecDepth 4000 in
theorem refNew_any (k : Int) (w : World) : Calls Try.prog 36 #[.int .i64 k] w (NewRt (min (max k 0) 256).toNat w) := by
  obtain ⟨i0, hi, hz0, hz1, hz2⟩ := info_parts infoPg
  by_cases h0 : k < 0
  · rw [show (min (max k 0) 256).toNat = 0 by omega]
    go_enter Try.func36, Try.ntmps36
    go_wp2_with (at_make; refine wpList_make_full _ rfl _ _ 28 rfl (w.heap.size + 1) 69 i0 _ 5 Try.underlying28 hi hz0 hz1 _ _ _ _ 0 rfl rfl (by omega) (by omega) (by rw [hz2]; omega) (by unfold maxLen; omega) (by simp) ?_; intro w1 hown1 hgrow1; obtain ⟨hc, hf⟩ := bcell ((Below.refl _ _).grown hgrow1 (Nat.le_refl _) (fun k hk => by cases hk)); have hz := hgrow1.size; simp at hz)
    all_goals (rw [made_zeros] at hown1; exact bodyPost_ret (v := .agg #[.slice (some ⟨w.heap.size + 1, 0, none⟩) 0 0]) (by simp [results, Try.results36, go_sem, hc, hz]) rfl (new_rt (by omega) (by simpa using hown1) hgrow1))
  · by_cases h1 : 256 < k
    · rw [show (min (max k 0) 256).toNat = 256 by omega]
      go_enter Try.func36, Try.ntmps36
      go_wp2_with (at_make; refine wpList_make_full _ rfl _ _ 28 rfl (w.heap.size + 1) 69 i0 _ 5 Try.underlying28 hi hz0 hz1 _ _ _ _ 256 rfl rfl (by omega) (by omega) (by rw [hz2]; omega) (by unfold maxLen; omega) (by simp) ?_; intro w1 hown1 hgrow1; obtain ⟨hc, hf⟩ := bcell ((Below.refl _ _).grown hgrow1 (Nat.le_refl _) (fun k hk => by cases hk)); have hz := hgrow1.size; simp at hz)
      all_goals (rw [made_zeros] at hown1; exact bodyPost_ret (v := .agg #[.slice (some ⟨w.heap.size + 1, 0, none⟩) 256 256]) (by simp [results, Try.results36, go_sem, hc, hz]) rfl (new_rt (by omega) (by simpa using hown1) hgrow1))
    · obtain ⟨n, rfl⟩ := Int.eq_ofNat_of_zero_le (show 0 ≤ k by omega)
      rw [show (min (max (n : Int) 0) 256).toNat = n by omega]
      have hn : (n : Int) ≤ 256 := by omega
      have hn0 : (0 : Int) ≤ n := by omega
      go_enter Try.func36, Try.ntmps36
      go_wp2_with (at_make; refine wpList_make_full _ rfl _ _ 28 rfl (w.heap.size + 1) 69 i0 _ 5 Try.underlying28 hi hz0 hz1 _ _ _ _ n rfl rfl (by omega) (by omega) (by rw [hz2]; omega) (by unfold maxLen; omega) (by simp) ?_; intro w1 hown1 hgrow1; obtain ⟨hc, hf⟩ := bcell ((Below.refl _ _).grown hgrow1 (Nat.le_refl _) (fun k hk => by cases hk)); have hz := hgrow1.size; simp at hz)
      all_goals (rw [made_zeros] at hown1; exact bodyPost_ret (v := .agg #[.slice (some ⟨w.heap.size + 1, 0, none⟩) n n]) (by simp [results, Try.results36, go_sem, hc, hz]) rfl (new_rt (by omega) (by simpa using hown1) hgrow1))
end Go.Proofs.Ytkmjacpcpchjoaa.PF
