/-
  Modules held against each other, and copied, as the program does. Nothing here is a statement of the seed.
-/
import Derived.Test.YtdlinlkdielmkaaObjSameM
set_option linter.unusedSimpArgs false
set_option linter.unusedVariables false
namespace Go.Proofs.Ytdlinlkdielmkaa.OR
open Go.RowKit WM NR OM
set_option maxHeartbeats 4000000
set_option maxRecDepth 10000
theorem equalTexts_any {w : World} {a : Option Addr} {n c : Nat} {l : List (List UInt8)} {a2 : Option Addr} {n2 c2 : Nat} {l2 : List (List UInt8)} (h1 : Reads (· < w.heap.size) w (.slice a n c) (strs l)) (h2 : Reads (· < w.heap.size) w (.slice a2 n2 c2) (strs l2)) :
    Calls Try.prog 51 #[.slice a n c, .slice a2 n2 c2] w fun e w' => e = .returned (.bool (decide (l = l2))) ∧ Below w.heap.size w w' := by
  obtain ⟨n1, m1, m2⟩ := reads_len h1
  obtain ⟨n3, m3, m4⟩ := reads_len h2
  rw [strs_len] at n1 n3
  unfold maxLen at m2 m4
  have hn : (n : Int) ≤ 9223372036854775807 := by omega
  have hn2 : (n2 : Int) ≤ 9223372036854775807 := by omega
  have HA := Lib.hid h1
  have HB := Lib.hid h2
  by_cases e : n = n2
  case neg =>
    have hne : (n : Int) ≠ n2 := by omega
    rw [decide_eq_false (show ¬ l = l2 from fun h => e (by rw [← n1, ← n3, h]))]
    clear h1 h2 n1 n3 e m1 m2 m3 m4
    go_enter Try.func51, Try.ntmps51
    go_wp2_with fail
    go_ret
    exact ⟨rfl, Below.refl _ _⟩
  subst e
  have HL := Lib.hid (And.intro n1 n3)
  clear h1 h2 n1 n3 m1 m2 m3 m4
  go_enter Try.func51, Try.ntmps51
  go_wp2_with fail
  go_loopw [13] (fun i wr => ∃ k : Nat, k ≤ n ∧ i = .int .i64 (k : Int) ∧ Hid (l.take k = l2.take k) ∧ Below w.heap.size w wr) (fun i _ => n - (intOf i).toNat)
  case atStart => exact ⟨0, by omega, rfl, Lib.hid rfl, Below.refl _ _⟩
  case round =>
    obtain ⟨k, hk, rfl, hp, hbl⟩ := hrel
    by_cases hlt : k < n
    · have hlt' : (k : Int) < n := by omega
      obtain ⟨g, off, rfl, q1, c1⟩ := reads_at HA.out hbl hlt
      obtain ⟨g2, off2, rfl, q2, c2⟩ := reads_at HB.out hbl hlt
      have k1 : k < l.length := by rw [HL.out.1]; exact hlt
      have k2 : k < l2.length := by rw [HL.out.2]; exact hlt
      rw [strs_at k1] at c1
      rw [strs_at k2] at c2
      by_cases e : l.getD k [] = l2.getD k []
      · have hp2 := Lib.hid (take_on hp.out k1 k2 e)
        rw [← e] at c2
        clear e hp k1 k2
        generalize bs (l.getD k []) = x at *
        go_wp2_with fail
        go_quiet (fail)
        go_wp2_with fail
        go_roundw
        case rel => exact ⟨k + 1, by omega, by go_num, hp2, below_drewN hbl _⟩
        case measure => simp [intOf]; omega
      · have hne := Lib.hid (show ¬ l = l2 from fun h => e (by rw [h]))
        have exy : ((bs (l.getD k [])).toList == (bs (l2.getD k [])).toList) = false := by rw [bs_toList, bs_toList]; simpa using e
        clear hp k1 k2 e
        generalize bs (l.getD k []) = x at *
        generalize bs (l2.getD k []) = y at *
        go_wp2_with fail
        go_quiet (fail)
        go_wp2_with fail
        go_ret
        exact ⟨by rw [decide_eq_false hne.out]; rfl, below_drewN hbl _⟩
    · obtain rfl : k = n := by omega
      have hp2 := Lib.hid (show l = l2 by have := hp.out; rw [List.take_of_length_le (by rw [HL.out.1]; omega), List.take_of_length_le (by rw [HL.out.2]; omega)] at this; exact this)
      clear hp
      go_wp2_with fail
      go_ret
      exact ⟨by rw [decide_eq_true hp2.out]; rfl, hbl⟩
theorem equalWords_any {w : World} {a : Option Addr} {n c : Nat} {l : List Nat} {a2 : Option Addr} {n2 c2 : Nat} {l2 : List Nat} (h1 : Reads (· < w.heap.size) w (.slice a n c) (u32s l)) (h2 : Reads (· < w.heap.size) w (.slice a2 n2 c2) (u32s l2)) :
    Calls Try.prog 52 #[.slice a n c, .slice a2 n2 c2] w fun e w' => e = .returned (.bool (decide (l = l2))) ∧ Below w.heap.size w w' := by
  obtain ⟨n1, m1, m2⟩ := reads_len h1
  obtain ⟨n3, m3, m4⟩ := reads_len h2
  rw [u32s_len] at n1 n3
  unfold maxLen at m2 m4
  have hn : (n : Int) ≤ 9223372036854775807 := by omega
  have hn2 : (n2 : Int) ≤ 9223372036854775807 := by omega
  have HA := Lib.hid h1
  have HB := Lib.hid h2
  by_cases e : n = n2
  case neg =>
    have hne : (n : Int) ≠ n2 := by omega
    rw [decide_eq_false (show ¬ l = l2 from fun h => e (by rw [← n1, ← n3, h]))]
    clear h1 h2 n1 n3 e m1 m2 m3 m4
    go_enter Try.func52, Try.ntmps52
    go_wp2_with fail
    go_ret
    exact ⟨rfl, Below.refl _ _⟩
  subst e
  have HL := Lib.hid (And.intro n1 n3)
  clear h1 h2 n1 n3 m1 m2 m3 m4
  go_enter Try.func52, Try.ntmps52
  go_wp2_with fail
  go_loopw [13] (fun i wr => ∃ k : Nat, k ≤ n ∧ i = .int .i64 (k : Int) ∧ Hid (l.take k = l2.take k) ∧ Below w.heap.size w wr) (fun i _ => n - (intOf i).toNat)
  case atStart => exact ⟨0, by omega, rfl, Lib.hid rfl, Below.refl _ _⟩
  case round =>
    obtain ⟨k, hk, rfl, hp, hbl⟩ := hrel
    by_cases hlt : k < n
    · have hlt' : (k : Int) < n := by omega
      obtain ⟨g, off, rfl, q1, c1⟩ := reads_at HA.out hbl hlt
      obtain ⟨g2, off2, rfl, q2, c2⟩ := reads_at HB.out hbl hlt
      have k1 : k < l.length := by rw [HL.out.1]; exact hlt
      have k2 : k < l2.length := by rw [HL.out.2]; exact hlt
      rw [words_at k1] at c1
      rw [words_at k2] at c2
      by_cases e : l.getD k 0 = l2.getD k 0
      · have hp2 := Lib.hid (take_on hp.out k1 k2 e)
        rw [← e] at c2
        clear e hp k1 k2
        generalize Nat.cast (R := Int) (l.getD k 0) = x at *
        go_wp2_with fail
        go_quiet (fail)
        go_wp2_with fail
        go_roundw
        case rel => exact ⟨k + 1, by omega, by go_num, hp2, below_drewN hbl _⟩
        case measure => simp [intOf]; omega
      · have hne := Lib.hid (show ¬ l = l2 from fun h => e (by rw [h]))
        have exy : (((l.getD k 0 : Nat) : Int) == ((l2.getD k 0 : Nat) : Int)) = false := by exact beq_eq_false_iff_ne.2 (by omega)
        clear hp k1 k2 e
        generalize Nat.cast (R := Int) (l.getD k 0) = x at *
        generalize Nat.cast (R := Int) (l2.getD k 0) = y at *
        go_wp2_with fail
        go_quiet (fail)
        go_wp2_with fail
        go_ret
        exact ⟨by rw [decide_eq_false hne.out]; rfl, below_drewN hbl _⟩
    · obtain rfl : k = n := by omega
      have hp2 := Lib.hid (show l = l2 by have := hp.out; rw [List.take_of_length_le (by rw [HL.out.1]; omega), List.take_of_length_le (by rw [HL.out.2]; omega)] at this; exact this)
      clear hp
      go_wp2_with fail
      go_ret
      exact ⟨by rw [decide_eq_true hp2.out]; rfl, hbl⟩
theorem equalRels_any {w : World} {a : Option Addr} {n c : Nat} {l : List Rl} {a2 : Option Addr} {n2 c2 : Nat} {l2 : List Rl} (h1 : ReadsR (· < w.heap.size) w (.slice a n c) l) (h2 : ReadsR (· < w.heap.size) w (.slice a2 n2 c2) l2) :
    Calls Try.prog 53 #[.slice a n c, .slice a2 n2 c2] w fun e w' => e = .returned (.bool (decide (l = l2))) ∧ Below w.heap.size w w' := by
  obtain ⟨n1, m1, m2⟩ := h1.len
  obtain ⟨n3, m3, m4⟩ := h2.len
  unfold maxLen at m2 m4
  have hn : (n : Int) ≤ 9223372036854775807 := by omega
  have hn2 : (n2 : Int) ≤ 9223372036854775807 := by omega
  have HA := Lib.hid h1
  have HB := Lib.hid h2
  by_cases e : n = n2
  case neg =>
    have hne : (n : Int) ≠ n2 := by omega
    rw [decide_eq_false (show ¬ l = l2 from fun h => e (by rw [← n1, ← n3, h]))]
    clear h1 h2 n1 n3 e m1 m2 m3 m4
    go_enter Try.func53, Try.ntmps53
    go_wp2_with fail
    go_ret
    exact ⟨rfl, Below.refl _ _⟩
  subst e
  have HL := Lib.hid (And.intro n1 n3)
  have m1' : (n : Int) ≤ c := by omega
  have m3' : (n : Int) ≤ c2 := by omega
  clear h1 h2 n1 n3 m1 m2 m3 m4
  go_enter Try.func53, Try.ntmps53
  go_wp2_with fail
  go_loopw [13] (fun i wr => ∃ k : Nat, k ≤ n ∧ i = .int .i64 (k : Int) ∧ Hid (l.take k = l2.take k) ∧ Below w.heap.size w wr) (fun i _ => n - (intOf i).toNat)
  case atStart => exact ⟨0, by omega, rfl, Lib.hid rfl, Below.refl _ _⟩
  case round =>
    obtain ⟨j, hj, rfl, hp, hbl⟩ := hrel
    by_cases hlt : j < n
    · have hlt' : (j : Int) < n := by omega
      obtain ⟨g, off, rfl, _, c0, c1, c2⟩ := HA.out.at hbl hlt
      obtain ⟨g2, off2, rfl, _, d0, d1, d2⟩ := HB.out.at hbl hlt
      have k1 : j < l.length := by rw [HL.out.1]; exact hlt
      have k2 : j < l2.length := by rw [HL.out.2]; exact hlt
      by_cases e : l.getD j ⟨0, 0, 0⟩ = l2.getD j ⟨0, 0, 0⟩
      · have hp2 := Lib.hid (take_on hp.out k1 k2 e)
        rw [← e] at d0 d1 d2
        clear e hp k1 k2
        generalize l.getD j ⟨0, 0, 0⟩ = r at *
        generalize (r.kind : Int) = a0 at *
        generalize (r.at_ : Int) = a1 at *
        generalize (r.wh : Int) = a2 at *
        go_wp2_with fail
        go_quiet (fail)
        go_wp2_with fail
        go_roundw
        case rel => exact ⟨j + 1, by omega, by go_num, hp2, below_drewN hbl _⟩
        case measure => simp [intOf]; omega
      · have hne := Lib.hid (show ¬ l = l2 from fun h => e (by rw [h]))
        have h3 : ¬ ((l.getD j ⟨0, 0, 0⟩).kind = (l2.getD j ⟨0, 0, 0⟩).kind ∧ (l.getD j ⟨0, 0, 0⟩).at_ = (l2.getD j ⟨0, 0, 0⟩).at_ ∧ (l.getD j ⟨0, 0, 0⟩).wh = (l2.getD j ⟨0, 0, 0⟩).wh) := fun h => e (rl_eq h.1 h.2.1 h.2.2)
        clear hp k1 k2 e
        generalize l.getD j ⟨0, 0, 0⟩ = r at *
        generalize l2.getD j ⟨0, 0, 0⟩ = s at *
        have h4 : r.kind ≠ s.kind ∨ (r.kind = s.kind ∧ r.at_ ≠ s.at_) ∨ (r.kind = s.kind ∧ r.at_ = s.at_ ∧ r.wh ≠ s.wh) := by omega
        clear h3
        rcases h4 with h4 | ⟨e1, h4⟩ | ⟨e1, e2, h4⟩
        · have f0 : (((r.kind : Nat) : Int) == ((s.kind : Nat) : Int)) = false := beq_eq_false_iff_ne.2 (by omega)
          clear h4
          generalize (r.kind : Int) = a0 at *
          generalize (r.at_ : Int) = a1 at *
          generalize (r.wh : Int) = a2 at *
          try generalize (s.kind : Int) = b0 at *
          try generalize (s.at_ : Int) = b1 at *
          try generalize (s.wh : Int) = b2 at *
          go_wp2_with fail
          go_quiet (fail)
          go_wp2_with fail
          go_ret
          exact ⟨by rw [decide_eq_false hne.out]; rfl, below_drewN hbl _⟩
        · rw [← e1] at d0
          have f0 : (((r.at_ : Nat) : Int) == ((s.at_ : Nat) : Int)) = false := beq_eq_false_iff_ne.2 (by omega)
          clear h4 e1
          generalize (r.kind : Int) = a0 at *
          generalize (r.at_ : Int) = a1 at *
          generalize (r.wh : Int) = a2 at *
          try generalize (s.kind : Int) = b0 at *
          try generalize (s.at_ : Int) = b1 at *
          try generalize (s.wh : Int) = b2 at *
          go_wp2_with fail
          go_quiet (fail)
          go_wp2_with fail
          go_ret
          exact ⟨by rw [decide_eq_false hne.out]; rfl, below_drewN hbl _⟩
        · rw [← e1] at d0
          rw [← e2] at d1
          have f0 : (((r.wh : Nat) : Int) == ((s.wh : Nat) : Int)) = false := beq_eq_false_iff_ne.2 (by omega)
          clear h4 e1 e2
          generalize (r.kind : Int) = a0 at *
          generalize (r.at_ : Int) = a1 at *
          generalize (r.wh : Int) = a2 at *
          try generalize (s.kind : Int) = b0 at *
          try generalize (s.at_ : Int) = b1 at *
          try generalize (s.wh : Int) = b2 at *
          go_wp2_with fail
          go_quiet (fail)
          go_wp2_with fail
          go_ret
          exact ⟨by rw [decide_eq_false hne.out]; rfl, below_drewN hbl _⟩
    · obtain rfl : j = n := by omega
      have hp2 := Lib.hid (show l = l2 by have := hp.out; rw [List.take_of_length_le (by rw [HL.out.1]; omega), List.take_of_length_le (by rw [HL.out.2]; omega)] at this; exact this)
      clear hp
      go_wp2_with fail
      go_ret
      exact ⟨by rw [decide_eq_true hp2.out]; rfl, hbl⟩
end Go.Proofs.Ytdlinlkdielmkaa.OR
