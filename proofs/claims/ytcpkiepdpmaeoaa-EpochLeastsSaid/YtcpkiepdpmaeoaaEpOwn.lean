/-
  The law's sameOwners. Nothing here is a statement of the seed.
-/
import Derived.Test.YtcpkiepdpmaeoaaEpRow
import Derived.Deep.QuietTactic
import Derived.BigQuiet
set_option linter.unusedSimpArgs false
set_option linter.unusedVariables false
namespace Go.Proofs.Ytcpkiepdpmaeoaa.EL
open Go.RowKit WM NR OM OR EM ER
set_option maxHeartbeats 4000000
set_option maxRecDepth 10000
theorem below_drewN' {B : Nat} {w u : World} (h : Below B w u) (n : Nat) : Below B w (u.drewN n) := ⟨h.os, h.tape, h.output, h.size, h.block⟩
theorem take_on' {l l' : List Int} {k : Nat} (h : l.take k = l'.take k) (h1 : k < l.length) (h2 : k < l'.length) (e : l.getD k 0 = l'.getD k 0) : l.take (k + 1) = l'.take (k + 1) := by
  rw [take_succ' (d := 0) l k h1, take_succ' (d := 0) l' k h2, h, e]
theorem sameOwners_any {w : World} {a : Option Addr} {n c : Nat} {l : List Int} {a2 : Option Addr} {n2 c2 : Nat} {l2 : List Int} (h1 : Reads (· < w.heap.size) w (.slice a n c) (oC l)) (h2 : Reads (· < w.heap.size) w (.slice a2 n2 c2) (oC l2)) :
    Calls Try.prog 23 #[.slice a n c, .slice a2 n2 c2] w fun e w' => e = .returned (.bool (decide (l = l2))) ∧ Below w.heap.size w w' := by
  obtain ⟨n1, m1, m2⟩ := reads_len h1
  obtain ⟨n3, m3, m4⟩ := reads_len h2
  rw [oC_len] at n1 n3
  unfold maxLen at m2 m4
  have hn : (n : Int) ≤ 9223372036854775807 := by omega
  have hn2 : (n2 : Int) ≤ 9223372036854775807 := by omega
  have HA := Lib.hid h1
  have HB := Lib.hid h2
  have q1' : (n : Int) ≤ c := by omega
  have q2' : (n2 : Int) ≤ c2 := by omega
  by_cases e : n = n2
  case neg =>
    have hne : (n : Int) ≠ n2 := by omega
    rw [decide_eq_false (show ¬ l = l2 from fun h => e (by rw [← n1, ← n3, h]))]
    clear h1 h2 n1 n3 e m1 m2 m3 m4
    go_enter Try.func23, Try.ntmps23
    go_wp2_with fail
    go_ret
    exact ⟨rfl, Below.refl _ _⟩
  subst e
  have HL := Lib.hid (And.intro n1 n3)
  clear h1 h2 n1 n3 m1 m2 m3 m4
  go_enter Try.func23, Try.ntmps23
  go_wp2_with fail
  go_loopw [5] (fun i wr => ∃ k : Nat, k ≤ n ∧ i = .int .i64 (k : Int) ∧ Hid (l.take k = l2.take k) ∧ Below w.heap.size w wr) (fun i _ => n - (intOf i).toNat)
  case atStart => exact ⟨0, by omega, rfl, Lib.hid rfl, Below.refl _ _⟩
  case round =>
    obtain ⟨k, hk, rfl, hp, hbl⟩ := hrel
    by_cases hlt : k < n
    · have hlt' : (k : Int) < n := by omega
      obtain ⟨g, off, rfl, q1, c1⟩ := reads_at HA.out hbl hlt
      obtain ⟨g2, off2, rfl, q2, c2⟩ := reads_at HB.out hbl hlt
      have k1 : k < l.length := by rw [HL.out.1]; exact hlt
      have k2 : k < l2.length := by rw [HL.out.2]; exact hlt
      rw [oC_at k1] at c1
      rw [oC_at k2] at c2
      by_cases e : l.getD k 0 = l2.getD k 0
      · have hp2 := Lib.hid (take_on' hp.out k1 k2 e)
        rw [← e] at c2
        clear e hp k1 k2
        generalize l.getD k 0 = x at *
        go_wp2_with fail
        go_quiet (fail)
        go_wp2_with fail
        go_roundw
        case rel => exact ⟨k + 1, by omega, by go_num, hp2, below_drewN' hbl _⟩
        case measure => simp [intOf]; omega
      · have hne := Lib.hid (show ¬ l = l2 from fun h => e (by rw [h]))
        have exy : (l.getD k 0 != l2.getD k 0) = true := by simpa using e
        clear hp k1 k2 e
        generalize l.getD k 0 = x at *
        generalize l2.getD k 0 = y at *
        go_wp2_with fail
        go_quiet (fail)
        go_wp2_with fail
        go_ret
        exact ⟨by rw [decide_eq_false hne.out]; rfl, below_drewN' hbl _⟩
    · obtain rfl : k = n := by omega
      have hp2 := Lib.hid (show l = l2 by have := hp.out; rw [List.take_of_length_le (by rw [HL.out.1]; omega), List.take_of_length_le (by rw [HL.out.2]; omega)] at this; exact this)
      clear hp
      go_wp2_with fail
      go_ret
      exact ⟨by rw [decide_eq_true hp2.out]; rfl, hbl⟩
end Go.Proofs.Ytcpkiepdpmaeoaa.EL
