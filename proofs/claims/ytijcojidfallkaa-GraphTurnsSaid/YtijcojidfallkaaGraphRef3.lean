/-
  The reference of layer 14: whether texts are the same; all of a list; what is ready. Nothing here is a statement of the seed.
-/
import Derived.Test.YtijcojidfallkaaGraphRef2
set_option linter.unusedSimpArgs false
set_option linter.unusedVariables false
namespace Go.Proofs.Ytijcojidfallkaa.GF
open Go.RowKit WM NR OM OR GM GR
set_option maxHeartbeats 4000000
set_option maxRecDepth 10000
theorem take_eq_succ {l m : List (List UInt8)} {k : Nat} (h1 : k < l.length) (h2 : k < m.length) : l.take (k + 1) = m.take (k + 1) ↔ l.take k = m.take k ∧ l.getD k [] = m.getD k [] := by
  rw [take_succ_getD l [] k h1, take_succ_getD m [] k h2]
  constructor
  · intro h
    have h3 := List.append_inj h (by rw [List.length_take, List.length_take]; omega)
    exact ⟨h3.1, by simpa using h3.2⟩
  · rintro ⟨h3, h4⟩
    rw [h3, h4]
theorem refSame_any {w : World} {a b : Option Addr} {n c n2 c2 : Nat} {l m : List (List UInt8)} (h : Reads (· < w.heap.size) w (.slice a n c) (strs l)) (h2 : Reads (· < w.heap.size) w (.slice b n2 c2) (strs m)) :
    Calls Try.prog 22 #[.slice a n c, .slice b n2 c2] w fun e w' => e = .returned (.bool (decide (l = m))) ∧ Below w.heap.size w w' := by
  obtain ⟨n1, m1, m2⟩ := reads_len h
  obtain ⟨n3, m3, m4⟩ := reads_len h2
  rw [strs_len] at n1 n3
  unfold maxLen at m2 m4
  have hn : (n : Int) ≤ 9223372036854775807 := by omega
  have hn2 : (n2 : Int) ≤ 9223372036854775807 := by omega
  have q1 : (n : Int) ≤ c := by omega
  have q2 : (n2 : Int) ≤ c2 := by omega
  have HE := Lib.hid h
  have HE2 := Lib.hid h2
  have HL := Lib.hid n1
  have HL2 := Lib.hid n3
  obtain ⟨R, hR⟩ : ∃ R, R = decide (l = m) := ⟨_, rfl⟩
  rw [← hR]
  have HR := Lib.hid hR
  clear hR h h2 n1 n3 m2 m4
  by_cases hne : n = n2
  case neg =>
    have hne' : ((n : Int) == (n2 : Int)) = false := by simp; omega
    have hh := Lib.hid (show R = false by rw [HR.out]; exact decide_eq_false (fun e => hne (by rw [← HL.out, ← HL2.out, e])))
    clear HR HE HE2 m1 m3
    go_enter Try.func22, Try.ntmps22
    go_wp2_with fail
    go_ret
    exact ⟨ret_bool hh.out.symm, Below.refl _ _⟩
  subst hne
  go_enter Try.func22, Try.ntmps22
  go_wp2_with fail
  go_loopw [5] (fun i wr => ∃ k : Nat, k ≤ n ∧ i = .int .i64 (k : Int) ∧ Hid (l.take k = m.take k) ∧ Below w.heap.size w wr) (fun i _ => n - (intOf i).toNat)
  case atStart => exact ⟨0, by omega, rfl, Lib.hid (by simp), Below.refl _ _⟩
  case round =>
    obtain ⟨k, hk, rfl, hp, hbl⟩ := hrel
    by_cases hlt : k < n
    · have hlt' : (k : Int) < n := by omega
      have k0 : (0 : Int) ≤ k := by omega
      have kl : k < l.length := by rw [HL.out]; exact hlt
      have km : k < m.length := by rw [HL2.out]; exact hlt
      obtain ⟨g, off, rfl, _, e1⟩ := reads_at HE.out hbl hlt
      obtain ⟨g2, off2, rfl, _, e2⟩ := reads_at HE2.out hbl hlt
      rw [strs_at kl] at e1
      rw [strs_at km] at e2
      have hbl2 := Lib.hid (fun q => (show Below w.heap.size w (wr.drewN q) from ⟨hbl.os, hbl.tape, hbl.output, hbl.size, hbl.block⟩))
      have hT := take_eq_succ kl km
      by_cases e : l.getD k [] = m.getD k []
      · have hp2 := Lib.hid (hT.2 ⟨hp.out, e⟩)
        rw [e] at e1
        have exx : ((bs (m.getD k [])).toList == (bs (m.getD k [])).toList) = true := by simp
        clear hp e HR HE HE2 kl km hT
        generalize bs (m.getD k []) = x at *
        go_upto_region 6 with fail
        go_quiet (fail)
        go_wp2_with fail
        go_roundw
        case rel => exact ⟨k + 1, by omega, by go_num, hp2, hbl2.out _⟩
        case measure => simp [intOf]; omega
      · have hh := Lib.hid (show R = false by
          rw [HR.out]
          refine decide_eq_false fun h => e ?_
          rw [h])
        have exy : ((bs (l.getD k [])).toList == (bs (m.getD k [])).toList) = false := by rw [bs_toList, bs_toList]; simpa using e
        clear hp e HR HE HE2 kl km hT
        generalize bs (l.getD k []) = y at *
        generalize bs (m.getD k []) = x at *
        go_upto_region 6 with fail
        go_quiet (fail)
        go_wp2_with fail
        go_ret
        exact ⟨ret_bool hh.out.symm, hbl2.out _⟩
    · obtain rfl : k = n := by omega
      have hh := Lib.hid (show R = true by
        rw [HR.out]
        have := hp.out
        rw [List.take_of_length_le (by rw [HL.out]; omega), List.take_of_length_le (by rw [HL2.out]; omega)] at this
        exact decide_eq_true this)
      clear hp HR HE HE2
      go_wp2_with fail
      go_ret
      exact ⟨ret_bool hh.out.symm, hbl⟩
end Go.Proofs.Ytijcojidfallkaa.GF
