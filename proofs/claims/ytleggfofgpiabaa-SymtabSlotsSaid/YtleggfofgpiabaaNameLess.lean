/-
  Package name: order; the closed cases.
-/
import Derived.Test.YtleggfofgpiabaaNameTop
set_option linter.unusedSimpArgs false
set_option linter.unusedVariables false
namespace Go.Proofs.Ytleggfofgpiabaa.NF
open Go.RowKit NM

theorem bs_toList (l : List UInt8) : (bs l).toList = l := by rw [Lib.toList_data]; rfl
theorem lessS (a b : ByteArray) (ha : a.size ≤ 9223372036854775807) (hb : b.size ≤ 9223372036854775807) (t : Bool) (ht : lessB a.data.toList b.data.toList = t) :
    Says Try.prog 17 #[.string a, .string b] (.bool t) := by
  intro w
  by_cases hn : chk a.data.toList = 0 ∧ chk b.data.toList = 0
  · have C1 := split_yes a ha hn.1
    have C2 := split_yes b hb hn.2
    rw [lessB_names _ _ hn.1 hn.2] at ht
    clear hn
    generalize pre a.data.toList = A at *
    generalize pre b.data.toList = B at *
    generalize ver (post a.data.toList) = V at *
    generalize ver (post b.data.toList) = U at *
    have eA := bs_toList A
    have eB := bs_toList B
    by_cases e : A = B
    · subst e
      rw [less_irr, Bool.false_or] at ht
      have E : Hid (decide ((V : Int) < (U : Int)) = t) := by show _ = _; rw [← ht]; simp
      clear ht
      by_cases hvu : (V : Int) < (U : Int)
      · have E2 : Hid (t = true) := by have := E.out; rw [decide_eq_true hvu] at this; exact this.symm
        go_enter Try.func17, Try.ntmps17
        go_wp2_with (first | (go_at_call 30; first | (with_reducible refine (C1.at _).mono ?_; rintro e w1 ⟨rfl, h1⟩) | (with_reducible refine (C2.at _).mono ?_; rintro e w2 ⟨rfl, h2⟩)))
        go_ret
        refine ⟨ret_bool (by rw [E2.out]), ?_⟩
        first | exact chain2 h1 h2
      · have E2 : Hid (t = false) := by have := E.out; rw [decide_eq_false hvu] at this; exact this.symm
        go_enter Try.func17, Try.ntmps17
        go_wp2_with (first | (go_at_call 30; first | (with_reducible refine (C1.at _).mono ?_; rintro e w1 ⟨rfl, h1⟩) | (with_reducible refine (C2.at _).mono ?_; rintro e w2 ⟨rfl, h2⟩)))
        go_ret
        refine ⟨ret_bool (by rw [E2.out]; simp; omega), ?_⟩
        first | exact chain2 h1 h2
    · have e' : (A == B) = false := by simpa using e
      rw [e', Bool.false_and, Bool.or_false] at ht
      have E := Lib.hid ht
      clear ht e
      go_enter Try.func17, Try.ntmps17
      go_wp2_with (first | (go_at_call 30; first | (with_reducible refine (C1.at _).mono ?_; rintro e w1 ⟨rfl, h1⟩) | (with_reducible refine (C2.at _).mono ?_; rintro e w2 ⟨rfl, h2⟩)))
      go_ret
      exact ⟨ret_bool E.out, chain2 h1 h2⟩
  · have E : Hid (Op.bytesLess a.data.toList b.data.toList = t) := by show _ = _; rw [← ht]; unfold lessB; rw [if_neg hn]
    have eA := Lib.toList_data a
    have eB := Lib.toList_data b
    clear ht
    have S1 : ∃ x v k, Says Try.prog 30 #[.string a] (.tuple #[.string x, .int .i64 v, .int .i64 k]) ∧ chk a.data.toList = k := by
      by_cases h : chk a.data.toList = 0
      · exact ⟨_, _, _, split_yes a ha h, h⟩
      · exact ⟨_, _, _, split_no a ha _ rfl h, rfl⟩
    have S2 : ∃ x v k, Says Try.prog 30 #[.string b] (.tuple #[.string x, .int .i64 v, .int .i64 k]) ∧ chk b.data.toList = k := by
      by_cases h : chk b.data.toList = 0
      · exact ⟨_, _, _, split_yes b hb h, h⟩
      · exact ⟨_, _, _, split_no b hb _ rfl h, rfl⟩
    obtain ⟨x1, v1, k1, C1, hk1⟩ := S1
    obtain ⟨x2, v2, k2, C2, hk2⟩ := S2
    rw [hk1, hk2] at hn
    clear hk1 hk2
    by_cases h0 : k1 = 0
    · subst h0
      have h2 : (k2 != 0) = true := by simpa using hn
      clear hn
      go_enter Try.func17, Try.ntmps17
      go_wp2_with (first | (go_at_call 30; first | (with_reducible refine (C1.at _).mono ?_; rintro e w1 ⟨rfl, h1⟩) | (with_reducible refine (C2.at _).mono ?_; rintro e w2 ⟨rfl, h2⟩)))
      go_ret
      refine ⟨ret_bool E.out, ?_⟩
      exact chain2 ‹_› ‹_›
    · have h2 : (k1 != 0) = true := by simpa using h0
      clear hn h0
      go_enter Try.func17, Try.ntmps17
      go_wp2_with (first | (go_at_call 30; first | (with_reducible refine (C1.at _).mono ?_; rintro e w1 ⟨rfl, h1⟩) | (with_reducible refine (C2.at _).mono ?_; rintro e w2 ⟨rfl, h2⟩)))
      go_ret
      refine ⟨ret_bool E.out, ?_⟩
      exact chain2 ‹_› ‹_›
end Go.Proofs.Ytleggfofgpiabaa.NF
