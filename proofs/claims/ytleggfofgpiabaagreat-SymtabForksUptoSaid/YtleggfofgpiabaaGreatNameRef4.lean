/-
  The reference for layer 2: stems and versions, order.
-/
import Derived.Test.YtleggfofgpiabaaGreatNameRef3
set_option linter.unusedSimpArgs false
set_option linter.unusedVariables false
namespace Go.Proofs.YtleggfofgpiabaaGreat.NF
open Go.RowKit NM

theorem refSplit_yes (s : ByteArray) (hs : s.size ≤ 2097152) (h : chk s.data.toList = 0) :
    Says Tryz.prog 87 #[.string s] (.tuple #[.string (bs (pre s.data.toList)), .int .i64 (ver (post s.data.toList) : Nat), .int .i64 0]) := by
  intro w
  have C1 := refCheckS s hs 0 h
  have p1 := post_len s.data.toList
  rw [size_list] at p1
  cases ha : hasAt s.data.toList with
  | true =>
    have C2 := refPartsS_yes s (by omega) ha
    have C3 := refVersionS (post s.data.toList) (by omega)
    clear h ha p1
    generalize pre s.data.toList = A at *
    generalize post s.data.toList = B at *
    generalize ver B = V at *
    go_enter Tryz.func87, Tryz.ntmps87
    go_wp2_with (first | (go_at_call 42; refine (C1.at _).mono ?_; rintro e w1 ⟨rfl, h1⟩) | (go_at_call 56; refine (C2.at _).mono ?_; rintro e w2 ⟨rfl, h2⟩) | (go_at_call 58; refine (C3.at _).mono ?_; rintro e w3 ⟨rfl, h3⟩))
    exact bodyPost_ret (v := .tuple #[.string (bs A), .int .i64 (V : Nat), .int .i64 0]) (by simp [results, Tryz.results87, go_sem]) rfl ⟨rfl, chain3 h1 h2 h3⟩
  | false =>
    have C2 := refPartsS_no s (by omega) ha
    have C3 := refVersionS [] (by simp)
    have E : Hid (ver (post s.data.toList) = ver []) := by show _ = _; rw [(pre_none _ ha).2]
    clear h ha p1
    generalize pre s.data.toList = A at *
    generalize ver [] = V at *
    go_enter Tryz.func87, Tryz.ntmps87
    go_wp2_with (first | (go_at_call 42; refine (C1.at _).mono ?_; rintro e w1 ⟨rfl, h1⟩) | (go_at_call 56; refine (C2.at _).mono ?_; rintro e w2 ⟨rfl, h2⟩) | (go_at_call 58; refine (C3.at _).mono ?_; rintro e w3 ⟨rfl, h3⟩))
    exact bodyPost_ret (v := .tuple #[.string (bs A), .int .i64 (V : Nat), .int .i64 0]) (by simp [results, Tryz.results87, go_sem]) rfl ⟨by rw [E.out], chain3 h1 h2 h3⟩
theorem refSplit_no (s : ByteArray) (hs : s.size ≤ 2097152) (k : Int) (hk : chk s.data.toList = k) (h : k ≠ 0) :
    Says Tryz.prog 87 #[.string s] (.tuple #[.string ⟨#[]⟩, .int .i64 0, .int .i64 k]) := by
  intro w
  have C1 := refCheckS s hs k hk
  have h' : (k != 0) = true := by simpa using h
  clear hk h
  go_enter Tryz.func87, Tryz.ntmps87
  go_wp2_with (first | (go_at_call 42; refine (C1.at _).mono ?_; rintro e w1 ⟨rfl, h1⟩))
  exact bodyPost_ret (v := .tuple #[.string ⟨#[]⟩, .int .i64 0, .int .i64 k]) (by simp [results, Tryz.results87, go_sem]) rfl ⟨rfl, h1⟩
theorem refLessS (a b : ByteArray) (ha : a.size ≤ 2097152) (hb : b.size ≤ 2097152) (t : Bool) (ht : lessB a.data.toList b.data.toList = t) :
    Says Tryz.prog 60 #[.string a, .string b] (.bool t) := by
  intro w
  by_cases hn : chk a.data.toList = 0 ∧ chk b.data.toList = 0
  · have C1 := refSplit_yes a ha hn.1
    have C2 := refSplit_yes b hb hn.2
    rw [lessB_names _ _ hn.1 hn.2] at ht
    clear hn
    generalize pre a.data.toList = A at *
    generalize pre b.data.toList = B at *
    generalize ver (post a.data.toList) = V at *
    generalize ver (post b.data.toList) = U at *
    have eA := bs_toList A
    have eB := bs_toList B
    by_cases e : A = B
    · subst e
      rw [less_irr, Bool.false_or] at ht
      have LI := less_irr A
      have E : Hid (decide ((V : Int) < (U : Int)) = t) := by show _ = _; rw [← ht]; simp
      clear ht
      go_enter Tryz.func60, Tryz.ntmps60
      go_wp2_with (first | (go_at_call 87; first | (with_reducible refine (C1.at _).mono ?_; rintro e w1 ⟨rfl, h1⟩) | (with_reducible refine (C2.at _).mono ?_; rintro e w2 ⟨rfl, h2⟩)))
      all_goals go_ret
      all_goals
        refine ⟨ret_bool ?_, chain2 h1 h2⟩
        rw [← E.out]
        simp
        try omega
    · have e' : (A == B) = false := by simpa using e
      rw [e', Bool.false_and, Bool.or_false] at ht
      have E := Lib.hid ht
      clear ht e
      cases t with
      | true =>
        have E' := E.out
        go_enter Tryz.func60, Tryz.ntmps60
        go_wp2_with (first | (go_at_call 87; first | (with_reducible refine (C1.at _).mono ?_; rintro e w1 ⟨rfl, h1⟩) | (with_reducible refine (C2.at _).mono ?_; rintro e w2 ⟨rfl, h2⟩)))
        go_ret
        exact ⟨rfl, chain2 h1 h2⟩
      | false =>
        have E' := E.out
        go_enter Tryz.func60, Tryz.ntmps60
        go_wp2_with (first | (go_at_call 87; first | (with_reducible refine (C1.at _).mono ?_; rintro e w1 ⟨rfl, h1⟩) | (with_reducible refine (C2.at _).mono ?_; rintro e w2 ⟨rfl, h2⟩)))
        go_ret
        exact ⟨rfl, chain2 h1 h2⟩
  · have E : Hid (Op.bytesLess a.data.toList b.data.toList = t) := by show _ = _; rw [← ht]; unfold lessB; rw [if_neg hn]
    have eA := Lib.toList_data a
    have eB := Lib.toList_data b
    clear ht
    have S1 : ∃ x v k, Says Tryz.prog 87 #[.string a] (.tuple #[.string x, .int .i64 v, .int .i64 k]) ∧ chk a.data.toList = k := by
      by_cases h : chk a.data.toList = 0
      · exact ⟨_, _, _, refSplit_yes a ha h, h⟩
      · exact ⟨_, _, _, refSplit_no a ha _ rfl h, rfl⟩
    have S2 : ∃ x v k, Says Tryz.prog 87 #[.string b] (.tuple #[.string x, .int .i64 v, .int .i64 k]) ∧ chk b.data.toList = k := by
      by_cases h : chk b.data.toList = 0
      · exact ⟨_, _, _, refSplit_yes b hb h, h⟩
      · exact ⟨_, _, _, refSplit_no b hb _ rfl h, rfl⟩
    obtain ⟨x1, v1, k1, C1, hk1⟩ := S1
    obtain ⟨x2, v2, k2, C2, hk2⟩ := S2
    rw [hk1, hk2] at hn
    clear hk1 hk2
    by_cases h0 : k1 = 0
    · subst h0
      have h2 : (k2 != 0) = true := by simpa using hn
      clear hn
      go_enter Tryz.func60, Tryz.ntmps60
      go_wp2_with (first | (go_at_call 87; first | (with_reducible refine (C1.at _).mono ?_; rintro e w1 ⟨rfl, h1⟩) | (with_reducible refine (C2.at _).mono ?_; rintro e w2 ⟨rfl, h2⟩)))
      go_ret
      refine ⟨ret_bool E.out, ?_⟩
      exact chain2 ‹_› ‹_›
    · have h2 : (k1 != 0) = true := by simpa using h0
      clear hn h0
      go_enter Tryz.func60, Tryz.ntmps60
      go_wp2_with (first | (go_at_call 87; first | (with_reducible refine (C1.at _).mono ?_; rintro e w1 ⟨rfl, h1⟩) | (with_reducible refine (C2.at _).mono ?_; rintro e w2 ⟨rfl, h2⟩)))
      go_ret
      refine ⟨ret_bool E.out, ?_⟩
      exact chain2 ‹_› ‹_›
end Go.Proofs.YtleggfofgpiabaaGreat.NF
