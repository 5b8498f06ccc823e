/-
  Joined texts: NameLess, NameRef3, NameRef4. Nothing here is a statement of the seed.
-/
import Derived.Test.YtajidaicojekdaaNameA
set_option linter.unusedSimpArgs false
set_option linter.unusedVariables false
/-
  Package name: order; the closed cases.
-/
namespace Go.Proofs.Ytajidaicojekdaa.NF
open Go.RowKit NM

theorem bs_toList (l : List UInt8) : (bs l).toList = l := by rw [Lib.toList_data]; rfl
end Go.Proofs.Ytajidaicojekdaa.NF

/-
  The reference for layer 2: names, stems and versions, order.
-/
namespace Go.Proofs.Ytajidaicojekdaa.NF
open Go.RowKit NM

theorem refPartsS_yes (s : ByteArray) (hs : s.size ≤ 9223372036854775807) (h : hasAt s.data.toList = true) :
    Says Try.prog 64 #[.string s] (.tuple #[.string (bs (pre s.data.toList)), .string (bs (post s.data.toList)), .bool true]) := says_drew fun w => refParts_yes s w hs h
theorem refPartsS_no (s : ByteArray) (hs : s.size ≤ 9223372036854775807) (h : hasAt s.data.toList = false) :
    Says Try.prog 64 #[.string s] (.tuple #[.string (bs (pre s.data.toList)), .string (bs []), .bool false]) := says_drew fun w => by
  rw [pre_self s h]; exact refParts_no s w hs h
theorem refStemS (l : List UInt8) (b : Bool) (hb : stemL (runes l) = b) (hl : l.length ≤ 2097152) : Says Try.prog 65 #[.string (bs l)] (.bool b) := fun w => by
  have h := refStem_any (bs l) w (by rw [bs_size]; exact hl)
  rw [bs_list, hb] at h
  exact h
theorem refVersionS (l : List UInt8) (hl : l.length ≤ 2097152) : Says Try.prog 66 #[.string (bs l)] (.int .i64 (ver l : Nat)) := says_same fun w => by
  have h := refVersion_any (bs l) w (by rw [bs_size]; omega)
  rw [bs_list] at h
  exact h
theorem refCheckS (s : ByteArray) (hs : s.size ≤ 2097152) (k : Int) (hk : chk s.data.toList = k) : Says Try.prog 35 #[.string s] (.int .i64 k) := by
  subst hk
  intro w
  have p1 := pre_len_le s.data.toList
  have p2 := post_len s.data.toList
  rw [size_list] at p1 p2
  have C2 := refStemS (pre s.data.toList) _ rfl (by omega)
  cases hst : stemL (runes (pre s.data.toList)) with
  | false =>
    rw [hst] at C2
    have E : Hid (chk s.data.toList = 6) := chk_bad _ (by unfold nameB; rw [hst]; rfl)
    have C1 : ∃ t b, Says Try.prog 64 #[.string s] (.tuple #[.string (bs (pre s.data.toList)), .string t, .bool b]) := by
      cases ha : hasAt s.data.toList with
      | true => exact ⟨_, _, refPartsS_yes s (by omega) ha⟩
      | false => exact ⟨_, _, refPartsS_no s (by omega) ha⟩
    obtain ⟨t, b, C1⟩ := C1
    clear hst p1 p2
    generalize pre s.data.toList = A at *
    go_enter Try.func35, Try.ntmps35
    go_wp2_with (first | (go_at_call 64; refine (C1.at _).mono ?_; rintro e w1 ⟨rfl, h1⟩) | (go_at_call 65; refine (C2.at _).mono ?_; rintro e w2 ⟨rfl, h2⟩))
    go_ret
    exact ⟨ret_int E.out.symm, chain2 h1 h2⟩
  | true =>
    rw [hst] at C2
    have C4 := Lib.hid (fun w => refRunes_any s w hs)
    have R : ∃ t v, nameB s.data.toList = v ∧ chk s.data.toList = (if v then (if 24 < (runes s.data.toList).length then 5 else 0) else 6) := ⟨0, _, rfl, rfl⟩
    cases ha : hasAt s.data.toList with
    | true =>
      have C1 := refPartsS_yes s (by omega) ha
      have C3 := refVersionS (post s.data.toList) (by omega)
      by_cases hv : ver (post s.data.toList) = 0
      · have E : Hid (chk s.data.toList = 6) := chk_bad _ (by unfold nameB; rw [hst, ha, hv]; rfl)
        rw [hv] at C3
        clear hst ha hv p1 p2 R C4
        generalize pre s.data.toList = A at *
        generalize post s.data.toList = B at *
        go_enter Try.func35, Try.ntmps35
        go_wp2_with (first | (go_at_call 64; refine (C1.at _).mono ?_; rintro e w1 ⟨rfl, h1⟩) | (go_at_call 65; refine (C2.at _).mono ?_; rintro e w2 ⟨rfl, h2⟩) | (go_at_call 66; refine (C3.at _).mono ?_; rintro e w3 ⟨rfl, h3⟩))
        go_ret
        exact ⟨ret_int E.out.symm, chain3 h1 h2 h3⟩
      · have hv' : (((ver (post s.data.toList) : Nat) : Int) == 0) = false := by simp; omega
        have E : Hid (chk s.data.toList = if 24 < (runes s.data.toList).length then 5 else 0) := by
          show _ = _
          unfold chk nameB
          rw [hst, ha, if_pos (by simp [hv])]
        clear hst ha hv p1 p2 R
        generalize pre s.data.toList = A at *
        generalize post s.data.toList = B at *
        generalize ver B = V at *
        by_cases hr : 24 < (runes s.data.toList).length
        · have E2 : Hid (chk s.data.toList = 5) := by have := E.out; rwa [if_pos hr] at this
          have hr' : 24 < (((runes s.data.toList).length : Nat) : Int) := by omega
          clear hr E
          generalize (runes s.data.toList).length = R at *
          go_enter Try.func35, Try.ntmps35
          go_wp2_with (first | (go_at_call 64; refine (C1.at _).mono ?_; rintro e w1 ⟨rfl, h1⟩) | (go_at_call 65; refine (C2.at _).mono ?_; rintro e w2 ⟨rfl, h2⟩) | (go_at_call 66; refine (C3.at _).mono ?_; rintro e w3 ⟨rfl, h3⟩) | (go_at_call 67; refine (C4.out _).mono ?_; rintro e w4 ⟨rfl, h4⟩))
          go_ret
          exact ⟨ret_int E2.out.symm, chain4 h1 h2 h3 h4⟩
        · have E2 : Hid (chk s.data.toList = 0) := by have := E.out; rwa [if_neg hr] at this
          have hr' : ¬ 24 < (((runes s.data.toList).length : Nat) : Int) := by omega
          clear hr E
          generalize (runes s.data.toList).length = R at *
          go_enter Try.func35, Try.ntmps35
          go_wp2_with (first | (go_at_call 64; refine (C1.at _).mono ?_; rintro e w1 ⟨rfl, h1⟩) | (go_at_call 65; refine (C2.at _).mono ?_; rintro e w2 ⟨rfl, h2⟩) | (go_at_call 66; refine (C3.at _).mono ?_; rintro e w3 ⟨rfl, h3⟩) | (go_at_call 67; refine (C4.out _).mono ?_; rintro e w4 ⟨rfl, h4⟩))
          go_ret
          exact ⟨ret_int E2.out.symm, chain4 h1 h2 h3 h4⟩
    | false =>
      have C1 := refPartsS_no s (by omega) ha
      have E : Hid (chk s.data.toList = if 24 < (runes s.data.toList).length then 5 else 0) := by
        show _ = _
        unfold chk nameB
        rw [hst, ha, if_pos (by rfl)]
      clear hst ha p1 p2 R
      generalize pre s.data.toList = A at *
      by_cases hr : 24 < (runes s.data.toList).length
      · have E2 : Hid (chk s.data.toList = 5) := by have := E.out; rwa [if_pos hr] at this
        have hr' : 24 < (((runes s.data.toList).length : Nat) : Int) := by omega
        clear hr E
        generalize (runes s.data.toList).length = R at *
        go_enter Try.func35, Try.ntmps35
        go_wp2_with (first | (go_at_call 64; refine (C1.at _).mono ?_; rintro e w1 ⟨rfl, h1⟩) | (go_at_call 65; refine (C2.at _).mono ?_; rintro e w2 ⟨rfl, h2⟩) | (go_at_call 67; refine (C4.out _).mono ?_; rintro e w4 ⟨rfl, h4⟩))
        go_ret
        exact ⟨ret_int E2.out.symm, chain3 h1 h2 h4⟩
      · have E2 : Hid (chk s.data.toList = 0) := by have := E.out; rwa [if_neg hr] at this
        have hr' : ¬ 24 < (((runes s.data.toList).length : Nat) : Int) := by omega
        clear hr E
        generalize (runes s.data.toList).length = R at *
        go_enter Try.func35, Try.ntmps35
        go_wp2_with (first | (go_at_call 64; refine (C1.at _).mono ?_; rintro e w1 ⟨rfl, h1⟩) | (go_at_call 65; refine (C2.at _).mono ?_; rintro e w2 ⟨rfl, h2⟩) | (go_at_call 67; refine (C4.out _).mono ?_; rintro e w4 ⟨rfl, h4⟩))
        go_ret
        exact ⟨ret_int E2.out.symm, chain3 h1 h2 h4⟩
end Go.Proofs.Ytajidaicojekdaa.NF

/-
  The reference for layer 2: stems and versions, order.
-/
namespace Go.Proofs.Ytajidaicojekdaa.NF
open Go.RowKit NM

theorem refSplit_yes (s : ByteArray) (hs : s.size ≤ 2097152) (h : chk s.data.toList = 0) :
    Says Try.prog 93 #[.string s] (.tuple #[.string (bs (pre s.data.toList)), .int .i64 (ver (post s.data.toList) : Nat), .int .i64 0]) := by
  intro w
  have C1 := refCheckS s hs 0 h
  have p1 := post_len s.data.toList
  rw [size_list] at p1
  cases ha : hasAt s.data.toList with
  | true =>
    have C2 := refPartsS_yes s (by omega) ha
    have C3 := refVersionS (post s.data.toList) (by omega)
    clear h ha p1
    generalize pre s.data.toList = A at *
    generalize post s.data.toList = B at *
    generalize ver B = V at *
    go_enter Try.func93, Try.ntmps93
    go_wp2_with (first | (go_at_call 35; refine (C1.at _).mono ?_; rintro e w1 ⟨rfl, h1⟩) | (go_at_call 64; refine (C2.at _).mono ?_; rintro e w2 ⟨rfl, h2⟩) | (go_at_call 66; refine (C3.at _).mono ?_; rintro e w3 ⟨rfl, h3⟩))
    exact bodyPost_ret (v := .tuple #[.string (bs A), .int .i64 (V : Nat), .int .i64 0]) (by simp [results, Try.results93, go_sem]) rfl ⟨rfl, chain3 h1 h2 h3⟩
  | false =>
    have C2 := refPartsS_no s (by omega) ha
    have C3 := refVersionS [] (by simp)
    have E : Hid (ver (post s.data.toList) = ver []) := by show _ = _; rw [(pre_none _ ha).2]
    clear h ha p1
    generalize pre s.data.toList = A at *
    generalize ver [] = V at *
    go_enter Try.func93, Try.ntmps93
    go_wp2_with (first | (go_at_call 35; refine (C1.at _).mono ?_; rintro e w1 ⟨rfl, h1⟩) | (go_at_call 64; refine (C2.at _).mono ?_; rintro e w2 ⟨rfl, h2⟩) | (go_at_call 66; refine (C3.at _).mono ?_; rintro e w3 ⟨rfl, h3⟩))
    exact bodyPost_ret (v := .tuple #[.string (bs A), .int .i64 (V : Nat), .int .i64 0]) (by simp [results, Try.results93, go_sem]) rfl ⟨by rw [E.out], chain3 h1 h2 h3⟩
theorem refSplit_no (s : ByteArray) (hs : s.size ≤ 2097152) (k : Int) (hk : chk s.data.toList = k) (h : k ≠ 0) :
    Says Try.prog 93 #[.string s] (.tuple #[.string ⟨#[]⟩, .int .i64 0, .int .i64 k]) := by
  intro w
  have C1 := refCheckS s hs k hk
  have h' : (k != 0) = true := by simpa using h
  clear hk h
  go_enter Try.func93, Try.ntmps93
  go_wp2_with (first | (go_at_call 35; refine (C1.at _).mono ?_; rintro e w1 ⟨rfl, h1⟩))
  exact bodyPost_ret (v := .tuple #[.string ⟨#[]⟩, .int .i64 0, .int .i64 k]) (by simp [results, Try.results93, go_sem]) rfl ⟨rfl, h1⟩
theorem refLessS (a b : ByteArray) (ha : a.size ≤ 2097152) (hb : b.size ≤ 2097152) (t : Bool) (ht : lessB a.data.toList b.data.toList = t) :
    Says Try.prog 68 #[.string a, .string b] (.bool t) := by
  intro w
  by_cases hn : chk a.data.toList = 0 ∧ chk b.data.toList = 0
  · have C1 := refSplit_yes a ha hn.1
    have C2 := refSplit_yes b hb hn.2
    rw [lessB_names _ _ hn.1 hn.2] at ht
    clear hn
    generalize pre a.data.toList = A at *
    generalize pre b.data.toList = B at *
    generalize ver (post a.data.toList) = V at *
    generalize ver (post b.data.toList) = U at *
    have eA := bs_toList A
    have eB := bs_toList B
    by_cases e : A = B
    · subst e
      rw [less_irr, Bool.false_or] at ht
      have LI := less_irr A
      have E : Hid (decide ((V : Int) < (U : Int)) = t) := by show _ = _; rw [← ht]; simp
      clear ht
      go_enter Try.func68, Try.ntmps68
      go_wp2_with (first | (go_at_call 93; first | (with_reducible refine (C1.at _).mono ?_; rintro e w1 ⟨rfl, h1⟩) | (with_reducible refine (C2.at _).mono ?_; rintro e w2 ⟨rfl, h2⟩)))
      all_goals go_ret
      all_goals
        refine ⟨ret_bool ?_, chain2 h1 h2⟩
        rw [← E.out]
        simp
        try omega
    · have e' : (A == B) = false := by simpa using e
      rw [e', Bool.false_and, Bool.or_false] at ht
      have E := Lib.hid ht
      clear ht e
      cases t with
      | true =>
        have E' := E.out
        go_enter Try.func68, Try.ntmps68
        go_wp2_with (first | (go_at_call 93; first | (with_reducible refine (C1.at _).mono ?_; rintro e w1 ⟨rfl, h1⟩) | (with_reducible refine (C2.at _).mono ?_; rintro e w2 ⟨rfl, h2⟩)))
        go_ret
        exact ⟨rfl, chain2 h1 h2⟩
      | false =>
        have E' := E.out
        go_enter Try.func68, Try.ntmps68
        go_wp2_with (first | (go_at_call 93; first | (with_reducible refine (C1.at _).mono ?_; rintro e w1 ⟨rfl, h1⟩) | (with_reducible refine (C2.at _).mono ?_; rintro e w2 ⟨rfl, h2⟩)))
        go_ret
        exact ⟨rfl, chain2 h1 h2⟩
  · have E : Hid (Op.bytesLess a.data.toList b.data.toList = t) := by show _ = _; rw [← ht]; unfold lessB; rw [if_neg hn]
    have eA := Lib.toList_data a
    have eB := Lib.toList_data b
    clear ht
    have S1 : ∃ x v k, Says Try.prog 93 #[.string a] (.tuple #[.string x, .int .i64 v, .int .i64 k]) ∧ chk a.data.toList = k := by
      by_cases h : chk a.data.toList = 0
      · exact ⟨_, _, _, refSplit_yes a ha h, h⟩
      · exact ⟨_, _, _, refSplit_no a ha _ rfl h, rfl⟩
    have S2 : ∃ x v k, Says Try.prog 93 #[.string b] (.tuple #[.string x, .int .i64 v, .int .i64 k]) ∧ chk b.data.toList = k := by
      by_cases h : chk b.data.toList = 0
      · exact ⟨_, _, _, refSplit_yes b hb h, h⟩
      · exact ⟨_, _, _, refSplit_no b hb _ rfl h, rfl⟩
    obtain ⟨x1, v1, k1, C1, hk1⟩ := S1
    obtain ⟨x2, v2, k2, C2, hk2⟩ := S2
    rw [hk1, hk2] at hn
    clear hk1 hk2
    by_cases h0 : k1 = 0
    · subst h0
      have h2 : (k2 != 0) = true := by simpa using hn
      clear hn
      go_enter Try.func68, Try.ntmps68
      go_wp2_with (first | (go_at_call 93; first | (with_reducible refine (C1.at _).mono ?_; rintro e w1 ⟨rfl, h1⟩) | (with_reducible refine (C2.at _).mono ?_; rintro e w2 ⟨rfl, h2⟩)))
      go_ret
      refine ⟨ret_bool E.out, ?_⟩
      exact chain2 ‹_› ‹_›
    · have h2 : (k1 != 0) = true := by simpa using h0
      clear hn h0
      go_enter Try.func68, Try.ntmps68
      go_wp2_with (first | (go_at_call 93; first | (with_reducible refine (C1.at _).mono ?_; rintro e w1 ⟨rfl, h1⟩) | (with_reducible refine (C2.at _).mono ?_; rintro e w2 ⟨rfl, h2⟩)))
      go_ret
      refine ⟨ret_bool E.out, ?_⟩
      exact chain2 ‹_› ‹_›
end Go.Proofs.Ytajidaicojekdaa.NF
