/-
  Joined texts: NameLess, NameRef3, NameRef4. Nothing here is a statement of the seed.
-/
import Derived.Test.YtigalcmhongleaaNameA
set_option linter.unusedSimpArgs false
set_option linter.unusedVariables false
/-
  Package name: order; the closed cases.
-/
namespace Go.Proofs.Ytigalcmhongleaa.NF
open Go.RowKit NM

theorem bs_toList (l : List UInt8) : (bs l).toList = l := by rw [Lib.toList_data]; rfl
end Go.Proofs.Ytigalcmhongleaa.NF

/-
  The reference for layer 2: names, stems and versions, order.
-/
namespace Go.Proofs.Ytigalcmhongleaa.NF
open Go.RowKit NM

theorem refPartsS_yes (s : ByteArray) (hs : s.size ≤ 9223372036854775807) (h : hasAt s.data.toList = true) :
    Says Try.prog 40 #[.string s] (.tuple #[.string (bs (pre s.data.toList)), .string (bs (post s.data.toList)), .bool true]) := says_drew fun w => refParts_yes s w hs h
theorem refPartsS_no (s : ByteArray) (hs : s.size ≤ 9223372036854775807) (h : hasAt s.data.toList = false) :
    Says Try.prog 40 #[.string s] (.tuple #[.string (bs (pre s.data.toList)), .string (bs []), .bool false]) := says_drew fun w => by
  rw [pre_self s h]; exact refParts_no s w hs h
theorem refStemS (l : List UInt8) (b : Bool) (hb : stemL (runes l) = b) (hl : l.length ≤ 2097152) : Says Try.prog 41 #[.string (bs l)] (.bool b) := fun w => by
  have h := refStem_any (bs l) w (by rw [bs_size]; exact hl)
  rw [bs_list, hb] at h
  exact h
theorem refVersionS (l : List UInt8) (hl : l.length ≤ 2097152) : Says Try.prog 42 #[.string (bs l)] (.int .i64 (ver l : Nat)) := says_same fun w => by
  have h := refVersion_any (bs l) w (by rw [bs_size]; omega)
  rw [bs_list] at h
  exact h
theorem refCheckS (s : ByteArray) (hs : s.size ≤ 2097152) (k : Int) (hk : chk s.data.toList = k) : Says Try.prog 32 #[.string s] (.int .i64 k) := by
  subst hk
  intro w
  have p1 := pre_len_le s.data.toList
  have p2 := post_len s.data.toList
  rw [size_list] at p1 p2
  have C2 := refStemS (pre s.data.toList) _ rfl (by omega)
  cases hst : stemL (runes (pre s.data.toList)) with
  | false =>
    rw [hst] at C2
    have E : Hid (chk s.data.toList = 6) := chk_bad _ (by unfold nameB; rw [hst]; rfl)
    have C1 : ∃ t b, Says Try.prog 40 #[.string s] (.tuple #[.string (bs (pre s.data.toList)), .string t, .bool b]) := by
      cases ha : hasAt s.data.toList with
      | true => exact ⟨_, _, refPartsS_yes s (by omega) ha⟩
      | false => exact ⟨_, _, refPartsS_no s (by omega) ha⟩
    obtain ⟨t, b, C1⟩ := C1
    clear hst p1 p2
    generalize pre s.data.toList = A at *
    go_enter Try.func32, Try.ntmps32
    go_wp2_with (first | (go_at_call 40; refine (C1.at _).mono ?_; rintro e w1 ⟨rfl, h1⟩) | (go_at_call 41; refine (C2.at _).mono ?_; rintro e w2 ⟨rfl, h2⟩))
    go_ret
    exact ⟨ret_int E.out.symm, chain2 h1 h2⟩
  | true =>
    rw [hst] at C2
    have C4 := Lib.hid (fun w => refRunes_any s w hs)
    have R : ∃ t v, nameB s.data.toList = v ∧ chk s.data.toList = (if v then (if 24 < (runes s.data.toList).length then 5 else 0) else 6) := ⟨0, _, rfl, rfl⟩
    cases ha : hasAt s.data.toList with
    | true =>
      have C1 := refPartsS_yes s (by omega) ha
      have C3 := refVersionS (post s.data.toList) (by omega)
      by_cases hv : ver (post s.data.toList) = 0
      · have E : Hid (chk s.data.toList = 6) := chk_bad _ (by unfold nameB; rw [hst, ha, hv]; rfl)
        rw [hv] at C3
        clear hst ha hv p1 p2 R C4
        generalize pre s.data.toList = A at *
        generalize post s.data.toList = B at *
        go_enter Try.func32, Try.ntmps32
        go_wp2_with (first | (go_at_call 40; refine (C1.at _).mono ?_; rintro e w1 ⟨rfl, h1⟩) | (go_at_call 41; refine (C2.at _).mono ?_; rintro e w2 ⟨rfl, h2⟩) | (go_at_call 42; refine (C3.at _).mono ?_; rintro e w3 ⟨rfl, h3⟩))
        go_ret
        exact ⟨ret_int E.out.symm, chain3 h1 h2 h3⟩
      · have hv' : (((ver (post s.data.toList) : Nat) : Int) == 0) = false := by simp; omega
        have E : Hid (chk s.data.toList = if 24 < (runes s.data.toList).length then 5 else 0) := by
          show _ = _
          unfold chk nameB
          rw [hst, ha, if_pos (by simp [hv])]
        clear hst ha hv p1 p2 R
        generalize pre s.data.toList = A at *
        generalize post s.data.toList = B at *
        generalize ver B = V at *
        by_cases hr : 24 < (runes s.data.toList).length
        · have E2 : Hid (chk s.data.toList = 5) := by have := E.out; rwa [if_pos hr] at this
          have hr' : 24 < (((runes s.data.toList).length : Nat) : Int) := by omega
          clear hr E
          generalize (runes s.data.toList).length = R at *
          go_enter Try.func32, Try.ntmps32
          go_wp2_with (first | (go_at_call 40; refine (C1.at _).mono ?_; rintro e w1 ⟨rfl, h1⟩) | (go_at_call 41; refine (C2.at _).mono ?_; rintro e w2 ⟨rfl, h2⟩) | (go_at_call 42; refine (C3.at _).mono ?_; rintro e w3 ⟨rfl, h3⟩) | (go_at_call 43; refine (C4.out _).mono ?_; rintro e w4 ⟨rfl, h4⟩))
          go_ret
          exact ⟨ret_int E2.out.symm, chain4 h1 h2 h3 h4⟩
        · have E2 : Hid (chk s.data.toList = 0) := by have := E.out; rwa [if_neg hr] at this
          have hr' : ¬ 24 < (((runes s.data.toList).length : Nat) : Int) := by omega
          clear hr E
          generalize (runes s.data.toList).length = R at *
          go_enter Try.func32, Try.ntmps32
          go_wp2_with (first | (go_at_call 40; refine (C1.at _).mono ?_; rintro e w1 ⟨rfl, h1⟩) | (go_at_call 41; refine (C2.at _).mono ?_; rintro e w2 ⟨rfl, h2⟩) | (go_at_call 42; refine (C3.at _).mono ?_; rintro e w3 ⟨rfl, h3⟩) | (go_at_call 43; refine (C4.out _).mono ?_; rintro e w4 ⟨rfl, h4⟩))
          go_ret
          exact ⟨ret_int E2.out.symm, chain4 h1 h2 h3 h4⟩
    | false =>
      have C1 := refPartsS_no s (by omega) ha
      have E : Hid (chk s.data.toList = if 24 < (runes s.data.toList).length then 5 else 0) := by
        show _ = _
        unfold chk nameB
        rw [hst, ha, if_pos (by rfl)]
      clear hst ha p1 p2 R
      generalize pre s.data.toList = A at *
      by_cases hr : 24 < (runes s.data.toList).length
      · have E2 : Hid (chk s.data.toList = 5) := by have := E.out; rwa [if_pos hr] at this
        have hr' : 24 < (((runes s.data.toList).length : Nat) : Int) := by omega
        clear hr E
        generalize (runes s.data.toList).length = R at *
        go_enter Try.func32, Try.ntmps32
        go_wp2_with (first | (go_at_call 40; refine (C1.at _).mono ?_; rintro e w1 ⟨rfl, h1⟩) | (go_at_call 41; refine (C2.at _).mono ?_; rintro e w2 ⟨rfl, h2⟩) | (go_at_call 43; refine (C4.out _).mono ?_; rintro e w4 ⟨rfl, h4⟩))
        go_ret
        exact ⟨ret_int E2.out.symm, chain3 h1 h2 h4⟩
      · have E2 : Hid (chk s.data.toList = 0) := by have := E.out; rwa [if_neg hr] at this
        have hr' : ¬ 24 < (((runes s.data.toList).length : Nat) : Int) := by omega
        clear hr E
        generalize (runes s.data.toList).length = R at *
        go_enter Try.func32, Try.ntmps32
        go_wp2_with (first | (go_at_call 40; refine (C1.at _).mono ?_; rintro e w1 ⟨rfl, h1⟩) | (go_at_call 41; refine (C2.at _).mono ?_; rintro e w2 ⟨rfl, h2⟩) | (go_at_call 43; refine (C4.out _).mono ?_; rintro e w4 ⟨rfl, h4⟩))
        go_ret
        exact ⟨ret_int E2.out.symm, chain3 h1 h2 h4⟩
end Go.Proofs.Ytigalcmhongleaa.NF

/-
  The reference for layer 2: stems and versions, order.
-/
namespace Go.Proofs.Ytigalcmhongleaa.NF
open Go.RowKit NM

end Go.Proofs.Ytigalcmhongleaa.NF
