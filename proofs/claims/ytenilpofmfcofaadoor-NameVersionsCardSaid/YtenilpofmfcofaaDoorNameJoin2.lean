/-
  The reference for layer 2: a number's digits, Join.
-/
import Derived.Test.YtenilpofmfcofaaDoorNameJoin
set_option linter.unusedSimpArgs false
set_option linter.unusedVariables false
namespace Go.Proofs.YtenilpofmfcofaaDoor.NF
open Go.RowKit NM

theorem digit_cut (d : Nat) (h : d < 10) : ({ data := #[48, 49, 50, 51, 52, 53, 54, 55, 56, 57] } : ByteArray).extract d (d + 1) = bs [UInt8.ofNat (48 + d)] := by
  have h' : d = 0 ∨ d = 1 ∨ d = 2 ∨ d = 3 ∨ d = 4 ∨ d = 5 ∨ d = 6 ∨ d = 7 ∨ d = 8 ∨ d = 9 := by omega
  rcases h' with rfl | rfl | rfl | rfl | rfl | rfl | rfl | rfl | rfl | rfl <;> decide +kernel
theorem told_1 (d : Nat) (h : d < 10) (w : World) :
    Calls Tryd.prog 16 #[.int .i64 (d : Int)] w fun e w' => e = .returned (.string (bs [UInt8.ofNat (48 + d)])) ∧ w = w' := by
  have E := Lib.hid (digit_cut d h)
  have h' : (d : Int) < 10 := by omega
  have h0 : (0 : Int) ≤ d := by omega
  go_enter Tryd.func16, Tryd.ntmps16
  go_wp2_with fail
  go_ret
  exact ⟨by rw [← E.out]; rfl, rfl⟩
theorem told_2 (a b : Nat) (ha : 1 ≤ a) (hb : b < 10) (l : List UInt8) (hl : l.length ≤ 3) (hT : ∀ w, Calls Tryd.prog 16 #[.int .i64 (a : Int)] w fun e w' => e = .returned (.string (bs l)) ∧ ∃ m, w' = w.drewN m) (hA : a ≤ 99) (w : World) :
    Calls Tryd.prog 16 #[.int .i64 ((10 * a + b : Nat) : Int)] w fun e w' => e = .returned (.string (bs (l ++ [UInt8.ofNat (48 + b)]))) ∧ ∃ m, w' = w.drewN m := by
  have E := Lib.hid (digit_cut b hb)
  have C := Lib.hid hT
  clear hT
  obtain ⟨n, hn⟩ : ∃ n : Nat, n = 10 * a + b := ⟨_, rfl⟩
  rw [← hn]
  have q1 : Int.tdiv (n : Int) 10 = (a : Int) := by rw [Int.tdiv_eq_ediv_of_nonneg (by omega)]; omega
  have q2 : Int.tmod (n : Int) 10 = (b : Int) := by rw [Int.tmod_eq_emod_of_nonneg (by omega)]; omega
  have q1' : (n : Int) / 10 = (a : Int) := by omega
  have q2' : (n : Int) % 10 = (b : Int) := by omega
  have q3 : IntKind.i64.wrap ((b : Int) + 1) = (b : Int) + 1 := IntWalk.i64_in _ (by omega)
  have q4 : ((b : Int) + 1).toNat = b + 1 := by omega
  have q5 : IntKind.i64.wrap (a : Int) = (a : Int) := IntWalk.i64_in _ (by omega)
  have q6 : IntKind.i64.wrap (b : Int) = (b : Int) := IntWalk.i64_in _ (by omega)
  have h10 : ¬ (n : Int) < 10 := by omega
  have b0 : (0 : Int) ≤ b := by omega
  have b1 : (b : Int) + 1 ≤ 10 := by omega
  have b2 : (0 : Int) ≤ (b : Int) + 1 := by omega
  have hnn : (n : Int) ≤ 999 := by omega
  have zs : (bs l).size ≤ 3 := by rw [bs_size]; exact hl
  have Happ : Hid (bs l ++ bs [UInt8.ofNat (48 + b)] = bs (l ++ [UInt8.ofNat (48 + b)])) := app_bs _ _
  generalize bs l = L at *
  clear hn
  go_enter Tryd.func16, Tryd.ntmps16
  go_wp2_with fail
  go_quiet ((go_at_call 16; exact Calls.quiet_of (C.out _)))
  clear q1 q2 q1' q2' q3 q4 q5 q6
  go_wp2
  go_ret
  exact ⟨by rw [← Happ.out, ← E.out]; rfl, _, rfl⟩
theorem told_any (n : Nat) (h : n ≤ 999) (w : World) :
    Calls Tryd.prog 16 #[.int .i64 (n : Int)] w fun e w' => e = .returned (.string (bs (digs n))) ∧ ∃ m, w' = w.drewN m := by
  have T1 : ∀ d : Nat, d < 10 → ∀ w, Calls Tryd.prog 16 #[.int .i64 (d : Int)] w fun e w' => e = .returned (.string (bs [UInt8.ofNat (48 + d)])) ∧ ∃ m, w' = w.drewN m :=
    fun d hd w => (told_1 d hd w).mono fun e w' ⟨he, hw⟩ => ⟨he, 0, hw.symm⟩
  unfold digs
  by_cases h1 : n < 10
  · rw [if_pos h1]
    exact T1 n h1 w
  · rw [if_neg h1]
    by_cases h2 : n < 100
    · rw [if_pos h2]
      have h3 := told_2 (n / 10) (n % 10) (by omega) (by omega) [UInt8.ofNat (48 + n / 10)] (by simp) (T1 (n / 10) (by omega)) (by omega) w
      rw [show 10 * (n / 10) + n % 10 = n by omega] at h3
      exact h3
    · rw [if_neg h2]
      have h3 := told_2 (n / 100) (n / 10 % 10) (by omega) (by omega) [UInt8.ofNat (48 + n / 100)] (by simp) (T1 (n / 100) (by omega)) (by omega)
      rw [show 10 * (n / 100) + n / 10 % 10 = n / 10 by omega] at h3
      have h4 := told_2 (n / 10) (n % 10) (by omega) (by omega) _ (by simp) h3 (by omega) w
      rw [show 10 * (n / 10) + n % 10 = n by omega] at h4
      exact h4
theorem toldS (n : Nat) (h : n ≤ 999) : Says Tryd.prog 16 #[.int .i64 (n : Int)] (.string (bs (digs n))) := says_drew fun w => told_any n h w
theorem refJoin_arg (s : ByteArray) (n : Int) (h : n < 0 ∨ 999 < n) : Says Tryd.prog 7 #[.string s, .int .i64 n] (.tuple #[.string ⟨#[]⟩, .int .i64 2]) := by
  intro w
  by_cases h0 : n < 0
  · go_enter Tryd.func7, Tryd.ntmps7
    go_wp2_with fail
    go_ret2
    exact ⟨rfl, Below.refl _ _⟩
  · have h1 : 999 < n := by omega
    go_enter Tryd.func7, Tryd.ntmps7
    go_wp2_with fail
    go_ret2
    exact ⟨rfl, Below.refl _ _⟩
theorem refJoin_at (s : ByteArray) (hs : s.size ≤ 1048576) (n : Int) (h0 : 0 ≤ n) (h1 : n ≤ 999) (ha : hasAt s.data.toList = true) : Says Tryd.prog 7 #[.string s, .int .i64 n] (.tuple #[.string ⟨#[]⟩, .int .i64 6]) := by
  intro w
  have C := refPartsS_yes s (by omega) ha
  clear ha
  generalize bs (pre s.data.toList) = A at *
  generalize bs (post s.data.toList) = B at *
  go_enter Tryd.func7, Tryd.ntmps7
  go_wp2_with (go_at_call 15; refine (C.at _).mono ?_; rintro e w1 ⟨rfl, hb⟩)
  go_ret2
  exact ⟨rfl, hb⟩
theorem refJoin_text (s : ByteArray) (n : Nat) (hs : s.size ≤ 1048576) (h1 : n ≤ 999) (ha : hasAt s.data.toList = false) (k : Int) (hk : chk (text s.data.toList n) = k) :
    Says Tryd.prog 7 #[.string s, .int .i64 (n : Int)] (.tuple #[.string (if k = 0 then bs (text s.data.toList n) else ⟨#[]⟩), .int .i64 k]) := by
  intro w
  have hb := Below.refl w.heap.size w
  have C0 := refPartsS_no s (by omega) ha
  have C1 := toldS n h1
  have tl := text_len s.data.toList n
  rw [size_list] at tl
  have C2 := refCheckS (bs (text s.data.toList n)) (by rw [bs_size]; omega) k (by rw [bs_list]; exact hk)
  clear ha hk tl
  generalize bs (pre s.data.toList) = A at *
  generalize bs [] = B at *
  have dl := digs_len n
  have h1' : ¬ 999 < (n : Int) := by omega
  have h0' : ¬ (n : Int) < 0 := by omega
  by_cases hz : n = 0
  · subst hz
    have E : bs (text s.data.toList 0) = s := rfl
    rw [E] at C2 ⊢
    clear E C1 dl
    by_cases h : k = 0
    · subst h
      rw [if_pos rfl]
      go_enter Tryd.func7, Tryd.ntmps7
      go_wp2_with (first | (go_at_call 15; refine (inw C0 w _ hb).mono ?_; rintro e w1 ⟨rfl, hb⟩) | (go_at_call 17; refine (inw C2 w _ hb).mono ?_; rintro e w1 ⟨rfl, hb⟩))
      go_ret2
      exact ⟨rfl, hb⟩
    · rw [if_neg h]
      have h' : (k != 0) = true := by simpa using h
      clear h
      go_enter Tryd.func7, Tryd.ntmps7
      go_wp2_with (first | (go_at_call 15; refine (inw C0 w _ hb).mono ?_; rintro e w1 ⟨rfl, hb⟩) | (go_at_call 17; refine (inw C2 w _ hb).mono ?_; rintro e w1 ⟨rfl, hb⟩))
      go_ret2
      exact ⟨rfl, hb⟩
  · have hz' : 0 < (n : Int) := by omega
    have E : s ++ (⟨#[64]⟩ : ByteArray) ++ bs (digs n) = bs (text s.data.toList n) := by
      rw [show (⟨#[64]⟩ : ByteArray) = bs [64] from rfl]
      conv => lhs; rw [← bs_of s]
      rw [app_bs, app_bs]
      unfold text
      rw [if_neg hz]
      simp
    have dz : (bs (digs n)).size ≤ 3 := by rw [bs_size]; exact dl
    clear hz dl
    generalize bs (digs n) = D at *
    generalize bs (text s.data.toList n) = T at *
    by_cases h : k = 0
    · subst h
      rw [if_pos rfl]
      go_enter Tryd.func7, Tryd.ntmps7
      go_wp2_with (first | (go_at_call 15; refine (inw C0 w _ hb).mono ?_; rintro e w1 ⟨rfl, hb⟩) | (go_at_call 16; refine (inw C1 w _ hb).mono ?_; rintro e w1 ⟨rfl, hb⟩) | (go_at_call 17; refine (inw C2 w _ hb).mono ?_; rintro e w1 ⟨rfl, hb⟩))
      go_ret2
      exact ⟨rfl, hb⟩
    · rw [if_neg h]
      have h' : (k != 0) = true := by simpa using h
      clear h
      go_enter Tryd.func7, Tryd.ntmps7
      go_wp2_with (first | (go_at_call 15; refine (inw C0 w _ hb).mono ?_; rintro e w1 ⟨rfl, hb⟩) | (go_at_call 16; refine (inw C1 w _ hb).mono ?_; rintro e w1 ⟨rfl, hb⟩) | (go_at_call 17; refine (inw C2 w _ hb).mono ?_; rintro e w1 ⟨rfl, hb⟩))
      go_ret2
      exact ⟨rfl, hb⟩
end Go.Proofs.YtenilpofmfcofaaDoor.NF
