/-
  The reference's Parse: numbers. Nothing here is a statement of the seed.
-/
import Derived.Test.YtoohfmkhjhcopaaGreatDoorAsmRefP
import Derived.Test.YtoohfmkhjhcopaaGreatDoorAsmMath6
set_option linter.unusedSimpArgs false
set_option linter.unusedVariables false
namespace Go.Proofs.YtoohfmkhjhcopaaGreatDoor.AF
open Go.RowKit WM IM WF IF AM NR

theorem wrap_w32 (x : Int) : wrap32 x = w32 x := by unfold w32 wrap32; first | rfl | omega
theorem num_step (l : List UInt8) (k : Nat) (h : k < l.length) : numF 0 (l.take (k + 1)) = w32 (w32 (w32 (10 * numF 0 (l.take k)) + ((l[k]'h).toNat : Int)) - 48) := by
  rw [List.take_succ_eq_append_getElem h, numF_app]
  rfl
theorem headD_byte (l : List UInt8) (h : 0 < (bs l).size) : (((bs l)[0]'h).toNat : Int) = ((l.headD 0).toNat : Int) := by
  rw [bt_at]
  unfold bt
  rw [bs_list]
  cases l <;> rfl
theorem num_facts (l : List UInt8) : ∃ F : Nat → Int, F 0 = 0 ∧ (∀ k (hk : k < (bs l).size), wrap32 (wrap32 (wrap32 (10 * F k) + wrap32 (((bs l)[k]'hk).toNat : Int)) - 48) = F (k + 1)) ∧ (∀ k, k = 8 ∨ k = (bs l).size → k ≤ 8 → F k = numF 0 (l.take 8)) := by
  have hsl : (bs l).size = l.length := bs_size l
  refine ⟨fun k => numF 0 (l.take k), rfl, fun k hk => ?_, fun k hk h8 => ?_⟩
  · show wrap32 (wrap32 (wrap32 (10 * numF 0 (l.take k)) + wrap32 (((bs l)[k]'hk).toNat : Int)) - 48) = numF 0 (l.take (k + 1))
    rw [num_step l k (by rw [← hsl]; exact hk), bt_at, bt_bs (by rw [← hsl]; exact hk), wrap_w32, wrap_w32, wrap_w32, wrap_w32, w32_in (x := ((l[k]'(by rw [← hsl]; exact hk)).toNat : Int)) (by have := (l[k]'(by rw [← hsl]; exact hk)).toNat_lt; omega)]
  · rcases hk with rfl | rfl
    · rfl
    · show numF 0 (l.take (bs l).size) = numF 0 (l.take 8)
      rw [hsl] at h8 ⊢
      rw [List.take_of_length_le (Nat.le_refl _), List.take_of_length_le h8]
theorem number_none (S : ByteArray) (R : Int) (F : Nat → Int) (hF : F 0 = 0) (hs : S.size = 0) (hE : ∀ k, k = 8 ∨ k = S.size → k ≤ 8 → F k = R) (w : World) :
    Calls Tryz.prog 28 #[.string S] w fun e w' => e = .returned (.int .i32 R) ∧ w = w' := by
  obtain rfl : R = 0 := by rw [← hE S.size (Or.inr rfl) (by omega), hs, hF]
  have hs' : (S.size : Int) = 0 := by omega
  clear hE hF
  go_enter Tryz.func28, Tryz.ntmps28
  go_wp2_with fail
  go_loopw [4, 5] (fun n i wr => n = .int .i32 0 ∧ i = .int .i64 0 ∧ w = wr) (fun _ _ _ => 0)
  case atStart => exact ⟨rfl, rfl, rfl⟩
  case round =>
    obtain ⟨rfl, rfl, rfl⟩ := hrel
    go_wp2_with fail
    go_ret
    exact ⟨rfl, rfl⟩
theorem number_pos (S : ByteArray) (R : Int) (F : Nat → Int) (hF : F 0 = 0) (hs : S.size ≤ 1048576) (hp : 0 < S.size) (ht : (((S[0]'hp).toNat : Int) == 45) = false)
    (hS : ∀ k (hk : k < S.size), wrap32 (wrap32 (wrap32 (10 * F k) + wrap32 ((S[k]'hk).toNat : Int)) - 48) = F (k + 1)) (hE : ∀ k, k = 8 ∨ k = S.size → k ≤ 8 → F k = R) (w : World) :
    Calls Tryz.prog 28 #[.string S] w fun e w' => e = .returned (.int .i32 R) ∧ w = w' := by
  have HS2 := Lib.hid hS
  have HE2 := Lib.hid hE
  have HF0 := Lib.hid hF
  have hp' : (0 : Int) < S.size := by omega
  clear hS hE hF
  go_enter Tryz.func28, Tryz.ntmps28
  go_wp2_with fail
  go_loopw [4, 5] (fun n i wr => ∃ k : Nat, k ≤ S.size ∧ k ≤ 8 ∧ n = .int .i32 (F k) ∧ i = .int .i64 (k : Int) ∧ w = wr) (fun _ i _ => S.size - (intOf i).toNat)
  case atStart => exact ⟨0, by omega, by omega, by rw [HF0.out], rfl, rfl⟩
  case round =>
    obtain ⟨k, hk, hk8, rfl, rfl, rfl⟩ := hrel
    by_cases h1 : k < S.size
    · have h1' : (k : Int) < S.size := by omega
      by_cases h2 : k < 8
      · have h2' : (k : Int) < 8 := by omega
        have HST := Lib.hid (HS2.out k h1)
        clear ht
        generalize F k = x at *
        go_wp2_with fail
        exact ⟨⟨k + 1, by omega, by omega, by rw [HST.out], by go_num, trivial⟩, by simp [intOf]; omega⟩
      · obtain rfl : k = 8 := by omega
        have HX := Lib.hid (HE2.out 8 (Or.inl rfl) (by omega))
        generalize F 8 = x at *
        clear ht
        go_wp2_with fail
        go_ret
        exact ⟨by rw [HX.out]; rfl, rfl⟩
    · obtain rfl : k = S.size := by omega
      have HX := Lib.hid (HE2.out S.size (Or.inr rfl) hk8)
      generalize F S.size = x at *
      clear ht
      go_wp2_with fail
      go_ret
      exact ⟨by rw [HX.out]; rfl, rfl⟩
theorem number_neg (S X : ByteArray) (R : Int) (F : Nat → Int) (hF : F 0 = 0) (hs : S.size ≤ 1048576) (hp : 0 < S.size) (ht : (((S[0]'hp).toNat : Int) == 45) = true) (hX : S.extract 1 S.size = X) (hx : X.size ≤ 1048576)
    (hS : ∀ k (hk : k < X.size), wrap32 (wrap32 (wrap32 (10 * F k) + wrap32 ((X[k]'hk).toNat : Int)) - 48) = F (k + 1)) (hE : ∀ k, k = 8 ∨ k = X.size → k ≤ 8 → F k = R) (w : World) :
    Calls Tryz.prog 28 #[.string S] w fun e w' => e = .returned (.int .i32 (wrap32 (-R))) ∧ w = w' := by
  have HS2 := Lib.hid hS
  have HE2 := Lib.hid hE
  have HF0 := Lib.hid hF
  have hp' : (0 : Int) < S.size := by omega
  clear hS hE hF
  go_enter Tryz.func28, Tryz.ntmps28
  go_wp2_with fail
  go_loopw [4, 5] (fun n i wr => ∃ k : Nat, k ≤ X.size ∧ k ≤ 8 ∧ n = .int .i32 (F k) ∧ i = .int .i64 (k : Int) ∧ w = wr) (fun _ i _ => X.size - (intOf i).toNat)
  case atStart => exact ⟨0, by omega, by omega, by rw [HF0.out], rfl, rfl⟩
  case round =>
    obtain ⟨k, hk, hk8, rfl, rfl, rfl⟩ := hrel
    by_cases h1 : k < X.size
    · have h1' : (k : Int) < X.size := by omega
      by_cases h2 : k < 8
      · have h2' : (k : Int) < 8 := by omega
        have HST := Lib.hid (HS2.out k h1)
        clear ht
        generalize F k = x at *
        go_wp2_with fail
        exact ⟨⟨k + 1, by omega, by omega, by rw [HST.out], by go_num, trivial⟩, by simp [intOf]; omega⟩
      · obtain rfl : k = 8 := by omega
        have HX := Lib.hid (HE2.out 8 (Or.inl rfl) (by omega))
        generalize F 8 = x at *
        clear ht
        go_wp2_with fail
        go_ret
        exact ⟨by rw [HX.out]; rfl, rfl⟩
    · obtain rfl : k = X.size := by omega
      have HX := Lib.hid (HE2.out X.size (Or.inr rfl) hk8)
      generalize F X.size = x at *
      clear ht
      go_wp2_with fail
      go_ret
      exact ⟨by rw [HX.out]; rfl, rfl⟩
theorem number_any (l : List UInt8) (hl : l.length ≤ 1048576) (w : World) : Calls Tryz.prog 28 #[.string (bs l)] w fun e w' => e = .returned (.int .i32 (num l)) ∧ w = w' := by
  have hs : (bs l).size ≤ 1048576 := by rw [bs_size]; exact hl
  by_cases h : l.headD 0 = 45
  · obtain ⟨r, rfl⟩ : ∃ r, l = 45 :: r := by
      cases l with
      | nil => cases h
      | cons c r => exact ⟨r, by simp at h; rw [h]⟩
    obtain ⟨F, h1, h2, h3⟩ := num_facts r
    have hp : 0 < (bs (45 :: r)).size := by rw [bs_size]; simp
    have hX : (bs (45 :: r)).extract 1 (bs (45 :: r)).size = bs r := by
      rw [ex_bs, bs_size]
      simp
    have C := number_neg (bs (45 :: r)) (bs r) _ F h1 hs hp (by rw [headD_byte]; rfl) hX (by rw [bs_size]; simp at hl; omega) h2 h3 w
    rw [wrap_w32] at C
    unfold num
    rw [if_pos h]
    exact C
  · obtain ⟨F, h1, h2, h3⟩ := num_facts l
    unfold num
    rw [if_neg h]
    rcases Nat.eq_zero_or_pos (bs l).size with h0 | h0
    · exact number_none _ _ F h1 h0 h3 w
    · refine number_pos _ _ F h1 hs h0 ?_ h2 h3 w
      rw [headD_byte l h0]
      have : ¬ (l.headD 0).toNat = 45 := fun e => h (by rw [← UInt8.toNat_inj]; exact e)
      simpa using fun e => this (Int.ofNat.inj e)
end Go.Proofs.YtoohfmkhjhcopaaGreatDoor.AF
