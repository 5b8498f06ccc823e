/-
  The law of sizes, walked.
-/
import Derived.Test.YtjmmkebnebhfoaaWireAwake
set_option linter.unusedSimpArgs false
set_option linter.unusedVariables false
namespace Go.Proofs.Ytjmmkebnebhfoaa.WK
open Go.RowKit WM NR

theorem len_start (n : Nat) : 1 + (if n / 128 = 0 then 0 else (varL (n / 128)).length) = (varL n).length := by
  by_cases h : n < 128
  · rw [if_pos (by omega), varL_low n h]; rfl
  · rw [if_neg (by omega), varL_high n (by omega), List.length_cons]; omega
theorem len_step (m : Nat) (h : 0 < m) : (varL m).length = 1 + (if m / 128 = 0 then 0 else (varL (m / 128)).length) := (len_start m).symm
set_option maxHeartbeats 400000 in
theorem WireSizes_walk (x : Int) (h : 0 ≤ x ∧ x ≤ 4294967295) (w : World) :
    Calls Try.prog 8 #[.int .u32 x] w fun e w' => e = .returned (.bool true) ∧ Below w.heap.size w w' := by
  obtain ⟨n, rfl⟩ := Int.eq_ofNat_of_zero_le h.1
  have CV := Lib.hid (fun u => var_any n u (by omega))
  have L5 := varL_five n (by omega)
  have LS := Lib.hid (len_start n)
  have hn : (n : Int) ≤ 4294967295 := by omega
  have hn0 : (0 : Int) ≤ n := by omega
  clear h
  generalize hnz : (n : Int) = nz at *
  have HNZ := Lib.hid hnz
  clear hnz
  go_enter Try.func8, Try.ntmps8
  go_wp2_with fail
  refine (CV.out w).mono ?_
  rintro e w1 ⟨v, rfl, hown, hb1⟩
  obtain ⟨g, cap, rfl, hcells, hg, hgl⟩ := owns_parts hown (by have := varL_ne n; intro h; exact this (by simpa [u8s] using h))
  have HCELL : Hid (∀ i, i < (varL n).length → ∃ y : UInt8, w1.cell? ⟨g, i, none⟩ = some (.int .u8 (y.toNat : Int)) ∧ (128 ≤ y.toNat ↔ i + 1 < (varL n).length)) := fun i hi => by
    have := hcells i _ (u8s_at (varL n) i hi)
    rw [Addr.add_lit, Nat.zero_add] at this
    exact ⟨_, this, varL_at n i hi⟩
  have HB1 := Lib.hid hb1
  have hL1 := varL_pos n
  clear hown hcells hg hgl CV hb1
  generalize hLn : (varL n).length = L at *
  have HLN := Lib.hid hLn
  clear hLn
  go_wp2_with fail
  go_loop [4, 5] (fun s k => ∃ (m sz : Nat), s = .int .i64 (sz : Int) ∧ k = .int .u32 (m : Int) ∧ (m : Int) ≤ 4294967295 ∧ (sz : Int) ≤ 9 ∧ Hid (sz + (if m = 0 then 0 else (varL m).length) = L)) (fun _ k => (intOf k).toNat)
  case atStart => exact ⟨n / 128, 1, by go_num, by have := HNZ.out; go_num, by have := HNZ.out; omega, by omega, LS.out⟩
  case round =>
    obtain ⟨m, sz, rfl, rfl, hm, hsz, HS⟩ := hrel
    by_cases hm0 : 0 < m
    · have hm0' : (0 : Int) < m := by omega
      have E : Hid (sz + 1 + (if m / 128 = 0 then 0 else (varL (m / 128)).length) = L) := by
        show _ = _
        have := HS.out
        rw [if_neg (by omega), len_step m hm0] at this
        omega
      have hs9 : (sz : Int) + 1 ≤ 9 := by have := E.out; omega
      go_wp2_with fail
      go_roundw
      case rel => exact ⟨m / 128, sz + 1, by go_num, by go_num, by omega, by omega, E.out⟩
      case measure => simp [intOf]; omega
    · have hm0' : ¬ (0 : Int) < m := by omega
      have hszL : sz = L := by
        have := HS.out
        rw [if_pos (by omega)] at this
        omega
      subst hszL
      clear HS
      go_wp2_with fail
      go_loop [6] (fun i => ∃ k : Nat, k ≤ sz ∧ i = .int .i64 (k : Int)) (fun i => sz - (intOf i).toNat)
      case atStart => exact ⟨0, by omega, rfl⟩
      case round =>
        obtain ⟨k, hk, rfl⟩ := hrel
        by_cases hlt : k < sz
        · have hlt' : (k : Int) < sz := by omega
          obtain ⟨y, hck, hat⟩ := HCELL.out k hlt
          by_cases hy : 128 ≤ y.toNat
          · have h1 : decide ((128 : Int) ≤ (y.toNat : Int)) = true := by simp; omega
            have h2 : decide ((k : Int) < (sz : Int) - 1) = true := by have := hat.1 hy; simp; omega
            have h3 : (128 : Int) ≤ (y.toNat : Int) := by omega
            have h4 : (k : Int) < (sz : Int) - 1 := by have := hat.1 hy; omega
            clear hat hy
            go_wp2_with fail
            go_roundw
            case rel => exact ⟨k + 1, by omega, by go_num⟩
            case measure => simp [intOf]; omega
          · have hk1 : ¬ (k + 1 < sz) := fun hh => hy (hat.2 hh)
            have h1 : decide ((128 : Int) ≤ (y.toNat : Int)) = false := by simp; omega
            have h2 : decide ((k : Int) < (sz : Int) - 1) = false := by simp; omega
            clear hat hy hk1
            go_wp2_with fail
            go_roundw
            case rel => exact ⟨k + 1, by omega, by go_num⟩
            case measure => simp [intOf]; omega
        · have hkn : ¬ (k : Int) < sz := by omega
          have AW := Lib.hid (awakeS w1)
          go_wp2_with (go_at_call 17; refine AW.out.mono ?_; rintro e w2 ⟨rfl, hb2⟩)
          go_ret
          exact ⟨rfl, below_of HB1.out hb2⟩
end Go.Proofs.Ytjmmkebnebhfoaa.WK
