/-
  The reference of layer 18: what is where. Nothing here is a statement of the seed.
-/
import Derived.Test.YtigalcmhongleaaGtMath
import Derived.Test.YtigalcmhongleaaNameL
import Derived.Deep.CutRange
import Derived.Deep.MidRow
set_option linter.unusedSimpArgs false
set_option linter.unusedVariables false
namespace Go.Proofs.Ytigalcmhongleaa.GF
open Go.RowKit WM NR OM OR GA
set_option maxHeartbeats 4000000
set_option maxRecDepth 10000
theorem bs_toList' (l : List UInt8) : (bs l).toList = l := by rw [Lib.toList_data]; rfl
theorem bs_inj_iff (a b : List UInt8) : ((bs a).toList == (bs b).toList) = decide (a = b) := by
  rw [bs_toList', bs_toList']
  by_cases h : a = b
  · subst h; simp
  · rw [decide_eq_false h]; simpa using h
section
variable {w : World} {f : Tb}
theorem refPlace_any (m : List UInt8) : Calls Try.prog 30 #[tV f, .string (bs m)] w fun e u => e = .returned (.int .i64 (place f m)) ∧ Below w.heap.size w u := by
  have HZ := Lib.hid (Whole.new w 32 (tC f))
  have HB := Lib.hid (below_new w (.cells (tC f) 32))
  obtain ⟨R, hR⟩ : ∃ R, R = place f m := ⟨_, rfl⟩
  rw [← hR]
  have HR := Lib.hid hR
  clear hR
  obtain ⟨X, hX⟩ : ∃ X, X = bs m := ⟨_, rfl⟩
  rw [← hX]
  have HX := Lib.hid hX
  clear hX
  go_enter Try.func30, Try.ntmps30
  go_upto_region 1 with fail
  generalize w.alloc (.cells (tC f) 32) = W at *
  have z6 := HZ.out.lt
  go_wp2_with fail
  go_loopw [5] (fun i wr => ∃ k : Nat, k ≤ 8 ∧ i = .int .i64 (k : Int) ∧ Hid (∀ j, j < k → hasB f m j = false) ∧ wr = W) (fun i _ => 8 - (intOf i).toNat)
  case atStart => exact ⟨0, by omega, rfl, Lib.hid (fun j hj => by omega), rfl⟩
  case round =>
    obtain ⟨k, hk, rfl, hp, rfl⟩ := hrel
    by_cases hlt : k < 8
    · have hlt' : (k : Int) < 8 := by omega
      obtain ⟨y0, y1, y2⟩ := box_at HZ.out hlt
      have hb : hasB f m k = (decide ((f k).ow ≠ 0) && decide ((f k).nm = m)) := rfl
      have HF := Lib.hid (fun hh => fst8_yes (p := hasB f m) hlt hh hp.out)
      have HN := Lib.hid (fun hh : hasB f m k = false => (fun j (hj : j < k + 1) => if h : j < k then hp.out j h else by rw [show j = k by omega]; exact hh))
      have exy := bs_inj_iff (f k).nm m
      rw [← HX.out] at exy
      generalize (f k).ow = o at *
      generalize (f k).nm = nm at *
      clear hp
      by_cases b1 : o = 0
      · have hp2 := Lib.hid (HN.out (by rw [hb, decide_eq_false (by simpa using b1)]; rfl))
        subst b1
        clear HN HF hb exy
        go_wp2_with fail
        go_roundw
        case rel => exact ⟨k + 1, by omega, by go_num, hp2, by trivial⟩
        case measure => simp [intOf]; omega
      · have b1' : (o != 0) = true := by simpa using b1
        by_cases b2 : nm = m
        · have hh := Lib.hid (show R = (k : Int) by rw [HR.out]; exact HF.out (by rw [hb, decide_eq_true b1, decide_eq_true b2]; rfl))
          rw [decide_eq_true b2] at exy
          clear HN HF hb HR b2
          generalize bs nm = Y at *
          go_wp2_with fail
          go_ret
          exact ⟨ret_int hh.out.symm, HB.out⟩
        · have hp2 := Lib.hid (HN.out (by rw [hb, decide_eq_false b2, Bool.and_false]))
          rw [decide_eq_false b2] at exy
          clear HN HF hb HR b2
          generalize bs nm = Y at *
          go_wp2_with fail
          go_roundw
          case rel => exact ⟨k + 1, by omega, by go_num, hp2, by trivial⟩
          case measure => simp [intOf]; omega
    · obtain rfl : k = 8 := by omega
      have hh := Lib.hid (show R = -1 by rw [HR.out]; exact fst8_no hp.out)
      clear hp HR
      go_wp2_with fail
      go_ret
      exact ⟨ret_int hh.out.symm, HB.out⟩
theorem refOwned_any (o : Int) : Calls Try.prog 31 #[tV f, .int .u16 o] w fun e u => e = .returned (.bool (ownB f o)) ∧ Below w.heap.size w u := by
  have HZ := Lib.hid (Whole.new w 32 (tC f))
  have HB := Lib.hid (below_new w (.cells (tC f) 32))
  obtain ⟨R, hR⟩ : ∃ R, R = ownB f o := ⟨_, rfl⟩
  rw [← hR]
  have HR := Lib.hid hR
  clear hR
  go_enter Try.func31, Try.ntmps31
  go_upto_region 1 with fail
  generalize w.alloc (.cells (tC f) 32) = W at *
  have z6 := HZ.out.lt
  go_wp2_with fail
  go_loopw [5] (fun i wr => ∃ k : Nat, k ≤ 8 ∧ i = .int .i64 (k : Int) ∧ Hid (∀ j, j < k → decide ((f j).ow = o) = false) ∧ wr = W) (fun i _ => 8 - (intOf i).toNat)
  case atStart => exact ⟨0, by omega, rfl, Lib.hid (fun j hj => by omega), rfl⟩
  case round =>
    obtain ⟨k, hk, rfl, hp, rfl⟩ := hrel
    by_cases hlt : k < 8
    · have hlt' : (k : Int) < 8 := by omega
      obtain ⟨y0, y1, y2⟩ := box_at HZ.out hlt
      have HF := Lib.hid (fun hh => fst8_yes (p := fun g => decide ((f g).ow = o)) hlt hh hp.out)
      have HN := Lib.hid (fun hh : decide ((f k).ow = o) = false => (fun j (hj : j < k + 1) => if h : j < k then hp.out j h else by rw [show j = k by omega]; exact hh))
      clear hp
      by_cases b1 : (f k).ow = o
      · have hh := Lib.hid (show R = true by rw [HR.out]; unfold ownB; rw [HF.out (decide_eq_true b1)]; exact decide_eq_true (by omega))
        rw [b1] at y1
        clear HN HF HR b1
        go_wp2_with fail
        go_ret
        exact ⟨ret_bool hh.out.symm, HB.out⟩
      · have hp2 := Lib.hid (HN.out (decide_eq_false b1))
        have b1' : ((f k).ow == o) = false := by simpa using b1
        clear HN HF HR
        generalize (f k).ow = q at *
        go_wp2_with fail
        go_roundw
        case rel => exact ⟨k + 1, by omega, by go_num, hp2, by trivial⟩
        case measure => simp [intOf]; omega
    · obtain rfl : k = 8 := by omega
      have hh := Lib.hid (show R = false by rw [HR.out]; unfold ownB; rw [fst8_no hp.out]; rfl)
      clear hp HR
      go_wp2_with fail
      go_ret
      exact ⟨ret_bool hh.out.symm, HB.out⟩
theorem refFree_any : Calls Try.prog 24 #[tV f] w fun e u => e = .returned (.int .i64 (freeM f)) ∧ Below w.heap.size w u := by
  have HZ := Lib.hid (Whole.new w 32 (tC f))
  have HB := Lib.hid (below_new w (.cells (tC f) 32))
  obtain ⟨R, hR⟩ : ∃ R, R = freeM f := ⟨_, rfl⟩
  rw [← hR]
  have HR := Lib.hid hR
  clear hR
  go_enter Try.func24, Try.ntmps24
  go_upto_region 1 with fail
  generalize w.alloc (.cells (tC f) 32) = W at *
  have z6 := HZ.out.lt
  go_wp2_with fail
  go_loopw [3, 4] (fun v3 i wr => ∃ (k : Nat) (n : Int), k ≤ 8 ∧ i = .int .i64 (k : Int) ∧ v3 = .int .i64 n ∧ Hid (n = freeF f k) ∧ wr = W) (fun _ i _ => 8 - (intOf i).toNat)
  case atStart => exact ⟨0, 0, by omega, rfl, rfl, Lib.hid rfl, rfl⟩
  case round =>
    obtain ⟨k, n, hk, rfl, rfl, hp, rfl⟩ := hrel
    have hbd := free_bd f k
    rw [← hp.out] at hbd
    obtain ⟨n0, n1⟩ := hbd
    by_cases hlt : k < 8
    · have hlt' : (k : Int) < 8 := by omega
      obtain ⟨y0, y1, y2⟩ := box_at HZ.out hlt
      have hs := free_succ f k
      rw [← hp.out] at hs
      clear hp
      by_cases b1 : (f k).ow = 0
      · rw [if_pos b1] at hs
        have hp2 := Lib.hid hs.symm
        rw [b1] at y1
        clear hs b1 HR
        go_wp2_with fail
        go_roundw
        case rel => exact ⟨k + 1, n + 1, by omega, by go_num, by go_num, hp2, by trivial⟩
        case measure => simp [intOf]; omega
      · rw [if_neg b1] at hs
        have hp2 := Lib.hid hs.symm
        have b1' : ((f k).ow == 0) = false := by simpa using b1
        clear hs HR
        generalize (f k).ow = q at *
        go_wp2_with fail
        go_roundw
        case rel => exact ⟨k + 1, n, by omega, by go_num, rfl, hp2, by trivial⟩
        case measure => simp [intOf]; omega
    · obtain rfl : k = 8 := by omega
      have hh := Lib.hid (show R = n by rw [HR.out, hp.out]; rfl)
      clear hp HR
      go_wp2_with fail
      go_ret
      exact ⟨ret_int hh.out.symm, HB.out⟩
end
end Go.Proofs.Ytigalcmhongleaa.GF
