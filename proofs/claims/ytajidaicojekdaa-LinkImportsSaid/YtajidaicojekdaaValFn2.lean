/-
  Words that can't be code, names that are none, how many things a kind names. Nothing here is a statement of the seed.
-/
import Derived.Test.YtajidaicojekdaaValFn
import Derived.Test.YtajidaicojekdaaNameA
set_option linter.unusedSimpArgs false
set_option linter.unusedVariables false
namespace Go.Proofs.Ytajidaicojekdaa.VR
open Go.RowKit WM NR OM OR VM
set_option maxHeartbeats 4000000
set_option maxRecDepth 10000
theorem isNoName_any (l : List UInt8) (hl : l.length ≤ 9223372036854775807) (w : World) : Calls Try.prog 136 #[.string (bs l)] w fun e w' => e = .returned (.bool (decide (NM.chk l ≠ 0))) ∧ Below w.heap.size w w' := by
  have C := Lib.hid (NF.checkS (bs l) (by rw [bs_size]; exact hl) (NM.chk l) rfl)
  generalize bs l = s at *
  obtain ⟨k, hk⟩ : ∃ k : Int, k = NM.chk l := ⟨_, rfl⟩
  rw [← hk] at C ⊢
  clear hk
  by_cases h : k = 0
  · subst h
    go_enter Try.func136, Try.ntmps136
    go_wp2_with (go_at_call 60; (with_reducible refine (C.out.at _).mono ?_); rintro e w1 ⟨rfl, hb⟩)
    go_ret
    exact ⟨rfl, hb⟩
  · rw [decide_eq_true h]
    go_enter Try.func136, Try.ntmps136
    go_wp2_with (go_at_call 60; (with_reducible refine (C.out.at _).mono ?_); rintro e w1 ⟨rfl, hb⟩)
    go_ret
    exact ⟨ret_bool (by first | rfl | (rw [Bool.eq_iff_iff]; simp [h]; done)), hb⟩
/-- what Decode tells of a word -/
theorem dec_parts (x : Int) (hx : 0 ≤ x ∧ x ≤ 4294967295) : ∃ o d a b m e : Int, IF.Says Try.prog 73 #[.int .u32 x] (.tuple #[IF.insV o d a b m, .int .i64 e]) ∧ o = opW x ∧ m = immW x ∧ (e = 0 ∧ IM.hasB x = true ∨ e = 10 ∧ IM.hasB x = false) := by
  have C := IF.decode_any x hx
  unfold IF.decV at C
  unfold opW immW
  cases h : IM.hasB x
  · rw [h] at C
    exact ⟨0, 0, 0, 0, 0, 10, C, rfl, rfl, Or.inr ⟨rfl, rfl⟩⟩
  · rw [h] at C
    exact ⟨_, _, _, _, _, 0, C, rfl, rfl, Or.inl ⟨rfl, rfl⟩⟩
theorem isForbidden_any (x : Int) (hx : 0 ≤ x ∧ x ≤ 4294967295) (w : World) : Calls Try.prog 110 #[.int .u32 x] w fun e w' => e = .returned (.bool (!IM.hasB x || decide (opW x = 21))) ∧ Below w.heap.size w w' := by
  obtain ⟨o, d, a, b, m, e, C0, ho, _, he⟩ := dec_parts x hx
  have C := Lib.hid C0
  clear C0
  rw [← ho]
  clear ho
  rcases he with ⟨rfl, hh⟩ | ⟨rfl, hh⟩
  all_goals
    rw [hh]
    clear hh
  · by_cases h : o = 21
    · subst h
      go_enter Try.func110, Try.ntmps110
      go_wp2_with (go_at_call 73; (with_reducible refine (C.out.at _).mono ?_); rintro e w1 ⟨rfl, hb⟩)
      go_ret
      exact ⟨rfl, hb.alloc hb.size _⟩
    · rw [decide_eq_false h]
      go_enter Try.func110, Try.ntmps110
      go_wp2_with (go_at_call 73; (with_reducible refine (C.out.at _).mono ?_); rintro e w1 ⟨rfl, hb⟩)
      go_ret
      exact ⟨ret_bool (by first | rfl | (rw [Bool.eq_iff_iff]; simp [h]; done)), hb.alloc hb.size _⟩
  · go_enter Try.func110, Try.ntmps110
    go_wp2_with (go_at_call 73; (with_reducible refine (C.out.at _).mono ?_); rintro e w1 ⟨rfl, hb⟩)
    go_ret
    exact ⟨rfl, hb.alloc hb.size _⟩
theorem isEmpty_any (x p : Int) (hx : 0 ≤ x ∧ x ≤ 4294967295) (w : World) : Calls Try.prog 140 #[.int .u32 x, .int .u8 p] w fun e w' => e = .returned (.bool (decide (opW x = p ∧ immW x = 0))) ∧ Below w.heap.size w w' := by
  obtain ⟨o, d, a, b, m, e, C0, ho, hm, _⟩ := dec_parts x hx
  have C := Lib.hid C0
  clear C0
  rw [← ho, ← hm]
  clear ho hm
  by_cases h : o = p
  · subst h
    have e2 : decide (o = o ∧ m = 0) = decide (m = 0) := by simp
    rw [e2]
    go_enter Try.func140, Try.ntmps140
    go_wp2_with (go_at_call 73; (with_reducible refine (C.out.at _).mono ?_); rintro e w1 ⟨rfl, hb⟩)
    go_ret
    exact ⟨ret_bool (by first | rfl | (rw [Bool.eq_iff_iff]; simp; done)), hb.alloc hb.size _⟩
  · have e2 : decide (o = p ∧ m = 0) = false := decide_eq_false (fun hh => h hh.1)
    rw [e2]
    go_enter Try.func140, Try.ntmps140
    go_wp2_with (go_at_call 73; (with_reducible refine (C.out.at _).mono ?_); rintro e w1 ⟨rfl, hb⟩)
    go_ret
    exact ⟨ret_bool (by first | rfl | (rw [Bool.eq_iff_iff]; simp [h]; done)), hb.alloc hb.size _⟩
/-- is a word as its kind asks? -/
def openB (k x : Int) : Bool := if k = 0 ∨ k = 7 then decide (opW x = 17 ∧ immW x = 0) else if k = 1 ∨ k = 2 ∨ k = 3 then decide (opW x = 2 ∧ immW x = 0) else decide (x = 0)
theorem isOpen_any (k x : Int) (hx : 0 ≤ x ∧ x ≤ 4294967295) (w : World) : Calls Try.prog 113 #[.int .u8 k, .int .u32 x] w fun e w' => e = .returned (.bool (openB k x)) ∧ Below w.heap.size w w' := by
  have C := Lib.hid (fun p u => isEmpty_any x p hx u)
  clear hx
  by_cases h0 : k = 0 ∨ k = 7
  · have e : openB k x = decide (opW x = 17 ∧ immW x = 0) := by unfold openB; rw [if_pos h0]
    rw [e]
    have D := Lib.hid (fun u => C.out 17 u)
    clear e C
    generalize decide (opW x = 17 ∧ immW x = 0) = r at *
    rcases h0 with rfl | rfl
    all_goals
      go_enter Try.func113, Try.ntmps113
      go_wp2_with (go_at_call 140; (with_reducible refine (D.out _).mono ?_); rintro e w1 ⟨rfl, hb⟩)
      go_ret
      exact ⟨rfl, hb⟩
  by_cases h1 : k = 1 ∨ k = 2 ∨ k = 3
  · have e : openB k x = decide (opW x = 2 ∧ immW x = 0) := by unfold openB; rw [if_neg h0, if_pos h1]
    rw [e]
    have D := Lib.hid (fun u => C.out 2 u)
    clear e C
    generalize decide (opW x = 2 ∧ immW x = 0) = r at *
    rcases h1 with rfl | rfl | rfl
    all_goals
      clear h0
      go_enter Try.func113, Try.ntmps113
      go_wp2_with (go_at_call 140; (with_reducible refine (D.out _).mono ?_); rintro e w1 ⟨rfl, hb⟩)
      go_ret
      exact ⟨rfl, hb⟩
  have e : openB k x = decide (x = 0) := by unfold openB; rw [if_neg h0, if_neg h1]
  rw [e]
  clear e C
  have a0 : k ≠ 0 := by omega
  have a1 : k ≠ 1 := by omega
  have a2 : k ≠ 2 := by omega
  have a3 : k ≠ 3 := by omega
  have a7 : k ≠ 7 := by omega
  clear h0 h1
  go_enter Try.func113, Try.ntmps113
  go_wp2_with fail
  go_ret
  exact ⟨ret_bool (by first | rfl | (rw [Bool.eq_iff_iff]; simp; done)), Below.refl _ _⟩
theorem choices_any {w : World} {x : ByteArray} {ea : Option Addr} {en ec : Nat} {ia : Option Addr} {im ic : Nat} {ca : Option Addr} {cn cc : Nat} {da : Option Addr} {dn dc : Nat} {ra : Option Addr} {rn rc : Nat} (k : Int) :
    Calls Try.prog 116 #[mV x ea en ec ia im ic ca cn cc da dn dc ra rn rc, .int .u8 k] w fun e w' => e = .returned (.int .i64 (if k = 0 ∨ k = 1 ∨ k = 4 then (im : Int) else if k = 2 ∨ k = 5 then (dn : Int) else (cn : Int))) ∧ Below w.heap.size w w' := by
  have HB := Lib.hid (below_new w (.cells (mCs x ea en ec ia im ic ca cn cc da dn dc ra rn rc) 45))
  by_cases h0 : k = 0 ∨ k = 1 ∨ k = 4
  · rw [if_pos h0]
    rcases h0 with rfl | rfl | rfl
    all_goals
      go_enter Try.func116, Try.ntmps116
      go_wp2_with fail
      go_ret
      exact ⟨rfl, HB.out⟩
  rw [if_neg h0]
  by_cases h1 : k = 2 ∨ k = 5
  · rw [if_pos h1]
    clear h0
    rcases h1 with rfl | rfl
    all_goals
      go_enter Try.func116, Try.ntmps116
      go_wp2_with fail
      go_ret
      exact ⟨rfl, HB.out⟩
  rw [if_neg h1]
  have a0 : k ≠ 0 := by omega
  have a1 : k ≠ 1 := by omega
  have a2 : k ≠ 2 := by omega
  have a4 : k ≠ 4 := by omega
  have a5 : k ≠ 5 := by omega
  clear h0 h1
  go_enter Try.func116, Try.ntmps116
  go_wp2_with fail
  go_ret
  exact ⟨rfl, HB.out⟩
end Go.Proofs.Ytajidaicojekdaa.VR
