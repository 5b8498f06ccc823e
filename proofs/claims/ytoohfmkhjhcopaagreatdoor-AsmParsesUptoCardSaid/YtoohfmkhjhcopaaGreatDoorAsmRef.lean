/-
  The reference for layer 5: numbers, names, what is printed. Nothing here is a statement of the seed.
-/
import Derived.Test.YtoohfmkhjhcopaaGreatDoorAsmParse
import Derived.Test.YtoohfmkhjhcopaaGreatDoorAsmRow
import Derived.Test.YtoohfmkhjhcopaaGreatDoorIsaEnc
import Derived.BigQuiet
import Derived.Deep.QuietTactic
set_option linter.unusedSimpArgs false
set_option linter.unusedVariables false
namespace Go.Proofs.YtoohfmkhjhcopaaGreatDoor.AF
open Go.RowKit WM IM WF IF AM NR

theorem wrapEq (x : Int) : IntKind.i64.wrap x = wrap64 x := by rw [IntKind.wrap_i64]; unfold wrap64; first | rfl | omega
theorem dig_cut (d : Nat) (h : d < 10) : (⟨#[48, 49, 50, 51, 52, 53, 54, 55, 56, 57]⟩ : ByteArray).extract d (d + 1) = bs [UInt8.ofNat (48 + d)] := by
  have : d = 0 ∨ d = 1 ∨ d = 2 ∨ d = 3 ∨ d = 4 ∨ d = 5 ∨ d = 6 ∨ d = 7 ∨ d = 8 ∨ d = 9 := by omega
  rcases this with rfl | rfl | rfl | rfl | rfl | rfl | rfl | rfl | rfl | rfl <;> rfl
theorem dig_run (i : Int) (h0 : 0 ≤ i) (h1 : i ≤ 9) (u : World) : (Instr.slice 9 (.string ⟨#[48, 49, 50, 51, 52, 53, 54, 55, 56, 57]⟩) (some (.int .i64 i)) (some (.int .i64 (i + 1))) none).run Tryz.prog u = .ok (.string (bs [UInt8.ofNat (48 + i.toNat)])) u := by
  rw [run_slice_string _ _ _ _ _ _ _ Tryz.underlying9 h0 (by omega) (by show i + 1 ≤ 10; omega), show (i + 1).toNat = i.toNat + 1 by omega, dig_cut _ (by omega)]
set_option maxRecDepth 100000 in
theorem told_nat : ∀ (k : Nat), k ≤ 12 → ∀ (z : Int), 0 ≤ z → z.toNat < 10 ^ k → ∀ w : World, Calls Tryz.prog 25 #[.int .i64 z] w fun e w' => e = .returned (.string (bs (Lib.decDigits z.toNat))) ∧ ∃ j, w' = w.drewN j
  | 0, _, z, h0, hn, w => by
    obtain rfl : z = 0 := by simp at hn; omega
    have E := Lib.hid (dig_cut 0 (by omega))
    go_enter Tryz.func25, Tryz.ntmps25
    go_wp2_with fail
    go_ret
    exact ⟨by rw [Lib.decDigits, dif_pos (by decide)]; rfl, 0, rfl⟩
  | k + 1, hk, z, h0, hn, w => by
    have hb : z.toNat < 1000000000000 := Nat.lt_of_lt_of_le hn (Nat.pow_le_pow_right (n := 10) (by omega) hk)
    have hb' : z < 1000000000000 := by omega
    by_cases h : z < 10
    · have S := dig_run z h0 (by omega)
      rw [Lib.decDigits, dif_pos (by omega)]
      generalize bs [UInt8.ofNat (48 + z.toNat)] = D at *
      have h9 : z ≤ 9 := by omega
      clear hn hk hb hb' h
      go_enter Tryz.func25, Tryz.ntmps25
      go_wp2_with fail
      go_ret
      exact ⟨rfl, 0, rfl⟩
    · have E : Hid (bs (Lib.decDigits (z / 10).toNat) ++ bs [UInt8.ofNat (48 + (z % 10).toNat)] = bs (Lib.decDigits z.toNat)) := by
        show _ = _
        rw [app_bs]
        conv => rhs; rw [Lib.decDigits, dif_neg (by omega)]
        rw [show (z / 10).toNat = z.toNat / 10 by omega, show (z % 10).toNat = z.toNat % 10 by omega]
      have S := dig_run (z % 10) (by omega) (by omega)
      have C := Lib.hid (told_nat k (by omega) (z / 10) (by omega) (by rw [Nat.pow_succ] at hn; omega))
      have hz : (bs (Lib.decDigits (z / 10).toNat)).size ≤ 20 := by rw [bs_size]; exact Nat.le_trans (dec_len 12 (z / 10).toNat (by omega) (by omega)) (by omega)
      have hd : (bs [UInt8.ofNat (48 + (z % 10).toNat)]).size ≤ 1 := by rw [bs_size]; simp
      have q1 : IntKind.i64.wrap (z % 10 + 1) = z % 10 + 1 := IntWalk.i64_in _ (by omega)
      have q5 : IntKind.i64.wrap (z.tdiv 10) = z / 10 := by rw [Int.tdiv_eq_ediv_of_nonneg h0]; exact IntWalk.i64_in _ (by omega)
      have q6 : IntKind.i64.wrap (z.tmod 10) = z % 10 := by rw [Int.tmod_eq_emod_of_nonneg h0]; exact IntWalk.i64_in _ (by omega)
      have p1 : wrap64 (z % 10 + 1) = z % 10 + 1 := by rw [← wrapEq]; exact q1
      have p5 : wrap64 (z.tdiv 10) = z / 10 := by rw [← wrapEq]; exact q5
      have p6 : wrap64 (z.tmod 10) = z % 10 := by rw [← wrapEq]; exact q6
      have p7 : wrap64 (z / 10) = z / 10 := by rw [← wrapEq]; exact IntWalk.i64_in _ (by omega)
      have p8 : wrap64 (z % 10) = z % 10 := by rw [← wrapEq]; exact IntWalk.i64_in _ (by omega)
      have q7 : z.tdiv 10 = z / 10 := Int.tdiv_eq_ediv_of_nonneg h0
      have q8 : z.tmod 10 = z % 10 := Int.tmod_eq_emod_of_nonneg h0
      clear hn hk hb
      generalize bs (Lib.decDigits (z / 10).toNat) = X at *
      generalize bs (Lib.decDigits z.toNat) = Y at *
      generalize bs [UInt8.ofNat (48 + (z % 10).toNat)] = D at *
      go_enter Tryz.func25, Tryz.ntmps25
      go_wp2_with fail
      clear hb'
      go_quiet ((go_at_call 25; with_reducible exact Calls.quiet_of (C.out _)))
      clear q1 q5 q6 q7 q8 p1 p5 p6 p7 p8
      go_wp2
      go_ret
      exact ⟨by rw [E.out]; rfl, _, rfl⟩
theorem told_drew (m : Int) (h : -2147483648 ≤ m ∧ m ≤ 2147483647) (w : World) : Calls Tryz.prog 25 #[.int .i64 m] w fun e w' => e = .returned (.string (bs (Lib.itoa m))) ∧ ∃ j, w' = w.drewN j := by
  obtain ⟨h0, h1⟩ := h
  by_cases hm : m < 0
  · have C := Lib.hid (told_nat 12 (by omega) (-m) (by omega) (by simp; omega))
    have E : Hid ((⟨#[45]⟩ : ByteArray) ++ bs (Lib.decDigits (-m).toNat) = bs (Lib.itoa m)) := by
      show _ = _
      rw [show (⟨#[45]⟩ : ByteArray) = bs [45] from rfl, app_bs]
      unfold Lib.itoa
      rw [if_pos hm, show (-m).toNat = m.natAbs by omega]
      rfl
    have hz : (bs (Lib.decDigits (-m).toNat)).size ≤ 20 := by rw [bs_size]; exact Nat.le_trans (dec_len 12 (-m).toNat (by omega) (by omega)) (by omega)
    generalize bs (Lib.decDigits (-m).toNat) = X at *
    generalize bs (Lib.itoa m) = Y at *
    go_enter Tryz.func25, Tryz.ntmps25
    go_wp2_with (go_at_call 25; refine (C.out _).mono ?_; rintro e w' ⟨rfl, n, rfl⟩)
    go_ret
    exact ⟨by rw [E.out]; rfl, _, rfl⟩
  · have := told_nat 12 (by omega) m (by omega) (by simp; omega) w
    rw [show Lib.itoa m = Lib.decDigits m.toNat by unfold Lib.itoa; rw [if_neg hm]]
    exact this
theorem refMnem_far (o : Int) (h : 22 ≤ o) (h1 : o ≤ 255) : Says Tryz.prog 11 #[.int .u8 o] (.string (bs [])) := by
  intro w
  go_enter Tryz.func11, Tryz.ntmps11
  go_wp2_with fail
  go_ret
  exact ⟨rfl, ball (Below.refl _ _)⟩
theorem mn_lit {o : Int} (h : 0 ≤ o ∧ o ≤ 21) : (#[.string ⟨#[104, 97, 108, 116]⟩, .string ⟨#[110, 111, 112]⟩, .string ⟨#[108, 105]⟩, .string ⟨#[97, 100, 100]⟩, .string ⟨#[115, 117, 98]⟩, .string ⟨#[97, 110, 100]⟩, .string ⟨#[111, 114]⟩, .string ⟨#[120, 111, 114]⟩, .string ⟨#[115, 104, 108]⟩, .string ⟨#[115, 104, 114]⟩, .string ⟨#[108, 116]⟩, .string ⟨#[97, 100, 100, 105]⟩, .string ⟨#[108, 100]⟩, .string ⟨#[115, 116]⟩, .string ⟨#[106, 109, 112]⟩, .string ⟨#[98, 101, 113]⟩, .string ⟨#[98, 110, 101]⟩, .string ⟨#[99, 97, 108, 108]⟩, .string ⟨#[114, 101, 116]⟩, .string ⟨#[106, 114]⟩, .string ⟨#[115, 97, 102, 101]⟩, .string ⟨#[101, 110, 116, 101, 114]⟩] : Array Value)[o.toNat]? = some (.string (bs (mn o))) := by
  rcases ops22 h with rfl | rfl | rfl | rfl | rfl | rfl | rfl | rfl | rfl | rfl | rfl | rfl | rfl | rfl | rfl | rfl | rfl | rfl | rfl | rfl | rfl | rfl <;> rfl
set_option maxRecDepth 100000 in
theorem refMnem_near (o : Int) (h : 0 ≤ o ∧ o ≤ 21) : Says Tryz.prog 11 #[.int .u8 o] (.string (bs (mn o))) := by
  intro w
  have C : (w.alloc (.cells #[.string ⟨#[104, 97, 108, 116]⟩, .string ⟨#[110, 111, 112]⟩, .string ⟨#[108, 105]⟩, .string ⟨#[97, 100, 100]⟩, .string ⟨#[115, 117, 98]⟩, .string ⟨#[97, 110, 100]⟩, .string ⟨#[111, 114]⟩, .string ⟨#[120, 111, 114]⟩, .string ⟨#[115, 104, 108]⟩, .string ⟨#[115, 104, 114]⟩, .string ⟨#[108, 116]⟩, .string ⟨#[97, 100, 100, 105]⟩, .string ⟨#[108, 100]⟩, .string ⟨#[115, 116]⟩, .string ⟨#[106, 109, 112]⟩, .string ⟨#[98, 101, 113]⟩, .string ⟨#[98, 110, 101]⟩, .string ⟨#[99, 97, 108, 108]⟩, .string ⟨#[114, 101, 116]⟩, .string ⟨#[106, 114]⟩, .string ⟨#[115, 97, 102, 101]⟩, .string ⟨#[101, 110, 116, 101, 114]⟩] 9)).cell? ⟨w.heap.size, o.toNat, none⟩ = some (.string (bs (mn o))) := by
    rw [(Blk.new w 9 _).cell, mn_lit h]
  obtain ⟨h0, h1⟩ := h
  generalize bs (mn o) = S at *
  go_enter Tryz.func11, Tryz.ntmps11
  go_wp2_with fail
  go_ret
  exact ⟨rfl, ball (Below.refl _ _)⟩
theorem refMnem_any (o : Int) (h : 0 ≤ o ∧ o ≤ 255) : Says Tryz.prog 11 #[.int .u8 o] (.string (bs (mn o))) := by
  by_cases h' : o ≤ 21
  · exact refMnem_near o ⟨h.1, h'⟩
  · rw [mn_far (by omega)]
    exact refMnem_far o (by omega) h.2
end Go.Proofs.YtoohfmkhjhcopaaGreatDoor.AF
