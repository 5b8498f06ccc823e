/-
  Do both have the same words? Nothing here is a statement of the seed.
-/
import Derived.Test.YtihcellcdkhadaaGreatHartDuo
import Derived.Deep.RegionHeld3
import Derived.Deep.CutRange
set_option linter.unusedSimpArgs false
set_option linter.unusedVariables false
namespace Go.Proofs.YtihcellcdkhadaaGreat.HF
open Go.RowKit PM PR PF MM MR MF HM HR

set_option maxHeartbeats 4000000 in
set_option maxRecDepth 10000 in
theorem same_any {w : World} {p t g gwp gr c gw d : Nat} {M : Mm} (h : Pm w p t g gwp M) (r : Rm w gr c gw d M) :
    Calls Tryz.prog 11 #[.pointer (some ⟨p, 0, none⟩), rV M.gt gr M.pg.length c gw M.ws.length d] w fun e w' => e = .returned (.bool true) ∧ Below w.heap.size w w' := by
  have ok := h.ok
  have h256 := ok.p256
  have h16 := ok.w16
  have hm : M.ws.length ≤ 4096 := by omega
  have hb0 := below_new w (.cells (rCs M.gt gr M.pg.length c gw M.ws.length d) 36)
  have B1 := Whole.new w 36 (rCs M.gt gr M.pg.length c gw M.ws.length d)
  have H0 := h.belowS hb0
  have R0 := r.belowS hb0
  have P1 := Lib.hid (fun u hb a ha => peek_any (H0.belowS (w' := u) hb) a ha)
  have P2 := Lib.hid (fun u hb a ha => refPeek_any (R0.belowS (w' := u) hb) ok a ha)
  have S1 := Lib.hid (fun u hb => size_any (H0.belowS (w' := u) hb))
  have S2 := Lib.hid (refSize_any M.gt gr M.pg.length c gw M.ws.length d hm)
  clear h r H0 R0 ok h16
  generalize peek M = pk at *
  generalize M.pg.length = n at *
  generalize M.ws.length = m at *
  generalize M.gt = G at *
  have hm1 : (m : Int) ≤ 4096 := by omega
  have hm0 : (0 : Int) ≤ m := by omega
  have HW0 : Hid (w.heap.size < (w.alloc (.cells (rCs G gr n c gw m d) 36)).heap.size) := Lib.hid B1.lt
  go_enter Tryz.func11, Tryz.ntmps11
  go_wp2_with fail
  generalize w.alloc (.cells (rCs G gr n c gw m d) 36) = W at *
  have K0 : RT w.heap.size G gr n c gw m d W := box_cells B1
  have HW := HW0.out
  go_loopw [5] (fun i wr => ∃ k : Nat, k ≤ 80 + m ∧ i = .int .i64 (k : Int) ∧ Below W.heap.size W wr) (fun i _ => 80 + m - (intOf i).toNat)
  case atStart => exact ⟨0, by omega, rfl, Below.refl _ _⟩
  case round =>
    obtain ⟨k, hk, rfl, hbk⟩ := hrel
    have hk0 : (0 : Int) ≤ k := by omega
    have Kr := rt_go K0 HW hbk
    obtain ⟨c0, c1, c2, c3, c4, c5, c6, c7, c8, c9⟩ := Kr
    by_cases hlt : k < 80 + m
    · have hlt' : (k : Int) < 80 + m := by omega
      have hw1 : IntKind.u32.wrap (k : Int) = k := by rw [IntKind.wrap_u32]; omega
      have P1k := Lib.hid (fun u hb => P1.out u hb (k : Int) (by omega))
      have P2k := Lib.hid (fun u hb => P2.out u hb (k : Int) (by omega))
      generalize pk (k : Int) = y at *
      go_upto_region 4 with (go_at_call 44; (with_reducible refine (S2.out.at _).mono ?_); rintro e w5 ⟨rfl, hb5⟩; have hB5 := below_of hbk hb5)
      have K5 := rt_go K0 HW hB5
      have K5d : RT w.heap.size G gr n c gw m d w5.drew := K5
      have hB5d := hB5.drew
      clear c0 c1 c2 c3 c4 c5 c6 c7 c8 c9
      go_region_held3 (fun u => RT w.heap.size G gr n c gw m d u)
        (first | with_reducible exact K5d | with_reducible exact K6 | with_reducible exact K7)
        (first | (go_at_call 45; (with_reducible refine (P1k.out _ hB5d).mono ?_); rintro e w6 ⟨rfl, hb6⟩; have hB6 := below_of hB5d hb6; have K6 := rt_go K0 HW hB6) | (go_at_call 46; (with_reducible refine (P2k.out _ hB6).mono ?_); rintro e w7 ⟨rfl, hb7⟩; have hB7 := below_of hB6 hb7; have K7 := rt_go K0 HW hB7))
      rename_i hHeld
      clear hHeld
      go_wp2_with fail
      go_roundw
      case rel => exact ⟨k + 1, by omega, by go_num, hB7⟩
      case measure => simp [intOf]; omega
    · obtain rfl : k = 80 + m := by omega
      go_upto_region 6 with (go_at_call 44; (with_reducible refine (S2.out.at _).mono ?_); rintro e w5 ⟨rfl, hb5⟩; have hB5 := below_of hbk hb5)
      have K5 := rt_go K0 HW hB5
      have K5d : RT w.heap.size G gr n c gw m d w5.drew := K5
      have hB5d := hB5.drew
      clear c0 c1 c2 c3 c4 c5 c6 c7 c8 c9
      go_region_held3 (fun u => RT w.heap.size G gr n c gw m d u)
        (first | with_reducible exact K5d | with_reducible exact K6)
        (first | (go_at_call 47; (with_reducible refine (S1.out _ hB5d).mono ?_); rintro e w6 ⟨rfl, rfl⟩) | (go_at_call 44; (with_reducible refine (S2.out.at _).mono ?_); rintro e w7 ⟨rfl, hb7⟩; have hB7 := below_of hB5d hb7; have K6 := rt_go K0 HW hB7))
      rename_i hHeld
      clear hHeld
      go_wp2_with fail
      go_ret
      exact ⟨rfl, hb0.trans (hB7.mono hb0.size)⟩
end Go.Proofs.YtihcellcdkhadaaGreat.HF
