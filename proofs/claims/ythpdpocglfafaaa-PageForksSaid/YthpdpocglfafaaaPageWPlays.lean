/-
  The walk of PagePlays. Nothing here is a statement of the seed.
-/
import Derived.Test.YthpdpocglfafaaaPageAct
set_option linter.unusedSimpArgs false
set_option linter.unusedVariables false
namespace Go.Proofs.Ythpdpocglfafaaa.WK
open Go.RowKit PM PR PF

theorem act_at {w wr : World} {ga off n k : Nat} (h : Hid (∀ i, i < n → ∃ k x m o e : Int, (0 ≤ k ∧ k ≤ 255) ∧ m ≤ 9223372036854775807 ∧ w.cell? ⟨ga, off + i * 5, none⟩ = some (.int .u8 k) ∧ w.cell? ⟨ga, off + i * 5 + 1, none⟩ = some (.int .i64 x) ∧ w.cell? ⟨ga, off + i * 5 + 2, none⟩ = some (.int .i64 m) ∧
      w.cell? ⟨ga, off + i * 5 + 3, none⟩ = some (.int .u16 o) ∧ w.cell? ⟨ga, off + i * 5 + 4, none⟩ = some (.int .u64 e))) (hk : k < n) (hb : Below w.heap.size w wr) (hg : ga < w.heap.size) :
    ∃ q x m o e : Int, (0 ≤ q ∧ q ≤ 255) ∧ m ≤ 9223372036854775807 ∧ wr.cell? ⟨ga, off + k * 5, none⟩ = some (.int .u8 q) ∧ wr.cell? ⟨ga, off + k * 5 + 1, none⟩ = some (.int .i64 x) ∧ wr.cell? ⟨ga, off + k * 5 + 2, none⟩ = some (.int .i64 m) ∧
      wr.cell? ⟨ga, off + k * 5 + 3, none⟩ = some (.int .u16 o) ∧ wr.cell? ⟨ga, off + k * 5 + 4, none⟩ = some (.int .u64 e) := by
  obtain ⟨q, x, m, o, e, h1, h2, h3, h4, h5, h6, h7⟩ := h.out k hk
  have c := fun i => hb.cell (p := ⟨ga, i, none⟩) hg
  exact ⟨q, x, m, o, e, h1, h2, (c _).trans h3, (c _).trans h4, (c _).trans h5, (c _).trans h6, (c _).trans h7⟩
set_option maxHeartbeats 4000000 in
theorem PagePlays_walk (n : Int) (v : Value) (m : Nat) (w : World) (hv : Acts w.heap.size w v m) : Calls Try.prog 3 #[.int .i64 n, v] w fun e w' => e = .returned (.bool true) ∧ Below w.heap.size w w' := by
  obtain ⟨a, cap, rfl, hmc, hcm, hacts⟩ := hv
  unfold maxLen at hcm
  by_cases h100 : 100 < m
  · have h100' : (100 : Int) < m := by omega
    have CA := Lib.hid (awake_any w)
    clear hacts
    go_enter Try.func3, Try.ntmps3
    go_wp2_with (go_at_call 9; (with_reducible refine CA.out.mono ?_); rintro e w1 ⟨rfl, hb⟩)
    go_ret
    exact ⟨rfl, hb⟩
  · have h100' : (m : Int) ≤ 100 := by omega
    have CN := Lib.hid (new_any n w)
    have CM := Lib.hid (fun w => refNew_any n w)
    have hN : (min (max n 0) 256).toNat ≤ 256 := by omega
    generalize (min (max n 0) 256).toNat = N at *
    have HA := Lib.hid hacts
    clear hacts
    go_enter Try.func3, Try.ntmps3
    go_wp2_with fail
    (go_at_call 10; (with_reducible refine CN.out.mono ?_); rintro e w1 ⟨p, g, rfl, hT, hp, hg, hb⟩; have H1 := Lib.hid hT; have B1 := Lib.hid hb; clear hT hb)
    go_wp2_with fail
    (go_at_call 11; (with_reducible refine (CM.out _).mono ?_); rintro e w2 ⟨gr, c, rfl, hR, hg2, hb2⟩; have H2 := Lib.hid (duo_new (J := fun _ => True) trivial hN H1.out hp hg B1.out hR hg2 hb2); have CS := Lib.hid (new_same (.cells #[.slice (some ⟨gr, 0, none⟩) N c] 28) H1.out hR hb2); clear hR hb2)
    go_wp2_with fail
    (go_at_call 12; (with_reducible refine CS.out.mono ?_); rintro e w3 ⟨rfl, hb3⟩; have H3 := Lib.hid (H2.out.belowS hb3); clear hb3)
    go_wp2_with fail
    generalize w2.heap.size = R at *
    clear CN CM H1 B1 H2 CS hg2
    go_loopw [8] (fun i wr => ∃ k : Nat, k ≤ m ∧ i = .int .i64 (k : Int) ∧ Hid (Duo (fun _ => True) w p g R wr)) (fun i _ => m - (intOf i).toNat)
    case atStart => exact ⟨0, by omega, rfl, H3⟩
    case round =>
      obtain ⟨k, hk, rfl, hD⟩ := hrel
      have hbw := hD.out.below
      obtain ⟨l, gr2, c2, e0, f0, hRg, hRl, hgw, h256, hO⟩ := duo_open hD.out
      by_cases hlt : k < m
      · have hlt' : (k : Int) < m := by omega
        have hk0 : (0 : Int) ≤ k := by omega
        rcases HA.out with h0 | ⟨ga, off, rfl, hga, hall⟩
        · omega
        · obtain ⟨q, x, mm, o, ee, hq, hmm, a0, a1, a2, a3, a4⟩ := act_at (Lib.hid hall) hlt hbw hga
          have CD := Lib.hid (duo_do (J := fun _ => True) q x mm o ee hq hmm hO)
          have HALL := Lib.hid hall
          have NEXT := Lib.hid (fun w2 gr' c' D => duo_next (J := fun _ => True) (fun _ _ _ _ => trivial) (w2 := w2) (x := ⟨q, x, mm, o, ee⟩) (gr' := gr') (c' := c') hO D)
          clear hall hq hmm hbw hO
          generalize l.length = ln at *
          go_wp2_with fail
          go_region_with (go_at_call 13; (with_reducible refine CD.out.mono ?_); rintro en w4 ⟨gr3, c3, rfl, hD3, e3, f3⟩)
          all_goals
            have HD5 := Lib.hid (NEXT.out _ _ _ hD3)
            generalize hw5 : w4.setCell ⟨R, 0, none⟩ (.slice (some ⟨gr3, 0, none⟩) (actL l ⟨q, x, mm, o, ee⟩).length c3) = w5 at *
            clear hw5 e3 f3 hD3 CD NEXT e0 f0 a0 a1 a2 a3 a4 hRl
            obtain ⟨l5, gr5, c5, e5, f5, _, _, _, h256', hO5⟩ := duo_open HD5.out
            have CS := Lib.hid (duo_same (J := fun _ => True) hO5)
            clear hO5
            generalize (actL l ⟨q, x, mm, o, ee⟩).length = ln5 at *
            generalize l5.length = ln6 at *
            go_wp2_with (go_at_call 12; (with_reducible refine CS.out.mono ?_); rintro e w6 ⟨rfl, hb6⟩; have H6 := Lib.hid (HD5.out.belowS hb6); clear hb6)
            go_roundw
            case rel => exact ⟨k + 1, by omega, by go_num, H6⟩
            case measure => simp [intOf]; omega
      · obtain rfl : k = m := by omega
        have CA := Lib.hid (awake_any wr)
        clear e0 f0 hO
        go_wp2_with (go_at_call 9; (with_reducible refine CA.out.mono ?_); rintro e w7 ⟨rfl, hb7⟩)
        go_ret
        exact ⟨rfl, hbw.trans (hb7.mono hbw.size)⟩
end Go.Proofs.Ythpdpocglfafaaa.WK
