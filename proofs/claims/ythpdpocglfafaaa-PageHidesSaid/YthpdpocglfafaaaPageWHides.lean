/-
  The walk of PageHides. Nothing here is a statement of the seed.
-/
import Derived.Test.YthpdpocglfafaaaPageWPlays
import Derived.Test.YthpdpocglfafaaaPageMath3
set_option linter.unusedSimpArgs false
set_option linter.unusedVariables false
namespace Go.Proofs.Ythpdpocglfafaaa.WK
open Go.RowKit PM PR PF

/-- what is asked of a page that is like the others -/
theorem hides_of {q : Pg} (h : Fine q) (e : Int) :
    ((q.st = 0 ∨ q.st = 1) ∧ seenB q e = false ∧ runsB q e = false ∧ (∀ j, writesB q e j = false)) ∨
    ((q.st == 0) = false ∧ (q.st == 1) = false ∧ (runsB q e = true → q.wr = false ∧ seenB q e = true) ∧ (∀ j, writesB q e j = true → q.ow = j ∧ runsB q e = false)) := by
  rcases h with ⟨h, _⟩ | ⟨h, _, _⟩ | ⟨h, _, hw⟩
  · refine Or.inl ⟨Or.inl h, ?_, ?_, fun j => ?_⟩ <;> simp [writesB, runsB, seenB, h]
  · refine Or.inl ⟨Or.inr h, ?_, ?_, fun j => ?_⟩ <;> simp [writesB, runsB, seenB, h]
  · refine Or.inr ⟨by simp; omega, by simp; omega, fun hr => ?_, fun j hj => ?_⟩
    · have hr' := hr
      unfold runsB at hr'
      rw [Bool.and_eq_true] at hr'
      exact ⟨by rw [hw, hr'.2]; rfl, hr'.1⟩
    · unfold writesB at hj
      simp only [Bool.and_eq_true, decide_eq_true_eq] at hj
      obtain ⟨⟨⟨h1, h2⟩, h3⟩, h4⟩ := hj
      refine ⟨h3, ?_⟩
      unfold runsB
      rw [hw] at h2
      rw [h1]
      cases hx : q.ex
      · rfl
      · rw [hx] at h2; cases h2
set_option maxRecDepth 100000 in
set_option maxHeartbeats 8000000 in
theorem PageHides_walk (n : Int) (hn0 : 0 ≤ n ∧ n ≤ 255) (v : Value) (m : Nat) (epoch : Int) (w : World) (hv : Acts w.heap.size w v m) : Calls Try.prog 6 #[.int .u8 n, v, .int .u64 epoch] w fun e w' => e = .returned (.bool true) ∧ Below w.heap.size w w' := by
  obtain ⟨a, cap, rfl, hmc, hcm, hacts⟩ := hv
  unfold maxLen at hcm
  by_cases h100 : 60 < m
  · have h100' : (60 : Int) < m := by omega
    have CA := Lib.hid (awake_any w)
    clear hacts
    go_enter Try.func6, Try.ntmps6
    go_wp2_with (go_at_call 9; (with_reducible refine CA.out.mono ?_); rintro e w1 ⟨rfl, hb⟩)
    go_ret
    exact ⟨rfl, hb⟩
  · have h100' : (m : Int) ≤ 60 := by omega
    have CN := Lib.hid (new_any n w)
    have CM := Lib.hid (fun w => refNew_any n w)
    have hN : (min (max n 0) 256).toNat ≤ 256 := by omega
    generalize (min (max n 0) 256).toNat = N at *
    have HA := Lib.hid hacts
    clear hacts
    go_enter Try.func6, Try.ntmps6
    go_wp2_with fail
    (go_at_call 10; (with_reducible refine CN.out.mono ?_); rintro e w1 ⟨p, g, rfl, hT, hp, hg, hb⟩; have H1 := Lib.hid hT; have B1 := Lib.hid hb; clear hT hb)
    go_wp2_with fail
    (go_at_call 11; (with_reducible refine (CM.out _).mono ?_); rintro e w2 ⟨gr, c, rfl, hR, hg2, hb2⟩; have H2 := Lib.hid (duo_new (J := (fun _ => True)) trivial hN H1.out hp hg B1.out hR hg2 hb2); clear hR hb2)
    go_wp2_with fail
    generalize w2.heap.size = R at *
    generalize w2.alloc (.cells #[.slice (some ⟨gr, 0, none⟩) N c] 28) = w3 at *
    clear CN CM H1 B1 hg2
    go_loopw [9] (fun i wr => ∃ k : Nat, k ≤ m ∧ i = .int .i64 (k : Int) ∧ Hid (Duo (fun _ => True) w p g R wr)) (fun i _ => m - (intOf i).toNat)
    case atStart => exact ⟨0, by omega, rfl, H2⟩
    case round =>
      obtain ⟨k, hk, rfl, hD⟩ := hrel
      have hbw := hD.out.below
      by_cases hlt : k < m
      · obtain ⟨l, gr2, c2, e0, f0, hRg, hRl, hgw, h256, hO⟩ := duo_open hD.out
        have hlt' : (k : Int) < m := by omega
        have hk0 : (0 : Int) ≤ k := by omega
        rcases HA.out with h0 | ⟨ga, off, rfl, hga, hall⟩
        · omega
        · obtain ⟨q, x, mm, o, ee, hq, hmm, a0, a1, a2, a3, a4⟩ := act_at (Lib.hid hall) hlt hbw hga
          have CD := Lib.hid (duo_do (J := (fun _ => True)) q x mm o ee hq hmm hO)
          have HALL := Lib.hid hall
          have NEXT := Lib.hid (fun w2 gr' c' D => duo_next (J := (fun _ => True)) (fun _ _ _ _ => trivial) (w2 := w2) (x := ⟨q, x, mm, o, ee⟩) (gr' := gr') (c' := c') hO D)
          clear hall hq hmm hbw hO
          generalize l.length = ln at *
          go_wp2_with fail
          go_region_with (go_at_call 13; (with_reducible refine CD.out.mono ?_); rintro en w4 ⟨gr3, c3, rfl, hD3, e3, f3⟩)
          all_goals
            have HD5 := Lib.hid (NEXT.out _ _ _ hD3)
            generalize hw5 : w4.setCell ⟨R, 0, none⟩ (.slice (some ⟨gr3, 0, none⟩) (actL l ⟨q, x, mm, o, ee⟩).length c3) = w5 at *
            clear hw5 e3 f3 hD3 CD NEXT e0 f0 a0 a1 a2 a3 a4 hRl
            generalize (actL l ⟨q, x, mm, o, ee⟩).length = ln5 at *
            go_wp2_with fail
            go_roundw
            case rel => exact ⟨k + 1, by omega, by go_num, HD5⟩
            case measure => simp [intOf]; omega
      · obtain rfl : k = m := by omega
        obtain ⟨l, gr2, c2, -, hF, hT, -, -, -, -, -, -, -, -, -⟩ := hD.out
        have HF := Lib.hid hF
        have HT := Lib.hid hT
        have h256 := hT.1
        clear hF hT hD
        generalize hln : l.length = ln at *
        have HLN := Lib.hid hln
        clear hln
        go_wp2_with fail
        go_loopw [10] (fun i wr => ∃ k : Nat, k ≤ ln ∧ i = .int .i64 (k : Int) ∧ Hid (Tb wr p g l) ∧ Below w.heap.size w wr) (fun i _ => ln - (intOf i).toNat)
        case atStart => exact ⟨0, by omega, rfl, HT, hbw⟩
        case round =>
          obtain ⟨k, hk, rfl, hT, hb⟩ := hrel
          have CL := Lib.hid (len_tb hT.out)
          rw [HLN.out] at CL
          by_cases hlt : k < ln
          · have hlt' : (k : Int) < ln := by omega
            have hk0 : (0 : Int) ≤ k := by omega
            have CG := Lib.hid (get_tb hT.out (k : Int))
            rw [show gP l (k : Int) = l.getD k zero by unfold gP; rw [if_neg (by omega)]; rfl] at CG
            have hfine := HF.out k (by rw [HLN.out]; exact hlt)
            generalize l.getD k zero = q at *
            have K1 := Lib.hid (reads_any q epoch)
            have K2 := Lib.hid (runs_any q epoch)
            have K3 := Lib.hid (fun j => writes_any q epoch j)
            have F := hides_of hfine epoch
            have HFF := Lib.hid F
            clear F hfine
            obtain ⟨st, ex, wr', ow, ep⟩ := q
            change Hid (Says _ _ #[pgV st ex wr' ow ep, _] _) at K1 K2
            change Hid (∀ j, Says _ _ #[pgV st ex wr' ow ep, _, _] _) at K3
            change Hid (Calls _ _ _ wr fun e w' => e = .returned (pgV st ex wr' ow ep) ∧ _) at CG
            go_wp2_with fail
            (go_at_call 21; (with_reducible refine CL.out.mono ?_); rintro e w4 ⟨rfl, rfl⟩)
            go_wp2_with fail
            (go_at_call 22; (with_reducible refine CG.out.mono ?_); rintro e w5 ⟨rfl, hb5⟩; have HT5 := Lib.hid (hT.out.belowS hb5))
            go_wp2_with fail
            have hB5 := Whole.new w5 40 #[.int .u8 st, .bool ex, .bool wr', .int .u16 ow, .int .u64 ep]
            have h55 := below_new w5 (.cells #[.int .u8 st, .bool ex, .bool wr', .int .u16 ow, .int .u64 ep] 40)
            have HT6 := Lib.hid (HT5.out.belowS h55)
            have hb6 : Below w.heap.size w (w5.alloc (.cells #[.int .u8 st, .bool ex, .bool wr', .int .u16 ow, .int .u64 ep] 40)) := (hb.trans (hb5.mono hb.size)).trans (h55.mono (Nat.le_trans hb.size hb5.size))
            have HB6 := Lib.hid hb6
            clear h55 hb5 CG hb6
            generalize w5.alloc (.cells #[.int .u8 st, .bool ex, .bool wr', .int .u16 ow, .int .u64 ep] 40) = W5 at *
            generalize w5.heap.size = P at *
            have KK : Hid (∀ u, Below W5.heap.size W5 u → u.cell? ⟨P, 0, none⟩ = some (.int .u8 st) ∧ u.cell? ⟨P, 1, none⟩ = some (.bool ex) ∧ u.cell? ⟨P, 2, none⟩ = some (.bool wr') ∧ u.cell? ⟨P, 3, none⟩ = some (.int .u16 ow) ∧ u.cell? ⟨P, 4, none⟩ = some (.int .u64 ep)) :=
              Lib.hid (fun u hu => ⟨(hB5.belowS hu).cell 0, (hB5.belowS hu).cell 1, (hB5.belowS hu).cell 2, (hB5.belowS hu).cell 3, (hB5.belowS hu).cell 4⟩)
            have HWR : Hid (∀ j, writesB ⟨st, ex, wr', ow, ep⟩ epoch j = true → ow = j ∧ runsB ⟨st, ex, wr', ow, ep⟩ epoch = false) := Lib.hid (fun j hj => by
              rcases HFF.out with ⟨_, _, _, h⟩ | ⟨_, _, _, h⟩
              · rw [h j] at hj; cases hj
              · exact h j hj)
            clear hB5
            go_loopw [12] (fun o wr => ∃ j : Int, 0 ≤ j ∧ j ≤ 6 ∧ o = .int .u16 j ∧ Below W5.heap.size W5 wr) (fun o _ => (6 - intOf o).toNat)
            case atStart => exact ⟨0, by omega, by omega, rfl, Below.refl _ _⟩
            case round =>
              obtain ⟨j, hj0, hj6, rfl, hb⟩ := hrel
              obtain ⟨c0, c1, c2, c3, c4⟩ := KK.out _ hb
              by_cases hj : j < 6
              · have KW := Lib.hid (K3.out j)
                cases hw : writesB ⟨st, ex, wr', ow, ep⟩ epoch j
                · rw [hw] at KW
                  clear hw
                  go_wp2_with (go_at_call 18; (with_reducible refine (inw KW.out W5 _ hb).mono ?_); rintro e wx ⟨rfl, hb⟩; obtain ⟨c0, c1, c2, c3, c4⟩ := KK.out _ hb)
                  go_roundw
                  case rel => exact ⟨j + 1, by omega, by omega, rfl, hb⟩
                  case measure => simp [intOf]; omega
                · rw [hw] at KW
                  obtain ⟨how, hrf⟩ := HWR.out j hw
                  have KR := Lib.hid K2.out
                  rw [hrf] at KR
                  have h1 : (ow == j) = true := by simpa using how
                  have h2 : (ow != j) = false := by simpa using how
                  clear hw how hrf
                  go_wp2_with fail
                  (go_at_call 18; (with_reducible refine (inw KW.out W5 _ hb).mono ?_); rintro e wx ⟨rfl, hb⟩; obtain ⟨c0, c1, c2, c3, c4⟩ := KK.out _ hb)
                  go_wp2_with fail
                  (go_at_call 16; (with_reducible refine (inw KR.out W5 _ hb).mono ?_); rintro e wy ⟨rfl, hb⟩; obtain ⟨c0, c1, c2, c3, c4⟩ := KK.out _ hb)
                  go_wp2_with fail
                  go_roundw
                  case rel => exact ⟨j + 1, by omega, by omega, rfl, hb⟩
                  case measure => simp [intOf]; omega
              · obtain rfl : j = 6 := by omega
                have KS := Lib.hid K1.out
                have KR := Lib.hid K2.out
                have HF9 := HFF.out
                clear K1 K2 K3
                rcases HF9 with ⟨hs, hS, hR, -⟩ | ⟨h0, h1, hRb, -⟩
                · rw [hS] at KS
                  rw [hR] at KR
                  clear hS hR
                  rcases hs with hs | hs
                  · replace hs : st = 0 := hs
                    subst hs
                    go_wp2_with (first | (go_at_call 14; (with_reducible refine (inw KS.out W5 _ hb).mono ?_); rintro e wx ⟨rfl, hb⟩; obtain ⟨c0, c1, c2, c3, c4⟩ := KK.out _ hb) | (go_at_call 16; (with_reducible refine (inw KR.out W5 _ hb).mono ?_); rintro e wy ⟨rfl, hb⟩; obtain ⟨c0, c1, c2, c3, c4⟩ := KK.out _ hb))
                    go_roundw
                    case rel => exact ⟨k + 1, by omega, by go_num, Lib.hid (HT6.out.belowS hb), HB6.out.trans (hb.mono HB6.out.size)⟩
                    case measure => simp [intOf]; omega
                  · replace hs : st = 1 := hs
                    subst hs
                    go_wp2_with (first | (go_at_call 14; (with_reducible refine (inw KS.out W5 _ hb).mono ?_); rintro e wx ⟨rfl, hb⟩; obtain ⟨c0, c1, c2, c3, c4⟩ := KK.out _ hb) | (go_at_call 16; (with_reducible refine (inw KR.out W5 _ hb).mono ?_); rintro e wy ⟨rfl, hb⟩; obtain ⟨c0, c1, c2, c3, c4⟩ := KK.out _ hb))
                    go_roundw
                    case rel => exact ⟨k + 1, by omega, by go_num, Lib.hid (HT6.out.belowS hb), HB6.out.trans (hb.mono HB6.out.size)⟩
                    case measure => simp [intOf]; omega
                · replace h0 : (st == 0) = false := h0
                  replace h1 : (st == 1) = false := h1
                  cases hr : runsB ⟨st, ex, wr', ow, ep⟩ epoch
                  · rw [hr] at KR
                    clear hr hRb
                    go_wp2_with (first | (go_at_call 14; (with_reducible refine (inw KS.out W5 _ hb).mono ?_); rintro e wx ⟨rfl, hb⟩; obtain ⟨c0, c1, c2, c3, c4⟩ := KK.out _ hb) | (go_at_call 16; (with_reducible refine (inw KR.out W5 _ hb).mono ?_); rintro e wy ⟨rfl, hb⟩; obtain ⟨c0, c1, c2, c3, c4⟩ := KK.out _ hb))
                    go_roundw
                    case rel => exact ⟨k + 1, by omega, by go_num, Lib.hid (HT6.out.belowS hb), HB6.out.trans (hb.mono HB6.out.size)⟩
                    case measure => simp [intOf]; omega
                  · obtain ⟨hwf, hst⟩ := hRb hr
                    rw [hr] at KR
                    rw [hst] at KS
                    replace hwf : wr' = false := hwf
                    subst hwf
                    clear hr hRb hst
                    go_wp2_with (first | (go_at_call 14; (with_reducible refine (inw KS.out W5 _ hb).mono ?_); rintro e wx ⟨rfl, hb⟩; obtain ⟨c0, c1, c2, c3, c4⟩ := KK.out _ hb) | (go_at_call 16; (with_reducible refine (inw KR.out W5 _ hb).mono ?_); rintro e wy ⟨rfl, hb⟩; obtain ⟨c0, c1, c2, c3, c4⟩ := KK.out _ hb))
                    go_roundw
                    case rel => exact ⟨k + 1, by omega, by go_num, Lib.hid (HT6.out.belowS hb), HB6.out.trans (hb.mono HB6.out.size)⟩
                    case measure => simp [intOf]; omega
          · obtain rfl : k = ln := by omega
            have CA := Lib.hid (awake_any wr)
            go_wp2_with fail
            (go_at_call 21; (with_reducible refine CL.out.mono ?_); rintro e w4 ⟨rfl, rfl⟩)
            go_wp2_with fail
            (go_at_call 9; (with_reducible refine CA.out.mono ?_); rintro e w7 ⟨rfl, hb7⟩)
            go_wp2_with fail
            go_ret
            exact ⟨rfl, hb.trans (hb7.mono hb.size)⟩
end Go.Proofs.Ythpdpocglfafaaa.WK
