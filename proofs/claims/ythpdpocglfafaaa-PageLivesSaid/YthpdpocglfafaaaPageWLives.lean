/-
  The walk of PageLives. Nothing here is a statement of the seed.
-/
import Derived.Test.YthpdpocglfafaaaPageAwake
import Derived.Test.YthpdpocglfafaaaPageMath4
set_option linter.unusedSimpArgs false
set_option linter.unusedVariables false
namespace Go.Proofs.Ythpdpocglfafaaa.WK
open Go.RowKit PM PR PF

theorem stage_sum {l : List Pg} {a n o : Int} (h : stageE l a n o ≠ 0) : stageL l a n o = l := by unfold stageL; rw [if_neg h]
set_option maxRecDepth 100000 in
set_option maxHeartbeats 8000000 in
theorem PageLives_walk (x0 x1 x2 : Int) (h0 : 0 ≤ x0 ∧ x0 ≤ 255) (h1 : 0 ≤ x1 ∧ x1 ≤ 255) (h2 : 0 ≤ x2 ∧ x2 ≤ 255) (epoch : Int) (w : World) : Calls Try.prog 7 #[.agg #[.int .u8 x0, .int .u8 x1, .int .u8 x2], .int .u64 epoch] w fun e w' => e = .returned (.bool true) ∧ Below w.heap.size w w' := by
  obtain ⟨N, hN⟩ := Int.eq_ofNat_of_zero_le (show 0 ≤ x0 % 41 by omega)
  obtain ⟨A, hA⟩ := Int.eq_ofNat_of_zero_le (show 0 ≤ x1 % 41 by omega)
  obtain ⟨K, hK⟩ := Int.eq_ofNat_of_zero_le (show 0 ≤ 1 + x2 % 8 by omega)
  have hN40 : (N : Int) ≤ 40 := by omega
  have hA40 : (A : Int) ≤ 40 := by omega
  have hK1 : (1 : Int) ≤ K := by omega
  have hK8 : (K : Int) ≤ 8 := by omega
  have CN := Lib.hid (fun w => new_any (N : Int) w)
  rw [show (min (max (N : Int) 0) 256).toNat = N by omega] at CN
  have S1 := Lib.hid (fun (p g : Nat) (u : World) (h : Tb u p g (zeros N)) => stage_tb h 0 1 9 (by omega))
  rw [lv0_e, show stageL (zeros N) 0 1 9 = lv0 N from rfl] at S1
  have S2 := Lib.hid (fun (p g : Nat) (u : World) (h : Tb u p g (lv0 N)) => stage_tb h (A : Int) (K : Int) 5 (by omega))
  obtain ⟨h00, h01⟩ := h0
  obtain ⟨h10, h11⟩ := h1
  obtain ⟨h20, h21⟩ := h2
  by_cases he : stageE (lv0 N) A K 5 = 0
  · skip
    obtain ⟨C, hC⟩ := Int.eq_ofNat_of_zero_le (show 0 ≤ (K : Int) / 2 by omega)
    have hCK : C ≤ K := by omega
    obtain ⟨g1, g2, g3, g3b, g4, g5, g6, g7, g8, g9, g10, g11, g12⟩ := lv_good C epoch hCK he
    rw [he, g4] at S2
    rw [if_neg g1] at S1
    have S3 := Lib.hid (fun (p g : Nat) (u : World) (h : Tb u p g (putR A K (fun _ => stg 5) (lv0 N))) => publish_tb h 5 (C : Int))
    rw [g5, g6] at S3
    have S4 := Lib.hid (fun (p g : Nat) (u : World) (h : Tb u p g (putR A K (f2 C) (lv0 N))) => retire_tb h 5 epoch)
    rw [g7, g8] at S4
    have S5 := Lib.hid (fun (p g : Nat) (u : World) (h : Tb u p g (putR A K (f3 C epoch) (lv0 N))) => publish_tb h 5 0)
    rw [g9, g10] at S5
    have S6 := Lib.hid (fun (p g : Nat) (u : World) (h : Tb u p g (putR A K (f3 C epoch) (lv0 N))) => release_tb h 5)
    rw [g11, g12] at S6
    have hA1 : (1 : Int) ≤ A := by omega
    have hAK : (A : Int) + K ≤ N := by omega
    have hC4 : (C : Int) ≤ K := by omega
    have hG1 := Lib.hid g1
    clear g1 g4 g5 g6 g7 g8 g9 g10 g11 g12 he
    go_enter Try.func7, Try.ntmps7
    go_wp2_with fail
    have hBx := Whole.new w 55 #[.int .u8 x0, .int .u8 x1, .int .u8 x2]
    have hwW := below_new w (.cells #[.int .u8 x0, .int .u8 x1, .int .u8 x2] 55)
    generalize w.alloc (.cells #[.int .u8 x0, .int .u8 x1, .int .u8 x2] 55) = W at *
    have hx0 := hBx.cell 0
    have hx1 := hBx.cell 1
    have hx2 := hBx.cell 2
    simp only [List.getElem?_toArray, List.getElem?_cons_zero, List.getElem?_cons_succ] at hx0 hx1 hx2
    clear hBx
    go_region_held3 (fun u => u.cell? ⟨w.heap.size, 0, none⟩ = some (.int .u8 x0) ∧ u.cell? ⟨w.heap.size, 1, none⟩ = some (.int .u8 x1) ∧ u.cell? ⟨w.heap.size, 2, none⟩ = some (.int .u8 x2))
      (first | exact ⟨hx0, hx1, hx2⟩)
      (fail)
    rename_i hHeld
    clear hHeld hx0 hx1 hx2
    have hwd : Below w.heap.size w W.drew := hwW.drew
    generalize W.drew = V at *
    go_wp2_with fail
    (go_at_call 10; (with_reducible refine (CN.out _).mono ?_); rintro e w1 ⟨p, g, rfl, hT, hp, hg', hb⟩; have hg : w.heap.size ≤ g := Nat.le_trans hwd.size hg'; have H1 := Lib.hid hT; have B1 := Lib.hid (hwd.trans (hb.mono hwd.size)); clear hT hb)
    go_wp2_with fail
    (go_at_call 24; (with_reducible refine (S1.out _ _ _ H1.out).mono ?_); rintro e w2 ⟨rfl, hf, hr⟩; have H2 := Lib.hid (turn_of H1.out hf hr (by simp [lv0_len, zeros_len, putR_len])); have B2 := Lib.hid (Below.fr B1.out hf B1.out.size (by rintro i rfl; exact hg)); clear hf hr)
    go_wp2_with fail
    (go_at_call 24; (with_reducible refine (S2.out _ _ _ H2.out).mono ?_); rintro e w3 ⟨rfl, hf, hr⟩; have H3 := Lib.hid (turn_of H2.out hf hr (by simp [lv0_len, zeros_len, putR_len])); have B3 := Lib.hid (Below.fr B2.out hf B2.out.size (by rintro i rfl; exact hg)); clear hf hr)
    go_wp2_with fail
    (go_at_call 25; (with_reducible refine (S3.out _ _ _ H3.out).mono ?_); rintro e w4 ⟨rfl, hf, hr⟩; have H4 := Lib.hid (turn_of H3.out hf hr (by simp [lv0_len, zeros_len, putR_len])); have B4 := Lib.hid (Below.fr B3.out hf B3.out.size (by rintro i rfl; exact hg)); clear hf hr)
    go_wp2_with fail
    (go_at_call 26; (with_reducible refine (S4.out _ _ _ H4.out).mono ?_); rintro e w5 ⟨rfl, hf, hr⟩; have H5 := Lib.hid (turn_of H4.out hf hr (by simp [lv0_len, zeros_len, putR_len])); have B5 := Lib.hid (Below.fr B4.out hf B4.out.size (by rintro i rfl; exact hg)); clear hf hr)
    go_wp2_with fail
    (go_at_call 25; (with_reducible refine (S5.out _ _ _ H5.out).mono ?_); rintro e w6 ⟨rfl, hf, hr⟩; have H6 := Lib.hid (turn_of H5.out hf hr (by simp [lv0_len, zeros_len, putR_len])); have B6 := Lib.hid (Below.fr B5.out hf B5.out.size (by rintro i rfl; exact hg)); clear hf hr)
    go_wp2_with fail
    clear S1 S2 S3 S4 S5 H1 H2 H3 H4 H5 B1 B2 B3 B4 B5
    go_loopw [14] (fun i wr => ∃ j : Nat, j ≤ N ∧ i = .int .i64 (j : Int) ∧ Hid (Tb wr p g (putR A K (f3 C epoch) (lv0 N))) ∧ Below w.heap.size w wr) (fun i _ => N - (intOf i).toNat)
    case atStart => exact ⟨0, by omega, rfl, H6, B6.out⟩
    case round =>
      obtain ⟨j, hj, rfl, hT, hb⟩ := hrel
      have CL := Lib.hid (len_tb hT.out)
      rw [putR_len, lv0_len] at CL
      by_cases hjN : j < N
      · have hjN' : (j : Int) < N := by omega
        have hj0 : (0 : Int) ≤ j := by omega
        have CG := Lib.hid (get_tb hT.out (j : Int))
        rw [show gP (putR A K (f3 C epoch) (lv0 N)) (j : Int) = (putR A K (f3 C epoch) (lv0 N)).getD j zero by unfold gP; rw [if_neg (by omega)]; rfl, putR_at (by rw [lv0_len]; exact hjN)] at CG
        by_cases hin : A ≤ j ∧ j < A + K
        · rw [if_pos hin] at CG
          have i1 : (A : Int) ≤ j := by omega
          have i2 : (j : Int) < (A : Int) + K := by omega
          by_cases hc : j - A < C
          · have i3 : (j : Int) < (A : Int) + C := by omega
            rw [show f3 C epoch (j - A) = ⟨3, true, false, 5, epoch⟩ by unfold f3; rw [decide_eq_true (by omega)]; rfl] at CG
            change Hid (Calls _ _ _ _ fun e w' => e = .returned (pgV 3 true false 5 epoch) ∧ _) at CG
            go_wp2_with fail
            (go_at_call 21; (with_reducible refine CL.out.mono ?_); rintro e w9 ⟨rfl, rfl⟩)
            go_wp2_with fail
            (go_at_call 22; (with_reducible refine CG.out.mono ?_); rintro e w8 ⟨rfl, hb8⟩; have HT8 := Lib.hid (fun o => (Lib.hid ((hT.out.belowS hb8).belowS (below_new w8 o)))); have HB8 := Lib.hid (fun o => (hb.trans (hb8.mono hb.size)).alloc (Nat.le_trans hb.size hb8.size) o); clear hb8)
            go_wp2_with fail
            go_roundw
            case rel => exact ⟨j + 1, by omega, by go_num, HT8.out _, HB8.out _⟩
            case measure => simp [intOf]; omega
          · have i3 : (A : Int) + C ≤ j := by omega
            rw [show f3 C epoch (j - A) = ⟨3, false, true, 5, epoch⟩ by unfold f3; rw [decide_eq_false (by omega)]; rfl] at CG
            change Hid (Calls _ _ _ _ fun e w' => e = .returned (pgV 3 false true 5 epoch) ∧ _) at CG
            go_wp2_with fail
            (go_at_call 21; (with_reducible refine CL.out.mono ?_); rintro e w9 ⟨rfl, rfl⟩)
            go_wp2_with fail
            (go_at_call 22; (with_reducible refine CG.out.mono ?_); rintro e w8 ⟨rfl, hb8⟩; have HT8 := Lib.hid (fun o => (Lib.hid ((hT.out.belowS hb8).belowS (below_new w8 o)))); have HB8 := Lib.hid (fun o => (hb.trans (hb8.mono hb.size)).alloc (Nat.le_trans hb.size hb8.size) o); clear hb8)
            go_wp2_with fail
            go_roundw
            case rel => exact ⟨j + 1, by omega, by go_num, HT8.out _, HB8.out _⟩
            case measure => simp [intOf]; omega
        · rw [if_neg hin] at CG
          have h5 := lv0_no5 (N := N) j (by rw [lv0_len]; exact hjN)
          generalize (lv0 N).getD j zero = q at *
          obtain ⟨st, ex, wr', ow, ep⟩ := q
          replace h5 : ow ≠ 5 := h5
          have h5' : (ow == 5) = false := by simpa using h5
          change Hid (Calls _ _ _ _ fun e w' => e = .returned (pgV st ex wr' ow ep) ∧ _) at CG
          clear h5
          by_cases hlo : j < A
          · have i1 : (j : Int) < A := by omega
            go_wp2_with fail
            (go_at_call 21; (with_reducible refine CL.out.mono ?_); rintro e w9 ⟨rfl, rfl⟩)
            go_wp2_with fail
            (go_at_call 22; (with_reducible refine CG.out.mono ?_); rintro e w8 ⟨rfl, hb8⟩; have HT8 := Lib.hid (fun o => (Lib.hid ((hT.out.belowS hb8).belowS (below_new w8 o)))); have HB8 := Lib.hid (fun o => (hb.trans (hb8.mono hb.size)).alloc (Nat.le_trans hb.size hb8.size) o); clear hb8)
            go_wp2_with fail
            go_roundw
            case rel => exact ⟨j + 1, by omega, by go_num, HT8.out _, HB8.out _⟩
            case measure => simp [intOf]; omega
          · have i1 : (A : Int) ≤ j := by omega
            have i2 : (A : Int) + K ≤ j := by omega
            go_wp2_with fail
            (go_at_call 21; (with_reducible refine CL.out.mono ?_); rintro e w9 ⟨rfl, rfl⟩)
            go_wp2_with fail
            (go_at_call 22; (with_reducible refine CG.out.mono ?_); rintro e w8 ⟨rfl, hb8⟩; have HT8 := Lib.hid (fun o => (Lib.hid ((hT.out.belowS hb8).belowS (below_new w8 o)))); have HB8 := Lib.hid (fun o => (hb.trans (hb8.mono hb.size)).alloc (Nat.le_trans hb.size hb8.size) o); clear hb8)
            go_wp2_with fail
            go_roundw
            case rel => exact ⟨j + 1, by omega, by go_num, HT8.out _, HB8.out _⟩
            case measure => simp [intOf]; omega
      · obtain rfl : j = N := by omega
        go_wp2_with fail
        (go_at_call 21; (with_reducible refine CL.out.mono ?_); rintro e w9 ⟨rfl, rfl⟩)
        go_wp2_with fail
        (go_at_call 27; (with_reducible refine (S6.out _ _ _ hT.out).mono ?_); rintro e w10 ⟨rfl, hf, hr⟩; have H7 := Lib.hid (turn_of hT.out hf hr (by simp [putR_len])); have B7 := Lib.hid (Below.fr hb hf hb.size (by rintro i rfl; exact hg)); clear hf hr)
        go_wp2_with fail
        go_loopw [17] (fun i wr => ∃ m : Nat, m ≤ j ∧ i = .int .i64 (m : Int) ∧ Hid (Tb wr p g (putR A K (fun _ => zero) (lv0 j))) ∧ Below w.heap.size w wr) (fun i _ => j - (intOf i).toNat)
        case atStart => exact ⟨0, by omega, rfl, H7, B7.out⟩
        case round =>
          clear hT hb CL
          obtain ⟨m, hm, rfl, hT, hb⟩ := hrel
          have CL := Lib.hid (len_tb hT.out)
          rw [putR_len, lv0_len] at CL
          by_cases hmN : m < j
          · have hmN' : (m : Int) < j := by omega
            have hm0 : (0 : Int) ≤ m := by omega
            have CG := Lib.hid (get_tb hT.out (m : Int))
            rw [show gP (putR A K (fun _ => zero) (lv0 j)) (m : Int) = (putR A K (fun _ => zero) (lv0 j)).getD m zero by unfold gP; rw [if_neg (by omega)]; rfl, putR_at (by rw [lv0_len]; exact hmN), lv0_at hmN] at CG
            by_cases hz : m = 0
            · subst hz
              rw [if_neg (by omega), if_pos rfl] at CG
              change Hid (Calls _ _ #[_, .int .i64 0] _ fun e w' => e = .returned (pgV 1 false false 9 0) ∧ _) at CG
              go_wp2_with fail
              (go_at_call 21; (with_reducible refine CL.out.mono ?_); rintro e w9 ⟨rfl, rfl⟩)
              go_wp2_with fail
              (go_at_call 22; (with_reducible refine CG.out.mono ?_); rintro e w8 ⟨rfl, hb8⟩; have HT8 := Lib.hid (fun o => (Lib.hid ((hT.out.belowS hb8).belowS (below_new w8 o)))); have HB8 := Lib.hid (fun o => (hb.trans (hb8.mono hb.size)).alloc (Nat.le_trans hb.size hb8.size) o); clear hb8)
              go_wp2_with fail
              go_roundw
              case rel => exact ⟨0 + 1, by omega, by go_num, HT8.out _, HB8.out _⟩
              case measure => simp [intOf]; omega
            · have hz1 : (m != 0) = true := by simpa using hz
              have hz2 : ((m : Int) != 0) = true := by simpa using hz
              have hz3 : ((m : Int) == 0) = false := by simp; omega
              have hz4 : (1 : Int) ≤ m := by omega
              rw [show (if A ≤ m ∧ m < A + K then zero else if m = 0 then stg 9 else zero) = zero by rw [if_neg hz]; exact ite_self _] at CG
              change Hid (Calls _ _ _ _ fun e w' => e = .returned (pgV 0 false false 0 0) ∧ _) at CG
              clear hz
              go_wp2_with fail
              (go_at_call 21; (with_reducible refine CL.out.mono ?_); rintro e w9 ⟨rfl, rfl⟩)
              go_wp2_with fail
              (go_at_call 22; (with_reducible refine CG.out.mono ?_); rintro e w8 ⟨rfl, hb8⟩; have HT8 := Lib.hid (fun o => (Lib.hid ((hT.out.belowS hb8).belowS (below_new w8 o)))); have HB8 := Lib.hid (fun o => (hb.trans (hb8.mono hb.size)).alloc (Nat.le_trans hb.size hb8.size) o); clear hb8)
              go_wp2_with fail
              go_roundw
              case rel => exact ⟨m + 1, by omega, by go_num, HT8.out _, HB8.out _⟩
              case measure => simp [intOf]; omega
          · obtain rfl : m = j := by omega
            have CA := Lib.hid (awake_any wr)
            go_wp2_with fail
            (go_at_call 21; (with_reducible refine CL.out.mono ?_); rintro e w9 ⟨rfl, rfl⟩)
            go_wp2_with fail
            (go_at_call 9; (with_reducible refine CA.out.mono ?_); rintro e w7 ⟨rfl, hb7⟩)
            go_wp2_with fail
            go_ret
            exact ⟨rfl, hb.trans (hb7.mono hb.size)⟩
  · have F := lv_fail N
    rw [stage_sum he] at S2
    have hee : (stageE (lv0 N) A K 5 != 0) = true := by simpa using he
    have hee2 : (stageE (lv0 N) A K 5 == 0) = false := by simpa using he
    clear he
    generalize stageE (lv0 N) A K 5 = E at *
    have S3 := Lib.hid (fun (p g : Nat) (u : World) (h : Tb u p g (lv0 N)) => publish_tb h 5 0)
    rw [F.1, F.2.1] at S3
    have S4 := Lib.hid (fun (p g : Nat) (u : World) (h : Tb u p g (lv0 N)) => retire_tb h 5 epoch)
    rw [(F.2.2 epoch).1] at S4
    clear F
    generalize hO : (if N = 0 then (11 : Int) else 0) = O at *
    have HO := Lib.hid hO
    clear hO
    go_enter Try.func7, Try.ntmps7
    go_wp2_with fail
    have hBx := Whole.new w 55 #[.int .u8 x0, .int .u8 x1, .int .u8 x2]
    have hwW := below_new w (.cells #[.int .u8 x0, .int .u8 x1, .int .u8 x2] 55)
    generalize w.alloc (.cells #[.int .u8 x0, .int .u8 x1, .int .u8 x2] 55) = W at *
    have hx0 := hBx.cell 0
    have hx1 := hBx.cell 1
    have hx2 := hBx.cell 2
    simp only [List.getElem?_toArray, List.getElem?_cons_zero, List.getElem?_cons_succ] at hx0 hx1 hx2
    clear hBx
    go_region_held3 (fun u => u.cell? ⟨w.heap.size, 0, none⟩ = some (.int .u8 x0) ∧ u.cell? ⟨w.heap.size, 1, none⟩ = some (.int .u8 x1) ∧ u.cell? ⟨w.heap.size, 2, none⟩ = some (.int .u8 x2))
      (first | exact ⟨hx0, hx1, hx2⟩)
      (fail)
    rename_i hHeld
    clear hHeld hx0 hx1 hx2
    have hwd : Below w.heap.size w W.drew := hwW.drew
    generalize W.drew = V at *
    go_wp2_with fail
    (go_at_call 10; (with_reducible refine (CN.out _).mono ?_); rintro e w1 ⟨p, g, rfl, hT, hp, hg', hb⟩; have hg : w.heap.size ≤ g := Nat.le_trans hwd.size hg'; have H1 := Lib.hid hT; have B1 := Lib.hid (hwd.trans (hb.mono hwd.size)); clear hT hb)
    go_wp2_with fail
    (go_at_call 24; (with_reducible refine (S1.out _ _ _ H1.out).mono ?_); rintro e w2 ⟨rfl, hf, hr⟩; have H2 := Lib.hid (turn_of H1.out hf hr (by simp [lv0_len, zeros_len, putR_len])); have B2 := Lib.hid (Below.fr B1.out hf B1.out.size (by rintro i rfl; exact hg)); clear hf hr)
    go_wp2_with fail
    (go_at_call 24; (with_reducible refine (S2.out _ _ _ H2.out).mono ?_); rintro e w3 ⟨rfl, hf, hr⟩; have H3 := Lib.hid (turn_of H2.out hf hr (by simp [lv0_len, zeros_len, putR_len])); have B3 := Lib.hid (Below.fr B2.out hf B2.out.size (by rintro i rfl; exact hg)); clear hf hr)
    go_wp2_with fail
    (go_at_call 25; (with_reducible refine (S3.out _ _ _ H3.out).mono ?_); rintro e w4 ⟨rfl, hf, hr⟩; have H4 := Lib.hid (turn_of H3.out hf hr (by simp [lv0_len, zeros_len, putR_len])); have B4 := Lib.hid (Below.fr B3.out hf B3.out.size (by rintro i rfl; exact hg)); clear hf hr)
    go_wp2_with fail
    (go_at_call 26; (with_reducible refine (S4.out _ _ _ H4.out).mono ?_); rintro e w5 ⟨rfl, hf, hr⟩; have H5 := Lib.hid (turn_of H4.out hf hr (retL_len ..)); have B5 := Lib.hid (Below.fr B4.out hf B4.out.size (by rintro i rfl; exact hg)); clear hf hr)
    go_wp2_with fail
    (go_at_call 9; (with_reducible refine (awake_any _).mono ?_); rintro e w7 ⟨rfl, hb7⟩)
    go_wp2_with fail
    go_ret
    exact ⟨rfl, B5.out.trans (hb7.mono B5.out.size)⟩
end Go.Proofs.Ythpdpocglfafaaa.WK
