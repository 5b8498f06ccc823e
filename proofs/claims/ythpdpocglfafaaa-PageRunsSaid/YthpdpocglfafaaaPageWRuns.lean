/-
  The walk of PageRuns. Nothing here is a statement of the seed.
-/
import Derived.Test.YthpdpocglfafaaaPageWPlays
import Derived.Test.YthpdpocglfafaaaPageMath3
set_option linter.unusedSimpArgs false
set_option linter.unusedVariables false
namespace Go.Proofs.Ythpdpocglfafaaa.WK
open Go.RowKit PM PR PF

theorem runs_of {l : List Pg} (h : RunJ l) {i j : Nat} (hi : 1 ≤ i) (hij : i ≤ j) (hj : j < l.length) (h0 : (l.getD (i - 1) zero).st ≠ 0) (h1 : (l.getD j zero).st ≠ 0) (h2 : (l.getD j zero).ow = (l.getD (i - 1) zero).ow) :
    (l.getD i zero).st ≠ 0 ∧ (l.getD i zero).ow = (l.getD (i - 1) zero).ow ∧ (l.getD j zero).st = (l.getD (i - 1) zero).st ∧ (l.getD j zero).ep = (l.getD (i - 1) zero).ep ∧ ((l.getD j zero).ex = true → (l.getD (i - 1) zero).ex = true) := by
  obtain ⟨hm, hx⟩ := h (i - 1) j (by omega) hj h0 h1 h2
  obtain ⟨a1, a2, a3⟩ := hm i (by omega) hij
  obtain ⟨b1, b2, b3⟩ := hm j (by omega) (Nat.le_refl _)
  exact ⟨by rw [a1]; exact h0, a2, b1, b3, hx⟩
set_option maxRecDepth 100000 in
set_option maxHeartbeats 8000000 in
theorem PageRuns_walk (n : Int) (hn0 : 0 ≤ n ∧ n ≤ 255) (v : Value) (m : Nat) (w : World) (hv : Acts w.heap.size w v m) : Calls Try.prog 8 #[.int .u8 n, v] w fun e w' => e = .returned (.bool true) ∧ Below w.heap.size w w' := by
  obtain ⟨a, cap, rfl, hmc, hcm, hacts⟩ := hv
  unfold maxLen at hcm
  by_cases h100 : 60 < m
  · have h100' : (60 : Int) < m := by omega
    have CA := Lib.hid (awake_any w)
    clear hacts
    go_enter Try.func8, Try.ntmps8
    go_wp2_with (go_at_call 9; (with_reducible refine CA.out.mono ?_); rintro e w1 ⟨rfl, hb⟩)
    go_ret
    exact ⟨rfl, hb⟩
  · have h100' : (m : Int) ≤ 60 := by omega
    have CN := Lib.hid (new_any n w)
    have CM := Lib.hid (fun w => refNew_any n w)
    have hN : (min (max n 0) 256).toNat ≤ 256 := by omega
    generalize (min (max n 0) 256).toNat = N at *
    have HA := Lib.hid hacts
    clear hacts
    go_enter Try.func8, Try.ntmps8
    go_wp2_with fail
    (go_at_call 10; (with_reducible refine CN.out.mono ?_); rintro e w1 ⟨p, g, rfl, hT, hp, hg, hb⟩; have H1 := Lib.hid hT; have B1 := Lib.hid hb; clear hT hb)
    go_wp2_with fail
    (go_at_call 11; (with_reducible refine (CM.out _).mono ?_); rintro e w2 ⟨gr, c, rfl, hR, hg2, hb2⟩; have H2 := Lib.hid (duo_new (J := RunJ) (RunJ.zeros_ N) hN H1.out hp hg B1.out hR hg2 hb2); clear hR hb2)
    go_wp2_with fail
    generalize w2.heap.size = R at *
    generalize w2.alloc (.cells #[.slice (some ⟨gr, 0, none⟩) N c] 28) = w3 at *
    clear CN CM H1 B1 hg2
    go_loopw [7] (fun i wr => ∃ k : Nat, k ≤ m ∧ i = .int .i64 (k : Int) ∧ Hid (Duo RunJ w p g R wr)) (fun i _ => m - (intOf i).toNat)
    case atStart => exact ⟨0, by omega, rfl, H2⟩
    case round =>
      obtain ⟨k, hk, rfl, hD⟩ := hrel
      have hbw := hD.out.below
      by_cases hlt : k < m
      · obtain ⟨l, gr2, c2, e0, f0, hRg, hRl, hgw, h256, hO⟩ := duo_open hD.out
        have hlt' : (k : Int) < m := by omega
        have hk0 : (0 : Int) ≤ k := by omega
        rcases HA.out with h0 | ⟨ga, off, rfl, hga, hall⟩
        · omega
        · obtain ⟨q, x, mm, o, ee, hq, hmm, a0, a1, a2, a3, a4⟩ := act_at (Lib.hid hall) hlt hbw hga
          have CD := Lib.hid (duo_do (J := RunJ) q x mm o ee hq hmm hO)
          have HALL := Lib.hid hall
          have NEXT := Lib.hid (fun w2 gr' c' D => duo_next (J := RunJ) (fun l x hf hj => RunJ.act l x hf hj) (w2 := w2) (x := ⟨q, x, mm, o, ee⟩) (gr' := gr') (c' := c') hO D)
          clear hall hq hmm hbw hO
          generalize l.length = ln at *
          go_wp2_with fail
          go_region_with (go_at_call 13; (with_reducible refine CD.out.mono ?_); rintro en w4 ⟨gr3, c3, rfl, hD3, e3, f3⟩)
          all_goals
            have HD5 := Lib.hid (NEXT.out _ _ _ hD3)
            generalize hw5 : w4.setCell ⟨R, 0, none⟩ (.slice (some ⟨gr3, 0, none⟩) (actL l ⟨q, x, mm, o, ee⟩).length c3) = w5 at *
            clear hw5 e3 f3 hD3 CD NEXT e0 f0 a0 a1 a2 a3 a4 hRl
            generalize (actL l ⟨q, x, mm, o, ee⟩).length = ln5 at *
            go_wp2_with fail
            go_roundw
            case rel => exact ⟨k + 1, by omega, by go_num, HD5⟩
            case measure => simp [intOf]; omega
      · obtain rfl : k = m := by omega
        obtain ⟨l, gr2, c2, hJ, -, hT, -, -, -, -, -, -, -, -, -⟩ := hD.out
        have HJ := Lib.hid hJ
        have HT := Lib.hid hT
        have h256 := hT.1
        clear hJ hT hD
        generalize hln : l.length = ln at *
        have HLN := Lib.hid hln
        clear hln
        go_wp2_with fail
        go_loopw [8] (fun i wr => ∃ i0 : Nat, 1 ≤ i0 ∧ i = .int .i64 (i0 : Int) ∧ Hid (Tb wr p g l) ∧ Below w.heap.size w wr) (fun i _ => ln - (intOf i).toNat)
        case atStart => exact ⟨1, by omega, rfl, HT, hbw⟩
        case round =>
          obtain ⟨i0, hi1, rfl, hT, hb⟩ := hrel
          have CL := Lib.hid (len_tb hT.out)
          rw [HLN.out] at CL
          by_cases hlt : i0 < ln
          · have hlt' : (i0 : Int) < ln := by omega
            have hi1' : (1 : Int) ≤ i0 := by omega
            have CP := Lib.hid (get_tb hT.out ((i0 : Int) - 1))
            rw [show gP l ((i0 : Int) - 1) = l.getD (i0 - 1) zero by unfold gP; rw [if_neg (by omega)]; congr 1; omega] at CP
            have CQ := Lib.hid (fun u (hu : Below wr.heap.size wr u) => get_tb (hT.out.belowS hu) (i0 : Int))
            rw [show gP l (i0 : Int) = l.getD i0 zero by unfold gP; rw [if_neg (by omega)]; rfl] at CQ
            have HX := Lib.hid (fun j h1 h2 h3 => runs_of HJ.out hi1 (j := j) h1 h2 h3)
            rw [HLN.out] at HX
            generalize l.getD (i0 - 1) zero = P0 at *
            obtain ⟨pst, pex, pwr, pow, pep⟩ := P0
            generalize l.getD i0 zero = Q0 at *
            obtain ⟨qst, qex, qwr, qow, qep⟩ := Q0
            change Hid (Calls _ _ _ wr fun e w' => e = .returned (pgV pst pex pwr pow pep) ∧ _) at CP
            change Hid (∀ u, _ → Calls _ _ _ u fun e w' => e = .returned (pgV qst qex qwr qow qep) ∧ _) at CQ
            go_wp2_with fail
            (go_at_call 21; (with_reducible refine CL.out.mono ?_); rintro e w4 ⟨rfl, rfl⟩)
            go_wp2_with fail
            (go_at_call 22; (with_reducible refine CP.out.mono ?_); rintro e w5 ⟨rfl, hb5⟩)
            go_wp2_with fail
            (go_at_call 22; (with_reducible refine (CQ.out _ hb5).mono ?_); rintro e w6 ⟨rfl, hb6⟩; have HT6 := Lib.hid ((hT.out.belowS hb5).belowS hb6); have HB6 := Lib.hid (hb.trans ((below_of hb5 hb6).mono hb.size)); clear hb5 hb6)
            have hN9 := (Whole.new w6 40 #[.int .u8 pst, .bool pex, .bool pwr, .int .u16 pow, .int .u64 pep]).alloc (.cells #[.int .u8 qst, .bool qex, .bool qwr, .int .u16 qow, .int .u64 qep] 40)
            have hN10 := Whole.new (w6.alloc (.cells #[.int .u8 pst, .bool pex, .bool pwr, .int .u16 pow, .int .u64 pep] 40)) 40 #[.int .u8 qst, .bool qex, .bool qwr, .int .u16 qow, .int .u64 qep]
            have HT7 := Lib.hid (HT6.out.belowS (two_new w6 (.cells #[.int .u8 pst, .bool pex, .bool pwr, .int .u16 pow, .int .u64 pep] 40) (.cells #[.int .u8 qst, .bool qex, .bool qwr, .int .u16 qow, .int .u64 qep] 40)))
            have HB7 := Lib.hid (HB6.out.trans ((two_new w6 (.cells #[.int .u8 pst, .bool pex, .bool pwr, .int .u16 pow, .int .u64 pep] 40) (.cells #[.int .u8 qst, .bool qex, .bool qwr, .int .u16 qow, .int .u64 qep] 40)).mono HB6.out.size))
            simp only [World.size_alloc] at hN10
            clear CP CQ HB6 HT6
            by_cases hp0 : pst = 0
            · subst hp0
              go_wp2_with fail
              go_roundw
              case rel => exact ⟨i0 + 1, by omega, by go_num, HT7, HB7.out⟩
              case measure => simp [intOf]; omega
            · have hp0' : (pst == 0) = false := by simpa using hp0
              have HP0 := Lib.hid hp0
              clear hp0
              go_wp2_with fail
              generalize (w6.alloc (.cells #[.int .u8 pst, .bool pex, .bool pwr, .int .u16 pow, .int .u64 pep] 40)).alloc (.cells #[.int .u8 qst, .bool qex, .bool qwr, .int .u16 qow, .int .u64 qep] 40) = W5 at *
              have HB9 : Hid (w6.heap.size < W5.heap.size) := Lib.hid hN9.lt
              have HB10 : Hid (w6.heap.size + 1 < W5.heap.size) := Lib.hid hN10.lt
              generalize w6.heap.size + 1 = B10 at *
              generalize w6.heap.size = B9 at *
              have KK : Hid (∀ u, Below W5.heap.size W5 u → u.cell? ⟨B9, 0, none⟩ = some (.int .u8 pst) ∧ u.cell? ⟨B9, 1, none⟩ = some (.bool pex) ∧ u.cell? ⟨B9, 2, none⟩ = some (.bool pwr) ∧ u.cell? ⟨B9, 3, none⟩ = some (.int .u16 pow) ∧ u.cell? ⟨B9, 4, none⟩ = some (.int .u64 pep) ∧ u.cell? ⟨B10, 0, none⟩ = some (.int .u8 qst) ∧ u.cell? ⟨B10, 1, none⟩ = some (.bool qex) ∧ u.cell? ⟨B10, 2, none⟩ = some (.bool qwr) ∧ u.cell? ⟨B10, 3, none⟩ = some (.int .u16 qow) ∧ u.cell? ⟨B10, 4, none⟩ = some (.int .u64 qep)) := Lib.hid (fun u hu => ⟨(hN9.belowS hu).cell 0, (hN9.belowS hu).cell 1, (hN9.belowS hu).cell 2, (hN9.belowS hu).cell 3, (hN9.belowS hu).cell 4, (hN10.belowS hu).cell 0, (hN10.belowS hu).cell 1, (hN10.belowS hu).cell 2, (hN10.belowS hu).cell 3, (hN10.belowS hu).cell 4⟩)
              clear hN9 hN10
              go_loopw [11] (fun i wr => ∃ j : Nat, i0 ≤ j ∧ j ≤ ln ∧ i = .int .i64 (j : Int) ∧ Below W5.heap.size W5 wr) (fun i _ => ln - (intOf i).toNat)
              case atStart => exact ⟨i0, by omega, by omega, rfl, Below.refl _ _⟩
              case round =>
                obtain ⟨j, hj1, hj2, rfl, hb7⟩ := hrel
                have CL7 := Lib.hid (len_tb (HT7.out.belowS hb7))
                rw [HLN.out] at CL7
                by_cases hjn : j < ln
                · have hjn' : (j : Int) < ln := by omega
                  have hj0 : (0 : Int) ≤ j := by omega
                  have CX := Lib.hid (get_tb (HT7.out.belowS hb7) (j : Int))
                  rw [show gP l (j : Int) = l.getD j zero by unfold gP; rw [if_neg (by omega)]; rfl] at CX
                  have HXX := Lib.hid (HX.out j hj1 (by omega) HP0.out)
                  generalize l.getD j zero = X0 at *
                  obtain ⟨xst, xex, xwr, xow, xep⟩ := X0
                  change Hid (Calls _ _ _ wr fun e w' => e = .returned (pgV xst xex xwr xow xep) ∧ _) at CX
                  by_cases hx0 : xst = 0
                  · subst hx0
                    go_wp2_with fail
                    (go_at_call 21; (with_reducible refine CL7.out.mono ?_); rintro e w9 ⟨rfl, rfl⟩)
                    go_wp2_with fail
                    (go_at_call 22; (with_reducible refine CX.out.mono ?_); rintro e w8 ⟨rfl, hb8'⟩; have HB8 := Lib.hid (fun o => (below_of hb7 hb8').alloc (Nat.le_trans hb7.size hb8'.size) o); have HKX := (KK.out _ (below_of hb7 hb8')); obtain ⟨p0, p1, p2, p3, p4, q0, q1, q2, q3, q4⟩ := HKX; have z9 : B9 < w8.heap.size := Nat.lt_of_lt_of_le HB9.out (Nat.le_trans hb7.size hb8'.size); have z10 : B10 < w8.heap.size := Nat.lt_of_lt_of_le HB10.out (Nat.le_trans hb7.size hb8'.size); clear hb8')
                    go_wp2_with fail
                    go_roundw
                    case rel => exact ⟨j + 1, by omega, by omega, by go_num, HB8.out _⟩
                    case measure => simp [intOf]; omega
                  · have hx0' : (xst == 0) = false := by simpa using hx0
                    by_cases hxo : xow = pow
                    · obtain ⟨r1, r2, r3, r4, r5⟩ := HXX.out hx0 hxo
                      replace r1 : qst ≠ 0 := r1
                      replace r2 : qow = pow := r2
                      replace r3 : xst = pst := r3
                      replace r4 : xep = pep := r4
                      replace r5 : xex = true → pex = true := r5
                      have r1' : (qst == 0) = false := by simpa using r1
                      have HR5 := Lib.hid r5
                      clear hx0 r1 r5 HXX
                      subst hxo
                      subst r2
                      subst r3
                      subst r4
                      cases xex
                      · go_wp2_with fail
                        (go_at_call 21; (with_reducible refine CL7.out.mono ?_); rintro e w9 ⟨rfl, rfl⟩)
                        go_wp2_with fail
                        (go_at_call 22; (with_reducible refine CX.out.mono ?_); rintro e w8 ⟨rfl, hb8'⟩; have HB8 := Lib.hid (fun o => (below_of hb7 hb8').alloc (Nat.le_trans hb7.size hb8'.size) o); have HKX := (KK.out _ (below_of hb7 hb8')); obtain ⟨p0, p1, p2, p3, p4, q0, q1, q2, q3, q4⟩ := HKX; have z9 : B9 < w8.heap.size := Nat.lt_of_lt_of_le HB9.out (Nat.le_trans hb7.size hb8'.size); have z10 : B10 < w8.heap.size := Nat.lt_of_lt_of_le HB10.out (Nat.le_trans hb7.size hb8'.size); clear hb8')
                        go_wp2_with fail
                        go_roundw
                        case rel => exact ⟨j + 1, by omega, by omega, by go_num, HB8.out _⟩
                        case measure => simp [intOf]; omega
                      · obtain rfl : pex = true := HR5.out rfl
                        go_wp2_with fail
                        (go_at_call 21; (with_reducible refine CL7.out.mono ?_); rintro e w9 ⟨rfl, rfl⟩)
                        go_wp2_with fail
                        (go_at_call 22; (with_reducible refine CX.out.mono ?_); rintro e w8 ⟨rfl, hb8'⟩; have HB8 := Lib.hid (fun o => (below_of hb7 hb8').alloc (Nat.le_trans hb7.size hb8'.size) o); have HKX := (KK.out _ (below_of hb7 hb8')); obtain ⟨p0, p1, p2, p3, p4, q0, q1, q2, q3, q4⟩ := HKX; have z9 : B9 < w8.heap.size := Nat.lt_of_lt_of_le HB9.out (Nat.le_trans hb7.size hb8'.size); have z10 : B10 < w8.heap.size := Nat.lt_of_lt_of_le HB10.out (Nat.le_trans hb7.size hb8'.size); clear hb8')
                        go_wp2_with fail
                        go_roundw
                        case rel => exact ⟨j + 1, by omega, by omega, by go_num, HB8.out _⟩
                        case measure => simp [intOf]; omega
                    · have hxo1 : (xow == pow) = false := by simpa using hxo
                      have hxo2 : (xow != pow) = true := by simpa using hxo
                      clear hx0 hxo
                      go_wp2_with fail
                      (go_at_call 21; (with_reducible refine CL7.out.mono ?_); rintro e w9 ⟨rfl, rfl⟩)
                      go_wp2_with fail
                      (go_at_call 22; (with_reducible refine CX.out.mono ?_); rintro e w8 ⟨rfl, hb8'⟩; have HB8 := Lib.hid (fun o => (below_of hb7 hb8').alloc (Nat.le_trans hb7.size hb8'.size) o); have HKX := (KK.out _ (below_of hb7 hb8')); obtain ⟨p0, p1, p2, p3, p4, q0, q1, q2, q3, q4⟩ := HKX; have z9 : B9 < w8.heap.size := Nat.lt_of_lt_of_le HB9.out (Nat.le_trans hb7.size hb8'.size); have z10 : B10 < w8.heap.size := Nat.lt_of_lt_of_le HB10.out (Nat.le_trans hb7.size hb8'.size); clear hb8')
                      go_wp2_with fail
                      go_roundw
                      case rel => exact ⟨j + 1, by omega, by omega, by go_num, HB8.out _⟩
                      case measure => simp [intOf]; omega
                · obtain rfl : j = ln := by omega
                  go_wp2_with fail
                  (go_at_call 21; (with_reducible refine CL7.out.mono ?_); rintro e w9 ⟨rfl, rfl⟩)
                  go_wp2_with fail
                  go_roundw
                  case rel => exact ⟨i0 + 1, by omega, by go_num, Lib.hid (HT7.out.belowS hb7), HB7.out.trans (hb7.mono HB7.out.size)⟩
                  case measure => simp [intOf]; omega
          · have hge : (ln : Int) ≤ i0 := by omega
            have CA := Lib.hid (awake_any wr)
            go_wp2_with fail
            (go_at_call 21; (with_reducible refine CL.out.mono ?_); rintro e w4 ⟨rfl, rfl⟩)
            go_wp2_with fail
            (go_at_call 9; (with_reducible refine CA.out.mono ?_); rintro e w7 ⟨rfl, hb7⟩)
            go_wp2_with fail
            go_ret
            exact ⟨rfl, hb.trans (hb7.mono hb.size)⟩
end Go.Proofs.Ythpdpocglfafaaa.WK
