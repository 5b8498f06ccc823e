/-
  The library's whole sort, over a comparison that makes memory of its own. Nothing here is a statement of the seed.
-/
import Derived.Test.YtleggfofgpiabaaSortA
import Derived.Test.YtleggfofgpiabaaSortB
import Derived.Test.YtleggfofgpiabaaSortC
import Derived.Test.YtleggfofgpiabaaSortLib
set_option linter.unusedSimpArgs false
set_option linter.unusedVariables false
namespace Go.Proofs.Ytleggfofgpiabaa.SO
open Go.RowKit Go.Lib Go.Sort WM NR OM OR
variable {α : Type} [Inhabited α]
set_option maxHeartbeats 8000000
set_option maxRecDepth 100000
theorem hcode_two {h : Hint} (e : hcode h = 2) : h = .decreasing := by cases h <;> simp [hcode] at e ⊢
theorem eighth' {x y p q : Nat} (h1 : q ≤ p) (h2 : y ≤ x) : decide (((x : Int) - (y : Int)) / 8 ≤ (p : Int) - (q : Int)) = decide (p - q ≥ (x - y) / 8) :=
  decide_eq_decide.2 ⟨fun h => by omega, fun h => by omega⟩
theorem St.Post.size {s : St α} {w0 W w' : World} {d : Array α} (h : s.Post w0 W d w') : d.size = s.size := h.1.2.2
theorem pdq_any {s : St α} {w0 : World} (O : s.Ok w0) (hO : SWO s.lt) (hk : ∀ x, (s.enc x).length = s.k) (K : SwapSwapsK Try.prog s.sf s.sb s.enc s.k s.blk s.off s.size) :
    ∀ (N a b limit : Nat) (d : Array α) (W : World), b - a < N → s.At w0 d W → a ≤ b → b ≤ s.size → limit < 4611686018427387904 → Sort.Below s.lt a b d →
    Calls Try.prog 29 #[s.v, .int .i64 a, .int .i64 b, .int .i64 limit] W fun e w' => e = .returned (.tuple #[]) ∧ s.Post w0 W (pdq s.lt d a b limit true true) w' := by
  intro N
  induction N with
  | zero => intro _ _ _ _ _ h; exact absurd h (Nat.not_lt_zero _)
  | succ N ih =>
    intro a b limit d W hN hA hab hb hlim hB0
    have big := O.big
    have S0 := Lib.hid (St.In.start O hA 68)
    have OO := Lib.hid O
    have KK := Lib.hid K
    have HK := Lib.hid hk
    have HO := Lib.hid hO
    have IH := Lib.hid ih
    have eg := O.eg
    obtain ⟨p, hp⟩ : ∃ p, p = pdq s.lt d a b limit true true := ⟨_, rfl⟩
    rw [← hp]
    have HP := Lib.hid hp.symm
    have HB0 := Lib.hid hB0
    clear hA O K hk hO ih hp hB0
    go_enter Try.func29, Try.ntmps29
    go_wp2_with fail
    go_loopw [1, 2, 3, 8, 9] (fun s1 s2 s3 s8 s9 wr => ∃ (a' b' lim : Nat) (wb wp : Bool) (dk : Array α), s1 = .int .i64 a' ∧ s2 = .int .i64 b' ∧ s3 = .int .i64 lim ∧ s8 = .bool wb ∧ s9 = .bool wp ∧
      a' ≤ b' ∧ b' ≤ s.size ∧ b' - a' ≤ b - a ∧ lim < 4611686018427387904 ∧ Hid (Sort.Below s.lt a' b' dk) ∧ Hid (s.In w0 W W.heap.size dk wr) ∧ Hid (pdq s.lt dk a' b' lim wb wp = p)) (fun s1 s2 _ _ _ _ => (intOf s2 - intOf s1).toNat)
    case atStart => exact ⟨a, b, limit, true, true, d, rfl, rfl, rfl, rfl, rfl, hab, hb, Nat.le_refl _, hlim, HB0, S0, HP⟩
    case round =>
      obtain ⟨a', b', lim, wb, wp, dk, rfl, rfl, rfl, rfl, rfl, hab', hb', hkx, hlim', HB, S1, HE⟩ := hrel
      clear S0 HP HB0 hlim
      have c0 := S1.out.c0
      have c1 := S1.out.c1
      by_cases h12 : b' - a' ≤ 12
      · have h12z : (b' : Int) - (a' : Int) ≤ 12 := by omega
        have C := Lib.hid (insertion OO.out S1.out.1 hab' hb')
        go_wp2_with (go_at_call 48; (with_reducible refine C.out.mono ?_); rintro e w1 ⟨rfl, P1⟩; have P1 := Lib.hid P1)
        (try simp only [Exit.inBlock, Exit.then]); refine bodyPost_ret (results_none rfl _ _ _) rfl ?_
        exact ⟨rfl, by rw [← HE.out, pdq_small h12]; exact (S1.out.call P1.out).post⟩
      · have h12z : ¬ ((b' : Int) - (a' : Int) ≤ 12) := by omega
        obtain ⟨L, hL⟩ : ∃ L, b' = a' + L := ⟨b' - a', by omega⟩
        have hL12 : 12 < L := by omega
        have hLs : a' + L ≤ s.size := by omega
        have HLL := Lib.hid hL
        clear hL
        by_cases hl0 : lim = 0
        · subst hl0
          have C := Lib.hid (heapSort_any OO.out S1.out.1 hL12 HLL.out hLs)
          go_wp2_with (go_at_call 49; (with_reducible refine C.out.mono ?_); rintro e w1 ⟨rfl, P1⟩; have P1 := Lib.hid P1)
          (try simp only [Exit.inBlock, Exit.then]); refine bodyPost_ret (results_none rfl _ _ _) rfl ?_
          exact ⟨rfl, by rw [← HE.out, pdq_heap h12 rfl]; exact (S1.out.call P1.out).post⟩
        · have hl0z : ((lim : Int) == 0) = false := by simpa using hl0
          have hds := S1.out.size
          obtain ⟨R, hR⟩ := rnd_any (limit := lim) (wb := wb) (wp := wp) HO.out (show a' < b' by omega) (by omega) HB.out h12 hl0
          obtain ⟨f1, fB1, fc, f2, fB2, fp, f3, fB3⟩ := hR.facts
          obtain ⟨fc1, fc2⟩ := fc
          obtain ⟨fp1, fp2⟩ := fp
          have RR := Lib.hid hR
          have FB3 := Lib.hid fB3
          rw [hds] at f1 f2 f3
          have F1 := Lib.hid f1
          have F2 := Lib.hid f2
          have F3 := Lib.hid f3
          have hRl := hR.lim
          clear hR fB1 fB2 fB3 f1 f2 f3 hds HB
          -- the patterns are broken, or not
          go_upto_if 35 with fail
          go_cut [3] from 19 to 129 (fun s3 wc => s3 = .int .i64 R.lim ∧ Hid (s.In w0 W W.heap.size R.d1 wc))
          case first =>
            cases wb
            · obtain ⟨e1, e2⟩ := RR.out.no rfl
              have C := break_in OO.out HK.out KK.out S1.out hab' hb' (by rw [← e1]; exact F1.out)
              rw [← e1] at C
              have C := Lib.hid C
              have E2 := Lib.hid e2
              clear e1 e2
              go_wp2_with (go_at_call 50; (with_reducible refine C.out.mono ?_); rintro e w1 ⟨rfl, S2⟩; have S2 := Lib.hid S2)
              go_meet
              case rel => exact ⟨by rw [E2.out]; congr 1; omega, S2⟩
            · obtain ⟨e1, e2⟩ := RR.out.yes rfl
              have E1 := Lib.hid e1
              have E2 := Lib.hid e2
              clear e1 e2
              go_wp2_with fail
              go_meet
              case rel => exact ⟨by rw [E2.out], by rw [E1.out]; exact S1⟩
          case rest =>
            obtain ⟨rfl, S2⟩ := hcut
            clear S1 c0 c1
            have c0 := S2.out.c0
            have c1 := S2.out.c1
            have C := pivot_any OO.out S2.out.1 hL12 hLs
            rw [← HLL.out, ← RR.out.c] at C
            have C := Lib.hid C
            go_upto_if 50 with (go_at_call 51; (with_reducible refine C.out.mono ?_); rintro e w2 ⟨rfl, P2⟩; have P2 := Lib.hid P2)
            have S3 := Lib.hid (S2.out.call P2.out)
            clear C S2 P2 c0 c1
            have c0 := S3.out.c0
            have c1 := S3.out.c1
            -- turned about, or not
            go_cut [11, 12] from 19 to 129 (fun s11 s12 wc => s11 = .int .i64 R.pivot ∧ s12 = .int .i64 (hcode R.hint) ∧ Hid (s.In w0 W W.heap.size R.d2 wc))
            case first =>
              by_cases hh : R.c.2 = .decreasing
              · have hcd : hcode R.c.2 = 2 := by rw [hh]; rfl
                obtain ⟨e1, e2, e3⟩ := RR.out.dec hh
                have C := reverse_in OO.out HK.out KK.out S3.out hab' hb' (by rw [← e1]; exact F2.out)
                rw [← e1] at C
                have C := Lib.hid C
                have E2 := Lib.hid e2
                have E3 := Lib.hid e3
                clear e1 e2 e3
                go_wp2_with (go_at_call 52; (with_reducible refine C.out.mono ?_); rintro e w3 ⟨rfl, S4⟩; have S4 := Lib.hid S4)
                go_meet
                case rel => exact ⟨by rw [E2.out]; congr 1; omega, by rw [E3.out]; rfl, S4⟩
              · have hcd : (hcode R.c.2 == 2) = false := by simpa using fun e => hh (hcode_two e)
                have hcd2 : ¬ (hcode R.c.2 = 2) := fun e => hh (hcode_two e)
                obtain ⟨e1, e2, e3⟩ := RR.out.other hh
                have E1 := Lib.hid e1
                have E2 := Lib.hid e2
                have E3 := Lib.hid e3
                clear e1 e2 e3
                go_wp2_with fail
                go_meet
                case rel => exact ⟨by rw [E2.out], by rw [E3.out], by rw [E1.out]; exact S3⟩
            case rest =>
              obtain ⟨rfl, rfl, S4⟩ := hcut
              clear S3 c0 c1
              have c0 := S4.out.c0
              have c1 := S4.out.c1
              -- three tests in one
              go_upto_region 16 with fail
              go_cut [12, 68] from 19 to 129 (fun s12 s68 wx => s12 = .int .i64 (hcode R.hint) ∧ s68 = .bool (wb && wp && decide (R.hint = .increasing)) ∧ wx = wc)
              case first =>
                cases wb <;> cases wp <;> cases hh3 : R.hint <;>
                  (go_wp2_with fail
                   go_meet
                   exact ⟨by simp [hh3, hcode], by simp [hh3, hcode], rfl⟩)
              case rest =>
                obtain ⟨rfl, rfl, rfl⟩ := hcut
                go_upto_if 68 with fail
                go_cut [] from 19 to 129 (fun wx => R.pi.2 = false ∧ Hid (s.In w0 W W.heap.size R.pi.1 wx))
                case first =>
                  cases h68 : (wb && wp && decide (R.hint = .increasing))
                  · have e := Lib.hid (RR.out.pn h68)
                    go_wp2_with fail
                    go_meet
                    case rel => exact ⟨by rw [e.out], by rw [e.out]; exact S4⟩
                  · have C := partial_any OO.out S4.out.1 (show a' < b' by omega) hb'
                    rw [← RR.out.py h68] at C
                    cases hp2 : R.pi.2
                    · rw [hp2] at C
                      have C := Lib.hid C
                      have HP2 := Lib.hid hp2
                      clear hp2
                      go_wp2_with (go_at_call 53; (with_reducible refine C.out.mono ?_); rintro e w4 ⟨rfl, P4⟩; have P4 := Lib.hid P4)
                      go_meet
                      case rel => exact ⟨HP2.out, Lib.hid (S4.out.call P4.out)⟩
                    · rw [hp2] at C
                      have C := Lib.hid C
                      have HP2 := Lib.hid hp2
                      clear hp2
                      go_wp2_with (go_at_call 53; (with_reducible refine C.out.mono ?_); rintro e w4 ⟨rfl, P4⟩; have P4 := Lib.hid P4)
                      (try simp only [Exit.inBlock, Exit.then]); refine bodyPost_ret (results_none rfl _ _ _) rfl ?_
                      exact ⟨rfl, by rw [← HE.out, RR.out.done HP2.out]; exact (S4.out.call P4.out).post⟩
                case rest =>
                  obtain ⟨hp2, S5⟩ := hcut
                  have HP2 := Lib.hid hp2
                  clear S4 c0 c1 hp2
                  have c0 := S5.out.c0
                  have c1 := S5.out.c1
                  -- many of one kind, or not
                  go_upto_region 18 with fail
                  go_cut [83] from 19 to 129 (fun s83 wx => s83 = .bool (decide (a' > 0) && !s.lt R.pi.1[a' - 1]! R.pi.1[R.pivot]!) ∧ Hid (s.In w0 W W.heap.size R.pi.1 wx))
                  case first =>
                    by_cases ha0 : a' = 0
                    · have ha0z : ¬ ((a' : Int) > 0) := by omega
                      have HA0 := Lib.hid ha0
                      clear ha0
                      go_wp2_with fail
                      go_meet
                      case rel => exact ⟨by simp [HA0.out], S5⟩
                    · have ha0z : (a' : Int) > 0 := by omega
                      have hl := S5.out.less OO.out (i := a' - 1) (j := R.pivot) (by omega) (by omega)
                      rw [show ((a' - 1 : Nat) : Int) = (a' : Int) - 1 by omega] at hl
                      have HA0 := Lib.hid (show decide (a' > 0) = true from decide_eq_true (by omega))
                      cases hlv : s.lt R.pi.1[a' - 1]! R.pi.1[R.pivot]! <;>
                        (rw [hlv] at hl
                         have HLV := Lib.hid hlv
                         clear hlv
                         go_wp2_with (go_at_fn s.g; (with_reducible refine hl.mono ?_); rintro e w5 ⟨rfl, S6⟩; have S6 := Lib.hid S6)
                         go_meet
                         exact ⟨by rw [HA0.out, HLV.out]; rfl, S6⟩)
                  case rest =>
                    obtain ⟨rfl, S6⟩ := hcut
                    clear S5 c0 c1
                    have c0 := S6.out.c0
                    have c1 := S6.out.c1
                    cases h87 : (decide (a' > 0) && !s.lt R.pi.1[a' - 1]! R.pi.1[R.pivot]!)
                    · obtain ⟨q, hq⟩ : ∃ q, q = partition s.lt R.pi.1 a' b' R.pivot := ⟨_, rfl⟩
                      obtain ⟨mid, ap, d4⟩ := q
                      obtain ⟨r1, r2, r3, r4, r5, r6, r7⟩ := round_part HO.out (partition_holds s.lt) fp1 fp2 (by rw [F3.out]; exact hb') FB3.out hq.symm
                      have C := partition_any OO.out S6.out.1 fp1 fp2 hb'
                      have EL := RR.out.left HP2.out h87
                      have ER := RR.out.right HP2.out h87
                      rw [← hq] at C EL ER
                      simp only at C EL ER
                      have EL := Lib.hid (EL ⟨r1, r2⟩)
                      have ER := Lib.hid (ER ⟨r1, r2⟩)
                      have C := Lib.hid C
                      have R4 := Lib.hid r4
                      have R5 := Lib.hid r5
                      have R6 := Lib.hid r6
                      have R7 := Lib.hid r7
                      have R3 := Lib.hid (r3.trans F3.out)
                      clear hq r3 r4 r5 r6 r7
                      by_cases h4 : mid - a' < b' - mid
                      · have h4z : (mid : Int) - (a' : Int) < (b' : Int) - (mid : Int) := by omega
                        have EL := Lib.hid (EL.out h4)
                        clear ER
                        have hIH := Lib.hid (fun (u : World) (hu : s.At w0 d4 u) => IH.out a' mid R.lim d4 u (by omega) hu (by omega) (by omega) (by omega) R4.out)
                        obtain ⟨pL, sL⟩ := pdq_sorts s.lt HO.out d4 a' mid R.lim true true (by omega) (by rw [R3.out]; omega) R4.out
                        have HB2 := Lib.hid (R6.out _ pL sL).1
                        clear pL sL
                        go_wp2_with (first
                          | (go_at_call 55; (with_reducible refine C.out.mono ?_); rintro e w7 ⟨rfl, P7⟩; have S7 := Lib.hid (S6.out.call P7); have c0 := S7.out.c0; have c1 := S7.out.c1; have A7 := Lib.hid S7.out.1; clear P7)
                          | (go_at_call 29; (with_reducible refine (hIH.out _ A7.out).mono ?_); rintro e w8 ⟨rfl, P8⟩; have S8 := Lib.hid (S7.out.call P8); clear P8))
                        go_roundw
                        case rel => exact ⟨mid + 1, b', R.lim, decide (mid - a' ≥ (b' - a') / 8), ap, pdq s.lt d4 a' mid R.lim true true, by go_num, rfl, rfl, congrArg Value.bool (eighth' (by omega) (by omega)), rfl, by omega, hb', by omega, by omega, HB2, S8, Lib.hid (by rw [← HE.out, EL.out])⟩
                        case measure => simp [intOf]; omega
                      · have h4z : ¬ ((mid : Int) - (a' : Int) < (b' : Int) - (mid : Int)) := by omega
                        have ER := Lib.hid (ER.out h4)
                        clear EL
                        have hIH := fun (u : World) (hu : s.At w0 d4 u) => IH.out (mid + 1) b' R.lim d4 u (by omega) hu (by omega) (by omega) (by omega) R5.out
                        rw [show ((mid + 1 : Nat) : Int) = (mid : Int) + 1 by omega] at hIH
                        have hIH := Lib.hid hIH
                        obtain ⟨pL, sL⟩ := pdq_sorts s.lt HO.out d4 (mid + 1) b' R.lim true true (by omega) (by rw [R3.out]; omega) R5.out
                        have HB2 := Lib.hid (R7.out _ pL sL).1
                        clear pL sL
                        go_wp2_with (first
                          | (go_at_call 55; (with_reducible refine C.out.mono ?_); rintro e w7 ⟨rfl, P7⟩; have S7 := Lib.hid (S6.out.call P7); have c0 := S7.out.c0; have c1 := S7.out.c1; have A7 := Lib.hid S7.out.1; clear P7)
                          | (go_at_call 29; (with_reducible refine (hIH.out _ A7.out).mono ?_); rintro e w8 ⟨rfl, P8⟩; have S8 := Lib.hid (S7.out.call P8); clear P8))
                        go_roundw
                        case rel => exact ⟨a', mid, R.lim, decide (b' - mid ≥ (b' - a') / 8), ap, pdq s.lt d4 (mid + 1) b' R.lim true true, rfl, rfl, rfl, congrArg Value.bool (eighth' (by omega) (by omega)), rfl, by omega, by omega, by omega, by omega, HB2, S8, Lib.hid (by rw [← HE.out, ER.out])⟩
                        case measure => simp [intOf]; omega
                    · have h87' := h87
                      simp only [Bool.and_eq_true, decide_eq_true_eq, Bool.not_eq_true'] at h87'
                      obtain ⟨q, hq⟩ : ∃ q, q = partitionEqual s.lt R.pi.1 a' b' R.pivot := ⟨_, rfl⟩
                      obtain ⟨mid, d4⟩ := q
                      obtain ⟨r1, r2, r3, r4, _⟩ := round_eq HO.out (partitionEqual_holds s.lt) h87'.1 fp1 fp2 (by rw [F3.out]; exact hb') FB3.out h87'.2 hq.symm
                      have C := partitionEqual_any OO.out S6.out.1 fp1 fp2 hb'
                      have EE := RR.out.eq HP2.out h87
                      rw [← hq] at C EE
                      simp only at C EE
                      have EE := Lib.hid (EE ⟨r1, r2⟩)
                      have C := Lib.hid C
                      have R4 := Lib.hid r4
                      clear hq h87' r3 r4
                      go_wp2_with (go_at_call 54; (with_reducible refine C.out.mono ?_); rintro e w7 ⟨rfl, P7⟩; have S7 := Lib.hid (S6.out.call P7); clear P7)
                      go_roundw
                      case rel => exact ⟨mid, b', R.lim, wb, wp, d4, rfl, rfl, rfl, rfl, rfl, r2, hb', by omega, by omega, R4, S7, Lib.hid (by rw [← HE.out, EE.out])⟩
                      case measure => simp [intOf]; omega
end Go.Proofs.Ytleggfofgpiabaa.SO
