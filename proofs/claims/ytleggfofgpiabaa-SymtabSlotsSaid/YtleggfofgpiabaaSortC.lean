/-
  Joined texts: SortPart, SortEq, SortPrt. Nothing here is a statement of the seed.
-/
import Derived.Test.YtleggfofgpiabaaSortA
import Derived.Sort.WalkA6
import Derived.Deep.CutRange
import Derived.Sort.WalkC
import Derived.Deep.CutBlock
import Derived.Sort.WalkC4
set_option linter.unusedSimpArgs false
set_option linter.unusedVariables false
/-
  The library's short insertion sort, over a comparison that makes memory of its own. Nothing here is a statement of the seed.
-/
namespace Go.Proofs.Ytleggfofgpiabaa.SO
open Go.RowKit Go.Lib Go.Sort WM NR OM OR
variable {α : Type} [Inhabited α]
set_option maxHeartbeats 4000000
set_option maxRecDepth 100000
theorem partial_any {s : St α} {w0 W : World} (O : s.Ok w0) {d : Array α} (hA : s.At w0 d W) {a b : Nat} (hab : a < b) (hb : b ≤ s.size) :
    Calls Try.prog 53 #[s.v, .int .i64 a, .int .i64 b] W fun e w' => e = .returned (.bool (partialInsertionSort s.lt d a b).2) ∧ s.Post w0 W (partialInsertionSort s.lt d a b).1 w' := by
  have big := O.big
  have S0 := Lib.hid (St.In.start O hA 68)
  have OO := Lib.hid O
  have eg := O.eg
  unfold partialInsertionSort
  obtain ⟨p, hp⟩ : ∃ p, p = partialIns s.lt a b (5 - 0) (a + 1) d := ⟨_, rfl⟩
  rw [show partialIns s.lt a b 5 (a + 1) d = p from hp.symm]
  have HP := Lib.hid hp.symm
  clear hA O hp
  go_enter Try.func53, Try.ntmps53
  go_wp2_with fail
  go_loopw [7, 8] (fun v7 v8 wr => ∃ (i t : Nat) (dk : Array α), v7 = .int .i64 i ∧ v8 = .int .i64 t ∧ a + 1 ≤ i ∧ i ≤ b ∧ t ≤ 5 ∧ Hid (s.In w0 W W.heap.size dk wr) ∧ Hid (partialIns s.lt a b (5 - t) i dk = p)) (fun _ v8 _ => 5 - (intOf v8).toNat)
  case atStart => exact ⟨a + 1, 0, d, by go_num, rfl, by omega, by omega, by omega, S0, HP⟩
  case round =>
    obtain ⟨i, t, dk, rfl, rfl, hi1, hi2, ht, S1, HE⟩ := hrel
    clear S0 HP
    by_cases ht5 : t < 5
    · have ht5z : (t : Int) < 5 := by omega
      go_wp2_with fail
      go_loopw [7] (fun v7 wr => ∃ (x : Nat), v7 = .int .i64 x ∧ i ≤ x ∧ x ≤ b ∧ Hid (s.In w0 W W.heap.size dk wr) ∧ Hid (scanSorted s.lt dk b x = scanSorted s.lt dk b i)) (fun v7 _ => b - (intOf v7).toNat)
      case atStart => exact ⟨i, rfl, by omega, hi2, S1, Lib.hid rfl⟩
      case round =>
        obtain ⟨x, rfl, hx1, hx2, S2, HX⟩ := hrel
        clear S1
        have c0 := S2.out.c0
        by_cases hxb : x < b
        · have hxbz : (x : Int) < b := by omega
          have hxe : ((x : Int) == (b : Int)) = false := by simp; omega
          have hl := S2.out.less OO.out (i := x) (j := x - 1) (by omega) (by omega)
          rw [show (((x - 1 : Nat) : Int)) = (x : Int) - 1 by omega] at hl
          cases hlv : s.lt dk[x]! dk[x - 1]! with
          | false =>
            rw [hlv] at hl
            have HL := Lib.hid hlv
            clear hlv
            go_wp2_with (go_at_fn s.g; (with_reducible refine hl.mono ?_); rintro e w1 ⟨rfl, S3⟩; have S3 := Lib.hid S3)
            go_roundw
            case rel => exact ⟨x + 1, by go_num, by omega, by omega, S3, Lib.hid (by rw [← HX.out, scanSorted_go s.lt dk b x hxb HL.out])⟩
            case measure => simp [intOf]; omega
          | true =>
            rw [hlv] at hl
            have HL := Lib.hid hlv
            have HK := Lib.hid (show scanSorted s.lt dk b i = x by rw [← HX.out, scanSorted_stop s.lt dk b x (Or.inr hlv)])
            clear hlv
            by_cases h50 : b - a < 50
            · have h50z : (b : Int) - (a : Int) < 50 := by omega
              go_wp2_with (go_at_fn s.g; (with_reducible refine hl.mono ?_); rintro e w1 ⟨rfl, S3⟩; have S3 := Lib.hid S3)
              go_ret
              have e := pi_short s.lt a b t i dk ht5 (by rw [HK.out]; omega) h50
              rw [HE.out] at e
              exact ⟨by rw [e]; rfl, by rw [e]; exact S3.out.post⟩
            · have h50z : ¬ ((b : Int) - (a : Int) < 50) := by omega
              have HG := Lib.hid (show partialIns s.lt a b (5 - (t + 1)) x (fixUp s.lt b x (fixDown s.lt a x (swp dk x (x - 1)))) = p by rw [← HE.out, pi_go s.lt a b t i x dk ht5 HK.out (by omega) h50])
              clear HE HX
              go_upto_if 47 with (go_at_fn s.g; (with_reducible refine hl.mono ?_); rintro e w1 ⟨rfl, S3⟩; obtain ⟨w2, hs, S4⟩ := S3.swap OO.out (i := x) (j := x - 1) (by omega) (by omega); have S4 := Lib.hid S4; have c1 := S3.c1; rw [show (((x - 1 : Nat) : Int)) = (x : Int) - 1 by omega] at hs)
              clear hs c1
              obtain ⟨d1, hd1⟩ : ∃ d1, d1 = swp dk x (x - 1) := ⟨_, rfl⟩
              rw [← hd1] at S4 HG
              clear hd1 HL HK hl
              go_cut [9] from 13 to 90 (fun v9 wc => Hid (s.In w0 W W.heap.size (fixDown s.lt a x d1) wc))
              case first =>
                by_cases h2 : x - a ≥ 2
                · have h2z : (2 : Int) ≤ (x : Int) - a := by omega
                  have HD := Lib.hid (show fixDown s.lt a x d1 = shiftDown s.lt (x - 1) d1 by unfold fixDown; rw [if_pos h2])
                  rw [show decide ((2 : Int) ≤ (x : Int) - (a : Int)) = true from decide_eq_true h2z]
                  go_wp2_with fail
                  go_loopw [9] (fun v9 wr => ∃ (j : Nat) (dj : Array α), v9 = .int .i64 j ∧ j < x ∧ Hid (s.In w0 W W.heap.size dj wr) ∧ Hid (shiftDown s.lt j dj = fixDown s.lt a x d1)) (fun v9 _ => (intOf v9).toNat)
                  case atStart => exact ⟨x - 1, d1, by congr 1; omega, by omega, S4, Lib.hid HD.out.symm⟩
                  case round =>
                    obtain ⟨j, dj, rfl, hj, S5, HJ⟩ := hrel
                    clear S4
                    have c0 := S5.out.c0
                    by_cases hj1 : 1 ≤ j
                    · have hj1z : (1 : Int) ≤ j := by omega
                      have hl := S5.out.less OO.out (i := j) (j := j - 1) (by omega) (by omega)
                      rw [show (((j - 1 : Nat) : Int)) = (j : Int) - 1 by omega] at hl
                      cases hlv : s.lt dj[j]! dj[j - 1]! with
                      | true =>
                        rw [hlv] at hl
                        have HL := Lib.hid hlv
                        clear hlv
                        go_wp2_with (go_at_fn s.g; (with_reducible refine hl.mono ?_); rintro e w3 ⟨rfl, S6⟩; obtain ⟨w4, hs, S7⟩ := S6.swap OO.out (i := j) (j := j - 1) (by omega) (by omega); have S7 := Lib.hid S7; have c1 := S6.c1; rw [show (((j - 1 : Nat) : Int)) = (j : Int) - 1 by omega] at hs)
                        go_roundw
                        case rel => exact ⟨j - 1, swp dj j (j - 1), by congr 1 <;> omega, by omega, S7, Lib.hid (by rw [← HJ.out, shiftDown_go s.lt j dj hj1 HL.out])⟩
                        case measure => simp [intOf]; omega
                      | false =>
                        rw [hlv] at hl
                        have HL := Lib.hid hlv
                        clear hlv
                        go_wp2_with (go_at_fn s.g; (with_reducible refine hl.mono ?_); rintro e w3 ⟨rfl, S6⟩; have S6 := Lib.hid S6)
                        go_meet
                        case rel => exact Lib.hid (by rw [← HJ.out, shiftDown_stop s.lt j dj (Or.inr HL.out)]; exact S6.out)
                    · have hj1z : ¬ (1 : Int) ≤ j := by omega
                      go_wp2_with fail
                      go_meet
                      case rel => exact Lib.hid (by rw [← HJ.out, shiftDown_stop s.lt j dj (Or.inl (by omega))]; exact S5.out)
                · have h2z : ¬ ((2 : Int) ≤ (x : Int) - a) := by omega
                  go_wp2_with fail
                  go_meet
                  case rel => exact Lib.hid (by unfold fixDown; rw [if_neg h2]; exact S4.out)
              case rest =>
                have S5 := hcut
                clear hcut S4
                obtain ⟨d2, hd2⟩ : ∃ d2, d2 = fixDown s.lt a x d1 := ⟨_, rfl⟩
                rw [← hd2] at S5 HG
                clear hd2
                by_cases h2 : b - x ≥ 2
                · have h2z : (2 : Int) ≤ (b : Int) - x := by omega
                  have HD := Lib.hid (show fixUp s.lt b x d2 = shiftUp s.lt b (x + 1) d2 by unfold fixUp; rw [if_pos h2])
                  go_wp2_with fail
                  go_loopw [10] (fun v10 wr => ∃ (j : Nat) (dj : Array α), v10 = .int .i64 j ∧ x < j ∧ j ≤ b ∧ Hid (s.In w0 W W.heap.size dj wr) ∧ Hid (shiftUp s.lt b j dj = fixUp s.lt b x d2)) (fun v10 _ => b - (intOf v10).toNat)
                  case atStart => exact ⟨x + 1, d2, by go_num, by omega, by omega, S5, Lib.hid HD.out.symm⟩
                  case round =>
                    obtain ⟨j, dj, rfl, hj, hjb, S6, HJ⟩ := hrel
                    clear S5
                    have c0 := S6.out.c0
                    by_cases hj1 : j < b
                    · have hj1z : (j : Int) < b := by omega
                      have hl := S6.out.less OO.out (i := j) (j := j - 1) (by omega) (by omega)
                      rw [show (((j - 1 : Nat) : Int)) = (j : Int) - 1 by omega] at hl
                      cases hlv : s.lt dj[j]! dj[j - 1]! with
                      | true =>
                        rw [hlv] at hl
                        have HL := Lib.hid hlv
                        clear hlv
                        go_wp2_with (go_at_fn s.g; (with_reducible refine hl.mono ?_); rintro e w3 ⟨rfl, S7⟩; obtain ⟨w4, hs, S8⟩ := S7.swap OO.out (i := j) (j := j - 1) (by omega) (by omega); have S8 := Lib.hid S8; have c1 := S7.c1; rw [show (((j - 1 : Nat) : Int)) = (j : Int) - 1 by omega] at hs)
                        go_roundw
                        case rel => exact ⟨j + 1, swp dj j (j - 1), by go_num, by omega, by omega, S8, Lib.hid (by rw [← HJ.out, shiftUp_go s.lt b j dj hj1 HL.out])⟩
                        case measure => simp [intOf]; omega
                      | false =>
                        rw [hlv] at hl
                        have HL := Lib.hid hlv
                        clear hlv
                        go_wp2_with (go_at_fn s.g; (with_reducible refine hl.mono ?_); rintro e w3 ⟨rfl, S7⟩; have S7 := Lib.hid S7)
                        go_roundw
                        case rel => exact ⟨x, t + 1, dj, rfl, by go_num, by omega, by omega, by omega, S7, Lib.hid (by rw [← HG.out, ← HJ.out, shiftUp_stop s.lt b j dj (Or.inr HL.out)])⟩
                        case measure => simp [intOf]; omega
                    · have hj1z : ¬ (j : Int) < b := by omega
                      go_wp2_with fail
                      go_roundw
                      case rel => exact ⟨x, t + 1, dj, rfl, by go_num, by omega, by omega, by omega, S6, Lib.hid (by rw [← HG.out, ← HJ.out, shiftUp_stop s.lt b j dj (Or.inl (by omega))])⟩
                      case measure => simp [intOf]; omega
                · have h2z : ¬ ((2 : Int) ≤ (b : Int) - x) := by omega
                  go_wp2_with fail
                  go_roundw
                  case rel => exact ⟨x, t + 1, d2, rfl, by go_num, by omega, by omega, by omega, S5, Lib.hid (by rw [← HG.out]; unfold fixUp; rw [if_neg h2])⟩
                  case measure => simp [intOf]; omega
        · obtain rfl : x = b := by omega
          go_wp2_with fail
          go_ret
          have e := pi_true s.lt a x t i dk ht5 (by rw [← HX.out, scanSorted_stop s.lt dk x x (Or.inl (by omega))])
          rw [HE.out] at e
          exact ⟨by rw [e]; rfl, by rw [e]; exact S2.out.post⟩
    · obtain rfl : t = 5 := by omega
      go_wp2_with fail
      go_ret
      have e : (dk, false) = p := by rw [← HE.out]; rfl
      exact ⟨by rw [← e]; rfl, by rw [← e]; exact S1.out.post⟩
end Go.Proofs.Ytleggfofgpiabaa.SO

/-
  The library's partition of equals, over a comparison that makes memory of its own. Nothing here is a statement of the seed.
-/
namespace Go.Proofs.Ytleggfofgpiabaa.SO
open Go.RowKit Go.Lib Go.Sort WM NR OM OR
variable {α : Type} [Inhabited α]
set_option maxHeartbeats 4000000
set_option maxRecDepth 100000
theorem partitionEqual_any {s : St α} {w0 W : World} (O : s.Ok w0) {d : Array α} (hA : s.At w0 d W) {a b pivot : Nat} (hap : a ≤ pivot) (hpb : pivot < b) (hb : b ≤ s.size) :
    Calls Try.prog 54 #[s.v, .int .i64 a, .int .i64 b, .int .i64 pivot] W fun e w' => e = .returned (.int .i64 ((partitionEqual s.lt d a b pivot).1 : Int)) ∧ s.Post w0 W (partitionEqual s.lt d a b pivot).2 w' := by
  have big := O.big
  have S0 := St.In.start O hA 68
  have OO := Lib.hid O
  have eg := O.eg
  obtain ⟨w1, hs, S1⟩ := S0.swap O (i := a) (j := pivot) (by omega) (by omega)
  have c1 := S0.c1
  have S1 := Lib.hid S1
  obtain ⟨p, hp⟩ : ∃ p, p = partitionEqual s.lt d a b pivot := ⟨_, rfl⟩
  rw [← hp]
  have HP := Lib.hid (show partEqLoop s.lt a (a + 1) (b - 1) (swp d a pivot) = p from hp.symm)
  clear hA O hp S0
  go_enter Try.func54, Try.ntmps54
  go_wp2_with fail
  clear hs c1
  go_loopw [9, 10] (fun vi vj wr => ∃ (i j : Nat) (dk : Array α), vi = .int .i64 i ∧ vj = .int .i64 j ∧ a + 1 ≤ i ∧ i ≤ j + 1 ∧ j + 1 ≤ b ∧ Hid (s.In w0 W W.heap.size dk wr) ∧ Hid (partEqLoop s.lt a i j dk = p)) (fun vi vj _ => (intOf vj + 1 - intOf vi).toNat)
  case atStart => exact ⟨a + 1, b - 1, swp d a pivot, by go_num, by congr 1; omega, by omega, by omega, by omega, S1, HP⟩
  case round =>
    obtain ⟨i, j, dk, rfl, rfl, hi, hij, hj, S2, HE⟩ := hrel
    clear S1 HP
    go_upto_block 2 with fail
    go_cut [9] from 20 to 32 (fun vi wc => ∃ i2 : Nat, vi = .int .i64 i2 ∧ Hid (i2 = scanUp (fun x => !s.lt dk[a]! x) dk j i) ∧ i ≤ i2 ∧ i2 ≤ j + 1 ∧ Hid (s.In w0 W W.heap.size dk wc))
    case first =>
      go_wp2_with fail
      go_loopw [9] (fun vi wr => ∃ x : Nat, vi = .int .i64 x ∧ i ≤ x ∧ x ≤ j + 1 ∧ Hid (s.In w0 W W.heap.size dk wr) ∧ Hid (scanUp (fun x => !s.lt dk[a]! x) dk j x = scanUp (fun x => !s.lt dk[a]! x) dk j i)) (fun vi _ => j + 1 - (intOf vi).toNat)
      case atStart => exact ⟨i, rfl, by omega, by omega, S2, Lib.hid rfl⟩
      case round =>
        obtain ⟨x, rfl, hx1, hx2, SX, HX⟩ := hrel
        have c0 := SX.out.c0
        by_cases hxj : x ≤ j
        · have hxjz : (x : Int) ≤ (j : Int) := by omega
          have hl := SX.out.less OO.out (i := a) (j := x) (by omega) (by omega)
          cases hlv : s.lt dk[a]! dk[x]! with
          | true =>
            rw [hlv] at hl
            have HL := Lib.hid hlv
            clear hlv
            go_wp2_with (go_at_fn s.g; (with_reducible refine hl.mono ?_); rintro e w1 ⟨rfl, SY⟩; have SY := Lib.hid SY)
            go_meet
            case rel => exact ⟨x, rfl, Lib.hid (by rw [← HX.out, scanUp_end _ _ _ _ (Or.inr (by simp [HL.out]))]), hx1, hx2, SY⟩
          | false =>
            rw [hlv] at hl
            have HL := Lib.hid hlv
            clear hlv
            go_wp2_with (go_at_fn s.g; (with_reducible refine hl.mono ?_); rintro e w1 ⟨rfl, SY⟩; have SY := Lib.hid SY)
            go_roundw
            case rel => exact ⟨x + 1, by go_num, by omega, by omega, SY, Lib.hid (by rw [← HX.out]; exact (scanUp_go _ _ _ _ hxj (by simp [HL.out])).symm)⟩
            case measure => simp [intOf]; omega
        · have hxjz : ¬ (x : Int) ≤ (j : Int) := by omega
          go_wp2_with fail
          go_meet
          case rel => exact ⟨x, rfl, Lib.hid (by rw [← HX.out, scanUp_end _ _ _ _ (Or.inl hxj)]), hx1, hx2, SX⟩
    case rest =>
      obtain ⟨i2, rfl, hi2, h1i2, h2i2, S3⟩ := hcut
      go_upto_block 4 with fail
      go_cut [10] from 20 to 44 (fun vj wc => ∃ j2 : Nat, vj = .int .i64 j2 ∧ Hid (j2 = scanDown (fun x => s.lt dk[a]! x) dk i2 j) ∧ j2 ≤ j ∧ i2 ≤ j2 + 1 ∧ Hid (s.In w0 W W.heap.size dk wc))
      case first =>
        go_wp2_with fail
        go_loopw [10] (fun vj wr => ∃ y : Nat, vj = .int .i64 y ∧ y ≤ j ∧ i2 ≤ y + 1 ∧ Hid (s.In w0 W W.heap.size dk wr) ∧ Hid (scanDown (fun x => s.lt dk[a]! x) dk i2 y = scanDown (fun x => s.lt dk[a]! x) dk i2 j)) (fun vj _ => (intOf vj).toNat)
        case atStart => exact ⟨j, rfl, by omega, by omega, S3, Lib.hid rfl⟩
        case round =>
          obtain ⟨y, rfl, hy1, hy2, SX, HX⟩ := hrel
          have c0 := SX.out.c0
          by_cases hyj : i2 ≤ y
          · have hyjz : (i2 : Int) ≤ (y : Int) := by omega
            have hl := SX.out.less OO.out (i := a) (j := y) (by omega) (by omega)
            cases hlv : s.lt dk[a]! dk[y]! with
            | true =>
              rw [hlv] at hl
              have HL := Lib.hid hlv
              clear hlv
              go_wp2_with (go_at_fn s.g; (with_reducible refine hl.mono ?_); rintro e w1 ⟨rfl, SY⟩; have SY := Lib.hid SY)
              go_roundw
              case rel => exact ⟨y - 1, by congr 1 <;> omega, by omega, by omega, SY, Lib.hid (by rw [← HX.out]; exact (scanDown_go _ _ _ _ hyj (by omega) (by simp [HL.out])).symm)⟩
              case measure => simp [intOf]; omega
            | false =>
              rw [hlv] at hl
              have HL := Lib.hid hlv
              clear hlv
              go_wp2_with (go_at_fn s.g; (with_reducible refine hl.mono ?_); rintro e w1 ⟨rfl, SY⟩; have SY := Lib.hid SY)
              go_meet
              case rel => exact ⟨y, rfl, Lib.hid (by rw [← HX.out, scanDown_end _ _ _ _ (Or.inr (by simp [HL.out]))]), hy1, hy2, SY⟩
          · have hyjz : ¬ (i2 : Int) ≤ (y : Int) := by omega
            go_wp2_with fail
            go_meet
            case rel => exact ⟨y, rfl, Lib.hid (by rw [← HX.out, scanDown_end _ _ _ _ (Or.inl hyj)]), hy1, hy2, SX⟩
      case rest =>
        obtain ⟨j2, rfl, hj2, h1j2, h2j2, S4⟩ := hcut
        clear S2 S3
        by_cases hbr : j2 < i2
        · have hbrz : (i2 : Int) > (j2 : Int) := by omega
          go_wp2_with fail
          go_ret
          have e : p = (i2, dk) := by rw [← HE.out]; exact partEq_break s.lt a i j dk hi2.out hj2.out hbr
          exact ⟨by rw [e]; rfl, by rw [e]; exact S4.out.post⟩
        · have hbrz : ¬ ((i2 : Int) > (j2 : Int)) := by omega
          have hst := scans_lt s.lt a i j dk (by omega) hi2.out hj2.out (by omega)
          have HG := Lib.hid (show partEqLoop s.lt a (i2 + 1) (j2 - 1) (swp dk i2 j2) = p by rw [← HE.out]; exact (partEq_go s.lt a i j dk hi2.out hj2.out (by omega)).symm)
          clear HE hi2 hj2
          obtain ⟨w5, hs, S5⟩ := S4.out.swap OO.out (i := i2) (j := j2) (by omega) (by omega)
          have S5 := Lib.hid S5
          have c1 := S4.out.c1
          go_wp2_with fail
          go_roundw
          case rel => exact ⟨i2 + 1, j2 - 1, swp dk i2 j2, by go_num, by congr 1; omega, by omega, by omega, by omega, S5, HG⟩
          case measure => simp [intOf]; omega
end Go.Proofs.Ytleggfofgpiabaa.SO

/-
  The library's partition, over a comparison that makes memory of its own. Nothing here is a statement of the seed.
-/
namespace Go.Proofs.Ytleggfofgpiabaa.SO
open Go.RowKit Go.Lib Go.Sort WM NR OM OR
variable {α : Type} [Inhabited α]
set_option maxHeartbeats 4000000
set_option maxRecDepth 100000
theorem partition_any {s : St α} {w0 W : World} (O : s.Ok w0) {d : Array α} (hA : s.At w0 d W) {a b pivot : Nat} (hap : a ≤ pivot) (hpb : pivot < b) (hb : b ≤ s.size) :
    Calls Try.prog 55 #[s.v, .int .i64 a, .int .i64 b, .int .i64 pivot] W fun e w' => e = .returned (.tuple #[.int .i64 ((partition s.lt d a b pivot).1 : Int), .bool (partition s.lt d a b pivot).2.1]) ∧ s.Post w0 W (partition s.lt d a b pivot).2.2 w' := by
  have big := O.big
  have S0 := St.In.start O hA 68
  have OO := Lib.hid O
  have eg := O.eg
  obtain ⟨w1, hs, S1⟩ := S0.swap O (i := a) (j := pivot) (by omega) (by omega)
  have c1 := S0.c1
  have S1 := Lib.hid S1
  obtain ⟨p, hp⟩ : ∃ p, p = partition s.lt d a b pivot := ⟨_, rfl⟩
  rw [← hp]
  have HP := Lib.hid hp
  obtain ⟨dd, hdd⟩ : ∃ dd, dd = swp d a pivot := ⟨_, rfl⟩
  rw [← hdd] at S1
  have HDD := Lib.hid hdd
  obtain ⟨i, hi⟩ : ∃ i, i = a + 1 := ⟨_, rfl⟩
  obtain ⟨j, hj⟩ : ∃ j, j = b - 1 := ⟨_, rfl⟩
  have HI := Lib.hid hi
  have HJ := Lib.hid hj
  have eiz : (a : Int) + 1 = (i : Int) := by omega
  have ejz : (b : Int) - 1 = (j : Int) := by omega
  have bi : a + 1 ≤ i ∧ i ≤ j + 1 ∧ j + 1 ≤ b := by omega
  obtain ⟨bi, bij, bj⟩ := bi
  clear hA O hp S0 hdd hi hj
  go_enter Try.func55, Try.ntmps55
  go_upto_block 0 with fail
  go_cut [10] from 21 to 32 (fun vi wc => ∃ i2 : Nat, vi = .int .i64 i2 ∧ Hid (i2 = scanUp (fun x => s.lt x dd[a]!) dd j i) ∧ i ≤ i2 ∧ i2 ≤ j + 1 ∧ Hid (s.In w0 W W.heap.size dd wc))
  case first =>
    go_wp2_with fail
    go_loopw [10] (fun vi wr => ∃ x : Nat, vi = .int .i64 x ∧ i ≤ x ∧ x ≤ j + 1 ∧ Hid (s.In w0 W W.heap.size dd wr) ∧ Hid (scanUp (fun x => s.lt x dd[a]!) dd j x = scanUp (fun x => s.lt x dd[a]!) dd j i)) (fun vi _ => j + 1 - (intOf vi).toNat)
    case atStart => exact ⟨i, rfl, by omega, by omega, S1, Lib.hid rfl⟩
    case round =>
      obtain ⟨x, rfl, hx1, hx2, SX, HX⟩ := hrel
      have c0 := SX.out.c0
      by_cases hxj : x ≤ j
      · have hxjz : (x : Int) ≤ (j : Int) := by omega
        have hl := SX.out.less OO.out (i := x) (j := a) (by omega) (by omega)
        cases hlv : s.lt dd[x]! dd[a]! with
        | true =>
          rw [hlv] at hl
          have HL := Lib.hid hlv
          clear hlv
          go_wp2_with (go_at_fn s.g; (with_reducible refine hl.mono ?_); rintro e w1 ⟨rfl, SY⟩; have SY := Lib.hid SY)
          go_roundw
          case rel => exact ⟨x + 1, by go_num, by omega, by omega, SY, Lib.hid (by rw [← HX.out]; exact (scanUp_go _ _ _ _ hxj (by simp [HL.out])).symm)⟩
          case measure => simp [intOf]; omega
        | false =>
          rw [hlv] at hl
          have HL := Lib.hid hlv
          clear hlv
          go_wp2_with (go_at_fn s.g; (with_reducible refine hl.mono ?_); rintro e w1 ⟨rfl, SY⟩; have SY := Lib.hid SY)
          go_meet
          case rel => exact ⟨x, rfl, Lib.hid (by rw [← HX.out, scanUp_end _ _ _ _ (Or.inr (by simp [HL.out]))]), hx1, hx2, SY⟩
      · have hxjz : ¬ (x : Int) ≤ (j : Int) := by omega
        go_wp2_with fail
        go_meet
        case rel => exact ⟨x, rfl, Lib.hid (by rw [← HX.out, scanUp_end _ _ _ _ (Or.inl hxj)]), hx1, hx2, SX⟩
  case rest =>
    obtain ⟨i2, rfl, hi2, h1i2, h2i2, S3⟩ := hcut
    clear hs c1 eiz ejz
    go_upto_block 2 with fail
    go_cut [11] from 21 to 45 (fun vj wc => ∃ j2 : Nat, vj = .int .i64 j2 ∧ Hid (j2 = scanDown (fun x => !s.lt x dd[a]!) dd i2 j) ∧ j2 ≤ j ∧ i2 ≤ j2 + 1 ∧ Hid (s.In w0 W W.heap.size dd wc))
    case first =>
      go_wp2_with fail
      go_loopw [11] (fun vj wr => ∃ y : Nat, vj = .int .i64 y ∧ y ≤ j ∧ i2 ≤ y + 1 ∧ Hid (s.In w0 W W.heap.size dd wr) ∧ Hid (scanDown (fun x => !s.lt x dd[a]!) dd i2 y = scanDown (fun x => !s.lt x dd[a]!) dd i2 j)) (fun vj _ => (intOf vj).toNat)
      case atStart => exact ⟨j, rfl, by omega, by omega, S3, Lib.hid rfl⟩
      case round =>
        obtain ⟨y, rfl, hy1, hy2, SX, HX⟩ := hrel
        have c0 := SX.out.c0
        by_cases hyj : i2 ≤ y
        · have hyjz : (i2 : Int) ≤ (y : Int) := by omega
          have hl := SX.out.less OO.out (i := y) (j := a) (by omega) (by omega)
          cases hlv : s.lt dd[y]! dd[a]! with
          | true =>
            rw [hlv] at hl
            have HL := Lib.hid hlv
            clear hlv
            go_wp2_with (go_at_fn s.g; (with_reducible refine hl.mono ?_); rintro e w1 ⟨rfl, SY⟩; have SY := Lib.hid SY)
            go_meet
            case rel => exact ⟨y, rfl, Lib.hid (by rw [← HX.out, scanDown_end _ _ _ _ (Or.inr (by simp [HL.out]))]), hy1, hy2, SY⟩
          | false =>
            rw [hlv] at hl
            have HL := Lib.hid hlv
            clear hlv
            go_wp2_with (go_at_fn s.g; (with_reducible refine hl.mono ?_); rintro e w1 ⟨rfl, SY⟩; have SY := Lib.hid SY)
            go_roundw
            case rel => exact ⟨y - 1, by congr 1 <;> omega, by omega, by omega, SY, Lib.hid (by rw [← HX.out]; exact (scanDown_go _ _ _ _ hyj (by omega) (by simp [HL.out])).symm)⟩
            case measure => simp [intOf]; omega
        · have hyjz : ¬ (i2 : Int) ≤ (y : Int) := by omega
          go_wp2_with fail
          go_meet
          case rel => exact ⟨y, rfl, Lib.hid (by rw [← HX.out, scanDown_end _ _ _ _ (Or.inl hyj)]), hy1, hy2, SX⟩
    case rest =>
      obtain ⟨j2, rfl, hj2, h1j2, h2j2, S4⟩ := hcut
      clear S1 S3
      by_cases hbr : j2 < i2
      · have hbrz : (i2 : Int) > (j2 : Int) := by omega
        have e := part_first_break s.lt d a b pivot HI.out HJ.out HDD.out hi2.out hj2.out hbr
        rw [← HP.out] at e
        have e := Lib.hid e
        obtain ⟨w5, hs, S5⟩ := S4.out.swap OO.out (i := j2) (j := a) (by omega) (by omega)
        have S5 := Lib.hid S5
        have c1 := S4.out.c1
        clear HP HI HJ HDD hi2 hj2
        go_wp2_with fail
        refine bodyPost_ret (v := .tuple #[.int .i64 j2, .bool true]) (by simp [results, Try.results55, go_sem]) rfl ?_
        exact ⟨by rw [e.out], by rw [e.out]; exact S5.out.post⟩
      · have hbrz : ¬ ((i2 : Int) > (j2 : Int)) := by omega
        have hst := part_scans_lt s.lt a i j dd (by omega) hi2.out hj2.out (by omega)
        have e := part_first_go s.lt d a b pivot HI.out HJ.out HDD.out hi2.out hj2.out (by omega)
        rw [← HP.out] at e
        obtain ⟨q, hq⟩ : ∃ q, q = partLoop s.lt a (i2 + 1) (j2 - 1) (swp dd i2 j2) := ⟨_, rfl⟩
        rw [← hq] at e
        have e := Lib.hid e
        have HQ := Lib.hid hq.symm
        obtain ⟨w5, hs, S5⟩ := S4.out.swap OO.out (i := i2) (j := j2) (by omega) (by omega)
        have S5 := Lib.hid S5
        have c1 := S4.out.c1
        clear HP HI HJ HDD hi2 hj2 hq
        go_wp2_with fail
        clear hs c1
        go_loopw [10, 11] (fun vi vj wr => ∃ (k l : Nat) (dk : Array α), vi = .int .i64 k ∧ vj = .int .i64 l ∧ a + 1 ≤ k ∧ k ≤ l + 1 ∧ l + 1 ≤ b ∧ Hid (s.In w0 W W.heap.size dk wr) ∧ Hid (partLoop s.lt a k l dk = q)) (fun vi vj _ => (intOf vj + 1 - intOf vi).toNat)
        case atStart => exact ⟨i2 + 1, j2 - 1, swp dd i2 j2, by go_num, by congr 1; omega, by omega, by omega, by omega, S5, HQ⟩
        case round =>
          obtain ⟨k, l, dk, rfl, rfl, hk, hkl, hl0, S6, HE⟩ := hrel
          clear S4 S5 HQ
          go_upto_block 6 with fail
          go_cut [10] from 64 to 75 (fun vi wc => ∃ k2 : Nat, vi = .int .i64 k2 ∧ Hid (k2 = scanUp (fun x => s.lt x dk[a]!) dk l k) ∧ k ≤ k2 ∧ k2 ≤ l + 1 ∧ Hid (s.In w0 W W.heap.size dk wc))
          case first =>
            go_wp2_with fail
            go_loopw [10] (fun vi wr => ∃ x : Nat, vi = .int .i64 x ∧ k ≤ x ∧ x ≤ l + 1 ∧ Hid (s.In w0 W W.heap.size dk wr) ∧ Hid (scanUp (fun x => s.lt x dk[a]!) dk l x = scanUp (fun x => s.lt x dk[a]!) dk l k)) (fun vi _ => l + 1 - (intOf vi).toNat)
            case atStart => exact ⟨k, rfl, by omega, by omega, S6, Lib.hid rfl⟩
            case round =>
              obtain ⟨x, rfl, hx1, hx2, SX, HX⟩ := hrel
              have c0 := SX.out.c0
              by_cases hxj : x ≤ l
              · have hxjz : (x : Int) ≤ (l : Int) := by omega
                have hl := SX.out.less OO.out (i := x) (j := a) (by omega) (by omega)
                cases hlv : s.lt dk[x]! dk[a]! with
                | true =>
                  rw [hlv] at hl
                  have HL := Lib.hid hlv
                  clear hlv
                  go_wp2_with (go_at_fn s.g; (with_reducible refine hl.mono ?_); rintro e w1 ⟨rfl, SY⟩; have SY := Lib.hid SY)
                  go_roundw
                  case rel => exact ⟨x + 1, by go_num, by omega, by omega, SY, Lib.hid (by rw [← HX.out]; exact (scanUp_go _ _ _ _ hxj (by simp [HL.out])).symm)⟩
                  case measure => simp [intOf]; omega
                | false =>
                  rw [hlv] at hl
                  have HL := Lib.hid hlv
                  clear hlv
                  go_wp2_with (go_at_fn s.g; (with_reducible refine hl.mono ?_); rintro e w1 ⟨rfl, SY⟩; have SY := Lib.hid SY)
                  go_meet
                  case rel => exact ⟨x, rfl, Lib.hid (by rw [← HX.out, scanUp_end _ _ _ _ (Or.inr (by simp [HL.out]))]), hx1, hx2, SY⟩
              · have hxjz : ¬ (x : Int) ≤ (l : Int) := by omega
                go_wp2_with fail
                go_meet
                case rel => exact ⟨x, rfl, Lib.hid (by rw [← HX.out, scanUp_end _ _ _ _ (Or.inl hxj)]), hx1, hx2, SX⟩
          case rest =>
            obtain ⟨k2, rfl, hk2, h1k2, h2k2, S7⟩ := hcut
            go_upto_block 8 with fail
            go_cut [11] from 64 to 88 (fun vj wc => ∃ l2 : Nat, vj = .int .i64 l2 ∧ Hid (l2 = scanDown (fun x => !s.lt x dk[a]!) dk k2 l) ∧ l2 ≤ l ∧ k2 ≤ l2 + 1 ∧ Hid (s.In w0 W W.heap.size dk wc))
            case first =>
              go_wp2_with fail
              go_loopw [11] (fun vj wr => ∃ y : Nat, vj = .int .i64 y ∧ y ≤ l ∧ k2 ≤ y + 1 ∧ Hid (s.In w0 W W.heap.size dk wr) ∧ Hid (scanDown (fun x => !s.lt x dk[a]!) dk k2 y = scanDown (fun x => !s.lt x dk[a]!) dk k2 l)) (fun vj _ => (intOf vj).toNat)
              case atStart => exact ⟨l, rfl, by omega, by omega, S7, Lib.hid rfl⟩
              case round =>
                obtain ⟨y, rfl, hy1, hy2, SX, HX⟩ := hrel
                have c0 := SX.out.c0
                by_cases hyj : k2 ≤ y
                · have hyjz : (k2 : Int) ≤ (y : Int) := by omega
                  have hl := SX.out.less OO.out (i := y) (j := a) (by omega) (by omega)
                  cases hlv : s.lt dk[y]! dk[a]! with
                  | true =>
                    rw [hlv] at hl
                    have HL := Lib.hid hlv
                    clear hlv
                    go_wp2_with (go_at_fn s.g; (with_reducible refine hl.mono ?_); rintro e w1 ⟨rfl, SY⟩; have SY := Lib.hid SY)
                    go_meet
                    case rel => exact ⟨y, rfl, Lib.hid (by rw [← HX.out, scanDown_end _ _ _ _ (Or.inr (by simp [HL.out]))]), hy1, hy2, SY⟩
                  | false =>
                    rw [hlv] at hl
                    have HL := Lib.hid hlv
                    clear hlv
                    go_wp2_with (go_at_fn s.g; (with_reducible refine hl.mono ?_); rintro e w1 ⟨rfl, SY⟩; have SY := Lib.hid SY)
                    go_roundw
                    case rel => exact ⟨y - 1, by congr 1 <;> omega, by omega, by omega, SY, Lib.hid (by rw [← HX.out]; exact (scanDown_go _ _ _ _ hyj (by omega) (by simp [HL.out])).symm)⟩
                    case measure => simp [intOf]; omega
                · have hyjz : ¬ (k2 : Int) ≤ (y : Int) := by omega
                  go_wp2_with fail
                  go_meet
                  case rel => exact ⟨y, rfl, Lib.hid (by rw [← HX.out, scanDown_end _ _ _ _ (Or.inl hyj)]), hy1, hy2, SX⟩
            case rest =>
              obtain ⟨l2, rfl, hl2, h1l2, h2l2, S8⟩ := hcut
              clear S6 S7
              by_cases hbr2 : l2 < k2
              · have hbrz2 : (k2 : Int) > (l2 : Int) := by omega
                have eq : q = (l2, dk) := by rw [← HE.out]; exact part_break s.lt a k l dk hk2.out hl2.out hbr2
                have e2 : p = (l2, false, swp dk l2 a) := by rw [e.out, eq]
                have e2 := Lib.hid e2
                obtain ⟨w9, hs, S9⟩ := S8.out.swap OO.out (i := l2) (j := a) (by omega) (by omega)
                have S9 := Lib.hid S9
                have c1 := S8.out.c1
                clear HE hk2 hl2 e eq
                go_wp2_with fail
                refine bodyPost_ret (v := .tuple #[.int .i64 l2, .bool false]) (by simp [results, Try.results55, go_sem]) rfl ?_
                exact ⟨by rw [e2.out], by rw [e2.out]; exact S9.out.post⟩
              · have hbrz2 : ¬ ((k2 : Int) > (l2 : Int)) := by omega
                have hst2 := part_scans_lt s.lt a k l dk (by omega) hk2.out hl2.out (by omega)
                have HG := Lib.hid (show partLoop s.lt a (k2 + 1) (l2 - 1) (swp dk k2 l2) = q by rw [← HE.out]; exact (part_go s.lt a k l dk hk2.out hl2.out (by omega)).symm)
                obtain ⟨w9, hs, S9⟩ := S8.out.swap OO.out (i := k2) (j := l2) (by omega) (by omega)
                have S9 := Lib.hid S9
                have c1 := S8.out.c1
                clear HE hk2 hl2
                go_wp2_with fail
                go_roundw
                case rel => exact ⟨k2 + 1, l2 - 1, swp dk k2 l2, by go_num, by congr 1; omega, by omega, by omega, by omega, S9, HG⟩
                case measure => simp [intOf]; omega
end Go.Proofs.Ytleggfofgpiabaa.SO
