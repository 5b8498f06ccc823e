/-
  The program's Least and Passed (over a guess of them). Nothing here is a statement of the seed.
-/
import Derived.Test.YtcpkiepdpmaeoaaEpPA
set_option linter.unusedSimpArgs false
set_option linter.unusedVariables false
namespace Go.Proofs.Ytcpkiepdpmaeoaa.EP
open Go.RowKit WM NR OM OR EM ER EF
set_option maxHeartbeats 4000000
set_option maxRecDepth 10000
abbrev hrC (y : Hr) : Array Value := #[.int .u32 y.pc, .int .u32 (y.r 0), .int .u32 (y.r 1), .int .u32 (y.r 2), .int .u32 (y.r 3), .int .u32 (y.r 4), .int .u32 (y.r 5), .int .u32 (y.r 6), .int .u32 (y.r 7), .slice y.sa y.sn y.sc, .int .u8 y.why, .int .u64 y.ep, .int .u32 y.home]
theorem least_any {w : World} {a : Option Addr} {n c : Nat} {hs : List Hr} (h : ReadsH (· < w.heap.size) w (.slice a n c) hs) :
    Calls Try.prog 12 #[.slice a n c] w fun e u => e = .returned (.tuple #[.int .u64 (lstM hs).1, .bool (lstM hs).2]) ∧ Below w.heap.size w u := by
  obtain ⟨n1, m1, m2⟩ := h.len
  unfold maxLen at m2
  have hn : (n : Int) ≤ 9223372036854775807 := by omega
  have HE := Lib.hid h
  have HL := Lib.hid n1
  obtain ⟨R, hR⟩ : ∃ R, R = lstM hs := ⟨_, rfl⟩
  rw [← hR]
  have HR := Lib.hid hR
  have q2 : (n : Int) ≤ c := by omega
  clear hR h n1 m1 m2
  go_enter Try.func12, Try.ntmps12
  go_wp2_with fail
  go_loopw [4, 5, 10] (fun v4 v5 i wr => ∃ (k : Nat) (q1 : Int) (q2 : Bool), k ≤ n ∧ i = .int .i64 (k : Int) ∧ v4 = .int .u64 q1 ∧ v5 = .bool q2 ∧ Hid (lstF (0, false) (hs.take k) = (q1, q2)) ∧ Hid (Below w.heap.size w wr)) (fun _ _ i _ => n - (intOf i).toNat)
  case atStart => exact ⟨0, _, _, by omega, rfl, rfl, rfl, Lib.hid rfl, Lib.hid (Below.refl _ _)⟩
  case round =>
    obtain ⟨k, l1, l2, hk, rfl, rfl, rfl, hp, HB⟩ := hrel
    by_cases hlt : k < n
    · have hlt' : (k : Int) < n := by omega
      have kl : k < hs.length := by rw [HL.out]; exact hlt
      obtain ⟨g, off, rfl, q1, hat, hok⟩ := (HE.out.go HB.out (Nat.le_refl _)).at hlt
      have HT := Lib.hid (lst_take hs (0, false) k kl)
      generalize hs.getD k h0 = x at *
      obtain ⟨hk1, hk2⟩ := hok
      obtain ⟨y1, y2, y3, y4⟩ := lstS_cases (l1, l2) x
      simp only at y1 y2 y3 y4
      have HT : Hid (lstF (0, false) (hs.take (k + 1)) = lstS (l1, l2) x) := Lib.hid (by rw [HT.out, hp.out])
      obtain ⟨pc, r, sa, sn, sc, why, ep, home⟩ := x
      obtain ⟨z0, z1, z2, z3, z4, z5, z6, z7, z8, z9, z10, z11, z12⟩ := hat
      simp only at z0 z1 z2 z3 z4 z5 z6 z7 z8 z9 z10 z11 z12 y1 y2 y3 y4 hk1 hk2
      have hz := Whole.new wr 59 #[.int .u32 pc, .int .u32 (r 0), .int .u32 (r 1), .int .u32 (r 2), .int .u32 (r 3), .int .u32 (r 4), .int .u32 (r 5), .int .u32 (r 6), .int .u32 (r 7), .slice sa sn sc, .int .u8 why, .int .u64 ep, .int .u32 home]
      have x1 : (wr.alloc (.cells #[.int .u32 pc, .int .u32 (r 0), .int .u32 (r 1), .int .u32 (r 2), .int .u32 (r 3), .int .u32 (r 4), .int .u32 (r 5), .int .u32 (r 6), .int .u32 (r 7), .slice sa sn sc, .int .u8 why, .int .u64 ep, .int .u32 home] 59)).cell? ⟨wr.heap.size, 10, none⟩ = some (.int .u8 why) := hz.cell 10
      have x2 : (wr.alloc (.cells #[.int .u32 pc, .int .u32 (r 0), .int .u32 (r 1), .int .u32 (r 2), .int .u32 (r 3), .int .u32 (r 4), .int .u32 (r 5), .int .u32 (r 6), .int .u32 (r 7), .slice sa sn sc, .int .u8 why, .int .u64 ep, .int .u32 home] 59)).cell? ⟨wr.heap.size, 11, none⟩ = some (.int .u64 ep) := hz.cell 11
      have x6 := hz.lt
      have HB2 := Lib.hid (HB.out.trans ((below_new wr (.cells #[.int .u32 pc, .int .u32 (r 0), .int .u32 (r 1), .int .u32 (r 2), .int .u32 (r 3), .int .u32 (r 4), .int .u32 (r 5), .int .u32 (r 6), .int .u32 (r 7), .slice sa sn sc, .int .u8 why, .int .u64 ep, .int .u32 home] 59)).mono HB.out.size))
      clear kl hp hz HE HR HB
      go_upto_region 5 with fail
      generalize r 0 = r0 at *
      generalize r 1 = r1 at *
      generalize r 2 = r2 at *
      generalize r 3 = r3 at *
      generalize r 4 = r4 at *
      generalize r 5 = r5 at *
      generalize r 6 = r6 at *
      generalize r 7 = r7 at *
      generalize wr.alloc (.cells #[.int .u32 pc, .int .u32 r0, .int .u32 r1, .int .u32 r2, .int .u32 r3, .int .u32 r4, .int .u32 r5, .int .u32 r6, .int .u32 r7, .slice sa sn sc, .int .u8 why, .int .u64 ep, .int .u32 home] 59) = W at *
      clear z0 z1 z2 z3 z4 z5 z6 z7 z8 z9 z10 z11 z12
      by_cases b1 : why = 0
      · have b1' : (why == 0) = true := by simpa using b1
        cases l2 with
        | false =>
          have hp2 := Lib.hid (HT.out.trans (y1 b1 rfl))
          clear HT y1 y2 y3 y4
          go_wp2_with fail
          go_roundw
          case rel => exact ⟨k + 1, _, _, by omega, by go_num, rfl, rfl, hp2, HB2⟩
          case measure => simp [intOf]; omega
        | true =>
          by_cases b2 : ep < l1
          · have hp2 := Lib.hid (HT.out.trans (y2 b1 b2))
            clear HT y1 y2 y3 y4
            go_wp2_with fail
            go_roundw
            case rel => exact ⟨k + 1, _, _, by omega, by go_num, rfl, rfl, hp2, HB2⟩
            case measure => simp [intOf]; omega
          · have hp2 := Lib.hid (HT.out.trans (y3 b1 rfl b2))
            clear HT y1 y2 y3 y4
            go_wp2_with fail
            go_roundw
            case rel => exact ⟨k + 1, _, _, by omega, by go_num, rfl, rfl, hp2, HB2⟩
            case measure => simp [intOf]; omega
      · have b1' : (why == 0) = false := by simpa using b1
        have hp2 := Lib.hid (HT.out.trans (y4 b1))
        clear HT y1 y2 y3 y4
        go_wp2_with fail
        go_roundw
        case rel => exact ⟨k + 1, _, _, by omega, by go_num, rfl, rfl, hp2, HB2⟩
        case measure => simp [intOf]; omega
    · obtain rfl : k = n := by omega
      have hh := Lib.hid (show R = (l1, l2) by rw [HR.out]; have := hp.out; rw [List.take_of_length_le (by rw [HL.out]; omega)] at this; exact this)
      clear hp HR HE
      go_wp2_with fail
      exact bodyPost_ret (v := .tuple #[.int .u64 l1, .bool l2]) (by simp [results, Try.results12, go_sem]) rfl ⟨by rw [hh.out], HB.out⟩
end Go.Proofs.Ytcpkiepdpmaeoaa.EP
