/-
  The reference of layer 14: what is ready; the order. Nothing here is a statement of the seed.
-/
import Derived.Test.YtijcojidfallkaaGraphRef4
set_option linter.unusedSimpArgs false
set_option linter.unusedVariables false
namespace Go.Proofs.Ytijcojidfallkaa.GF
open Go.RowKit WM NR OM OR GM GR
set_option maxHeartbeats 4000000
set_option maxRecDepth 10000
theorem refReady_any {w : World} (x : Nr) (hd : Reads (· < w.heap.size) w (.slice x.da x.dn x.dc) (strs x.ds)) {a : Option Addr} {n c : Nat} {came : List (List UInt8)} (hc : Reads (· < w.heap.size) w (.slice a n c) (strs came)) :
    Calls Try.prog 48 #[nV x, .slice a n c] w fun e w' => e = .returned (.bool (readyM came x.nd)) ∧ Below w.heap.size w w' := by
  obtain ⟨xn, da, dn, dc, ds⟩ := x
  simp only at hd
  obtain ⟨n1, m1, m2⟩ := reads_len hd
  rw [strs_len] at n1
  unfold maxLen at m2
  have hn : (dn : Int) ≤ 9223372036854775807 := by omega
  have q2 : (dn : Int) ≤ dc := by omega
  have hX := Whole.new w 78 #[.string (bs xn), .slice da dn dc]
  have HB := Lib.hid (below_new w (.cells #[.string (bs xn), .slice da dn dc] 78))
  have HD := Lib.hid hd
  have HC := Lib.hid hc
  have HL := Lib.hid n1
  have HR := Lib.hid (show readyM came (⟨xn, ds⟩ : Nd) = true ↔ _ from ready_iff)
  obtain ⟨R, hR⟩ : ∃ R, R = readyM came (⟨xn, ds⟩ : Nd) := ⟨_, rfl⟩
  have HR2 := Lib.hid (show (∀ d ∈ ds, d ∈ came) → R = decide (xn ∉ came) by
    intro hall
    rw [hR]
    by_cases hx : xn ∈ came
    · rw [decide_eq_false (by simpa using hx), ← Bool.not_eq_true, HR.out]
      exact fun h => h.2 hx
    · rw [decide_eq_true hx, HR.out]
      exact ⟨hall, hx⟩)
  have HR3 := Lib.hid (show (∃ d ∈ ds, d ∉ came) → R = false by
    rintro ⟨d, hd1, hd2⟩
    rw [hR, ← Bool.not_eq_true, HR.out]
    exact fun h => hd2 (h.1 d hd1))
  show Calls Try.prog 48 #[.agg #[.string (bs xn), .slice da dn dc], .slice a n c] w fun e w' => e = .returned (.bool (readyM came (⟨xn, ds⟩ : Nd))) ∧ Below w.heap.size w w'
  rw [← hR]
  clear hR HR hd hc n1 m2
  obtain ⟨X, hXe⟩ : ∃ X, X = bs xn := ⟨_, rfl⟩
  have HI : Hid (∀ u, Below w.heap.size w u → Calls Try.prog 24 #[.slice a n c, .string X] u fun e w' => e = .returned (.bool (decide (xn ∈ came))) ∧ w' = u) := Lib.hid (fun u hu => by
    rw [hXe]
    exact refIn_any ((HC.out.below hu).mono fun g hg => Nat.lt_of_lt_of_le hg hu.size) xn)
  rw [← hXe] at hX HB ⊢
  have HX := Lib.hid hX
  clear hX hXe
  go_enter Try.func48, Try.ntmps48
  go_upto_region 1 with fail
  generalize w.alloc (.cells #[.string X, .slice da dn dc] 78) = W at *
  go_wp2_with fail
  go_loopw [5] (fun i wr => ∃ k : Nat, k ≤ dn ∧ i = .int .i64 (k : Int) ∧ Hid (∀ d ∈ ds.take k, d ∈ came) ∧ wr = W) (fun i _ => dn - (intOf i).toNat)
  case atStart => exact ⟨0, by omega, rfl, Lib.hid (by simp), rfl⟩
  case round =>
    obtain ⟨k, hk, rfl, hp, rfl⟩ := hrel
    have c0 : wr.cell? ⟨w.heap.size, 0, none⟩ = some (.string X) := HX.out.cell 0
    have c1 : wr.cell? ⟨w.heap.size, 1, none⟩ = some (.slice da dn dc) := HX.out.cell 1
    by_cases hlt : k < dn
    · have hlt' : (k : Int) < dn := by omega
      have kl : k < ds.length := by rw [HL.out]; exact hlt
      obtain ⟨g, off, rfl, _, e1⟩ := reads_at HD.out HB.out hlt
      rw [strs_at kl] at e1
      have C := Lib.hid (refIn_any (w := wr) ((HC.out.below HB.out).mono fun g hg => Nat.lt_of_lt_of_le hg HB.out.size) (ds.getD k []))
      have HT := Lib.hid (fun x => mem_take_succ ds [] k kl x)
      have HM := Lib.hid (getD_memT kl)
      clear kl
      generalize ds.getD k [] = y at *
      by_cases hy : y ∈ came
      · rw [decide_eq_true hy] at C
        have hp2 := Lib.hid (show ∀ d ∈ ds.take (k + 1), d ∈ came from fun d hd => by
          rcases (HT.out d).1 hd with h | h
          · exact hp.out d h
          · rw [h]; exact hy)
        clear hp HT HM hy HR2 HR3 HD HC
        generalize bs y = Y at *
        go_wp2_with (go_at_call 24; (with_reducible refine C.out.mono ?_); rintro e w1 ⟨rfl, rfl⟩)
        go_roundw
        case rel => exact ⟨k + 1, by omega, by go_num, hp2, by trivial⟩
        case measure => simp [intOf]; omega
      · rw [decide_eq_false hy] at C
        have hh := Lib.hid (HR3.out ⟨y, HM.out, hy⟩)
        clear hp HT HM hy HR2 HR3 HD HC
        generalize bs y = Y at *
        go_wp2_with (go_at_call 24; (with_reducible refine C.out.mono ?_); rintro e w1 ⟨rfl, rfl⟩)
        go_ret
        exact ⟨ret_bool hh.out.symm, HB.out⟩
    · obtain rfl : k = dn := by omega
      have hh := Lib.hid (HR2.out (by have := hp.out; rw [List.take_of_length_le (by rw [HL.out]; omega)] at this; exact this))
      have C := Lib.hid (HI.out _ HB.out)
      obtain ⟨b, hb⟩ : ∃ b, b = decide (xn ∈ came) := ⟨_, rfl⟩
      rw [← hb] at C
      have HBB := Lib.hid hb
      clear hp HR2 HR3 HD HC hb HI
      go_wp2_with (go_at_call 24; (with_reducible refine C.out.mono ?_); rintro e w1 ⟨rfl, rfl⟩)
      go_ret
      exact ⟨ret_bool (by rw [hh.out, HBB.out]; simp), HB.out⟩
end Go.Proofs.Ytijcojidfallkaa.GF
