/-
  The reference of layer 14: Reaches. Nothing here is a statement of the seed.
-/
import Derived.Test.YtijcojidfallkaaGraphRch
set_option linter.unusedSimpArgs false
set_option linter.unusedVariables false
namespace Go.Proofs.Ytijcojidfallkaa.GF
open Go.RowKit WM NR OM OR GM GR
set_option maxHeartbeats 4000000
set_option maxRecDepth 10000
theorem refReaches_any {w : World} {la : Option Addr} {ln lc : Nat} {l : List Nr} (h : RdG (· < w.heap.size) w la ln lc l) (hg : GM.Good (ndL l)) (hbd : ln ≤ 300) (s t : List UInt8) :
    Calls Try.prog 32 #[gV la ln lc, .string (bs s), .string (bs t)] w fun e w' => e = .returned (.bool (reachesM (ndL l) s t)) ∧ Below w.heap.size w w' := by
  have b0 := below_new w (.cells (gC la ln lc) 29)
  have HX := Lib.hid (Whole.new w 29 (gC la ln lc))
  have HB := Lib.hid b0
  have C1 := Lib.hid (fun (u : World) (hb : Below w.heap.size w u) => refHas_any (h.go hb hb.size) s)
  have C2 := Lib.hid (fun (u : World) (hb : Below w.heap.size w u) => refHas_any (h.go hb hb.size) t)
  have C3 := Lib.hid (fun (u : World) (hb : Below w.heap.size w u) => refReached_any (h.go hb hb.size) hg hbd s)
  have C4 := Lib.hid (fun (u : World) (a : Option Addr) (n c : Nat) (hr : Reads (· < u.heap.size) u (.slice a n c) (strs (reachedM (ndL l) s))) => refIn_any hr t)
  clear h hg hbd b0
  unfold reachesM
  generalize reachedM (ndL l) s = RC at *
  cases h1 : hasM (ndL l) s with
  | false =>
    rw [h1] at C1
    simp only [Bool.false_and]
    clear C2 C3 C4 h1
    generalize bs s = x at *
    generalize bs t = y at *
    go_enter Try.func32, Try.ntmps32
    go_upto_region 1 with fail
    generalize w.alloc (.cells (gC la ln lc) 29) = W at *
    have c0 := HX.out.cell 0
    go_wp2_with (go_at_call 31; (with_reducible refine (C1.out _ HB.out).mono ?_); rintro e w1 ⟨rfl, hb⟩; have HB1 := Lib.hid (HB.out.trans (hb.mono HB.out.size)); clear hb)
    go_ret
    exact ⟨ret_bool rfl, HB1.out⟩
  | true =>
    rw [h1] at C1
    simp only [Bool.true_and]
    cases h2 : hasM (ndL l) t with
    | false =>
      rw [h2] at C2
      simp only [Bool.false_and]
      clear C3 C4 h1 h2
      generalize bs s = x at *
      generalize bs t = y at *
      go_enter Try.func32, Try.ntmps32
      go_upto_region 1 with fail
      generalize w.alloc (.cells (gC la ln lc) 29) = W at *
      have c0 := HX.out.cell 0
      go_wp2_with (first
        | (go_at_call_of 31 (Value.string x); (with_reducible refine (C1.out _ HB.out).mono ?_); rintro e w1 ⟨rfl, hb⟩; have HB1 := Lib.hid (HB.out.trans (hb.mono HB.out.size)); have HX1 := Lib.hid (HX.out.belowS hb); clear c0; have c0 := HX1.out.cell 0; clear hb)
        | (go_at_call 31; first | (with_reducible refine (C1.out _ HB.out).mono ?_; rintro e w1 ⟨rfl, hb⟩; have HB1 := Lib.hid (HB.out.trans (hb.mono HB.out.size)); have HX1 := Lib.hid (HX.out.belowS hb); clear c0; have c0 := HX1.out.cell 0; clear hb) | (with_reducible refine (C2.out _ HB1.out).mono ?_; rintro e w2 ⟨rfl, hb⟩; have HB2 := Lib.hid (HB1.out.trans (hb.mono HB1.out.size)); clear hb)))
      go_ret
      exact ⟨ret_bool rfl, HB2.out⟩
    | true =>
      rw [h2] at C2
      simp only [Bool.true_and]
      obtain ⟨R, hR⟩ : ∃ R, R = decide (t ∈ RC) := ⟨_, rfl⟩
      rw [← hR] at C4 ⊢
      clear h1 h2 hR
      generalize bs s = x at *
      generalize bs t = y at *
      go_enter Try.func32, Try.ntmps32
      go_upto_region 1 with fail
      generalize w.alloc (.cells (gC la ln lc) 29) = W at *
      have c0 := HX.out.cell 0
      go_wp2_with (first
        | (go_at_call 31; first | (with_reducible refine (C1.out _ HB.out).mono ?_; rintro e w1 ⟨rfl, hb⟩; have HB1 := Lib.hid (HB.out.trans (hb.mono HB.out.size)); have HX1 := Lib.hid (HX.out.belowS hb); clear c0; have c0 := HX1.out.cell 0; clear hb) | (with_reducible refine (C2.out _ HB1.out).mono ?_; rintro e w2 ⟨rfl, hb⟩; have HB2 := Lib.hid (HB1.out.trans (hb.mono HB1.out.size)); have HX2 := Lib.hid (HX1.out.belowS hb); clear c0; have c0 := HX2.out.cell 0; clear hb))
        | (go_at_call 50; (with_reducible refine (C3.out _ HB2.out).mono ?_); rintro e w3 ⟨ra, rn, rc, rfl, hr, hb⟩; have HB3 := Lib.hid (HB2.out.trans (hb.mono HB2.out.size)); have C5 := Lib.hid (C4.out _ _ _ _ hr); clear hr hb)
        | (go_at_call 24; (with_reducible refine C5.out.mono ?_); rintro e w4 ⟨rfl, rfl⟩))
      go_ret
      exact ⟨ret_bool rfl, HB3.out⟩
end Go.Proofs.Ytijcojidfallkaa.GF
