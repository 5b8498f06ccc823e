/-
  The walk of EpochLeasts, over what the program's functions tell. Nothing here is a statement of the seed.
-/
import Derived.Test.YtcpkiepdpmaeoaaEpRun
set_option linter.unusedSimpArgs false
set_option linter.unusedVariables false
namespace Go.Proofs.Ytcpkiepdpmaeoaa.WK
open Go.RowKit WM NR OM OR EM ER EF EP EL
set_option maxHeartbeats 4000000
set_option maxRecDepth 10000
theorem EpochLeasts_walk {w : World} {a : Option Addr} {n c : Nat} {hs : List Hr} (h : ReadsH (· < w.heap.size) w (.slice a n c) hs) (t : Int) (ht : 0 ≤ t ∧ t ≤ 18446744073709551615) :
    Calls Try.prog 4 #[.slice a n c, .int .u64 t] w fun e w' => e = .returned (.bool true) ∧ Below w.heap.size w w' := by
  have AW := Lib.hid awake_any
  have C1 := Lib.hid (least_any h)
  have C2 := Lib.hid (fun (u : World) (hb : Below w.heap.size w u) => refLeast_any (h.below hb))
  have C3 := Lib.hid (fun (u : World) (hb : Below w.heap.size w u) => passed_any (h.below hb) t ht)
  have C4 := Lib.hid (fun (u : World) (hb : Below w.heap.size w u) => refPassed_any (h.below hb) t ht)
  generalize pasB hs t = P at *
  generalize (lstM hs).1 = L1 at *
  generalize (lstM hs).2 = L2 at *
  have e1 : (L1 == L1) = true := by simp
  have e2 : (L2 == L2) = true := by simp
  have e3 : (P == P) = true := by simp
  clear h
  go_enter Try.func4, Try.ntmps4
  go_wp2_with (first
    | (go_at_call 12; (with_reducible refine C1.out.mono ?_); rintro e w1 ⟨rfl, hb⟩; have B1 := Lib.hid hb; clear hb)
    | (go_at_call 13; (with_reducible refine (C2.out _ B1.out).mono ?_); rintro e w2 ⟨rfl, rfl⟩)
    | (go_at_call 14; (with_reducible refine (C3.out _ B1.out).mono ?_); rintro e w3 ⟨rfl, hb⟩; have B3 := Lib.hid (B1.out.trans (hb.mono B1.out.size)); clear hb)
    | (go_at_call 15; (with_reducible refine (C4.out _ B3.out).mono ?_); rintro e w4 ⟨rfl, rfl⟩)
    | (go_at_call 8; (with_reducible refine (AW.out _).mono ?_); rintro e w5 ⟨rfl, hb5⟩))
  go_ret
  exact ⟨rfl, B3.out.trans (hb5.mono B3.out.size)⟩
end Go.Proofs.Ytcpkiepdpmaeoaa.WK
