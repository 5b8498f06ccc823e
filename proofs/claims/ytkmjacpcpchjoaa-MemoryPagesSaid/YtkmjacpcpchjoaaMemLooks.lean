/-
  Do both tell the same of an address? Nothing here is a statement of the seed.
-/
import Derived.Test.YtkmjacpcpchjoaaMemDo2
set_option linter.unusedSimpArgs false
set_option linter.unusedVariables false
namespace Go.Proofs.Ytkmjacpcpchjoaa.MF
open Go.RowKit PM PR PF MM MR

set_option maxHeartbeats 4000000 in
set_option maxRecDepth 10000 in
theorem looks_any {w : World} {p t g gwp gr c gw d : Nat} {M : Mm} (h : Pm w p t g gwp M) (r : Rm w gr c gw d M) (a ep : Int) (ha : 0 ≤ a ∧ a ≤ 4294967295) :
    Calls Try.prog 14 #[.pointer (some ⟨p, 0, none⟩), rV M.gt gr M.pg.length c gw M.ws.length d, .int .u32 a, .int .u64 ep] w fun e w' => e = .returned (.bool true) ∧ Below w.heap.size w w' := by
  have ok := h.ok
  have hb0 := below_new w (.cells (rCs M.gt gr M.pg.length c gw M.ws.length d) 33)
  have B1 := Whole.new w 33 (rCs M.gt gr M.pg.length c gw M.ws.length d)
  have H0 := h.belowS hb0
  have R0 := r.belowS hb0
  have F1 := Lib.hid (fun u hb => fetch_any (H0.belowS (w' := u) hb) a ep ha)
  have F2 := Lib.hid (fun u hb => refFetch_any (R0.belowS (w' := u) hb) ok a ep ha)
  have L1 := Lib.hid (fun u hb => load_any (H0.belowS (w' := u) hb) a ep ha)
  have L2 := Lib.hid (fun u hb => refLoad_any (R0.belowS (w' := u) hb) ok a ep ha)
  have P1 := Lib.hid (fun u hb => peek_any (H0.belowS (w' := u) hb) a ha)
  have P2 := Lib.hid (fun u hb => refPeek_any (R0.belowS (w' := u) hb) ok a ha)
  have G1 := Lib.hid (fun u hb => gate_any (H0.belowS (w' := u) hb) (a % 9))
  have G2 := Lib.hid (refGate_any M.gt gr M.pg.length c gw M.ws.length d (a % 9))
  rw [show (if a % 9 < 0 ∨ 8 ≤ a % 9 then 0 else M.gt (a % 9).toNat) = gate M (a % 9) from rfl] at G2
  clear h r H0 R0 ok
  obtain ⟨ha0, ha1⟩ := ha
  have hq1 : a.tmod 9 = a % 9 := Int.tmod_eq_emod_of_nonneg ha0
  have hq2 : 0 ≤ a % 9 := by omega
  have hq3 : a % 9 < 9 := by omega
  have hq4 : IntKind.i64.wrap (a % 9) = a % 9 := IntWalk.i64_in _ (by omega)
  generalize fetchW M a ep = fw at *
  generalize fetchO M a ep = fo at *
  generalize fetchB M a ep = fb at *
  generalize loadW M a ep = lw at *
  generalize loadB M a ep = lb at *
  generalize peek M a = pk at *
  generalize gate M (a % 9) = gt at *
  generalize M.pg.length = n at *
  generalize M.ws.length = m at *
  generalize M.gt = G at *
  have hw0 := B1.lt
  have HW0 : Hid (w.heap.size < (w.alloc (.cells (rCs G gr n c gw m d) 33)).heap.size) := Lib.hid hw0
  go_enter Try.func14, Try.ntmps14
  go_wp2_with fail
  generalize w.alloc (.cells (rCs G gr n c gw m d) 33) = W at *
  have K0 : RT w.heap.size G gr n c gw m d W := box_cells B1
  have HW := HW0.out
  have hbr : Below W.heap.size W W := Below.refl _ _
  go_upto_region 5 with (first | (go_at_call 22; (with_reducible refine (F1.out _ hbr).mono ?_); rintro e w1 ⟨rfl, hb1⟩; obtain ⟨c0, c1, c2, c3, c4, c5, c6, c7, c8, c9⟩ := rt_go K0 HW hb1) | (go_at_call 41; (with_reducible refine (F2.out _ hb1).mono ?_); rintro e w2 ⟨rfl, hb2⟩; have hB2 := below_of hb1 hb2) | (go_at_call 23; (with_reducible refine (L1.out _ hB2).mono ?_); rintro e w3 ⟨rfl, hb3⟩; have hB3 := below_of hB2 hb3; obtain ⟨d0, d1, d2, d3, d4, d5, d6, d7, d8, d9⟩ := rt_go K0 HW hB3) | (go_at_call 42; (with_reducible refine (L2.out _ hB3).mono ?_); rintro e w4 ⟨rfl, hb4⟩; have hB4 := below_of hB3 hb4))
  clear c0 c1 c2 c3 c4 c5 c6 c7 c8 c9 d0 d1 d2 d3 d4 d5 d6 d7 d8 d9
  have K4' := rt_go K0 HW hB4
  have K4 : RT w.heap.size G gr n c gw m d w4.drew := K4'
  have hB4d := hB4.drew
  go_region_held3 (fun u => RT w.heap.size G gr n c gw m d u)
    (first | with_reducible exact K4 | with_reducible exact K5 | with_reducible exact K6 | with_reducible exact K8)
    (first | (go_at_call 24; (with_reducible refine (P1.out _ hB4d).mono ?_); rintro e w5 ⟨rfl, hb5⟩; have hB5 := below_of hB4d hb5; have K5 := rt_go K0 HW hB5) | (go_at_call 37; (with_reducible refine (P2.out _ hB5).mono ?_); rintro e w6 ⟨rfl, hb6⟩; have hB6 := below_of hB5 hb6; have K6 := rt_go K0 HW hB6) | (go_at_call 25; (with_reducible refine (G1.out _ hB6).mono ?_); rintro e w7 ⟨rfl, rfl⟩) | (go_at_call 43; (with_reducible refine (G2.out.at _).mono ?_); rintro e w8 ⟨rfl, hb8⟩; have hB8 := below_of hB6 hb8; have K8 := rt_go K0 HW hB8))
  rename_i hHeld
  clear hHeld
  go_wp2_with fail
  go_ret
  exact ⟨rfl, hb0.trans (hB8.mono hb0.size)⟩
end Go.Proofs.Ytkmjacpcpchjoaa.MF
