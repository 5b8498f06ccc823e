/-
  The walk of MemoryPages. Nothing here is a statement of the seed.
-/
import Derived.Test.YtkmjacpcpchjoaaMemAct
set_option linter.unusedSimpArgs false
set_option linter.unusedVariables false
namespace Go.Proofs.Ytkmjacpcpchjoaa.WK
open Go.RowKit PM PR PF MM MR MF

set_option maxHeartbeats 4000000 in
set_option maxRecDepth 10000 in
theorem MemoryPages_walk (a : Int) (ha : 0 ≤ a ∧ a ≤ 4294967295) (n : Int) (w : World) : Calls Try.prog 4 #[.int .u32 a, .int .i64 n] w fun e w' => e = .returned (.bool true) ∧ Below w.heap.size w w' := by
  have CN := Lib.hid (newP_any n w)
  have CM := Lib.hid (fun w => newR_any n w)
  have hok := (newM_ok (n := (min (max n 0) 256).toNat) (by omega))
  generalize newM (min (max n 0) 256).toNat = M0 at *
  have h256 := hok.p256
  have h16 := hok.w16
  have hm4 : M0.ws.length ≤ 4096 := by omega
  have CO1 := Lib.hid (fun w => pageOf_any a ha w)
  have CO2 := Lib.hid (fun w => refPageOf_any a ha w)
  have CA := Lib.hid (fun u => awake_any u)
  generalize pageOf a = pa at *
  clear hok h256 h16
  go_enter Try.func4, Try.ntmps4
  go_wp2_with fail
  (go_at_call 10; (with_reducible refine CN.out.mono ?_); rintro e w1 ⟨p, t, g, gwp, rfl, hP, hp, ht, hg, hgwp, hb⟩; have HP := Lib.hid hP; have B1 := Lib.hid hb; clear hP hb)
  go_wp2_with fail
  (go_at_call 11; (with_reducible refine (CM.out _).mono ?_); rintro e w2 ⟨gr, c, gw, d, rfl, hR, h1, h2, hb2⟩; have D1 := Lib.hid (duo_new HP.out hp ht hg hgwp B1.out hR h1 h2 hb2); clear hR h1 h2 hb2)
  have CS1 := Lib.hid (fun u hb => size_any (D1.out.belowS (w' := u) hb).pm)
  have CS2 := Lib.hid (refSize_any M0.gt gr M0.pg.length c gw M0.ws.length d hm4)
  have CG1 := Lib.hid (fun u hb => pages_any (D1.out.belowS (w' := u) hb).pm)
  have CG2 := Lib.hid (fun u hb => len_tb (D1.out.belowS (w' := u) hb).pm.tb)
  have CL := Lib.hid (fun u hb => duo_looks (D1.out.belowS (w' := u) hb) a 0 ha)
  have hRl := D1.out.box.lt
  have HL := Lib.hid D1.out.low
  have K0 : RT w2.heap.size M0.gt gr M0.pg.length c gw M0.ws.length d (w2.alloc (.cells (rCs M0.gt gr M0.pg.length c gw M0.ws.length d) 33)) := box_cells D1.out.box
  clear D1 CN CM HP B1
  have hm1 : (M0.ws.length : Int) ≤ 4096 := by omega
  have hm0 : (0 : Int) ≤ M0.ws.length := by omega
  generalize M0.pg.length = n0 at *
  generalize M0.ws.length = m0 at *
  generalize M0.gt = G0 at *
  have HRl := Lib.hid hRl
  clear hRl
  go_wp2_with fail
  generalize w2.alloc (.cells (rCs G0 gr n0 c gw m0 d) 33) = W at *
  generalize w2.heap.size = R at *
  have hRl := HRl.out
  have K0d : RT R G0 gr n0 c gw m0 d W.drew := K0
  have hbd : Below W.heap.size W W.drew := (Below.refl _ _).drew
  go_region_held3 (fun u => RT R G0 gr n0 c gw m0 d u)
    (first | with_reducible exact K0d | with_reducible exact K1 | with_reducible exact K2 | with_reducible exact K3)
    (first | (go_at_call 15; (with_reducible refine (CO1.out _).mono ?_); rintro e w3 ⟨rfl, rfl⟩) | (go_at_call 16; (with_reducible refine (CO2.out _).mono ?_); rintro e w4 ⟨rfl, rfl⟩) | (go_at_call 17; (with_reducible refine (CS1.out _ hbd).mono ?_); rintro e w5 ⟨rfl, rfl⟩) | (go_at_call 18; (with_reducible refine (CS2.out.at _).mono ?_); rintro e w6 ⟨rfl, hb6⟩; have hB6 := below_of hbd hb6; have K1 := rt_go K0 hRl hB6) | (go_at_call 19; (with_reducible refine (CG1.out _ hB6).mono ?_); rintro e w7 ⟨rfl, rfl⟩) | (go_at_call 20; (with_reducible refine (CG2.out _ hB6).mono ?_); rintro e w8 ⟨rfl, rfl⟩) | (go_at_call 14; (with_reducible refine (CL.out _ hB6).mono ?_); rintro e w9 ⟨rfl, hb9⟩; have hB9 := below_of hB6 hb9; have K2 := rt_go K0 hRl hB9) | (go_at_call 9; (with_reducible refine (CA.out _).mono ?_); rintro e w10 ⟨rfl, hb10⟩; have hB10 := below_of hB9 hb10; have K3 := rt_go K0 hRl hB10))
  rename_i hHeld
  clear hHeld
  go_wp2_with fail
  go_ret
  exact ⟨rfl, below_of HL.out hB10⟩
end Go.Proofs.Ytkmjacpcpchjoaa.WK
