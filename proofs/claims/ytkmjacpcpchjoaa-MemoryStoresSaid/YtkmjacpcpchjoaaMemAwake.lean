/-
  What every right program does with two pages. Nothing here is a statement of the seed.
-/
import Derived.Test.YtkmjacpcpchjoaaMemDo2
set_option linter.unusedSimpArgs false
set_option linter.unusedVariables false
namespace Go.Proofs.Ytkmjacpcpchjoaa.MF
open Go.RowKit PM PR PF MM MR

def aw1 : List Pg := stageL (zeros 2) 0 1 3
def awM : Mm := withP (newM 2) aw1
theorem aw_e1 : putE (newM 2) 80 = 9 := by rfl
theorem aw_m1 : putM (newM 2) 80 7 = newM 2 := by rfl
theorem aw_e2 : stageE (zeros 2) 0 1 3 = 0 := by rfl
theorem aw_e3 : putE awM 80 = 0 := by rfl
theorem aw_e4 : peek (putM awM 80 7) 80 = 7 := by rfl
theorem aw_e5 : peek (newM 2) 9 = slotW 9 := by rfl
theorem aw_e6 : pageOf 96 = 1 := by rfl
set_option maxHeartbeats 4000000 in
set_option maxRecDepth 10000 in
theorem awake_any (w : World) : Calls Try.prog 9 #[] w fun e w' => e = .returned (.bool true) ∧ Below w.heap.size w w' := by
  have CN := Lib.hid (newP_any 2 w)
  rw [show (min (max (2 : Int) 0) 256).toNat = 2 from rfl] at CN
  have CE := Lib.hid (refEnc_says 9 (by omega))
  have CO := Lib.hid (fun w => pageOf_any 96 (by omega) w)
  rw [aw_e6] at CO
  have CS := Lib.hid (fun (p t g gw : Nat) (u : World) (h : Pm u p t g gw (newM 2)) => size_any h)
  rw [show (80 : Int) + ((newM 2).ws.length : Int) = 112 by rfl] at CS
  have CP := Lib.hid (fun (p t g gw : Nat) (u : World) (h : Pm u p t g gw (newM 2)) => peek_any h 9 (by omega))
  rw [aw_e5] at CP
  have CQ := Lib.hid (fun (p t g gw : Nat) (u : World) (h : Pm u p t g gw (newM 2)) => put_any h 80 7 (by omega))
  rw [aw_e1, aw_m1] at CQ
  have CT := Lib.hid (fun (p t g gw : Nat) (u : World) (h : Pm u p t g gw (newM 2)) => pages_any h)
  have CU := Lib.hid (fun (p t g gw : Nat) (u : World) (h : Pm u p t g gw (newM 2)) => stage_tb h.tb 0 1 3 (by omega))
  rw [show stageE (newM 2).pg 0 1 3 = 0 from aw_e2, show stageL (newM 2).pg 0 1 3 = aw1 from rfl] at CU
  have CV := Lib.hid (fun (p t g gw : Nat) (u : World) (h : Pm u p t g gw awM) => put_any h 80 7 (by omega))
  rw [aw_e3] at CV
  have CX := Lib.hid (fun (p t g gw : Nat) (u : World) (h : Pm u p t g gw (putM awM 80 7)) => peek_any h 80 (by omega))
  rw [aw_e4] at CX
  have HP : Hid (∀ (p t g gw : Nat) (u u' : World), Pm u p t g gw (newM 2) → Fr (fun i => i = g) u u' → Row u' g aw1 → Pm u' p t g gw awM) := Lib.hid fun p t g gw u u' h hf hr => h.pages hf rfl (FineL.stage (fine_zeros 2) 0 1 3) hr
  generalize putM awM 80 7 = M3 at *
  generalize awM = M2 at *
  generalize aw1 = L1 at *
  generalize newM 2 = M1 at *
  generalize slotW 9 = s9 at *
  go_enter Try.func9, Try.ntmps9
  go_wp2_with fail
  (go_at_call 10; (with_reducible refine CN.out.mono ?_); rintro e w1 ⟨p, t, g, gw, rfl, hT, hp, ht, hg, hgw, hb⟩; have H1 := Lib.hid hT; have B1 := Lib.hid hb; clear hT hb)
  go_wp2_with fail
  (go_at_call 29; (with_reducible refine (CE.out.at _).mono ?_); rintro e w2 ⟨rfl, hb⟩; have H2 := Lib.hid (H1.out.belowS hb); have B2 := Lib.hid (below_of B1.out hb); clear hb)
  go_wp2_with fail
  (go_at_call 17; (with_reducible refine (CS.out _ _ _ _ _ H2.out).mono ?_); rintro e w3 ⟨rfl, rfl⟩)
  go_wp2_with fail
  (go_at_call 24; (with_reducible refine (CP.out _ _ _ _ _ H2.out).mono ?_); rintro e w4 ⟨rfl, hb⟩; have H4 := Lib.hid (H2.out.belowS hb); have B4 := Lib.hid (below_of B2.out hb); clear hb)
  go_wp2_with fail
  (go_at_call 15; (with_reducible refine (CO.out _).mono ?_); rintro e w5 ⟨rfl, rfl⟩)
  go_wp2_with fail
  (go_at_call 27; (with_reducible refine (CQ.out _ _ _ _ _ H4.out).mono ?_); rintro e w6 ⟨rfl, hf, hP⟩; have H6 := Lib.hid hP; have B6 := Lib.hid (PR.Below.fr B4.out hf B4.out.size (by rintro i (rfl | rfl | rfl) <;> assumption)); clear hf hP)
  go_wp2_with fail
  (go_at_call 19; (with_reducible refine (CT.out _ _ _ _ _ H6.out).mono ?_); rintro e w7 ⟨rfl, rfl⟩)
  go_wp2_with fail
  (go_at_call 32; (with_reducible refine (CU.out _ _ _ _ _ H6.out).mono ?_); rintro e w8 ⟨rfl, hf, hr⟩; have H8 := Lib.hid (HP.out _ _ _ _ _ _ H6.out hf hr); have B8 := Lib.hid (PR.Below.fr B6.out hf B6.out.size (by rintro i rfl; exact hg)); clear hf hr)
  go_wp2_with fail
  (go_at_call 27; (with_reducible refine (CV.out _ _ _ _ _ H8.out).mono ?_); rintro e w9 ⟨rfl, hf, hP⟩; have H9 := Lib.hid hP; have B9 := Lib.hid (PR.Below.fr B8.out hf B8.out.size (by rintro i (rfl | rfl | rfl) <;> assumption)); clear hf hP)
  go_wp2_with fail
  (go_at_call 24; (with_reducible refine (CX.out _ _ _ _ _ H9.out).mono ?_); rintro e w10 ⟨rfl, hb⟩; have B10 := Lib.hid (below_of B9.out hb); clear hb)
  go_wp2_with fail
  go_ret
  exact ⟨rfl, B10.out⟩
end Go.Proofs.Ytkmjacpcpchjoaa.MF
