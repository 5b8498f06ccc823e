/-
  What every right program does with two pages. Nothing here is a statement of the seed.
-/
import Derived.Test.YthpdpocglfafaaaPageDo
set_option linter.unusedSimpArgs false
set_option linter.unusedVariables false
namespace Go.Proofs.Ythpdpocglfafaaa.PF
open Go.RowKit PM PR

theorem turn_of {p g : Nat} {l l' : List Pg} {w w' : World} (h : Tb w p g l) (hf : Fr (fun i => i = g) w w') (hr : Row w' g l') (hl : l'.length = l.length) : Tb w' p g l' := h.turn hf (fun e => h.lt.2.2 e) hl hr
def aw1 : List Pg := [zero, stg 7, stg 7, zero]
def aw2 : List Pg := [zero, ⟨2, true, false, 7, 0⟩, ⟨2, false, true, 7, 0⟩, zero]
def aw3 : List Pg := [zero, ⟨3, true, false, 7, 3⟩, ⟨3, false, true, 7, 3⟩, zero]
theorem aw1e : stageE (zeros 4) 1 2 7 = 0 := by rfl
theorem aw1l : stageL (zeros 4) 1 2 7 = aw1 := by rfl
theorem aw2e : pubE aw1 7 1 = 0 := by rfl
theorem aw2l : pubL aw1 7 1 = aw2 := by rfl
theorem aw2g : gP aw2 1 = ⟨2, true, false, 7, 0⟩ := by rfl
theorem aw2s : stageE aw2 2 1 8 = 9 := by rfl
theorem aw2t : stageL aw2 2 1 8 = aw2 := by rfl
theorem aw3e : retE aw2 7 = 0 := by rfl
theorem aw3l : retL aw2 7 3 = aw3 := by rfl
theorem aw3g : gP aw3 1 = ⟨3, true, false, 7, 3⟩ := by rfl
theorem aw3r : runsB ⟨3, true, false, 7, 3⟩ 2 = true := by rfl
theorem aw3s : runsB ⟨3, true, false, 7, 3⟩ 3 = false := by rfl
set_option maxHeartbeats 4000000 in
theorem awake_any (w : World) : Calls Try.prog 9 #[] w fun e w' => e = .returned (.bool true) ∧ Below w.heap.size w w' := by
  have CN := Lib.hid (new_any 4 w)
  rw [show (min (max (4 : Int) 0) 256).toNat = 4 from rfl] at CN
  have CR2 := Lib.hid (runs_any ⟨3, true, false, 7, 3⟩ 2)
  have CR3 := Lib.hid (runs_any ⟨3, true, false, 7, 3⟩ 3)
  rw [aw3r] at CR2
  rw [aw3s] at CR3
  change Hid (Says _ _ #[pgV 3 true false 7 3, .int .u64 2] _) at CR2
  change Hid (Says _ _ #[pgV 3 true false 7 3, .int .u64 3] _) at CR3
  have S1 := Lib.hid (fun (p g : Nat) (u : World) (h : Tb u p g (zeros 4)) => stage_tb h 1 2 7 (by omega))
  rw [aw1e, aw1l] at S1
  have S2 := Lib.hid (fun (p g : Nat) (u : World) (h : Tb u p g aw1) => publish_tb h 7 1)
  rw [aw2e, aw2l] at S2
  have S3 := Lib.hid (fun (p g : Nat) (u : World) (h : Tb u p g aw2) => get_tb h 1)
  rw [aw2g] at S3
  change Hid (∀ (p g : Nat) (u : World) (h : Tb u p g aw2), Calls _ _ _ u fun e w' => e = .returned (pgV 2 true false 7 0) ∧ _) at S3
  have S4 := Lib.hid (fun (p g : Nat) (u : World) (h : Tb u p g aw2) => stage_tb h 2 1 8 (by omega))
  rw [aw2s, aw2t] at S4
  have S5 := Lib.hid (fun (p g : Nat) (u : World) (h : Tb u p g aw2) => retire_tb h 7 3)
  rw [aw3e, aw3l] at S5
  have S6 := Lib.hid (fun (p g : Nat) (u : World) (h : Tb u p g aw3) => get_tb h 1)
  rw [aw3g] at S6
  change Hid (∀ (p g : Nat) (u : World) (h : Tb u p g aw3), Calls _ _ _ u fun e w' => e = .returned (pgV 3 true false 7 3) ∧ _) at S6
  go_enter Try.func9, Try.ntmps9
  go_wp2_with fail
  (go_at_call 10; (with_reducible refine CN.out.mono ?_); rintro e w1 ⟨p, g, rfl, hT, hp, hg, hb⟩; have H1 := Lib.hid hT; have B1 := Lib.hid hb; clear hT hb)
  go_wp2_with fail
  (go_at_call 24; (with_reducible refine (S1.out _ _ _ H1.out).mono ?_); rintro e w2 ⟨rfl, hf, hr⟩; have H2 := Lib.hid (turn_of H1.out hf hr rfl); have B2 := Lib.hid (Below.fr B1.out hf B1.out.size (by rintro i rfl; exact hg)); clear hf hr)
  go_wp2_with fail
  (go_at_call 25; (with_reducible refine (S2.out _ _ _ H2.out).mono ?_); rintro e w3 ⟨rfl, hf, hr⟩; have H3 := Lib.hid (turn_of H2.out hf hr rfl); have B3 := Lib.hid (Below.fr B2.out hf B2.out.size (by rintro i rfl; exact hg)); clear hf hr)
  go_wp2_with fail
  (go_at_call 22; (with_reducible refine (S3.out _ _ _ H3.out).mono ?_); rintro e w4 ⟨rfl, hb⟩; have H4 := Lib.hid (H3.out.belowS hb); have B4 := Lib.hid (below_of B3.out hb); clear hb)
  go_wp2_with fail
  (go_at_call 24; (with_reducible refine (S4.out _ _ _ H4.out).mono ?_); rintro e w5 ⟨rfl, hf, hr⟩; have H5 := Lib.hid (turn_of H4.out hf hr rfl); have B5 := Lib.hid (Below.fr B4.out hf B4.out.size (by rintro i rfl; exact hg)); clear hf hr)
  go_wp2_with fail
  (go_at_call 26; (with_reducible refine (S5.out _ _ _ H5.out).mono ?_); rintro e w6 ⟨rfl, hf, hr⟩; have H6 := Lib.hid (turn_of H5.out hf hr rfl); have B6 := Lib.hid (Below.fr B5.out hf B5.out.size (by rintro i rfl; exact hg)); clear hf hr)
  go_wp2_with fail
  (go_at_call 22; (with_reducible refine (S6.out _ _ _ H6.out).mono ?_); rintro e w7 ⟨rfl, hb⟩; have H7 := Lib.hid (H6.out.belowS hb); have B7 := Lib.hid (below_of B6.out hb); clear hb)
  go_wp2_with fail
  (go_at_call 16; (with_reducible refine (CR2.out.at _).mono ?_); rintro e w8 ⟨rfl, hb⟩; have H8 := Lib.hid (H7.out.belowS hb); have B8 := Lib.hid (below_of B7.out hb); clear hb)
  go_wp2_with fail
  (go_at_call 22; (with_reducible refine (S6.out _ _ _ H8.out).mono ?_); rintro e w9 ⟨rfl, hb⟩; have B9 := Lib.hid (below_of B8.out hb); clear hb)
  go_wp2_with fail
  (go_at_call 16; (with_reducible refine (CR3.out.at _).mono ?_); rintro e w10 ⟨rfl, hb⟩; have B10 := Lib.hid (below_of B9.out hb); clear hb)
  go_wp2_with fail
  go_ret
  exact ⟨rfl, B10.out⟩
end Go.Proofs.Ythpdpocglfafaaa.PF
