/-
  Two modules held against each other, as the program does. Nothing here is a statement of the seed.
-/
import Derived.Test.YtdlinlkdielmkaaObjEqP
set_option linter.unusedSimpArgs false
set_option linter.unusedVariables false
namespace Go.Proofs.Ytdlinlkdielmkaa.OR
open Go.RowKit WM NR OM
set_option maxHeartbeats 4000000
set_option maxRecDepth 10000
theorem md_dec (m k : Md) : decide (m = k) = (decide (m.name = k.name) && (decide (m.exps = k.exps) && (decide (m.imps = k.imps) && (decide (m.code = k.code) && (decide (m.data = k.data) && decide (m.rels = k.rels)))))) := by
  by_cases h : m = k
  · subst h
    simp
  · rw [decide_eq_false h]
    have h2 : ¬ (m.name = k.name ∧ m.exps = k.exps ∧ m.imps = k.imps ∧ m.code = k.code ∧ m.data = k.data ∧ m.rels = k.rels) := fun x => h (md_eq x.1 x.2.1 x.2.2.1 x.2.2.2.1 x.2.2.2.2.1 x.2.2.2.2.2)
    symm
    simpa using h2
theorem objSame_any {w : World} {ea : Option Addr} {en ec : Nat} {ia : Option Addr} {im ic : Nat} {ca : Option Addr} {cn cc : Nat} {da : Option Addr} {dn dc : Nat} {ra : Option Addr} {rn rc : Nat} {m : Md} {ea2 : Option Addr} {en2 ec2 : Nat} {ia2 : Option Addr} {im2 ic2 : Nat} {ca2 : Option Addr} {cn2 cc2 : Nat} {da2 : Option Addr} {dn2 dc2 : Nat} {ra2 : Option Addr} {rn2 rc2 : Nat} {k : Md} (h : RdM (· < w.heap.size) w ea en ec ia im ic ca cn cc da dn dc ra rn rc m) (h' : RdM (· < w.heap.size) w ea2 en2 ec2 ia2 im2 ic2 ca2 cn2 cc2 da2 dn2 dc2 ra2 rn2 rc2 k) :
    Calls Try.prog 20 #[mV (bs m.name) ea en ec ia im ic ca cn cc da dn dc ra rn rc, mV (bs k.name) ea2 en2 ec2 ia2 im2 ic2 ca2 cn2 cc2 da2 dn2 dc2 ra2 rn2 rc2] w fun e w' => e = .returned (.bool (decide (m = k))) ∧ Below w.heap.size w w' := by
  obtain ⟨T0, T1, T2⟩ := two_mods w (mCs (bs m.name) ea en ec ia im ic ca cn cc da dn dc ra rn rc) (mCs (bs k.name) ea2 en2 ec2 ia2 im2 ic2 ca2 cn2 cc2 da2 dn2 dc2 ra2 rn2 rc2)
  have HB0 := Lib.hid T0
  have X1 := Lib.hid T1
  have X2 := Lib.hid T2
  have up := fun (u : World) (hb : Below w.heap.size w u) (g : Nat) (hg : g < w.heap.size) => Nat.lt_of_lt_of_le hg hb.size
  have C1 := Lib.hid (fun (u : World) (hb : Below w.heap.size w u) => equalTexts_any ((h.ex.below hb).mono (up u hb)) ((h'.ex.below hb).mono (up u hb)))
  have C2 := Lib.hid (fun (u : World) (hb : Below w.heap.size w u) => equalTexts_any ((h.im.below hb).mono (up u hb)) ((h'.im.below hb).mono (up u hb)))
  have C3 := Lib.hid (fun (u : World) (hb : Below w.heap.size w u) => equalWords_any ((h.cd.below hb).mono (up u hb)) ((h'.cd.below hb).mono (up u hb)))
  have C4 := Lib.hid (fun (u : World) (hb : Below w.heap.size w u) => equalWords_any ((h.dt.below hb).mono (up u hb)) ((h'.dt.below hb).mono (up u hb)))
  have C5 := Lib.hid (fun (u : World) (hb : Below w.heap.size w u) => equalRels_any ((h.rl.below hb).mono (up u hb)) ((h'.rl.below hb).mono (up u hb)))
  obtain ⟨E, hE⟩ : ∃ E, E = decide (m = k) := ⟨_, rfl⟩
  rw [← hE]
  rw [md_dec] at hE
  have HE := Lib.hid hE
  clear T0 T1 T2 h h' up hE
  generalize decide (m.exps = k.exps) = B1 at *
  generalize decide (m.imps = k.imps) = B2 at *
  generalize decide (m.code = k.code) = B3 at *
  generalize decide (m.data = k.data) = B4 at *
  generalize decide (m.rels = k.rels) = B5 at *
  by_cases eN : m.name = k.name
  case neg =>
    have exy : ((bs m.name).toList == (bs k.name).toList) = false := by rw [bs_toList, bs_toList]; simpa using eN
    have HF := Lib.hid (show E = false by rw [HE.out, decide_eq_false eN]; rfl)
    clear eN HE
    generalize bs m.name = x at *
    generalize bs k.name = y at *
    go_enter Try.func20, Try.ntmps20
    go_wp2_with fail
    go_ret
    exact ⟨by rw [HF.out]; rfl, HB0.out⟩
  rw [decide_eq_true eN, Bool.true_and] at HE
  rw [← eN] at HB0 X1 X2 ⊢
  clear eN
  generalize bs m.name = x at *
  cases B1
  case false =>
    have HF := Lib.hid (show E = false by rw [HE.out]; rfl)
    clear HE
    go_enter Try.func20, Try.ntmps20
    go_wp2_with (first | (go_at_call 51; (with_reducible refine (C1.out _ HB0.out).mono ?_); rintro e w1 ⟨rfl, hb⟩; have Z1 := Lib.hid (HB0.out.trans (hb.mono HB0.out.size)); have P1 := X1.out.belowS hb; have R1 := X2.out.belowS hb; obtain ⟨c10, c11, c12, c13, c14, c15⟩ := mod_cells P1; obtain ⟨d10, d11, d12, d13, d14, d15⟩ := mod_cells R1; have P1 := Lib.hid P1; have R1 := Lib.hid R1; have lq1 := P1.out.lt; have lr1 := R1.out.lt; clear hb))
    go_ret
    exact ⟨by rw [HF.out]; rfl, Z1.out⟩
  rw [Bool.true_and] at HE
  cases B2
  case false =>
    have HF := Lib.hid (show E = false by rw [HE.out]; rfl)
    clear HE
    go_enter Try.func20, Try.ntmps20
    go_wp2_with (first | (go_at_call 51; (with_reducible refine (C1.out _ HB0.out).mono ?_); rintro e w1 ⟨rfl, hb⟩; have Z1 := Lib.hid (HB0.out.trans (hb.mono HB0.out.size)); have P1 := X1.out.belowS hb; have R1 := X2.out.belowS hb; obtain ⟨c10, c11, c12, c13, c14, c15⟩ := mod_cells P1; obtain ⟨d10, d11, d12, d13, d14, d15⟩ := mod_cells R1; have P1 := Lib.hid P1; have R1 := Lib.hid R1; have lq1 := P1.out.lt; have lr1 := R1.out.lt; clear hb) | (go_at_call 51; (with_reducible refine (C2.out _ Z1.out).mono ?_); rintro e w2 ⟨rfl, hb⟩; have Z2 := Lib.hid (Z1.out.trans (hb.mono Z1.out.size)); have P2 := P1.out.belowS hb; have R2 := R1.out.belowS hb; obtain ⟨c20, c21, c22, c23, c24, c25⟩ := mod_cells P2; obtain ⟨d20, d21, d22, d23, d24, d25⟩ := mod_cells R2; have P2 := Lib.hid P2; have R2 := Lib.hid R2; have lq2 := P2.out.lt; have lr2 := R2.out.lt; clear hb))
    go_ret
    exact ⟨by rw [HF.out]; rfl, Z2.out⟩
  rw [Bool.true_and] at HE
  cases B3
  case false =>
    have HF := Lib.hid (show E = false by rw [HE.out]; rfl)
    clear HE
    go_enter Try.func20, Try.ntmps20
    go_wp2_with (first | (go_at_call 51; (with_reducible refine (C1.out _ HB0.out).mono ?_); rintro e w1 ⟨rfl, hb⟩; have Z1 := Lib.hid (HB0.out.trans (hb.mono HB0.out.size)); have P1 := X1.out.belowS hb; have R1 := X2.out.belowS hb; obtain ⟨c10, c11, c12, c13, c14, c15⟩ := mod_cells P1; obtain ⟨d10, d11, d12, d13, d14, d15⟩ := mod_cells R1; have P1 := Lib.hid P1; have R1 := Lib.hid R1; have lq1 := P1.out.lt; have lr1 := R1.out.lt; clear hb) | (go_at_call 51; (with_reducible refine (C2.out _ Z1.out).mono ?_); rintro e w2 ⟨rfl, hb⟩; have Z2 := Lib.hid (Z1.out.trans (hb.mono Z1.out.size)); have P2 := P1.out.belowS hb; have R2 := R1.out.belowS hb; obtain ⟨c20, c21, c22, c23, c24, c25⟩ := mod_cells P2; obtain ⟨d20, d21, d22, d23, d24, d25⟩ := mod_cells R2; have P2 := Lib.hid P2; have R2 := Lib.hid R2; have lq2 := P2.out.lt; have lr2 := R2.out.lt; clear hb) | (go_at_call 52; (with_reducible refine (C3.out _ Z2.out).mono ?_); rintro e w3 ⟨rfl, hb⟩; have Z3 := Lib.hid (Z2.out.trans (hb.mono Z2.out.size)); have P3 := P2.out.belowS hb; have R3 := R2.out.belowS hb; obtain ⟨c30, c31, c32, c33, c34, c35⟩ := mod_cells P3; obtain ⟨d30, d31, d32, d33, d34, d35⟩ := mod_cells R3; have P3 := Lib.hid P3; have R3 := Lib.hid R3; have lq3 := P3.out.lt; have lr3 := R3.out.lt; clear hb))
    go_ret
    exact ⟨by rw [HF.out]; rfl, Z3.out⟩
  rw [Bool.true_and] at HE
  cases B4
  case false =>
    have HF := Lib.hid (show E = false by rw [HE.out]; rfl)
    clear HE
    go_enter Try.func20, Try.ntmps20
    go_wp2_with (first | (go_at_call 51; (with_reducible refine (C1.out _ HB0.out).mono ?_); rintro e w1 ⟨rfl, hb⟩; have Z1 := Lib.hid (HB0.out.trans (hb.mono HB0.out.size)); have P1 := X1.out.belowS hb; have R1 := X2.out.belowS hb; obtain ⟨c10, c11, c12, c13, c14, c15⟩ := mod_cells P1; obtain ⟨d10, d11, d12, d13, d14, d15⟩ := mod_cells R1; have P1 := Lib.hid P1; have R1 := Lib.hid R1; have lq1 := P1.out.lt; have lr1 := R1.out.lt; clear hb) | (go_at_call 51; (with_reducible refine (C2.out _ Z1.out).mono ?_); rintro e w2 ⟨rfl, hb⟩; have Z2 := Lib.hid (Z1.out.trans (hb.mono Z1.out.size)); have P2 := P1.out.belowS hb; have R2 := R1.out.belowS hb; obtain ⟨c20, c21, c22, c23, c24, c25⟩ := mod_cells P2; obtain ⟨d20, d21, d22, d23, d24, d25⟩ := mod_cells R2; have P2 := Lib.hid P2; have R2 := Lib.hid R2; have lq2 := P2.out.lt; have lr2 := R2.out.lt; clear hb) | (go_at_call 52; (with_reducible refine (C3.out _ Z2.out).mono ?_); rintro e w3 ⟨rfl, hb⟩; have Z3 := Lib.hid (Z2.out.trans (hb.mono Z2.out.size)); have P3 := P2.out.belowS hb; have R3 := R2.out.belowS hb; obtain ⟨c30, c31, c32, c33, c34, c35⟩ := mod_cells P3; obtain ⟨d30, d31, d32, d33, d34, d35⟩ := mod_cells R3; have P3 := Lib.hid P3; have R3 := Lib.hid R3; have lq3 := P3.out.lt; have lr3 := R3.out.lt; clear hb) | (go_at_call 52; (with_reducible refine (C4.out _ Z3.out).mono ?_); rintro e w4 ⟨rfl, hb⟩; have Z4 := Lib.hid (Z3.out.trans (hb.mono Z3.out.size)); have P4 := P3.out.belowS hb; have R4 := R3.out.belowS hb; obtain ⟨c40, c41, c42, c43, c44, c45⟩ := mod_cells P4; obtain ⟨d40, d41, d42, d43, d44, d45⟩ := mod_cells R4; have P4 := Lib.hid P4; have R4 := Lib.hid R4; have lq4 := P4.out.lt; have lr4 := R4.out.lt; clear hb))
    go_ret
    exact ⟨by rw [HF.out]; rfl, Z4.out⟩
  rw [Bool.true_and] at HE
  have HF := Lib.hid (show E = B5 by rw [HE.out])
  clear HE
  go_enter Try.func20, Try.ntmps20
  go_wp2_with (first | (go_at_call 51; (with_reducible refine (C1.out _ HB0.out).mono ?_); rintro e w1 ⟨rfl, hb⟩; have Z1 := Lib.hid (HB0.out.trans (hb.mono HB0.out.size)); have P1 := X1.out.belowS hb; have R1 := X2.out.belowS hb; obtain ⟨c10, c11, c12, c13, c14, c15⟩ := mod_cells P1; obtain ⟨d10, d11, d12, d13, d14, d15⟩ := mod_cells R1; have P1 := Lib.hid P1; have R1 := Lib.hid R1; have lq1 := P1.out.lt; have lr1 := R1.out.lt; clear hb) | (go_at_call 51; (with_reducible refine (C2.out _ Z1.out).mono ?_); rintro e w2 ⟨rfl, hb⟩; have Z2 := Lib.hid (Z1.out.trans (hb.mono Z1.out.size)); have P2 := P1.out.belowS hb; have R2 := R1.out.belowS hb; obtain ⟨c20, c21, c22, c23, c24, c25⟩ := mod_cells P2; obtain ⟨d20, d21, d22, d23, d24, d25⟩ := mod_cells R2; have P2 := Lib.hid P2; have R2 := Lib.hid R2; have lq2 := P2.out.lt; have lr2 := R2.out.lt; clear hb) | (go_at_call 52; (with_reducible refine (C3.out _ Z2.out).mono ?_); rintro e w3 ⟨rfl, hb⟩; have Z3 := Lib.hid (Z2.out.trans (hb.mono Z2.out.size)); have P3 := P2.out.belowS hb; have R3 := R2.out.belowS hb; obtain ⟨c30, c31, c32, c33, c34, c35⟩ := mod_cells P3; obtain ⟨d30, d31, d32, d33, d34, d35⟩ := mod_cells R3; have P3 := Lib.hid P3; have R3 := Lib.hid R3; have lq3 := P3.out.lt; have lr3 := R3.out.lt; clear hb) | (go_at_call 52; (with_reducible refine (C4.out _ Z3.out).mono ?_); rintro e w4 ⟨rfl, hb⟩; have Z4 := Lib.hid (Z3.out.trans (hb.mono Z3.out.size)); have P4 := P3.out.belowS hb; have R4 := R3.out.belowS hb; obtain ⟨c40, c41, c42, c43, c44, c45⟩ := mod_cells P4; obtain ⟨d40, d41, d42, d43, d44, d45⟩ := mod_cells R4; have P4 := Lib.hid P4; have R4 := Lib.hid R4; have lq4 := P4.out.lt; have lr4 := R4.out.lt; clear hb) | (go_at_call 53; (with_reducible refine (C5.out _ Z4.out).mono ?_); rintro e w5 ⟨rfl, hb⟩; have Z5 := Lib.hid (Z4.out.trans (hb.mono Z4.out.size)); have P5 := P4.out.belowS hb; have R5 := R4.out.belowS hb; obtain ⟨c50, c51, c52, c53, c54, c55⟩ := mod_cells P5; obtain ⟨d50, d51, d52, d53, d54, d55⟩ := mod_cells R5; have P5 := Lib.hid P5; have R5 := Lib.hid R5; have lq5 := P5.out.lt; have lr5 := R5.out.lt; clear hb))
  go_ret
  exact ⟨by rw [HF.out]; rfl, Z5.out⟩
end Go.Proofs.Ytdlinlkdielmkaa.OR

