/-
  Two modules held against each other, as the reference does. Nothing here is a statement of the seed.
-/
import Derived.Test.YtajidaicojekdaaObjA
import Derived.Deep.QuietTactic
import Derived.BigQuiet
set_option linter.unusedSimpArgs false
set_option linter.unusedVariables false
namespace Go.Proofs.Ytajidaicojekdaa.OR
open Go.RowKit WM NR OM
set_option maxHeartbeats 8000000
set_option maxRecDepth 10000
theorem two_mods (w : World) (c d : Array Value) : Below w.heap.size w ((w.alloc (.cells c 45)).alloc (.cells d 45)) ∧ Whole ((w.alloc (.cells c 45)).alloc (.cells d 45)) w.heap.size 45 c ∧ Whole ((w.alloc (.cells c 45)).alloc (.cells d 45)) (w.heap.size + 1) 45 d := by
  refine ⟨(below_new w _).alloc (by simp) _, (Whole.new w _ _).alloc _, ?_⟩
  have := Whole.new (w.alloc (.cells c 45)) 45 d
  simpa using this
theorem md_ne {m k : Md} (h : ¬ (m.name = k.name ∧ m.exps = k.exps ∧ m.imps = k.imps ∧ m.code = k.code ∧ m.data = k.data ∧ m.rels = k.rels)) : ¬ m = k := by
  rintro rfl
  exact h ⟨rfl, rfl, rfl, rfl, rfl, rfl⟩
theorem md_eq {m k : Md} (h1 : m.name = k.name) (h2 : m.exps = k.exps) (h3 : m.imps = k.imps) (h4 : m.code = k.code) (h5 : m.data = k.data) (h6 : m.rels = k.rels) : m = k := by
  obtain ⟨a, b, c, d, e, f⟩ := m
  obtain ⟨a', b', c', d', e', f'⟩ := k
  simp only at *
  subst h1 h2 h3 h4 h5 h6
  rfl
theorem rl_eq {r s : Rl} (h1 : r.kind = s.kind) (h2 : r.at_ = s.at_) (h3 : r.wh = s.wh) : r = s := by
  obtain ⟨a, b, c⟩ := r
  obtain ⟨a', b', c'⟩ := s
  simp only at *
  subst h1 h2 h3
  rfl
theorem refSame_any {w : World} {ea : Option Addr} {en ec : Nat} {ia : Option Addr} {im ic : Nat} {ca : Option Addr} {cn cc : Nat} {da : Option Addr} {dn dc : Nat} {ra : Option Addr} {rn rc : Nat} {m : Md} {ea2 : Option Addr} {en2 ec2 : Nat} {ia2 : Option Addr} {im2 ic2 : Nat} {ca2 : Option Addr} {cn2 cc2 : Nat} {da2 : Option Addr} {dn2 dc2 : Nat} {ra2 : Option Addr} {rn2 rc2 : Nat} {k : Md} (h : RdM (· < w.heap.size) w ea en ec ia im ic ca cn cc da dn dc ra rn rc m) (h' : RdM (· < w.heap.size) w ea2 en2 ec2 ia2 im2 ic2 ca2 cn2 cc2 da2 dn2 dc2 ra2 rn2 rc2 k) :
    Calls Try.prog 22 #[mV (bs m.name) ea en ec ia im ic ca cn cc da dn dc ra rn rc, mV (bs k.name) ea2 en2 ec2 ia2 im2 ic2 ca2 cn2 cc2 da2 dn2 dc2 ra2 rn2 rc2] w fun e w' => e = .returned (.bool (decide (m = k))) ∧ Below w.heap.size w w' := by
  obtain ⟨T0, T1, T2⟩ := two_mods w (mCs (bs m.name) ea en ec ia im ic ca cn cc da dn dc ra rn rc) (mCs (bs k.name) ea2 en2 ec2 ia2 im2 ic2 ca2 cn2 cc2 da2 dn2 dc2 ra2 rn2 rc2)
  have HB0 := Lib.hid T0
  have X1 := Lib.hid T1
  have X2 := Lib.hid T2
  obtain ⟨l1, l2, l3, l4, l5⟩ := h.lens
  obtain ⟨k1, k2, k3, k4, k5⟩ := h'.lens
  obtain ⟨_, b5, b6⟩ := h.rl.len
  obtain ⟨_, b7, b8⟩ := h'.rl.len
  unfold maxLen at b6 b8
  have d5 : (rn : Int) ≤ 9223372036854775807 := by omega
  have d6 : (rn2 : Int) ≤ 9223372036854775807 := by omega
  have b5' : (rn : Int) ≤ rc := by omega
  have b7' : (rn2 : Int) ≤ rc2 := by omega
  have up := fun (u : World) (hb : Below w.heap.size w u) (g : Nat) (hg : g < w.heap.size) => Nat.lt_of_lt_of_le hg hb.size
  have CE := Lib.hid (fun (u : World) (hb : Below w.heap.size w u) => sameTexts_any ((h.ex.below hb).mono (up u hb)) ((h'.ex.below hb).mono (up u hb)))
  have CI := Lib.hid (fun (u : World) (hb : Below w.heap.size w u) => sameTexts_any ((h.im.below hb).mono (up u hb)) ((h'.im.below hb).mono (up u hb)))
  have CC := Lib.hid (fun (u : World) (hb : Below w.heap.size w u) => sameWords_any ((h.cd.below hb).mono (up u hb)) ((h'.cd.below hb).mono (up u hb)))
  have CD := Lib.hid (fun (u : World) (hb : Below w.heap.size w u) => sameWords_any ((h.dt.below hb).mono (up u hb)) ((h'.dt.below hb).mono (up u hb)))
  have HR := Lib.hid (And.intro h.rl h'.rl)
  have HL := Lib.hid (And.intro l5 k5)
  clear T0 T1 T2 h h' up b5 b6 b7 b8 l1 l2 l3 l4 k1 k2 k3 k4
  by_cases eN : m.name = k.name
  case neg =>
    rw [decide_eq_false (md_ne fun h => eN h.1)]
    have exy : ((bs m.name).toList == (bs k.name).toList) = false := by rw [bs_toList, bs_toList]; simpa using eN
    clear eN l5 k5
    generalize bs m.name = x at *
    generalize bs k.name = y at *
    go_enter Try.func22, Try.ntmps22
    go_wp2_with fail
    go_ret
    exact ⟨rfl, HB0.out⟩
  rw [← eN] at HB0 X1 X2 ⊢
  have hxx : ((bs m.name).toList == (bs m.name).toList) = true := by simp
  by_cases e0 : m.exps = k.exps
  case neg =>
    rw [decide_eq_false (md_ne fun h => e0 h.2.1)]
    rw [decide_eq_false e0] at CE
    clear e0 l5 k5
    generalize bs m.name = x at *
    go_enter Try.func22, Try.ntmps22
    go_wp2_with (first | (go_at_call 54; (with_reducible refine (CE.out _ HB0.out).mono ?_); rintro e w1 ⟨rfl, hb⟩; have Z1 := Lib.hid (HB0.out.trans (hb.mono HB0.out.size)); have P1 := X1.out.belowS hb; have R1 := X2.out.belowS hb; obtain ⟨c10, c11, c12, c13, c14, c15⟩ := mod_cells P1; obtain ⟨d10, d11, d12, d13, d14, d15⟩ := mod_cells R1; have P1 := Lib.hid P1; have R1 := Lib.hid R1; have lq1 := P1.out.lt; have lr1 := R1.out.lt; clear hb))
    go_ret
    exact ⟨rfl, Z1.out⟩
  rw [decide_eq_true e0] at CE
  by_cases e1 : m.imps = k.imps
  case neg =>
    rw [decide_eq_false (md_ne fun h => e1 h.2.2.1)]
    rw [decide_eq_false e1] at CI
    clear e1 l5 k5
    generalize bs m.name = x at *
    go_enter Try.func22, Try.ntmps22
    go_wp2_with (first | (go_at_call 54; (with_reducible refine (CE.out _ HB0.out).mono ?_); rintro e w1 ⟨rfl, hb⟩; have Z1 := Lib.hid (HB0.out.trans (hb.mono HB0.out.size)); have P1 := X1.out.belowS hb; have R1 := X2.out.belowS hb; obtain ⟨c10, c11, c12, c13, c14, c15⟩ := mod_cells P1; obtain ⟨d10, d11, d12, d13, d14, d15⟩ := mod_cells R1; have P1 := Lib.hid P1; have R1 := Lib.hid R1; have lq1 := P1.out.lt; have lr1 := R1.out.lt; clear hb) | (go_at_call 54; (with_reducible refine (CI.out _ Z1.out).mono ?_); rintro e w2 ⟨rfl, hb⟩; have Z2 := Lib.hid (Z1.out.trans (hb.mono Z1.out.size)); have P2 := P1.out.belowS hb; have R2 := R1.out.belowS hb; obtain ⟨c20, c21, c22, c23, c24, c25⟩ := mod_cells P2; obtain ⟨d20, d21, d22, d23, d24, d25⟩ := mod_cells R2; have P2 := Lib.hid P2; have R2 := Lib.hid R2; have lq2 := P2.out.lt; have lr2 := R2.out.lt; clear hb))
    go_ret
    exact ⟨rfl, Z2.out⟩
  rw [decide_eq_true e1] at CI
  by_cases e2 : m.code = k.code
  case neg =>
    rw [decide_eq_false (md_ne fun h => e2 h.2.2.2.1)]
    rw [decide_eq_false e2] at CC
    clear e2 l5 k5
    generalize bs m.name = x at *
    go_enter Try.func22, Try.ntmps22
    go_wp2_with (first | (go_at_call 54; (with_reducible refine (CE.out _ HB0.out).mono ?_); rintro e w1 ⟨rfl, hb⟩; have Z1 := Lib.hid (HB0.out.trans (hb.mono HB0.out.size)); have P1 := X1.out.belowS hb; have R1 := X2.out.belowS hb; obtain ⟨c10, c11, c12, c13, c14, c15⟩ := mod_cells P1; obtain ⟨d10, d11, d12, d13, d14, d15⟩ := mod_cells R1; have P1 := Lib.hid P1; have R1 := Lib.hid R1; have lq1 := P1.out.lt; have lr1 := R1.out.lt; clear hb) | (go_at_call 54; (with_reducible refine (CI.out _ Z1.out).mono ?_); rintro e w2 ⟨rfl, hb⟩; have Z2 := Lib.hid (Z1.out.trans (hb.mono Z1.out.size)); have P2 := P1.out.belowS hb; have R2 := R1.out.belowS hb; obtain ⟨c20, c21, c22, c23, c24, c25⟩ := mod_cells P2; obtain ⟨d20, d21, d22, d23, d24, d25⟩ := mod_cells R2; have P2 := Lib.hid P2; have R2 := Lib.hid R2; have lq2 := P2.out.lt; have lr2 := R2.out.lt; clear hb) | (go_at_call 15; (with_reducible refine (CC.out _ Z2.out).mono ?_); rintro e w3 ⟨rfl, hb⟩; have Z3 := Lib.hid (Z2.out.trans (hb.mono Z2.out.size)); have P3 := P2.out.belowS hb; have R3 := R2.out.belowS hb; obtain ⟨c30, c31, c32, c33, c34, c35⟩ := mod_cells P3; obtain ⟨d30, d31, d32, d33, d34, d35⟩ := mod_cells R3; have P3 := Lib.hid P3; have R3 := Lib.hid R3; have lq3 := P3.out.lt; have lr3 := R3.out.lt; clear hb))
    go_ret
    exact ⟨rfl, Z3.out⟩
  rw [decide_eq_true e2] at CC
  by_cases e3 : m.data = k.data
  case neg =>
    rw [decide_eq_false (md_ne fun h => e3 h.2.2.2.2.1)]
    rw [decide_eq_false e3] at CD
    clear e3 l5 k5
    generalize bs m.name = x at *
    go_enter Try.func22, Try.ntmps22
    go_wp2_with (first | (go_at_call 54; (with_reducible refine (CE.out _ HB0.out).mono ?_); rintro e w1 ⟨rfl, hb⟩; have Z1 := Lib.hid (HB0.out.trans (hb.mono HB0.out.size)); have P1 := X1.out.belowS hb; have R1 := X2.out.belowS hb; obtain ⟨c10, c11, c12, c13, c14, c15⟩ := mod_cells P1; obtain ⟨d10, d11, d12, d13, d14, d15⟩ := mod_cells R1; have P1 := Lib.hid P1; have R1 := Lib.hid R1; have lq1 := P1.out.lt; have lr1 := R1.out.lt; clear hb) | (go_at_call 54; (with_reducible refine (CI.out _ Z1.out).mono ?_); rintro e w2 ⟨rfl, hb⟩; have Z2 := Lib.hid (Z1.out.trans (hb.mono Z1.out.size)); have P2 := P1.out.belowS hb; have R2 := R1.out.belowS hb; obtain ⟨c20, c21, c22, c23, c24, c25⟩ := mod_cells P2; obtain ⟨d20, d21, d22, d23, d24, d25⟩ := mod_cells R2; have P2 := Lib.hid P2; have R2 := Lib.hid R2; have lq2 := P2.out.lt; have lr2 := R2.out.lt; clear hb) | (go_at_call 15; (with_reducible refine (CC.out _ Z2.out).mono ?_); rintro e w3 ⟨rfl, hb⟩; have Z3 := Lib.hid (Z2.out.trans (hb.mono Z2.out.size)); have P3 := P2.out.belowS hb; have R3 := R2.out.belowS hb; obtain ⟨c30, c31, c32, c33, c34, c35⟩ := mod_cells P3; obtain ⟨d30, d31, d32, d33, d34, d35⟩ := mod_cells R3; have P3 := Lib.hid P3; have R3 := Lib.hid R3; have lq3 := P3.out.lt; have lr3 := R3.out.lt; clear hb) | (go_at_call 15; (with_reducible refine (CD.out _ Z3.out).mono ?_); rintro e w4 ⟨rfl, hb⟩; have Z4 := Lib.hid (Z3.out.trans (hb.mono Z3.out.size)); have P4 := P3.out.belowS hb; have R4 := R3.out.belowS hb; obtain ⟨c40, c41, c42, c43, c44, c45⟩ := mod_cells P4; obtain ⟨d40, d41, d42, d43, d44, d45⟩ := mod_cells R4; have P4 := Lib.hid P4; have R4 := Lib.hid R4; have lq4 := P4.out.lt; have lr4 := R4.out.lt; clear hb))
    go_ret
    exact ⟨rfl, Z4.out⟩
  rw [decide_eq_true e3] at CD
  by_cases eL : rn = rn2
  case neg =>
    rw [decide_eq_false (md_ne fun h => eL (by rw [← l5, ← k5, h.2.2.2.2.2]))]
    have hne : (rn : Int) ≠ rn2 := by omega
    clear eN e0 e1 e2 e3 l5 k5 eL
    generalize bs m.name = x at *
    go_enter Try.func22, Try.ntmps22
    go_wp2_with (first | (go_at_call 54; (with_reducible refine (CE.out _ HB0.out).mono ?_); rintro e w1 ⟨rfl, hb⟩; have Z1 := Lib.hid (HB0.out.trans (hb.mono HB0.out.size)); have P1 := X1.out.belowS hb; have R1 := X2.out.belowS hb; obtain ⟨c10, c11, c12, c13, c14, c15⟩ := mod_cells P1; obtain ⟨d10, d11, d12, d13, d14, d15⟩ := mod_cells R1; have P1 := Lib.hid P1; have R1 := Lib.hid R1; have lq1 := P1.out.lt; have lr1 := R1.out.lt; clear hb) | (go_at_call 54; (with_reducible refine (CI.out _ Z1.out).mono ?_); rintro e w2 ⟨rfl, hb⟩; have Z2 := Lib.hid (Z1.out.trans (hb.mono Z1.out.size)); have P2 := P1.out.belowS hb; have R2 := R1.out.belowS hb; obtain ⟨c20, c21, c22, c23, c24, c25⟩ := mod_cells P2; obtain ⟨d20, d21, d22, d23, d24, d25⟩ := mod_cells R2; have P2 := Lib.hid P2; have R2 := Lib.hid R2; have lq2 := P2.out.lt; have lr2 := R2.out.lt; clear hb) | (go_at_call 15; (with_reducible refine (CC.out _ Z2.out).mono ?_); rintro e w3 ⟨rfl, hb⟩; have Z3 := Lib.hid (Z2.out.trans (hb.mono Z2.out.size)); have P3 := P2.out.belowS hb; have R3 := R2.out.belowS hb; obtain ⟨c30, c31, c32, c33, c34, c35⟩ := mod_cells P3; obtain ⟨d30, d31, d32, d33, d34, d35⟩ := mod_cells R3; have P3 := Lib.hid P3; have R3 := Lib.hid R3; have lq3 := P3.out.lt; have lr3 := R3.out.lt; clear hb) | (go_at_call 15; (with_reducible refine (CD.out _ Z3.out).mono ?_); rintro e w4 ⟨rfl, hb⟩; have Z4 := Lib.hid (Z3.out.trans (hb.mono Z3.out.size)); have P4 := P3.out.belowS hb; have R4 := R3.out.belowS hb; obtain ⟨c40, c41, c42, c43, c44, c45⟩ := mod_cells P4; obtain ⟨d40, d41, d42, d43, d44, d45⟩ := mod_cells R4; have P4 := Lib.hid P4; have R4 := Lib.hid R4; have lq4 := P4.out.lt; have lr4 := R4.out.lt; clear hb))
    go_ret
    exact ⟨rfl, Z4.out⟩
  subst eL
  have EQ := Lib.hid (fun h6 => md_eq eN e0 e1 e2 e3 h6)
  obtain ⟨E, hE⟩ : ∃ E : Bool, E = decide (m = k) := ⟨_, rfl⟩
  rw [← hE]
  have HE := Lib.hid hE
  clear hE eN e0 e1 e2 e3 l5 k5
  generalize bs m.name = x at *
  go_enter Try.func22, Try.ntmps22
  go_wp2_with (first | (go_at_call 54; (with_reducible refine (CE.out _ HB0.out).mono ?_); rintro e w1 ⟨rfl, hb⟩; have Z1 := Lib.hid (HB0.out.trans (hb.mono HB0.out.size)); have P1 := X1.out.belowS hb; have R1 := X2.out.belowS hb; obtain ⟨c10, c11, c12, c13, c14, c15⟩ := mod_cells P1; obtain ⟨d10, d11, d12, d13, d14, d15⟩ := mod_cells R1; have P1 := Lib.hid P1; have R1 := Lib.hid R1; have lq1 := P1.out.lt; have lr1 := R1.out.lt; clear hb) | (go_at_call 54; (with_reducible refine (CI.out _ Z1.out).mono ?_); rintro e w2 ⟨rfl, hb⟩; have Z2 := Lib.hid (Z1.out.trans (hb.mono Z1.out.size)); have P2 := P1.out.belowS hb; have R2 := R1.out.belowS hb; obtain ⟨c20, c21, c22, c23, c24, c25⟩ := mod_cells P2; obtain ⟨d20, d21, d22, d23, d24, d25⟩ := mod_cells R2; have P2 := Lib.hid P2; have R2 := Lib.hid R2; have lq2 := P2.out.lt; have lr2 := R2.out.lt; clear hb) | (go_at_call 15; (with_reducible refine (CC.out _ Z2.out).mono ?_); rintro e w3 ⟨rfl, hb⟩; have Z3 := Lib.hid (Z2.out.trans (hb.mono Z2.out.size)); have P3 := P2.out.belowS hb; have R3 := R2.out.belowS hb; obtain ⟨c30, c31, c32, c33, c34, c35⟩ := mod_cells P3; obtain ⟨d30, d31, d32, d33, d34, d35⟩ := mod_cells R3; have P3 := Lib.hid P3; have R3 := Lib.hid R3; have lq3 := P3.out.lt; have lr3 := R3.out.lt; clear hb) | (go_at_call 15; (with_reducible refine (CD.out _ Z3.out).mono ?_); rintro e w4 ⟨rfl, hb⟩; have Z4 := Lib.hid (Z3.out.trans (hb.mono Z3.out.size)); have P4 := P3.out.belowS hb; have R4 := R3.out.belowS hb; obtain ⟨c40, c41, c42, c43, c44, c45⟩ := mod_cells P4; obtain ⟨d40, d41, d42, d43, d44, d45⟩ := mod_cells R4; have P4 := Lib.hid P4; have R4 := Lib.hid R4; have lq4 := P4.out.lt; have lr4 := R4.out.lt; clear hb))
  clear c10 d10 c11 d11 c12 d12 c13 d13 c14 d14 c15 d15 c20 d20 c21 d21 c22 d22 c23 d23 c24 d24 c25 d25 c30 d30 c31 d31 c32 d32 c33 d33 c34 d34 c35 d35 c40 d40 c41 d41 c42 d42 c43 d43 c44 d44 c45 d45 P1 P2 P3 R1 R2 R3 Z1 Z2 Z3 X1 X2 HB0 CE CI CC CD lq1 lq2 lq3 lq4 lr1 lr2 lr3 lr4
  go_loopw [5] (fun i wr => ∃ j : Nat, j ≤ rn ∧ i = .int .i64 (j : Int) ∧ Hid (m.rels.take j = k.rels.take j) ∧ Below w4.heap.size w4 wr) (fun i _ => rn - (intOf i).toNat)
  case atStart => exact ⟨0, by omega, rfl, Lib.hid rfl, Below.refl _ _⟩
  case round =>
    obtain ⟨j, hj, rfl, hp, hbl⟩ := hrel
    have ZB := Lib.hid (Z4.out.trans (hbl.mono Z4.out.size))
    have P5 := P4.out.belowS hbl
    have R5 := R4.out.belowS hbl
    have x5 := P5.cell 5
    have y5 := R5.cell 5
    simp at x5 y5
    have q1 := P5.lt
    have q2 := R5.lt
    clear P5 R5
    by_cases hlt : j < rn
    · have hlt' : (j : Int) < rn := by omega
      obtain ⟨g, off, rfl, _, c0, c1, c2⟩ := HR.out.1.at ZB.out hlt
      obtain ⟨g2, off2, rfl, _, d0, d1, d2⟩ := HR.out.2.at ZB.out hlt
      have k1 : j < m.rels.length := by rw [HL.out.1]; exact hlt
      have k2 : j < k.rels.length := by rw [HL.out.2]; exact hlt
      by_cases e : m.rels.getD j ⟨0, 0, 0⟩ = k.rels.getD j ⟨0, 0, 0⟩
      · have hp2 := Lib.hid (take_on hp.out k1 k2 e)
        rw [← e] at d0 d1 d2
        clear e hp k1 k2
        generalize m.rels.getD j ⟨0, 0, 0⟩ = r at *
        generalize (r.kind : Int) = a0 at *
        generalize (r.at_ : Int) = a1 at *
        generalize (r.wh : Int) = a2 at *
        go_wp2_with fail
        go_quiet (fail)
        go_wp2_with fail
        go_roundw
        case rel => exact ⟨j + 1, by omega, by go_num, hp2, below_drewN hbl _⟩
        case measure => simp [intOf]; omega
      · have hne := Lib.hid (show E = false by rw [HE.out]; exact decide_eq_false (md_ne fun h => e (by rw [h.2.2.2.2.2])))
        have h3 : ¬ ((m.rels.getD j ⟨0, 0, 0⟩).kind = (k.rels.getD j ⟨0, 0, 0⟩).kind ∧ (m.rels.getD j ⟨0, 0, 0⟩).at_ = (k.rels.getD j ⟨0, 0, 0⟩).at_ ∧ (m.rels.getD j ⟨0, 0, 0⟩).wh = (k.rels.getD j ⟨0, 0, 0⟩).wh) := fun h => e (rl_eq h.1 h.2.1 h.2.2)
        clear hp k1 k2 e
        generalize m.rels.getD j ⟨0, 0, 0⟩ = r at *
        generalize k.rels.getD j ⟨0, 0, 0⟩ = s at *
        have h4 : r.kind ≠ s.kind ∨ (r.kind = s.kind ∧ r.at_ ≠ s.at_) ∨ (r.kind = s.kind ∧ r.at_ = s.at_ ∧ r.wh ≠ s.wh) := by omega
        clear h3
        rcases h4 with h4 | ⟨e1, h4⟩ | ⟨e1, e2, h4⟩
        · have f0 : (((r.kind : Nat) : Int) == ((s.kind : Nat) : Int)) = false := beq_eq_false_iff_ne.2 (by omega)
          clear h4
          generalize (r.kind : Int) = a0 at *
          generalize (r.at_ : Int) = a1 at *
          generalize (r.wh : Int) = a2 at *
          try generalize (s.kind : Int) = b0 at *
          try generalize (s.at_ : Int) = b1 at *
          try generalize (s.wh : Int) = b2 at *
          go_wp2_with fail
          go_quiet (fail)
          go_wp2_with fail
          go_ret
          exact ⟨by rw [hne.out]; rfl, below_drewN ZB.out _⟩
        · rw [← e1] at d0
          have f0 : (((r.at_ : Nat) : Int) == ((s.at_ : Nat) : Int)) = false := beq_eq_false_iff_ne.2 (by omega)
          clear h4 e1
          generalize (r.kind : Int) = a0 at *
          generalize (r.at_ : Int) = a1 at *
          generalize (r.wh : Int) = a2 at *
          try generalize (s.kind : Int) = b0 at *
          try generalize (s.at_ : Int) = b1 at *
          try generalize (s.wh : Int) = b2 at *
          go_wp2_with fail
          go_quiet (fail)
          go_wp2_with fail
          go_ret
          exact ⟨by rw [hne.out]; rfl, below_drewN ZB.out _⟩
        · rw [← e1] at d0
          rw [← e2] at d1
          have f0 : (((r.wh : Nat) : Int) == ((s.wh : Nat) : Int)) = false := beq_eq_false_iff_ne.2 (by omega)
          clear h4 e1 e2
          generalize (r.kind : Int) = a0 at *
          generalize (r.at_ : Int) = a1 at *
          generalize (r.wh : Int) = a2 at *
          try generalize (s.kind : Int) = b0 at *
          try generalize (s.at_ : Int) = b1 at *
          try generalize (s.wh : Int) = b2 at *
          go_wp2_with fail
          go_quiet (fail)
          go_wp2_with fail
          go_ret
          exact ⟨by rw [hne.out]; rfl, below_drewN ZB.out _⟩
    · obtain rfl : j = rn := by omega
      have hp2 := Lib.hid (show E = true by rw [HE.out]; exact decide_eq_true (EQ.out (by have := hp.out; rwa [List.take_of_length_le (by rw [HL.out.1]; omega), List.take_of_length_le (by rw [HL.out.2]; omega)] at this)))
      clear hp
      go_wp2_with fail
      go_ret
      exact ⟨by rw [hp2.out]; rfl, ZB.out⟩
end Go.Proofs.Ytajidaicojekdaa.OR
