/-
  Names that are none, and texts that are there twice. Nothing here is a statement of the seed.
-/
import Derived.Test.YtajidaicojekdaaValSec
import Derived.Test.YtajidaicojekdaaValLoo
set_option linter.unusedSimpArgs false
set_option linter.unusedVariables false
namespace Go.Proofs.Ytajidaicojekdaa.VR
open Go.RowKit WM NR OM OR VM
set_option maxHeartbeats 4000000
set_option maxRecDepth 10000
theorem ff_bd (p : Nat → Bool) (n : Nat) : -1 ≤ ff p n ∧ (ff p n < n ∨ ff p n = -1) := by
  rcases ff_range p n with h | ⟨i, hi, h, _⟩ <;> omega
section
variable {w : World} {ea : Option Addr} {en ec : Nat} {ia : Option Addr} {im ic : Nat} {ca : Option Addr} {cn cc : Nat} {da : Option Addr} {dn dc : Nat} {ra : Option Addr} {rn rc : Nat} {m : Md}
theorem idxNames_in {a : Option Addr} {n c : Nat} {l : List (List UInt8)} (h1 : Reads (· < w.heap.size) w (.slice a n c) (strs l)) (hl : ∀ s ∈ l, s.length ≤ 96) (u : World) (hb : Below w.heap.size w u) :
    Calls Try.prog 61 #[.slice a n c, .func (.func 136) #[] #[]] u fun e w' => e = .returned (.int .i64 (ff (badN l) n)) ∧ Below u.heap.size u w' := by
  obtain ⟨n1, _, _⟩ := reads_len h1
  rw [strs_len] at n1
  exact idxNames_any ((h1.below hb).mono fun g hg => Nat.lt_of_lt_of_le hg hb.size) (p := badN l) (fun k hk u' _ => isNoName_any (l.getD k []) (by have := hl _ (mem_getD (l := l) (d := []) (i := k) (by omega)); omega) u')
theorem wrongName_any (h : RdM (· < w.heap.size) w ea en ec ia im ic ca cn cc da dn dc ra rn rc m) (hc : chkM m = 0) :
    Calls Try.prog 107 #[mV (bs m.name) ea en ec ia im ic ca cn cc da dn dc ra rn rc] w fun e w' => e = .returned (.int .i64 (nameF m)) ∧ Below w.heap.size w w' := by
  obtain ⟨l1, l2, l3, l4, l5⟩ := h.lens
  obtain ⟨⟨k1, k2, _, _, _⟩, k3, k4, k5, _⟩ := chk_ok hc
  have b0 := below_new w (.cells (mCs (bs m.name) ea en ec ia im ic ca cn cc da dn dc ra rn rc) 45)
  have HB := Lib.hid b0
  have HX := Lib.hid (Whole.new w 45 (mCs (bs m.name) ea en ec ia im ic ca cn cc da dn dc ra rn rc))
  have C0 := Lib.hid (fun u => isNoName_any m.name (by omega) u)
  have C1 := Lib.hid (idxNames_in h.ex k4)
  have C2 := Lib.hid (idxNames_in h.im k5)
  obtain ⟨E, hE⟩ : ∃ E, E = nameF m := ⟨_, rfl⟩
  rw [← hE]
  have hE2 : E = if decide (NM.chk m.name ≠ 0) = true then 0 else if ff (badN m.exps) en = -1 then if ff (badN m.imps) im = -1 then -1 else 9 + ff (badN m.imps) im else 1 + ff (badN m.exps) en := by
    rw [hE]
    unfold nameF
    rw [l1, l2]
    have e1 := ff_bd (badN m.exps) en
    have e2 := ff_bd (badN m.imps) im
    by_cases x : NM.chk m.name ≠ 0
    · rw [if_pos x, if_pos (decide_eq_true x)]
    · have dx : decide (NM.chk m.name ≠ 0) = false := decide_eq_false x
      rw [dx, if_neg x]
      simp only [Bool.false_eq_true, if_false]
      by_cases y : ff (badN m.exps) en = -1
      · rw [if_neg (by omega), if_pos y]
        by_cases z : ff (badN m.imps) im = -1
        · rw [if_neg (by omega), if_pos z]
        · rw [if_pos (by omega), if_neg z]
      · rw [if_pos (by omega), if_neg y]
  have e1 := ff_bd (badN m.exps) en
  have e2 := ff_bd (badN m.imps) im
  have r1 : -1 ≤ ff (badN m.exps) en ∧ ff (badN m.exps) en ≤ 8 := by omega
  have r2 : -1 ≤ ff (badN m.imps) im ∧ ff (badN m.imps) im ≤ 16 := by omega
  have HE := Lib.hid hE2
  clear hE hE2 h hc l1 l2 l3 l4 l5 k1 k2 k3 k4 k5 b0 e1 e2
  generalize ff (badN m.exps) en = r at *
  generalize ff (badN m.imps) im = s at *
  generalize decide (NM.chk m.name ≠ 0) = b at *
  generalize bs m.name = x at *
  obtain ⟨r1, r3⟩ := r1
  obtain ⟨r2, r4⟩ := r2
  cases b
  case true =>
    have hh := Lib.hid (show E = 0 by rw [HE.out]; rfl)
    clear HE
    go_enter Try.func107, Try.ntmps107
    obtain ⟨c0, c1, c2, c3, c4, c5⟩ := mod_cells HX.out
    go_wp2_with (go_at_call 136; (with_reducible refine (C0.out _).mono ?_); rintro e w1 ⟨rfl, hb1⟩; have hB1 := HB.out.trans (hb1.mono HB.out.size))
    go_ret
    exact ⟨ret_int hh.out.symm, hB1⟩
  by_cases hr : r = -1
  · subst hr
    by_cases hs : s = -1
    · subst hs
      have hh := Lib.hid (show E = -1 by rw [HE.out]; rfl)
      clear HE r1 r2 r3 r4
      go_enter Try.func107, Try.ntmps107
      obtain ⟨c0, c1, c2, c3, c4, c5⟩ := mod_cells HX.out
      go_wp2_with (first | (go_at_call 136; (with_reducible refine (C0.out _).mono ?_); rintro e w1 ⟨rfl, hb1⟩; have hB1 := HB.out.trans (hb1.mono HB.out.size); obtain ⟨d0, d1, d2, d3, d4, d5⟩ := mod_cells (HX.out.belowS hb1); have HX1 := Lib.hid (HX.out.belowS hb1); clear hb1) | (go_at_call 61; (with_reducible refine (C1.out _ hB1).mono ?_); rintro e w2 ⟨rfl, hb2⟩; have hB2 := hB1.trans (hb2.mono hB1.size); obtain ⟨f0, f1, f2, f3, f4, f5⟩ := mod_cells (HX1.out.belowS hb2); clear hb2) | (go_at_call 61; (with_reducible refine (C2.out _ hB2).mono ?_); rintro e w3 ⟨rfl, hb3⟩; have hB3 := hB2.trans (hb3.mono hB2.size); clear hb3))
      go_ret
      exact ⟨ret_int hh.out.symm, hB3⟩
    · have hh := Lib.hid (show E = 9 + s by rw [HE.out, if_neg (by simp), if_pos rfl, if_neg hs])
      have hw : IntKind.i64.wrap (9 + s) = 9 + s := by rw [IntKind.wrap_i64]; omega
      clear HE
      go_enter Try.func107, Try.ntmps107
      obtain ⟨c0, c1, c2, c3, c4, c5⟩ := mod_cells HX.out
      go_wp2_with (first | (go_at_call 136; (with_reducible refine (C0.out _).mono ?_); rintro e w1 ⟨rfl, hb1⟩; have hB1 := HB.out.trans (hb1.mono HB.out.size); obtain ⟨d0, d1, d2, d3, d4, d5⟩ := mod_cells (HX.out.belowS hb1); have HX1 := Lib.hid (HX.out.belowS hb1); clear hb1) | (go_at_call 61; (with_reducible refine (C1.out _ hB1).mono ?_); rintro e w2 ⟨rfl, hb2⟩; have hB2 := hB1.trans (hb2.mono hB1.size); obtain ⟨f0, f1, f2, f3, f4, f5⟩ := mod_cells (HX1.out.belowS hb2); clear hb2) | (go_at_call 61; (with_reducible refine (C2.out _ hB2).mono ?_); rintro e w3 ⟨rfl, hb3⟩; have hB3 := hB2.trans (hb3.mono hB2.size); clear hb3))
      go_ret
      exact ⟨ret_int hh.out.symm, hB3⟩
  · have hh := Lib.hid (show E = 1 + r by rw [HE.out, if_neg (by simp), if_neg hr])
    have hw : IntKind.i64.wrap (1 + r) = 1 + r := by rw [IntKind.wrap_i64]; omega
    clear HE
    go_enter Try.func107, Try.ntmps107
    obtain ⟨c0, c1, c2, c3, c4, c5⟩ := mod_cells HX.out
    go_wp2_with (first | (go_at_call 136; (with_reducible refine (C0.out _).mono ?_); rintro e w1 ⟨rfl, hb1⟩; have hB1 := HB.out.trans (hb1.mono HB.out.size); obtain ⟨d0, d1, d2, d3, d4, d5⟩ := mod_cells (HX.out.belowS hb1); have HX1 := Lib.hid (HX.out.belowS hb1); clear hb1) | (go_at_call 61; (with_reducible refine (C1.out _ hB1).mono ?_); rintro e w2 ⟨rfl, hb2⟩; have hB2 := hB1.trans (hb2.mono hB1.size); clear hb2))
    go_ret
    exact ⟨ret_int hh.out.symm, hB2⟩
theorem secondText_any (h : RdM (· < w.heap.size) w ea en ec ia im ic ca cn cc da dn dc ra rn rc m) (hc : chkM m = 0) :
    Calls Try.prog 108 #[mV (bs m.name) ea en ec ia im ic ca cn cc da dn dc ra rn rc] w fun e w' => e = .returned (.int .i64 (twiceF m)) ∧ Below w.heap.size w w' := by
  obtain ⟨l1, l2, l3, l4, l5⟩ := h.lens
  obtain ⟨⟨k1, k2, _, _, _⟩, k3, k4, k5, _⟩ := chk_ok hc
  have b0 := below_new w (.cells (mCs (bs m.name) ea en ec ia im ic ca cn cc da dn dc ra rn rc) 45)
  have HB := Lib.hid b0
  have HX := Lib.hid (Whole.new w 45 (mCs (bs m.name) ea en ec ia im ic ca cn cc da dn dc ra rn rc))
  have C1 := Lib.hid (second_any (h.go b0 b0.size).ex)
  have C2 := Lib.hid (second_any (h.go b0 b0.size).im)
  obtain ⟨E, hE⟩ : ∃ E, E = twiceF m := ⟨_, rfl⟩
  rw [← hE]
  have e1 := ff_bd (dupB m.exps) en
  have e2 := ff_bd (dupB m.imps) im
  have hE2 : E = if ff (dupB m.exps) en = -1 then if ff (dupB m.imps) im = -1 then -1 else 8 + ff (dupB m.imps) im else ff (dupB m.exps) en := by
    rw [hE]
    unfold twiceF
    rw [l1, l2]
    by_cases y : ff (dupB m.exps) en = -1
    · rw [if_neg (by omega), if_pos y]
      by_cases z : ff (dupB m.imps) im = -1
      · rw [if_neg (by omega), if_pos z]
      · rw [if_pos (by omega), if_neg z]
    · rw [if_pos (by omega), if_neg y]
  have r1 : -1 ≤ ff (dupB m.exps) en ∧ ff (dupB m.exps) en ≤ 8 := by omega
  have r2 : -1 ≤ ff (dupB m.imps) im ∧ ff (dupB m.imps) im ≤ 16 := by omega
  have HE := Lib.hid hE2
  clear hE hE2 h hc l1 l2 l3 l4 l5 k1 k2 k3 k4 k5 b0 e1 e2
  generalize ff (dupB m.exps) en = r at *
  generalize ff (dupB m.imps) im = s at *
  generalize bs m.name = x at *
  obtain ⟨r1, r3⟩ := r1
  obtain ⟨r2, r4⟩ := r2
  by_cases hr : r = -1
  · subst hr
    by_cases hs : s = -1
    · subst hs
      have hh := Lib.hid (show E = -1 by rw [HE.out]; rfl)
      clear HE r1 r2 r3 r4
      go_enter Try.func108, Try.ntmps108
      obtain ⟨c0, c1, c2, c3, c4, c5⟩ := mod_cells HX.out
      go_wp2_with (first | (go_at_call 137; (with_reducible refine C1.out.mono ?_); rintro e w1 ⟨rfl, rfl⟩) | (go_at_call 137; (with_reducible refine C2.out.mono ?_); rintro e w1 ⟨rfl, rfl⟩))
      go_ret
      exact ⟨ret_int hh.out.symm, HB.out⟩
    · have hh := Lib.hid (show E = 8 + s by rw [HE.out, if_pos rfl, if_neg hs])
      have hw : IntKind.i64.wrap (8 + s) = 8 + s := by rw [IntKind.wrap_i64]; omega
      clear HE
      go_enter Try.func108, Try.ntmps108
      obtain ⟨c0, c1, c2, c3, c4, c5⟩ := mod_cells HX.out
      go_wp2_with (first | (go_at_call 137; (with_reducible refine C1.out.mono ?_); rintro e w1 ⟨rfl, rfl⟩) | (go_at_call 137; (with_reducible refine C2.out.mono ?_); rintro e w1 ⟨rfl, rfl⟩))
      go_ret
      exact ⟨ret_int hh.out.symm, HB.out⟩
  · have hh := Lib.hid (show E = r by rw [HE.out, if_neg hr])
    clear HE
    go_enter Try.func108, Try.ntmps108
    obtain ⟨c0, c1, c2, c3, c4, c5⟩ := mod_cells HX.out
    go_wp2_with (first | (go_at_call 137; (with_reducible refine C1.out.mono ?_); rintro e w1 ⟨rfl, rfl⟩) | (go_at_call 137; (with_reducible refine C2.out.mono ?_); rintro e w1 ⟨rfl, rfl⟩))
    go_ret
    exact ⟨ret_int hh.out.symm, HB.out⟩
end
end Go.Proofs.Ytajidaicojekdaa.VR
