/-
  Whether a module may take another one's place. Nothing here is a statement of the seed.
-/
import Derived.Test.YtdfafllldanfiaaValAwk
import Derived.Test.YtdfafllldanfiaaObjEqP
import Derived.Test.YtdfafllldanfiaaObjSizeR
set_option linter.unusedSimpArgs false
set_option linter.unusedVariables false
namespace Go.Proofs.Ytdfafllldanfiaa.VR
open Go.RowKit WM NR OM OR VM
set_option maxHeartbeats 4000000
set_option maxRecDepth 10000
/-- two modules' boxes, on the way -/
structure DJ (w : World) (cs ds : Array Value) (u : World) : Prop where
  X : Whole u w.heap.size 26 cs
  Y : Whole u (w.heap.size + 1) 26 ds
  B : Below w.heap.size w u
  sz : w.heap.size + 2 ≤ u.heap.size
theorem DJ.belowS {w u u' : World} {cs ds : Array Value} (h : DJ w cs ds u) (hb : Below u.heap.size u u') : DJ w cs ds u' := ⟨h.X.belowS hb, h.Y.belowS hb, h.B.trans (hb.mono h.B.size), Nat.le_trans h.sz hb.size⟩
theorem DJ.new (w : World) (cs ds : Array Value) : DJ w cs ds ((w.alloc (.cells cs 26)).alloc (.cells ds 26)) := by
  obtain ⟨h1, h2, h3⟩ := two_mods w cs ds
  exact ⟨h2, h3, h1, by simp⟩
def patV (m k : Md) : Int := if m.exps = k.exps then 0 else 27
theorem patV_self (m : Md) : patV m m = 0 := by unfold patV; rw [if_pos rfl]
theorem patV_symm (m k : Md) : patV k m = patV m k := by
  unfold patV
  by_cases h : m.exps = k.exps
  · rw [if_pos h, if_pos h.symm]
  · rw [if_neg h, if_neg (fun e => h e.symm)]
section
variable {w : World} {ea : Option Addr} {en ec : Nat} {ia : Option Addr} {im ic : Nat} {ca : Option Addr} {cn cc : Nat} {da : Option Addr} {dn dc : Nat} {ra : Option Addr} {rn rc : Nat} {m : Md} {ea2 : Option Addr} {en2 ec2 : Nat} {ia2 : Option Addr} {im2 ic2 : Nat} {ca2 : Option Addr} {cn2 cc2 : Nat} {da2 : Option Addr} {dn2 dc2 : Nat} {ra2 : Option Addr} {rn2 rc2 : Nat} {k : Md}
theorem patch_any (h : RdM (· < w.heap.size) w ea en ec ia im ic ca cn cc da dn dc ra rn rc m) (h2 : RdM (· < w.heap.size) w ea2 en2 ec2 ia2 im2 ic2 ca2 cn2 cc2 da2 dn2 dc2 ra2 rn2 rc2 k) :
    Calls Try.prog 10 #[mV (bs m.name) ea en ec ia im ic ca cn cc da dn dc ra rn rc, mV (bs k.name) ea2 en2 ec2 ia2 im2 ic2 ca2 cn2 cc2 da2 dn2 dc2 ra2 rn2 rc2] w fun e w' => e = .returned (.int .i64 (patV m k)) ∧ Below w.heap.size w w' := by
  have J0 := Lib.hid (DJ.new w (mCs (bs m.name) ea en ec ia im ic ca cn cc da dn dc ra rn rc) (mCs (bs k.name) ea2 en2 ec2 ia2 im2 ic2 ca2 cn2 cc2 da2 dn2 dc2 ra2 rn2 rc2))
  have C := Lib.hid (equalTexts_any (h.go J0.out.B J0.out.B.size).ex (h2.go J0.out.B J0.out.B.size).ex)
  clear h h2
  unfold patV
  generalize bs m.name = x at *
  generalize bs k.name = y at *
  by_cases he : m.exps = k.exps
  · rw [if_pos he]
    rw [decide_eq_true he] at C
    clear he
    go_enter Try.func10, Try.ntmps10
    obtain ⟨c0, c1, c2, c3, c4, c5⟩ := mod_cells J0.out.X
    obtain ⟨d0, d1, d2, d3, d4, d5⟩ := mod_cells J0.out.Y
    go_wp2_with (go_at_call 17; (with_reducible refine C.out.mono ?_); rintro e w1 ⟨rfl, hb⟩)
    go_ret
    exact ⟨rfl, (J0.out.belowS hb).B⟩
  · rw [if_neg he]
    rw [decide_eq_false he] at C
    clear he
    go_enter Try.func10, Try.ntmps10
    obtain ⟨c0, c1, c2, c3, c4, c5⟩ := mod_cells J0.out.X
    obtain ⟨d0, d1, d2, d3, d4, d5⟩ := mod_cells J0.out.Y
    go_wp2_with (go_at_call 17; (with_reducible refine C.out.mono ?_); rintro e w1 ⟨rfl, hb⟩)
    go_ret
    exact ⟨rfl, (J0.out.belowS hb).B⟩
theorem refPatch_any (h : RdM (· < w.heap.size) w ea en ec ia im ic ca cn cc da dn dc ra rn rc m) (h2 : RdM (· < w.heap.size) w ea2 en2 ec2 ia2 im2 ic2 ca2 cn2 cc2 da2 dn2 dc2 ra2 rn2 rc2 k) :
    Calls Try.prog 11 #[mV (bs m.name) ea en ec ia im ic ca cn cc da dn dc ra rn rc, mV (bs k.name) ea2 en2 ec2 ia2 im2 ic2 ca2 cn2 cc2 da2 dn2 dc2 ra2 rn2 rc2] w fun e w' => e = .returned (.int .i64 (patV m k)) ∧ Below w.heap.size w w' := by
  have J0 := Lib.hid (DJ.new w (mCs (bs m.name) ea en ec ia im ic ca cn cc da dn dc ra rn rc) (mCs (bs k.name) ea2 en2 ec2 ia2 im2 ic2 ca2 cn2 cc2 da2 dn2 dc2 ra2 rn2 rc2))
  have C := Lib.hid (sameTexts_any (h.go J0.out.B J0.out.B.size).ex (h2.go J0.out.B J0.out.B.size).ex)
  clear h h2
  unfold patV
  generalize bs m.name = x at *
  generalize bs k.name = y at *
  by_cases he : m.exps = k.exps
  · rw [if_pos he]
    rw [decide_eq_true he] at C
    clear he
    go_enter Try.func11, Try.ntmps11
    obtain ⟨c0, c1, c2, c3, c4, c5⟩ := mod_cells J0.out.X
    obtain ⟨d0, d1, d2, d3, d4, d5⟩ := mod_cells J0.out.Y
    go_wp2_with (go_at_call 18; (with_reducible refine C.out.mono ?_); rintro e w1 ⟨rfl, hb⟩)
    go_ret
    exact ⟨rfl, (J0.out.belowS hb).B⟩
  · rw [if_neg he]
    rw [decide_eq_false he] at C
    clear he
    go_enter Try.func11, Try.ntmps11
    obtain ⟨c0, c1, c2, c3, c4, c5⟩ := mod_cells J0.out.X
    obtain ⟨d0, d1, d2, d3, d4, d5⟩ := mod_cells J0.out.Y
    go_wp2_with (go_at_call 18; (with_reducible refine C.out.mono ?_); rintro e w1 ⟨rfl, hb⟩)
    go_ret
    exact ⟨rfl, (J0.out.belowS hb).B⟩
end
end Go.Proofs.Ytdfafllldanfiaa.VR
namespace Go.Proofs.Ytdfafllldanfiaa.WK
open Go.RowKit WM NR OM OR VM VR
set_option maxHeartbeats 4000000
set_option maxRecDepth 10000
section
variable {w : World} {ea : Option Addr} {en ec : Nat} {ia : Option Addr} {im ic : Nat} {ca : Option Addr} {cn cc : Nat} {da : Option Addr} {dn dc : Nat} {ra : Option Addr} {rn rc : Nat} {m : Md} {ea2 : Option Addr} {en2 ec2 : Nat} {ia2 : Option Addr} {im2 ic2 : Nat} {ca2 : Option Addr} {cn2 cc2 : Nat} {da2 : Option Addr} {dn2 dc2 : Nat} {ra2 : Option Addr} {rn2 rc2 : Nat} {k : Md}
theorem ValidPatches_walk (h : RdM (· < w.heap.size) w ea en ec ia im ic ca cn cc da dn dc ra rn rc m) (h2 : RdM (· < w.heap.size) w ea2 en2 ec2 ia2 im2 ic2 ca2 cn2 cc2 da2 dn2 dc2 ra2 rn2 rc2 k) :
    Calls Try.prog 3 #[mV (bs m.name) ea en ec ia im ic ca cn cc da dn dc ra rn rc, mV (bs k.name) ea2 en2 ec2 ia2 im2 ic2 ca2 cn2 cc2 da2 dn2 dc2 ra2 rn2 rc2] w fun e w' => e = .returned (.bool true) ∧ Below w.heap.size w w' := by
  have J0 := Lib.hid (DJ.new w (mCs (bs m.name) ea en ec ia im ic ca cn cc da dn dc ra rn rc) (mCs (bs k.name) ea2 en2 ec2 ia2 im2 ic2 ca2 cn2 cc2 da2 dn2 dc2 ra2 rn2 rc2))
  have S1 := Lib.hid (fun (u : World) (hb : Below w.heap.size w u) => size_any (h.go hb hb.size))
  have S2 := Lib.hid (fun (u : World) (hb : Below w.heap.size w u) => size_any (h2.go hb hb.size))
  have P1 := Lib.hid (fun (u : World) (hb : Below w.heap.size w u) => patch_any (h.go hb hb.size) (h2.go hb hb.size))
  have P2 := Lib.hid (fun (u : World) (hb : Below w.heap.size w u) => refPatch_any (h.go hb hb.size) (h2.go hb hb.size))
  have P3 := Lib.hid (fun (u : World) (hb : Below w.heap.size w u) => patch_any (h.go hb hb.size) (h.go hb hb.size))
  have P4 := Lib.hid (fun (u : World) (hb : Below w.heap.size w u) => patch_any (h2.go hb hb.size) (h.go hb hb.size))
  have AW := Lib.hid (fun (u : World) => awake_any u)
  rw [patV_self] at P3
  rw [patV_symm] at P4
  clear h h2
  generalize patV m k = p at *
  generalize bs m.name = x at *
  generalize bs k.name = y at *
  by_cases z1 : szF en [im, cn, dn, rn] ≤ 2000
  case neg =>
    have z1' : (2000 : Int) < (szF en [im, cn, dn, rn] : Nat) := by omega
    clear z1 P1 P2 P3 P4
    generalize ((szF en [im, cn, dn, rn] : Nat) : Int) = s1 at *
    go_enter Try.func3, Try.ntmps3
    go_upto_region 1 with fail
    generalize (w.alloc (.cells (mCs x ea en ec ia im ic ca cn cc da dn dc ra rn rc) 26)).alloc (.cells (mCs y ea2 en2 ec2 ia2 im2 ic2 ca2 cn2 cc2 da2 dn2 dc2 ra2 rn2 rc2) 26) = W0 at *
    obtain ⟨c0, c1, c2, c3, c4, c5⟩ := mod_cells J0.out.X
    have c6 := J0.out.X.lt
    go_wp2_with (first | (go_at_call 8; (with_reducible refine (S1.out _ J0.out.B).mono ?_); rintro e w1 ⟨rfl, hb⟩; have J1 := Lib.hid (J0.out.belowS hb); clear hb) | (go_at_call 9; (with_reducible refine (AW.out _).mono ?_); rintro e w2 ⟨rfl, hb⟩; have J2 := Lib.hid (J1.out.belowS hb); clear hb))
    go_ret
    exact ⟨rfl, J2.out.B⟩
  have z1' : ((szF en [im, cn, dn, rn] : Nat) : Int) ≤ 2000 := by omega
  clear z1
  by_cases z2 : szF en2 [im2, cn2, dn2, rn2] ≤ 2000
  case neg =>
    have z2' : (2000 : Int) < (szF en2 [im2, cn2, dn2, rn2] : Nat) := by omega
    clear z2 P1 P2 P3 P4
    generalize ((szF en [im, cn, dn, rn] : Nat) : Int) = s1 at *
    generalize ((szF en2 [im2, cn2, dn2, rn2] : Nat) : Int) = s2 at *
    go_enter Try.func3, Try.ntmps3
    go_upto_region 1 with fail
    generalize (w.alloc (.cells (mCs x ea en ec ia im ic ca cn cc da dn dc ra rn rc) 26)).alloc (.cells (mCs y ea2 en2 ec2 ia2 im2 ic2 ca2 cn2 cc2 da2 dn2 dc2 ra2 rn2 rc2) 26) = W0 at *
    obtain ⟨c0, c1, c2, c3, c4, c5⟩ := mod_cells J0.out.X
    have c6 := J0.out.X.lt
    go_wp2_with (first | (go_at_call 8; (with_reducible refine (S1.out _ J0.out.B).mono ?_); rintro e w1 ⟨rfl, hb⟩; have J1 := Lib.hid (J0.out.belowS hb); obtain ⟨d0, d1, d2, d3, d4, d5⟩ := mod_cells J1.out.Y; have d6 := J1.out.Y.lt; clear hb) | (go_at_call 8; (with_reducible refine (S2.out _ J1.out.B).mono ?_); rintro e w2 ⟨rfl, hb⟩; have J2 := Lib.hid (J1.out.belowS hb); clear hb) | (go_at_call 9; (with_reducible refine (AW.out _).mono ?_); rintro e w3 ⟨rfl, hb⟩; have J3 := Lib.hid (J2.out.belowS hb); clear hb))
    go_ret
    exact ⟨rfl, J3.out.B⟩
  have z2' : ((szF en2 [im2, cn2, dn2, rn2] : Nat) : Int) ≤ 2000 := by omega
  clear z2
  generalize ((szF en [im, cn, dn, rn] : Nat) : Int) = s1 at *
  generalize ((szF en2 [im2, cn2, dn2, rn2] : Nat) : Int) = s2 at *
  go_enter Try.func3, Try.ntmps3
  go_upto_region 1 with fail
  generalize (w.alloc (.cells (mCs x ea en ec ia im ic ca cn cc da dn dc ra rn rc) 26)).alloc (.cells (mCs y ea2 en2 ec2 ia2 im2 ic2 ca2 cn2 cc2 da2 dn2 dc2 ra2 rn2 rc2) 26) = W0 at *
  obtain ⟨c0, c1, c2, c3, c4, c5⟩ := mod_cells J0.out.X
  have c6 := J0.out.X.lt
  go_upto_region 3 with (first | (go_at_call 8; (with_reducible refine (S1.out _ J0.out.B).mono ?_); rintro e w1 ⟨rfl, hb⟩; have J1 := Lib.hid (J0.out.belowS hb); obtain ⟨d0, d1, d2, d3, d4, d5⟩ := mod_cells J1.out.Y; have d6 := J1.out.Y.lt; clear hb) | (go_at_call 8; (with_reducible refine (S2.out _ J1.out.B).mono ?_); rintro e w2 ⟨rfl, hb⟩; have J2 := Lib.hid (J1.out.belowS hb); clear hb))
  clear c0 c1 c2 c3 c4 c5 c6 d0 d1 d2 d3 d4 d5 d6
  have JJ := Lib.hid (J2.out.belowS (Below.refl _ _).drew)
  have KK := And.intro (mod_cells JJ.out.X) (mod_cells JJ.out.Y)
  go_region_held3 (fun u => MC w.heap.size x ea en ec ia im ic ca cn cc da dn dc ra rn rc u ∧ MC (w.heap.size + 1) y ea2 en2 ec2 ia2 im2 ic2 ca2 cn2 cc2 da2 dn2 dc2 ra2 rn2 rc2 u)
    (first | with_reducible exact KK)
    (first | (go_at_call 10; (with_reducible refine (P1.out _ JJ.out.B).mono ?_); rintro e w9 ⟨rfl, hb⟩; have JJ := Lib.hid (JJ.out.belowS hb); have KK := And.intro (mod_cells JJ.out.X) (mod_cells JJ.out.Y); clear hb) | (go_at_call 11; (with_reducible refine (P2.out _ JJ.out.B).mono ?_); rintro e w9 ⟨rfl, hb⟩; have JJ := Lib.hid (JJ.out.belowS hb); have KK := And.intro (mod_cells JJ.out.X) (mod_cells JJ.out.Y); clear hb) | (go_at_call 10; (with_reducible refine (P3.out _ JJ.out.B).mono ?_); rintro e w9 ⟨rfl, hb⟩; have JJ := Lib.hid (JJ.out.belowS hb); have KK := And.intro (mod_cells JJ.out.X) (mod_cells JJ.out.Y); clear hb) | (go_at_call 10; (with_reducible refine (P4.out _ JJ.out.B).mono ?_); rintro e w9 ⟨rfl, hb⟩; have JJ := Lib.hid (JJ.out.belowS hb); have KK := And.intro (mod_cells JJ.out.X) (mod_cells JJ.out.Y); clear hb) | (go_at_call 9; (with_reducible refine (AW.out _).mono ?_); rintro e w9 ⟨rfl, hb⟩; have JJ := Lib.hid (JJ.out.belowS hb); have KK := And.intro (mod_cells JJ.out.X) (mod_cells JJ.out.Y); clear hb))
  all_goals
    rename_i hHeld
    clear hHeld
    go_wp2_with fail
    go_ret
    exact ⟨rfl, JJ.out.B⟩
end
end Go.Proofs.Ytdfafllldanfiaa.WK
