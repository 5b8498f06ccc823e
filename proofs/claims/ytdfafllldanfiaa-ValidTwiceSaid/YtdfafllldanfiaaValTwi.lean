/-
  An export, an import or a relocation twice: the walk of ValidTwice. Nothing here is a statement of the seed.
-/
import Derived.Test.YtdfafllldanfiaaValTwA
import Derived.Test.YtdfafllldanfiaaValTwB
import Derived.Test.YtdfafllldanfiaaValTwC
import Derived.Test.YtdfafllldanfiaaValTwD
set_option linter.unusedSimpArgs false
set_option linter.unusedVariables false
namespace Go.Proofs.Ytdfafllldanfiaa.WK
open Go.RowKit WM NR OM OR VM VR
set_option maxHeartbeats 4000000
set_option maxRecDepth 10000
section
variable {w : World} {ea : Option Addr} {en ec : Nat} {ia : Option Addr} {im ic : Nat} {ca : Option Addr} {cn cc : Nat} {da : Option Addr} {dn dc : Nat} {ra : Option Addr} {rn rc : Nat} {m : Md}
theorem ValidTwice_walk (h : RdM (· < w.heap.size) w ea en ec ia im ic ca cn cc da dn dc ra rn rc m) (hf : FineM m) (y : Int) (hy : 0 ≤ y ∧ y ≤ 255) :
    Calls Try.prog 7 #[mV (bs m.name) ea en ec ia im ic ca cn cc da dn dc ra rn rc, .int .u8 y] w fun e w' => e = .returned (.bool true) ∧ Below w.heap.size w w' := by
  have J0 := Lib.hid (BJ.new w (mCs (bs m.name) ea en ec ia im ic ca cn cc da dn dc ra rn rc))
  have S1 := Lib.hid (fun (u : World) (hb : Below w.heap.size w u) => size_any (h.go hb hb.size))
  have K1 := Lib.hid (fun (u : World) (hb : Below w.heap.size w u) => vcheck_any (h.go hb hb.size) hf)
  have AW := Lib.hid (fun (u : World) => awake_any u)
  by_cases z1 : szF en [im, cn, dn, rn] ≤ 2000
  case neg =>
    have z1' : (2000 : Int) < (szF en [im, cn, dn, rn] : Nat) := by omega
    clear z1 K1 h hf
    generalize bs m.name = x at *
    generalize ((szF en [im, cn, dn, rn] : Nat) : Int) = s1 at *
    go_enter Try.func7, Try.ntmps7
    go_upto_region 1 with fail
    generalize w.alloc (.cells (mCs x ea en ec ia im ic ca cn cc da dn dc ra rn rc) 26) = W0 at *
    obtain ⟨c0, c1, c2, c3, c4, c5⟩ := mod_cells J0.out.X
    have c6 := J0.out.X.lt
    go_wp2_with (first | (go_at_call 8; (with_reducible refine (S1.out _ J0.out.B).mono ?_); rintro e w1 ⟨rfl, hb⟩; have J1 := Lib.hid (J0.out.belowS hb); obtain ⟨d0, d1, d2, d3, d4, d5⟩ := mod_cells J1.out.X; have d6 := J1.out.X.lt; clear hb) | (go_at_call 9; (with_reducible refine (AW.out _).mono ?_); rintro e w2 ⟨rfl, hb⟩; have J2 := Lib.hid (J1.out.belowS hb); clear hb))
    go_ret
    exact ⟨rfl, J2.out.B⟩
  have z1' : ((szF en [im, cn, dn, rn] : Nat) : Int) ≤ 2000 := by omega
  have hz5 := szF_five z1
  clear z1
  by_cases hk : chkV m = 0
  case neg =>
    have hk2 : (chkV m != 0) = true := by simpa using hk
    clear h hf hz5
    generalize chkV m = q at *
    generalize bs m.name = x at *
    generalize ((szF en [im, cn, dn, rn] : Nat) : Int) = s1 at *
    go_enter Try.func7, Try.ntmps7
    go_upto_region 1 with fail
    generalize w.alloc (.cells (mCs x ea en ec ia im ic ca cn cc da dn dc ra rn rc) 26) = W0 at *
    obtain ⟨c0, c1, c2, c3, c4, c5⟩ := mod_cells J0.out.X
    have c6 := J0.out.X.lt
    go_wp2_with (first | (go_at_call 8; (with_reducible refine (S1.out _ J0.out.B).mono ?_); rintro e w1 ⟨rfl, hb⟩; have J1 := Lib.hid (J0.out.belowS hb); obtain ⟨d0, d1, d2, d3, d4, d5⟩ := mod_cells J1.out.X; have d6 := J1.out.X.lt; clear hb) | (go_at_call 12; (with_reducible refine (K1.out _ J1.out.B).mono ?_); rintro e w2 ⟨rfl, hb⟩; have J2 := Lib.hid (J1.out.belowS hb); clear hb) | (go_at_call 9; (with_reducible refine (AW.out _).mono ?_); rintro e w3 ⟨rfl, hb⟩; have J3 := Lib.hid (J2.out.belowS hb); clear hb))
    go_ret
    exact ⟨rfl, J3.out.B⟩
  have hg := chk_good hk
  rw [hk] at K1
  clear hk
  obtain ⟨l1, l2, l3, l4, l5⟩ := h.lens
  obtain ⟨⟨y1, y2, y3, y4, y5⟩, y6, y7, y8, y9⟩ := chk_ok hg.ck
  have CP := Lib.hid (fun (u : World) (hb : Below w.heap.size w u) => refCopyO_any (h.go hb hb.size) ⟨by omega, by omega, by omega, by omega, by omega⟩)
  have z1 : szF en [im, cn, dn, rn] ≤ 2000 := by omega
  clear J0 S1 K1 AW CP z1' hz5 l1 l2 l3 l4 l5 y1 y2 y3 y4 y5 y6 y7 y8 y9
  by_cases hA : 0 < en ∧ y % 3 = 0
  · exact twice_A h hf hg z1 y hy hA.1 hA.2
  by_cases hB : 0 < im ∧ y % 3 = 1
  · exact twice_B h hf hg z1 y hy hB.1 hB.2
  by_cases hC : 0 < rn ∧ y % 3 = 2
  · exact twice_C h hf hg z1 y hy hC.1 hC.2
  exact twice_D h hf hg z1 y hy ⟨hA, hB, hC⟩
end
end Go.Proofs.Ytdfafllldanfiaa.WK
