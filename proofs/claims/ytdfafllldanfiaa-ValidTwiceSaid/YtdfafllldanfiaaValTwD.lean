/-
  A module that is as it was. Nothing here is a statement of the seed.
-/
import Derived.Test.YtdfafllldanfiaaValTw0
set_option linter.unusedSimpArgs false
set_option linter.unusedVariables false
namespace Go.Proofs.Ytdfafllldanfiaa.WK
open Go.RowKit WM NR OM OR VM VR
set_option maxHeartbeats 4000000
set_option maxRecDepth 10000
section
variable {w : World} {ea : Option Addr} {en ec : Nat} {ia : Option Addr} {im ic : Nat} {ca : Option Addr} {cn cc : Nat} {da : Option Addr} {dn dc : Nat} {ra : Option Addr} {rn rc : Nat} {m : Md}
theorem twice_D (h : RdM (· < w.heap.size) w ea en ec ia im ic ca cn cc da dn dc ra rn rc m) (hf : FineM m) (hg : VM.Good m) (z1 : szF en [im, cn, dn, rn] ≤ 2000) (y : Int) (hy : 0 ≤ y ∧ y ≤ 255) (hD : ¬ (0 < en ∧ y % 3 = 0) ∧ ¬ (0 < im ∧ y % 3 = 1) ∧ ¬ (0 < rn ∧ y % 3 = 2)) :
    Calls Try.prog 7 #[mV (bs m.name) ea en ec ia im ic ca cn cc da dn dc ra rn rc, .int .u8 y] w fun e w' => e = .returned (.bool true) ∧ Below w.heap.size w w' := by
  have TT := told_of (k := m) h rfl hf
  rw [hg.vld, decide_eq_true rfl] at TT
  have TT := Lib.hid TT
  have J0 := Lib.hid (BJ.new w (mCs (bs m.name) ea en ec ia im ic ca cn cc da dn dc ra rn rc))
  have S1 := Lib.hid (fun (u : World) (hb : Below w.heap.size w u) => size_any (h.go hb hb.size))
  have K1 := Lib.hid (fun (u : World) (hb : Below w.heap.size w u) => vcheck_any (h.go hb hb.size) hf)
  rw [chkV_good hg] at K1
  have AW := Lib.hid (fun (u : World) => awake_any u)
  have z1' : ((szF en [im, cn, dn, rn] : Nat) : Int) ≤ 2000 := by omega
  have hz5 := szF_five z1
  clear z1
  obtain ⟨l1, l2, l3, l4, l5⟩ := h.lens
  obtain ⟨⟨y1, y2, y3, y4, y5⟩, y6, y7, y8, y9⟩ := chk_ok hg.ck
  have CP := Lib.hid (fun (u : World) (hb : Below w.heap.size w u) => refCopyO_any (h.go hb hb.size) ⟨by omega, by omega, by omega, by omega, by omega⟩)
  have HE := Lib.hid h.ex
  have HI := Lib.hid h.im
  have HR := Lib.hid h.rl
  have HL := Lib.hid (And.intro l1 (And.intro l2 (And.intro l3 (And.intro l4 l5))))
  have hen : (en : Int) ≤ 8 := by omega
  have him : (im : Int) ≤ 16 := by omega
  have hrn : (rn : Int) ≤ 256 := by omega
  have hec : (en : Int) ≤ ec := by have := (reads_len h.ex).2.1; omega
  have hic : (im : Int) ≤ ic := by have := (reads_len h.im).2.1; omega
  have hrc : (rn : Int) ≤ rc := by have := h.rl.len.2.1; omega
  obtain ⟨hy0, hy1⟩ := hy
  have hen0 : ¬ (0 : Int) < en ∨ (0 : Int) < en := by omega
  have him0 : ¬ (0 : Int) < im ∨ (0 : Int) < im := by omega
  have hrn0 : ¬ (0 : Int) < rn ∨ (0 : Int) < rn := by omega
  have hr3 : y % 3 = 0 ∨ y % 3 = 1 ∨ y % 3 = 2 := by omega
  clear h hf hg l1 l2 l3 l4 l5 y1 y2 y3 y4 y5 y6 y7 y8 y9 hz5
  generalize bs m.name = x at *
  generalize ((szF en [im, cn, dn, rn] : Nat) : Int) = s1 at *
  go_enter Try.func7, Try.ntmps7
  go_upto_region 1 with fail
  generalize w.alloc (.cells (mCs x ea en ec ia im ic ca cn cc da dn dc ra rn rc) 26) = W0 at *
  obtain ⟨c0, c1, c2, c3, c4, c5⟩ := mod_cells J0.out.X
  have c6 := J0.out.X.lt
  go_upto_region 3 with (first | (go_at_call 8; (with_reducible refine (S1.out _ J0.out.B).mono ?_); rintro e w1 ⟨rfl, hb⟩; have J1 := Lib.hid (J0.out.belowS hb); obtain ⟨d0, d1, d2, d3, d4, d5⟩ := mod_cells J1.out.X; have d6 := J1.out.X.lt; clear hb) | (go_at_call 12; (with_reducible refine (K1.out _ J1.out.B).mono ?_); rintro e w2 ⟨rfl, hb⟩; have J2 := Lib.hid (J1.out.belowS hb); clear hb))
  clear c0 c1 c2 c3 c4 c5 c6 d0 d1 d2 d3 d4 d5 d6 J0 J1 S1 K1
  obtain ⟨c0, c1, c2, c3, c4, c5⟩ := mod_cells J2.out.X
  have c6 := J2.out.X.lt
  go_upto_region 4 with (go_at_call 14; (with_reducible refine (CP.out _ J2.out.B).mono ?_); rintro e w3 ⟨ea2, en2, ec2, ia2, im2, ic2, ca2, cn2, cc2, da2, dn2, dc2, ra2, rn2, rc2, rfl, hO, hb⟩; have OD := Lib.hid hO; have J3 := Lib.hid (J2.out.belowS hb); have hLn := Lib.hid hO.own.reads.lens; have hsz := hb.size; clear hb hO)
  have X4 := Whole.new w3 26 (mCs x ea2 en2 ec2 ia2 im2 ic2 ca2 cn2 cc2 da2 dn2 dc2 ra2 rn2 rc2)
  have b4 := below_new w3 (.cells (mCs x ea2 en2 ec2 ia2 im2 ic2 ca2 cn2 cc2 da2 dn2 dc2 ra2 rn2 rc2) 26)
  have O4 := OD.out.belowS b4
  have J4 := J3.out.belowS b4
  have s4 := b4.size
  clear b4
  generalize w3.alloc (.cells (mCs x ea2 en2 ec2 ia2 im2 ic2 ca2 cn2 cc2 da2 dn2 dc2 ra2 rn2 rc2) 26) = W4 at *
  clear c0 c1 c2 c3 c4 c5 c6
  obtain ⟨c0, c1, c2, c3, c4, c5⟩ := mod_cells J4.X
  have c6 := J4.X.lt
  obtain ⟨d0, d1, d2, d3, d4, d5⟩ := mod_cells X4
  have d6 := X4.lt
  have R6 := Lib.hid O4.own.lt
  have J6 := Lib.hid J4
  have X6 := Lib.hid X4
  clear OD O4 J4 X4 J3 J2 CP HE HI HR hLn s4 hsz
  rcases hr3 with hr3 | hr3 | hr3
  all_goals rcases hen0 with hen0 | hen0
  all_goals rcases him0 with him0 | him0
  all_goals rcases hrn0 with hrn0 | hrn0
  all_goals first
    | (exfalso; omega)
    | (clear hD
       go_wp2_with (first | (go_at_call 15; (with_reducible refine (TT.out.mo _ _ _ _ _ _ _ _ _ _ _ _ _ _ _ _ R6.out).mono ?_); rintro e w6 ⟨rfl, hb⟩; have J7 := Lib.hid (J6.out.belowS hb); have X7 := Lib.hid (X6.out.belowS hb); have R7 := Lib.hid (RdM.go R6.out hb hb.size); obtain ⟨p0, p1, p2, p3, p4, p5⟩ := mod_cells J7.out.X; have p6 := J7.out.X.lt; obtain ⟨q0, q1, q2, q3, q4, q5⟩ := mod_cells X7.out; have q6 := X7.out.lt; clear hb) | (go_at_call 16; (with_reducible refine (TT.out.sa _ _ _ _ _ _ _ _ _ _ _ _ _ _ _ _ J7.out.B R7.out).mono ?_); rintro e w7 ⟨rfl, hb⟩; have J8 := Lib.hid (J7.out.belowS hb); clear hb) | (go_at_call 9; (with_reducible refine (AW.out _).mono ?_); rintro e w9 ⟨rfl, hb⟩; have J10 := Lib.hid (J8.out.belowS hb); clear hb))
       go_ret
       exact ⟨rfl, J10.out.B⟩)
end
end Go.Proofs.Ytdfafllldanfiaa.WK
