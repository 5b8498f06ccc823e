/-
  Two modules compared, and a copy changed: the walk of ObjectSames. Nothing here is a statement of the seed.
-/
import Derived.Test.YtdlinlkdielmkaaObjLoop
import Derived.Test.YtdlinlkdielmkaaObjWApart
set_option linter.unusedSimpArgs false
set_option linter.unusedVariables false
namespace Go.Proofs.Ytdlinlkdielmkaa.OR
open Go.RowKit WM NR OM
/-- a copy's three rows that are written, and all that was there before it -/
structure L3 (W : World) (b : Nat) (cs : Array Value) (ea : Option Addr) (en ec : Nat) (ca : Option Addr) (cn cc : Nat) (ra : Option Addr) (rn rc : Nat) (u : World) : Prop where
  L : LJ W b cs u
  E : RowK 9 1 W.heap.size ea en ec (fun _ => True) u
  C : RowK 43 1 W.heap.size ca cn cc gd32 u
  R : RowK 48 3 W.heap.size ra rn rc (gdR rn) u
theorem owns_gdR {B n : Nat} {w : World} {v : Value} {l : List Rl} (h : w.ownsRow B 48 3 v n (relC l)) : gdR n (relC l) := by
  have e1 := h.1
  rw [relC_len] at e1
  have e2 : l.length = n := by omega
  rw [← e2]
  exact gdR_relC l
section
variable {W u u' : World} {b : Nat} {cs : Array Value} {ea : Option Addr} {en ec : Nat} {ca : Option Addr} {cn cc : Nat} {ra : Option Addr} {rn rc : Nat}
theorem L3.belowS (h : L3 W b cs ea en ec ca cn cc ra rn rc u) (hb : Below u.heap.size u u') : L3 W b cs ea en ec ca cn cc ra rn rc u' := ⟨h.L.belowS hb, h.E.belowS hb, h.C.belowS hb, h.R.belowS hb⟩
theorem L3.code {j : Nat} (h : L3 W b cs ea en ec ca cn cc ra rn rc u) (hj : j < cn) : ∃ g x, ca = some ⟨g, 0, none⟩ ∧ u.cell? ⟨g, j, none⟩ = some (.int .u32 x) ∧ u.frozen? ⟨g, j, none⟩ = false ∧ ∀ z : Int, L3 W b cs ea en ec ca cn cc ra rn rc (u.setCell ⟨g, j, none⟩ (.int .u32 z)) := by
  obtain ⟨g, ys, rfl, hcc, hgd, hyl, hcell, hfr, hcg2, ⟨cur, hw⟩, hst⟩ := h.C.at_ (j := j) (by omega)
  obtain ⟨x, hx⟩ := hgd j _ (List.getElem?_eq_getElem (show j < ys.length by omega))
  rw [List.getElem?_eq_getElem (show j < ys.length by omega), hx] at hcell
  exact ⟨g, x, rfl, hcell, hfr, fun z => ⟨h.L.grow hw (by decide) (grown_set _ g j _) hcg2, h.E.off hw (by decide) (grown_set _ g j _), hst _ (gd32_set hgd j z), h.R.off hw (by decide) (grown_set _ g j _)⟩⟩
theorem L3.exps {j : Nat} (h : L3 W b cs ea en ec ca cn cc ra rn rc u) (hj : j < en) : ∃ g x, ea = some ⟨g, 0, none⟩ ∧ u.cell? ⟨g, j, none⟩ = some x ∧ u.frozen? ⟨g, j, none⟩ = false ∧ ∀ z : Value, L3 W b cs ea en ec ca cn cc ra rn rc (u.setCell ⟨g, j, none⟩ z) := by
  obtain ⟨g, ys, rfl, hcc, hgd, hyl, hcell, hfr, hcg2, ⟨cur, hw⟩, hst⟩ := h.E.at_ (j := j) (by omega)
  rw [List.getElem?_eq_getElem (show j < ys.length by omega)] at hcell
  exact ⟨g, _, rfl, hcell, hfr, fun z => ⟨h.L.grow hw (by decide) (grown_set _ g j _) hcg2, hst _ trivial, h.C.off hw (by decide) (grown_set _ g j _), h.R.off hw (by decide) (grown_set _ g j _)⟩⟩
theorem L3.rels {j : Nat} (h : L3 W b cs ea en ec ca cn cc ra rn rc u) (hj : j < rn) : ∃ g x, ra = some ⟨g, 0, none⟩ ∧ u.cell? ⟨g, j * 3 + 1, none⟩ = some (.int .u16 x) ∧ u.frozen? ⟨g, j * 3 + 1, none⟩ = false ∧ ∀ z : Int, L3 W b cs ea en ec ca cn cc ra rn rc (u.setCell ⟨g, j * 3 + 1, none⟩ (.int .u16 z)) := by
  obtain ⟨g, ys, rfl, hcc, hgd, hyl, hcell, hfr, hcg2, ⟨cur, hw⟩, hst⟩ := h.R.at_ (j := j * 3 + 1) (by omega)
  obtain ⟨x, hx⟩ := hgd j hj
  rw [hx] at hcell
  exact ⟨g, x, rfl, hcell, hfr, fun z => ⟨h.L.grow hw (by decide) (grown_set _ g _ _) hcg2, h.E.off hw (by decide) (grown_set _ g _ _), h.C.off hw (by decide) (grown_set _ g _ _), hst _ (gdR_set hgd j z)⟩⟩
end
end Go.Proofs.Ytdlinlkdielmkaa.OR
namespace Go.Proofs.Ytdlinlkdielmkaa.WK
open Go.RowKit WM NR OM OR
set_option maxHeartbeats 4000000
set_option maxRecDepth 10000
section
variable {w : World} {ea : Option Addr} {en ec : Nat} {ia : Option Addr} {im ic : Nat} {ca : Option Addr} {cn cc : Nat} {da : Option Addr} {dn dc : Nat} {ra : Option Addr} {rn rc : Nat} {m : Md} {ea2 : Option Addr} {en2 ec2 : Nat} {ia2 : Option Addr} {im2 ic2 : Nat} {ca2 : Option Addr} {cn2 cc2 : Nat} {da2 : Option Addr} {dn2 dc2 : Nat} {ra2 : Option Addr} {rn2 rc2 : Nat} {k : Md}
theorem ObjectSames_walk (h : RdM (· < w.heap.size) w ea en ec ia im ic ca cn cc da dn dc ra rn rc m) (h2 : RdM (· < w.heap.size) w ea2 en2 ec2 ia2 im2 ic2 ca2 cn2 cc2 da2 dn2 dc2 ra2 rn2 rc2 k) :
    Calls Try.prog 5 #[mV (bs m.name) ea en ec ia im ic ca cn cc da dn dc ra rn rc, mV (bs k.name) ea2 en2 ec2 ia2 im2 ic2 ca2 cn2 cc2 da2 dn2 dc2 ra2 rn2 rc2] w fun e w' => e = .returned (.bool true) ∧ Below w.heap.size w w' := by
  have J0 := Lib.hid (DJ.new w (mCs (bs m.name) ea en ec ia im ic ca cn cc da dn dc ra rn rc) (mCs (bs k.name) ea2 en2 ec2 ia2 im2 ic2 ca2 cn2 cc2 da2 dn2 dc2 ra2 rn2 rc2))
  have S1 := Lib.hid (fun (u : World) (hb : Below w.heap.size w u) => size_any (h.go hb hb.size))
  have S2 := Lib.hid (fun (u : World) (hb : Below w.heap.size w u) => size_any (h2.go hb hb.size))
  have AW := Lib.hid (fun (u : World) => awake_any u)
  have z5 := szF_five (en := en) (im := im) (cn := cn) (dn := dn) (rn := rn)
  by_cases z1 : szF en [im, cn, dn, rn] ≤ 2000
  case neg =>
    have z1' : (2000 : Int) < (szF en [im, cn, dn, rn] : Nat) := by omega
    clear z1 z5 h h2
    generalize bs m.name = x at *
    generalize bs k.name = y at *
    generalize ((szF en [im, cn, dn, rn] : Nat) : Int) = s1 at *
    go_enter Try.func5, Try.ntmps5
    go_upto_region 1 with fail
    generalize (w.alloc (.cells (mCs x ea en ec ia im ic ca cn cc da dn dc ra rn rc) 26)).alloc (.cells (mCs y ea2 en2 ec2 ia2 im2 ic2 ca2 cn2 cc2 da2 dn2 dc2 ra2 rn2 rc2) 26) = W0 at *
    obtain ⟨c0, c1, c2, c3, c4, c5⟩ := mod_cells J0.out.X
    have c6 := J0.out.X.lt
    go_wp2_with (first | (go_at_call 9; (with_reducible refine (S1.out _ J0.out.B).mono ?_); rintro e w1 ⟨rfl, hb⟩; have J1 := Lib.hid (J0.out.belowS hb); clear hb) | (go_at_call 10; (with_reducible refine (AW.out _).mono ?_); rintro e w2 ⟨rfl, hb⟩; have J2 := Lib.hid (J1.out.belowS hb); clear hb))
    go_ret
    exact ⟨rfl, J2.out.B⟩
  obtain ⟨l1, l2, l3, l4, l5⟩ := z5 z1
  have z1' : ((szF en [im, cn, dn, rn] : Nat) : Int) ≤ 2000 := by omega
  have CO := Lib.hid (fun (u : World) (hb : Below w.heap.size w u) => refCopy_any (h.go hb hb.size) ⟨by omega, by omega, by omega, by omega, by omega⟩)
  have CP := Lib.hid (fun (u : World) (hb : Below w.heap.size w u) => objCopy_any (h.go hb hb.size) ⟨by omega, by omega, by omega, by omega, by omega⟩)
  have SP := Lib.hid (fun (u : World) (hb : Below w.heap.size w u) => objSame_any (h.go hb hb.size) (h2.go hb hb.size))
  have SR := Lib.hid (fun (u : World) (hb : Below w.heap.size w u) => refSame_any (h.go hb hb.size) (h2.go hb hb.size))
  have SC := Lib.hid (fun (u : World) (a1 : Option Addr) (a2 a3 : Nat) (b1 : Option Addr) (b2 b3 : Nat) (c1 : Option Addr) (c2 c3 : Nat) (d1 : Option Addr) (d2 d3 : Nat) (e1 : Option Addr) (e2 e3 : Nat) (hr : RdM (· < u.heap.size) u a1 a2 a3 b1 b2 b3 c1 c2 c3 d1 d2 d3 e1 e2 e3 m) (hb : Below w.heap.size w u) => objSame_any hr (h.go hb hb.size))
  have SW := Lib.hid (fun (u : World) (a1 : Option Addr) (a2 a3 : Nat) (b1 : Option Addr) (b2 b3 : Nat) (c1 : Option Addr) (c2 c3 : Nat) (d1 : Option Addr) (d2 d3 : Nat) (e1 : Option Addr) (e2 e3 : Nat) (hr : RdM (· < u.heap.size) u a1 a2 a3 b1 b2 b3 c1 c2 c3 d1 d2 d3 e1 e2 e3 m) (hb : Below w.heap.size w u) => refSame_any (h.go hb hb.size) hr)
  simp only [decide_true] at SC SW
  have hcl := Lib.hid (gd32_u32s m.code)
  clear z1 z5 h h2
  generalize bs m.name = x at *
  generalize bs k.name = y at *
  generalize decide (m = k) = D at *
  generalize ((szF en [im, cn, dn, rn] : Nat) : Int) = s1 at *
  by_cases z2 : szF en2 [im2, cn2, dn2, rn2] ≤ 2000
  case neg =>
    have z2' : (2000 : Int) < (szF en2 [im2, cn2, dn2, rn2] : Nat) := by omega
    clear z2 CO CP SP SR SC SW hcl l1 l2 l3 l4 l5
    generalize ((szF en2 [im2, cn2, dn2, rn2] : Nat) : Int) = s2 at *
    go_enter Try.func5, Try.ntmps5
    go_upto_region 1 with fail
    generalize (w.alloc (.cells (mCs x ea en ec ia im ic ca cn cc da dn dc ra rn rc) 26)).alloc (.cells (mCs y ea2 en2 ec2 ia2 im2 ic2 ca2 cn2 cc2 da2 dn2 dc2 ra2 rn2 rc2) 26) = W0 at *
    obtain ⟨c0, c1, c2, c3, c4, c5⟩ := mod_cells J0.out.X
    have c6 := J0.out.X.lt
    go_wp2_with (first | (go_at_call 9; (with_reducible refine (S1.out _ J0.out.B).mono ?_); rintro e w1 ⟨rfl, hb⟩; have J1 := Lib.hid (J0.out.belowS hb); obtain ⟨d0, d1, d2, d3, d4, d5⟩ := mod_cells J1.out.Y; have d6 := J1.out.Y.lt; clear hb) | (go_at_call 9; (with_reducible refine (S2.out _ J1.out.B).mono ?_); rintro e w2 ⟨rfl, hb⟩; have J2 := Lib.hid (J1.out.belowS hb); clear hb) | (go_at_call 10; (with_reducible refine (AW.out _).mono ?_); rintro e w3 ⟨rfl, hb⟩; have J3 := Lib.hid (J2.out.belowS hb); clear hb))
    go_ret
    exact ⟨rfl, J3.out.B⟩
  have z2' : ((szF en2 [im2, cn2, dn2, rn2] : Nat) : Int) ≤ 2000 := by omega
  clear z2
  generalize ((szF en2 [im2, cn2, dn2, rn2] : Nat) : Int) = s2 at *
  go_enter Try.func5, Try.ntmps5
  go_upto_region 1 with fail
  generalize (w.alloc (.cells (mCs x ea en ec ia im ic ca cn cc da dn dc ra rn rc) 26)).alloc (.cells (mCs y ea2 en2 ec2 ia2 im2 ic2 ca2 cn2 cc2 da2 dn2 dc2 ra2 rn2 rc2) 26) = W0 at *
  obtain ⟨c0, c1, c2, c3, c4, c5⟩ := mod_cells J0.out.X
  have c6 := J0.out.X.lt
  go_upto_region 3 with (first | (go_at_call 9; (with_reducible refine (S1.out _ J0.out.B).mono ?_); rintro e w1 ⟨rfl, hb⟩; have J1 := Lib.hid (J0.out.belowS hb); obtain ⟨d0, d1, d2, d3, d4, d5⟩ := mod_cells J1.out.Y; have d6 := J1.out.Y.lt; clear hb) | (go_at_call 9; (with_reducible refine (S2.out _ J1.out.B).mono ?_); rintro e w2 ⟨rfl, hb⟩; have J2 := Lib.hid (J1.out.belowS hb); clear hb))
  clear c0 c1 c2 c3 c4 c5 c6 d0 d1 d2 d3 d4 d5 d6 J0 J1 S1 S2 z1' z2'
  obtain ⟨c0, c1, c2, c3, c4, c5⟩ := mod_cells J2.out.X
  have c6 := J2.out.X.lt
  go_upto_region 4 with (go_at_call 11; (with_reducible refine (CO.out _ J2.out.B).mono ?_); rintro e w3 ⟨ea3, en3, ec3, ia3, im3, ic3, ca3, cn3, cc3, da3, dn3, dc3, ra3, rn3, rc3, rfl, hr, hb⟩; have J3 := Lib.hid (J2.out.belowS hb); have R3 := Lib.hid hr.there; clear hb hr)
  have hb4 := below_new w3 (.cells (mCs x ea3 en3 ec3 ia3 im3 ic3 ca3 cn3 cc3 da3 dn3 dc3 ra3 rn3 rc3) 26)
  have J4 := Lib.hid (J3.out.belowS hb4)
  have Y4 := Lib.hid (Whole.new w3 26 (mCs x ea3 en3 ec3 ia3 im3 ic3 ca3 cn3 cc3 da3 dn3 dc3 ra3 rn3 rc3))
  have R4 := Lib.hid (R3.out.go hb4 hb4.size)
  clear c0 c1 c2 c3 c4 c5 c6 J2 J3 R3 hb4 CO
  generalize w3.alloc (.cells (mCs x ea3 en3 ec3 ia3 im3 ic3 ca3 cn3 cc3 da3 dn3 dc3 ra3 rn3 rc3) 26) = W4 at *
  generalize w3.heap.size = b4 at *
  obtain ⟨c0, c1, c2, c3, c4, c5⟩ := mod_cells J4.out.X
  have c6 := J4.out.X.lt
  go_upto_region 5 with (go_at_call 19; (with_reducible refine (CP.out _ J4.out.B).mono ?_); rintro e w5 ⟨ea4, en4, ec4, ia4, im4, ic4, ca4, cn4, cc4, da4, dn4, dc4, ra4, rn4, rc4, rfl, hO, hb⟩; have O5 := Lib.hid hO; have B5 := Lib.hid hb; clear hb hO)
  have hb6 := below_new w5 (.cells (mCs x ea4 en4 ec4 ia4 im4 ic4 ca4 cn4 cc4 da4 dn4 dc4 ra4 rn4 rc4) 26)
  have L6 : Hid (L3 W4 w5.heap.size (mCs x ea4 en4 ec4 ia4 im4 ic4 ca4 cn4 cc4 da4 dn4 dc4 ra4 rn4 rc4) ea4 en4 ec4 ca4 cn4 cc4 ra4 rn4 rc4 (w5.alloc (.cells (mCs x ea4 en4 ec4 ia4 im4 ic4 ca4 cn4 cc4 da4 dn4 dc4 ra4 rn4 rc4) 26))) := Lib.hid ⟨⟨B5.out.trans (hb6.mono B5.out.size), Whole.new _ _ _⟩, RowK.belowS ⟨_, trivial, O5.out.ex⟩ hb6, RowK.belowS ⟨_, hcl.out, O5.out.cd⟩ hb6, RowK.belowS ⟨_, owns_gdR O5.out.rl, O5.out.rl⟩ hb6⟩
  have R6 := Lib.hid (O5.out.reads.there.go hb6 hb6.size)
  have J6 := Lib.hid (J4.out.belowS L6.out.L.B)
  have hcn := (reads_len R6.out.cd).2
  have hen := (reads_len R6.out.ex).2
  have hrn : rn4 ≤ rc4 ∧ rc4 ≤ maxLen := R6.out.rl.len.2
  clear c0 c1 c2 c3 c4 c5 c6 O5 B5 hb6 CP hcl
  generalize w5.alloc (.cells (mCs x ea4 en4 ec4 ia4 im4 ic4 ca4 cn4 cc4 da4 dn4 dc4 ra4 rn4 rc4) 26) = W6 at *
  generalize w5.heap.size = b6 at *
  have hS : Hid (∀ u, Below W6.heap.size W6 u → (MC w.heap.size x ea en ec ia im ic ca cn cc da dn dc ra rn rc u ∧ MC (w.heap.size + 1) y ea2 en2 ec2 ia2 im2 ic2 ca2 cn2 cc2 da2 dn2 dc2 ra2 rn2 rc2 u ∧ MC b6 x ea4 en4 ec4 ia4 im4 ic4 ca4 cn4 cc4 da4 dn4 dc4 ra4 rn4 rc4 u)) := fun u hb => ⟨mod_cells (J6.out.X.belowS hb), mod_cells (J6.out.Y.belowS hb), mod_cells (L6.out.L.X.belowS hb)⟩
  have B6 := Lib.hid ((Below.refl W6.heap.size W6).drew)
  have BB := Lib.hid (fun (u : World) (hb : Below W6.heap.size W6 u) => J6.out.B.trans (hb.mono J6.out.B.size))
  have RR := Lib.hid (fun (u : World) (hb : Below W6.heap.size W6 u) => R6.out.go hb hb.size)
  have SX := hS.out _ B6.out
  refine wp_region_held_drew (S := fun u => MC w.heap.size x ea en ec ia im ic ca cn cc da dn dc ra rn rc u ∧ MC (w.heap.size + 1) y ea2 en2 ec2 ia2 im2 ic2 ca2 cn2 cc2 da2 dn2 dc2 ra2 rn2 rc2 u ∧ MC b6 x ea4 en4 ec4 ia4 im4 ic4 ca4 cn4 cc4 da4 dn4 dc4 ra4 rn4 rc4 u) (by kernel_rfl) SX (fun hHeld => ?_)

  refine wpAnyH_take (i := 0) (v := ?tkv1) rfl (by kernel_rfl) (by kernel_rfl) (by kernel_rfl) (fun _ _ _ h => h) (Or.inl ⟨by rfl, ?tky1⟩) (by assumption) ?tkr1
  case tky1 =>
    intro u hSu
    obtain ⟨⟨s0, s1, s2, s3, s4, s5⟩, ⟨r0, r1, r2, r3, r4, r5⟩, ⟨q0, q1, q2, q3, q4, q5⟩⟩ := hSu
    go_simp
    try with_reducible rfl
  try simp only [Act.put, List.getElem_toArray, List.getElem_cons_succ, List.getElem_cons_zero, List.setIfInBounds_toArray, List.set_cons_zero, List.set_cons_succ]
  refine wpAnyH_take (i := 1) (v := ?tkv2) rfl (by kernel_rfl) (by kernel_rfl) (by kernel_rfl) (fun _ _ _ h => h) (Or.inl ⟨by rfl, ?tky2⟩) (by assumption) ?tkr2
  case tky2 =>
    intro u hSu
    obtain ⟨⟨s0, s1, s2, s3, s4, s5⟩, ⟨r0, r1, r2, r3, r4, r5⟩, ⟨q0, q1, q2, q3, q4, q5⟩⟩ := hSu
    go_simp
    try with_reducible rfl
  try simp only [Act.put, List.getElem_toArray, List.getElem_cons_succ, List.getElem_cons_zero, List.setIfInBounds_toArray, List.set_cons_zero, List.set_cons_succ]
  refine wpAnyH_take (i := 3) (v := ?tkv3) rfl (by kernel_rfl) (by kernel_rfl) (by kernel_rfl) (fun _ _ _ h => h) (Or.inl ⟨by rfl, ?tky3⟩) (by assumption) ?tkr3
  case tky3 =>
    intro u hSu
    obtain ⟨⟨s0, s1, s2, s3, s4, s5⟩, ⟨r0, r1, r2, r3, r4, r5⟩, ⟨q0, q1, q2, q3, q4, q5⟩⟩ := hSu
    go_simp
    try with_reducible rfl
  try simp only [Act.put, List.getElem_toArray, List.getElem_cons_succ, List.getElem_cons_zero, List.setIfInBounds_toArray, List.set_cons_zero, List.set_cons_succ]
  refine wpAnyH_take (i := 4) (v := ?tkv4) rfl (by kernel_rfl) (by kernel_rfl) (by kernel_rfl) (fun _ _ _ h => h) (Or.inl ⟨by rfl, ?tky4⟩) (by assumption) ?tkr4
  case tky4 =>
    intro u hSu
    obtain ⟨⟨s0, s1, s2, s3, s4, s5⟩, ⟨r0, r1, r2, r3, r4, r5⟩, ⟨q0, q1, q2, q3, q4, q5⟩⟩ := hSu
    go_simp
    try with_reducible rfl
  try simp only [Act.put, List.getElem_toArray, List.getElem_cons_succ, List.getElem_cons_zero, List.setIfInBounds_toArray, List.set_cons_zero, List.set_cons_succ]
  refine wpAnyH_ready (rs := [2]) (by kernel_rfl) (by simp) ?_
  refine AllReadyH.cons rfl (fun K hK => ?_) AllReadyH.nil
  (go_simp; go_at_call 20; (with_reducible refine (SP.out _ (BB.out _ B6.out)).mono ?_); rintro e w7 ⟨rfl, hb⟩; have B7 := Lib.hid (B6.out.trans (hb.mono B6.out.size)); clear hb)
  refine hK.out _ _ ?tks11 (fun hHeld => ?tkr11)
  case tks11 => exact hS.out _ B7.out
  clear hK K
  try simp only [Act.put, List.getElem_toArray, List.getElem_cons_succ, List.getElem_cons_zero, List.setIfInBounds_toArray, List.set_cons_zero, List.set_cons_succ]
  refine wpAnyH_ready (rs := [5]) (by kernel_rfl) (by simp) ?_
  refine AllReadyH.cons rfl (fun K hK => ?_) AllReadyH.nil
  (go_simp; go_at_call 16; (with_reducible refine (SR.out _ (BB.out _ B7.out)).mono ?_); rintro e w8 ⟨rfl, hb⟩; have B8 := Lib.hid (B7.out.trans (hb.mono B7.out.size)); clear hb)
  refine hK.out _ _ ?tks12 (fun hHeld => ?tkr12)
  case tks12 => exact hS.out _ B8.out
  clear hK K
  try simp only [Act.put, List.getElem_toArray, List.getElem_cons_succ, List.getElem_cons_zero, List.setIfInBounds_toArray, List.set_cons_zero, List.set_cons_succ]
  refine wpAnyH_take (i := 6) (v := ?tkv5) rfl (by kernel_rfl) (by kernel_rfl) (by kernel_rfl) (fun _ _ _ h => h) (Or.inl ⟨by rfl, ?tky5⟩) (by assumption) ?tkr5
  case tky5 =>
    intro u hSu
    obtain ⟨⟨s0, s1, s2, s3, s4, s5⟩, ⟨r0, r1, r2, r3, r4, r5⟩, ⟨q0, q1, q2, q3, q4, q5⟩⟩ := hSu
    go_simp
    try with_reducible rfl
  try simp only [Act.put, List.getElem_toArray, List.getElem_cons_succ, List.getElem_cons_zero, List.setIfInBounds_toArray, List.set_cons_zero, List.set_cons_succ]
  refine wpAnyH_take (i := 7) (v := ?tkv6) rfl (by kernel_rfl) (by kernel_rfl) (by kernel_rfl) (fun _ _ _ h => h) (Or.inl ⟨by rfl, ?tky6⟩) (by assumption) ?tkr6
  case tky6 =>
    intro u hSu
    obtain ⟨⟨s0, s1, s2, s3, s4, s5⟩, ⟨r0, r1, r2, r3, r4, r5⟩, ⟨q0, q1, q2, q3, q4, q5⟩⟩ := hSu
    go_simp
    try with_reducible rfl
  try simp only [Act.put, List.getElem_toArray, List.getElem_cons_succ, List.getElem_cons_zero, List.setIfInBounds_toArray, List.set_cons_zero, List.set_cons_succ]
  refine wpAnyH_take (i := 8) (v := ?tkv7) rfl (by kernel_rfl) (by kernel_rfl) (by kernel_rfl) (fun _ _ _ h => h) (Or.inl ⟨by rfl, ?tky7⟩) (by assumption) ?tkr7
  case tky7 =>
    intro u hSu
    obtain ⟨⟨s0, s1, s2, s3, s4, s5⟩, ⟨r0, r1, r2, r3, r4, r5⟩, ⟨q0, q1, q2, q3, q4, q5⟩⟩ := hSu
    go_simp
    try with_reducible rfl
  try simp only [Act.put, List.getElem_toArray, List.getElem_cons_succ, List.getElem_cons_zero, List.setIfInBounds_toArray, List.set_cons_zero, List.set_cons_succ]
  refine wpAnyH_take (i := 9) (v := ?tkv8) rfl (by kernel_rfl) (by kernel_rfl) (by kernel_rfl) (fun _ _ _ h => h) (Or.inl ⟨by rfl, ?tky8⟩) (by assumption) ?tkr8
  case tky8 =>
    intro u hSu
    obtain ⟨⟨s0, s1, s2, s3, s4, s5⟩, ⟨r0, r1, r2, r3, r4, r5⟩, ⟨q0, q1, q2, q3, q4, q5⟩⟩ := hSu
    go_simp
    try with_reducible rfl
  try simp only [Act.put, List.getElem_toArray, List.getElem_cons_succ, List.getElem_cons_zero, List.setIfInBounds_toArray, List.set_cons_zero, List.set_cons_succ]
  refine wpAnyH_ready (rs := [10]) (by kernel_rfl) (by simp) ?_
  refine AllReadyH.cons rfl (fun K hK => ?_) AllReadyH.nil
  (go_simp; go_at_call 20; (with_reducible refine (SC.out _ _ _ _ _ _ _ _ _ _ _ _ _ _ _ _ (RR.out _ B8.out) (BB.out _ B8.out)).mono ?_); rintro e w9 ⟨rfl, hb⟩; have B9 := Lib.hid (B8.out.trans (hb.mono B8.out.size)); clear hb)
  refine hK.out _ _ ?tks13 (fun hHeld => ?tkr13)
  case tks13 => exact hS.out _ B9.out
  clear hK K
  try simp only [Act.put, List.getElem_toArray, List.getElem_cons_succ, List.getElem_cons_zero, List.setIfInBounds_toArray, List.set_cons_zero, List.set_cons_succ]
  refine wpAnyH_take (i := 11) (v := ?tkv9) rfl (by kernel_rfl) (by kernel_rfl) (by kernel_rfl) (fun _ _ _ h => h) (Or.inl ⟨by rfl, ?tky9⟩) (by assumption) ?tkr9
  case tky9 =>
    intro u hSu
    obtain ⟨⟨s0, s1, s2, s3, s4, s5⟩, ⟨r0, r1, r2, r3, r4, r5⟩, ⟨q0, q1, q2, q3, q4, q5⟩⟩ := hSu
    go_simp
    try with_reducible rfl
  try simp only [Act.put, List.getElem_toArray, List.getElem_cons_succ, List.getElem_cons_zero, List.setIfInBounds_toArray, List.set_cons_zero, List.set_cons_succ]
  refine wpAnyH_take (i := 12) (v := ?tkv10) rfl (by kernel_rfl) (by kernel_rfl) (by kernel_rfl) (fun _ _ _ h => h) (Or.inl ⟨by rfl, ?tky10⟩) (by assumption) ?tkr10
  case tky10 =>
    intro u hSu
    obtain ⟨⟨s0, s1, s2, s3, s4, s5⟩, ⟨r0, r1, r2, r3, r4, r5⟩, ⟨q0, q1, q2, q3, q4, q5⟩⟩ := hSu
    go_simp
    try with_reducible rfl
  try simp only [Act.put, List.getElem_toArray, List.getElem_cons_succ, List.getElem_cons_zero, List.setIfInBounds_toArray, List.set_cons_zero, List.set_cons_succ]
  refine wpAnyH_done (by kernel_rfl) ?_ _
  have L9 := Lib.hid (L6.out.belowS B9.out)
  clear hHeld SX hS B6 B7 B8 B9 BB RR L6 R6 J6 SP SR SC

  unfold maxLen at hcn hen hrn
  clear l1 l2 l3 l4 l5
  go_wp2_with fail
  go_loopw [8] (fun i wr => ∃ k : Nat, k ≤ cn4 ∧ i = .int .i64 (k : Int) ∧ Hid (L3 W4 b6 (mCs x ea4 en4 ec4 ia4 im4 ic4 ca4 cn4 cc4 da4 dn4 dc4 ra4 rn4 rc4) ea4 en4 ec4 ca4 cn4 cc4 ra4 rn4 rc4 wr)) (fun i _ => cn4 - (intOf i).toNat)
  case atStart => exact ⟨0, by omega, rfl, L9⟩
  case round =>
    obtain ⟨k1, hk1, rfl, hL1⟩ := hrel
    clear L9
    by_cases hlt : k1 < cn4
    · have hlt' : (k1 : Int) < cn4 := by omega
      obtain ⟨g, z, rfl, hcell, hfr, hst⟩ := hL1.out.code hlt
      have HST := Lib.hid hst
      obtain ⟨c0, c1, c2, c3, c4, c5⟩ := mod_cells hL1.out.L.X
      have c6 := hL1.out.L.X.lt
      clear hst hL1
      go_wp2_with fail
      go_roundw
      case rel => exact ⟨k1 + 1, by omega, by go_num, Lib.hid (HST.out _)⟩
      case measure => simp [intOf]; omega
    · have hkn1 : ¬ (k1 : Int) < cn4 := by omega
      clear hlt hk1
      obtain ⟨c0, c1, c2, c3, c4, c5⟩ := mod_cells hL1.out.L.X
      have c6 := hL1.out.L.X.lt
      go_wp2_with fail
      go_loopw [9] (fun i wr => ∃ k : Nat, k ≤ en4 ∧ i = .int .i64 (k : Int) ∧ Hid (L3 W4 b6 (mCs x ea4 en4 ec4 ia4 im4 ic4 ca4 cn4 cc4 da4 dn4 dc4 ra4 rn4 rc4) ea4 en4 ec4 ca4 cn4 cc4 ra4 rn4 rc4 wr)) (fun i _ => en4 - (intOf i).toNat)
      case atStart => exact ⟨0, by omega, rfl, hL1⟩
      case round =>
        obtain ⟨k2, hk2, rfl, hL2⟩ := hrel
        clear hL1
        by_cases hlt : k2 < en4
        · have hlt' : (k2 : Int) < en4 := by omega
          obtain ⟨g, z, rfl, hcell, hfr, hst⟩ := hL2.out.exps hlt
          have HST := Lib.hid hst
          obtain ⟨c0, c1, c2, c3, c4, c5⟩ := mod_cells hL2.out.L.X
          have c6 := hL2.out.L.X.lt
          clear hst hL2
          go_wp2_with fail
          go_roundw
          case rel => exact ⟨k2 + 1, by omega, by go_num, Lib.hid (HST.out _)⟩
          case measure => simp [intOf]; omega
        · have hkn2 : ¬ (k2 : Int) < en4 := by omega
          clear hlt hk2
          obtain ⟨c0, c1, c2, c3, c4, c5⟩ := mod_cells hL2.out.L.X
          have c6 := hL2.out.L.X.lt
          clear c0 c1 c2 c3 c4 c5 c6
          obtain ⟨c0, c1, c2, c3, c4, c5⟩ := mod_cells hL2.out.L.X
          have c6 := hL2.out.L.X.lt
          go_wp2_with fail
          go_loopw [10] (fun i wr => ∃ k : Nat, k ≤ rn4 ∧ i = .int .i64 (k : Int) ∧ Hid (L3 W4 b6 (mCs x ea4 en4 ec4 ia4 im4 ic4 ca4 cn4 cc4 da4 dn4 dc4 ra4 rn4 rc4) ea4 en4 ec4 ca4 cn4 cc4 ra4 rn4 rc4 wr)) (fun i _ => rn4 - (intOf i).toNat)
          case atStart => exact ⟨0, by omega, rfl, hL2⟩
          case round =>
            obtain ⟨k3, hk3, rfl, hL3⟩ := hrel
            clear hL2
            by_cases hlt : k3 < rn4
            · have hlt' : (k3 : Int) < rn4 := by omega
              obtain ⟨g, z, rfl, hcell, hfr, hst⟩ := hL3.out.rels hlt
              have HST := Lib.hid hst
              obtain ⟨c0, c1, c2, c3, c4, c5⟩ := mod_cells hL3.out.L.X
              have c6 := hL3.out.L.X.lt
              clear hst hL3
              go_wp2_with fail
              go_roundw
              case rel => exact ⟨k3 + 1, by omega, by go_num, Lib.hid (HST.out _)⟩
              case measure => simp [intOf]; omega
            · have hkn3 : ¬ (k3 : Int) < rn4 := by omega
              clear hlt hk3
              obtain ⟨c0, c1, c2, c3, c4, c5⟩ := mod_cells hL3.out.L.X
              have c6 := hL3.out.L.X.lt
              have B10 := Lib.hid (hL3.out.L.B)
              clear c0 c1 c2 c3 c4 c5 c6
              have J10 := Lib.hid (J4.out.belowS B10.out)
              have R10 := Lib.hid (R4.out.go B10.out B10.out.size)
              obtain ⟨c0, c1, c2, c3, c4, c5⟩ := mod_cells hL3.out.L.X
              have c6 := hL3.out.L.X.lt
              obtain ⟨d0, d1, d2, d3, d4, d5⟩ := mod_cells J10.out.X
              have d6 := J10.out.X.lt
              obtain ⟨p0, p1, p2, p3, p4, p5⟩ := mod_cells (Y4.out.belowS B10.out)
              have p6 := (Y4.out.belowS B10.out).lt
              go_wp2_with (first | (go_at_call 16; (with_reducible refine (SW.out _ _ _ _ _ _ _ _ _ _ _ _ _ _ _ _ R10.out J10.out.B).mono ?_); rintro e w11 ⟨rfl, hb⟩; have J11 := Lib.hid (J10.out.belowS hb); clear hb) | (go_at_call 10; (with_reducible refine (AW.out _).mono ?_); rintro e w12 ⟨rfl, hb⟩; have J12 := Lib.hid (J11.out.belowS hb); clear hb))
              go_ret
              exact ⟨rfl, J12.out.B⟩
end
end Go.Proofs.Ytdlinlkdielmkaa.WK

