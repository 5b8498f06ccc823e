/-
  A module laid by both: the walk of ObjectPuts. Nothing here is a statement of the seed.
-/
import Derived.Test.YtdlinlkdielmkaaObjU
set_option linter.unusedSimpArgs false
set_option linter.unusedVariables false
namespace Go.Proofs.Ytdlinlkdielmkaa.OR
open Go.RowKit WM NR OM
/-- one module's box, on the way -/
structure OJ (w : World) (cs : Array Value) (u : World) : Prop where
  X : Whole u w.heap.size 26 cs
  B : Below w.heap.size w u
  sz : w.heap.size + 1 ≤ u.heap.size
theorem OJ.belowS {w u u' : World} {cs : Array Value} (h : OJ w cs u) (hb : Below u.heap.size u u') : OJ w cs u' := ⟨h.X.belowS hb, h.B.trans (hb.mono h.B.size), Nat.le_trans h.sz hb.size⟩
theorem OJ.new (w : World) (cs : Array Value) : OJ w cs (w.alloc (.cells cs 26)) := ⟨Whole.new w _ _, below_new w _, by simp⟩
end Go.Proofs.Ytdlinlkdielmkaa.OR
namespace Go.Proofs.Ytdlinlkdielmkaa.WK
open Go.RowKit WM NR OM OR
set_option maxHeartbeats 4000000
set_option maxRecDepth 10000
section
variable {w : World} {ea : Option Addr} {en ec : Nat} {ia : Option Addr} {im ic : Nat} {ca : Option Addr} {cn cc : Nat} {da : Option Addr} {dn dc : Nat} {ra : Option Addr} {rn rc : Nat} {m : Md}
theorem ObjectPuts_walk (h : RdM (· < w.heap.size) w ea en ec ia im ic ca cn cc da dn dc ra rn rc m) (hf : FineM m) :
    Calls Try.prog 3 #[mV (bs m.name) ea en ec ia im ic ca cn cc da dn dc ra rn rc] w fun e w' => e = .returned (.bool true) ∧ Below w.heap.size w w' := by
  have J0 := Lib.hid (OJ.new w (mCs (bs m.name) ea en ec ia im ic ca cn cc da dn dc ra rn rc))
  have S1 := Lib.hid (fun (u : World) (hb : Below w.heap.size w u) => size_any (h.go hb hb.size))
  have AW := Lib.hid (fun (u : World) => awake_any u)
  have z5 := szF_five (en := en) (im := im) (cn := cn) (dn := dn) (rn := rn)
  by_cases z1 : szF en [im, cn, dn, rn] ≤ 2000
  case neg =>
    have z1' : (2000 : Int) < (szF en [im, cn, dn, rn] : Nat) := by omega
    clear z1 z5 h hf
    generalize bs m.name = x at *
    generalize ((szF en [im, cn, dn, rn] : Nat) : Int) = s1 at *
    go_enter Try.func3, Try.ntmps3
    go_upto_region 1 with fail
    generalize w.alloc (.cells (mCs x ea en ec ia im ic ca cn cc da dn dc ra rn rc) 26) = W0 at *
    obtain ⟨c0, c1, c2, c3, c4, c5⟩ := mod_cells J0.out.X
    have c6 := J0.out.X.lt
    go_wp2_with (first | (go_at_call 9; (with_reducible refine (S1.out _ J0.out.B).mono ?_); rintro e w1 ⟨rfl, hb⟩; have J1 := Lib.hid (J0.out.belowS hb); clear hb) | (go_at_call 10; (with_reducible refine (AW.out _).mono ?_); rintro e w2 ⟨rfl, hb⟩; have J2 := Lib.hid (J1.out.belowS hb); clear hb))
    go_ret
    exact ⟨rfl, J2.out.B⟩
  obtain ⟨l1, l2, l3, l4, l5⟩ := z5 z1
  have z1' : ((szF en [im, cn, dn, rn] : Nat) : Int) ≤ 2000 := by omega
  have CO := Lib.hid (fun (u : World) (hb : Below w.heap.size w u) => refCopy_any (h.go hb hb.size) ⟨by omega, by omega, by omega, by omega, by omega⟩)
  have PO := Lib.hid (fun (u : World) (a1 : Option Addr) (a2 a3 : Nat) (b1 : Option Addr) (b2 b3 : Nat) (c1 : Option Addr) (c2 c3 : Nat) (d1 : Option Addr) (d2 d3 : Nat) (e1 : Option Addr) (e2 e3 : Nat) (hr : RdM (· < u.heap.size) u a1 a2 a3 b1 b2 b3 c1 c2 c3 d1 d2 d3 e1 e2 e3 m) => objPut_u hr hf)
  have KO := Lib.hid (fun (u : World) (a1 : Option Addr) (a2 a3 : Nat) (b1 : Option Addr) (b2 b3 : Nat) (c1 : Option Addr) (c2 c3 : Nat) (d1 : Option Addr) (d2 d3 : Nat) (e1 : Option Addr) (e2 e3 : Nat) (hr : RdM (· < u.heap.size) u a1 a2 a3 b1 b2 b3 c1 c2 c3 d1 d2 d3 e1 e2 e3 m) => objCheck_any hr)
  have SO := Lib.hid (fun (u : World) (a1 : Option Addr) (a2 a3 : Nat) (b1 : Option Addr) (b2 b3 : Nat) (c1 : Option Addr) (c2 c3 : Nat) (d1 : Option Addr) (d2 d3 : Nat) (e1 : Option Addr) (e2 e3 : Nat) (hr : RdM (· < u.heap.size) u a1 a2 a3 b1 b2 b3 c1 c2 c3 d1 d2 d3 e1 e2 e3 m) (hb : Below w.heap.size w u) => refSame_any hr (h.go hb hb.size))
  simp only [decide_true] at SO
  have PR := Lib.hid (fun (u : World) (hb : Below w.heap.size w u) => refPut_u (h.go hb hb.size) hf)
  have KR := Lib.hid (fun (u : World) (hb : Below w.heap.size w u) => check_any (h.go hb hb.size))
  clear z1 z5 h hf l1 l2 l3 l4 l5
  unfold IsPutU at PO PR
  generalize bs m.name = x at *
  generalize bs (plM m) = xp at *
  generalize ((szF en [im, cn, dn, rn] : Nat) : Int) = s1 at *
  generalize ((chkM m : Nat) : Int) = ki at *
  go_enter Try.func3, Try.ntmps3
  go_upto_region 1 with fail
  generalize w.alloc (.cells (mCs x ea en ec ia im ic ca cn cc da dn dc ra rn rc) 26) = W0 at *
  obtain ⟨c0, c1, c2, c3, c4, c5⟩ := mod_cells J0.out.X
  have c6 := J0.out.X.lt
  go_upto_region 3 with (go_at_call 9; (with_reducible refine (S1.out _ J0.out.B).mono ?_); rintro e w1 ⟨rfl, hb⟩; have J1 := Lib.hid (J0.out.belowS hb); clear hb)
  clear c0 c1 c2 c3 c4 c5 c6 J0 S1 z1'
  obtain ⟨c0, c1, c2, c3, c4, c5⟩ := mod_cells J1.out.X
  have c6 := J1.out.X.lt
  go_upto_region 4 with (go_at_call 11; (with_reducible refine (CO.out _ J1.out.B).mono ?_); rintro e w2 ⟨ea2, en2, ec2, ia2, im2, ic2, ca2, cn2, cc2, da2, dn2, dc2, ra2, rn2, rc2, rfl, hr, hb⟩; have J2 := Lib.hid (J1.out.belowS hb); have R2 := Lib.hid hr; clear hb hr)
  have hb3 := below_new w2 (.cells (mCs x ea2 en2 ec2 ia2 im2 ic2 ca2 cn2 cc2 da2 dn2 dc2 ra2 rn2 rc2) 26)
  have J3 := Lib.hid (J2.out.belowS hb3)
  have Y3 := Lib.hid (Whole.new w2 26 (mCs x ea2 en2 ec2 ia2 im2 ic2 ca2 cn2 cc2 da2 dn2 dc2 ra2 rn2 rc2))
  have R3 := Lib.hid ((R2.out.keep2 fun g _ hg => hb3.block g hg).there)
  clear c0 c1 c2 c3 c4 c5 c6 J1 J2 R2 hb3 CO
  generalize w2.alloc (.cells (mCs x ea2 en2 ec2 ia2 im2 ic2 ca2 cn2 cc2 da2 dn2 dc2 ra2 rn2 rc2) 26) = W3 at *
  generalize w2.heap.size = b3 at *
  obtain ⟨c0, c1, c2, c3, c4, c5⟩ := mod_cells Y3.out
  have c6 := Y3.out.lt
  go_upto_region 5 with (go_at_call 12; (with_reducible refine (PO.out _ _ _ _ _ _ _ _ _ _ _ _ _ _ _ _ R3.out).mono ?_); rintro e w4 ⟨va, vn, vc, rfl, hr, hb⟩; have J4 := Lib.hid (J3.out.belowS hb); have Y4 := Lib.hid (Y3.out.belowS hb); have R4 := Lib.hid (R3.out.go hb hb.size); have V4 := Lib.hid (hr.there.mono fun g hg => hg.2); clear hb hr)
  clear c0 c1 c2 c3 c4 c5 c6 J3 Y3 R3 PO
  obtain ⟨c0, c1, c2, c3, c4, c5⟩ := mod_cells J4.out.X
  have c6 := J4.out.X.lt
  go_upto_region 6 with (go_at_call 13; (with_reducible refine (PR.out _ J4.out.B).mono ?_); rintro e w5 ⟨ua, un, uc, rfl, hr, hb⟩; have J5 := Lib.hid (J4.out.belowS hb); have Y5 := Lib.hid (Y4.out.belowS hb); have R5 := Lib.hid (R4.out.go hb hb.size); have V5 := Lib.hid ((V4.out.below hb).mono (fun g hg => Nat.lt_of_lt_of_le hg hb.size)); have U5 := Lib.hid (hr.there.mono fun g hg => hg.2); clear hb hr)
  clear c0 c1 c2 c3 c4 c5 c6 J4 Y4 R4 V4 PR
  have hx1 : Hid (∀ u, Below w5.heap.size w5 u → (convert 30 9 (.slice va vn vc)).run Try.prog u = .ok (.string (bs (plM m))) u ∧ (convert 30 9 (.slice ua un uc)).run Try.prog u = .ok (.string (bs (plM m))) u) := fun u hb => ⟨text_run (V5.out.below hb), text_run (U5.out.below hb)⟩
  generalize bs (plM m) = xp at *
  have hS : Hid (∀ u, Below w5.heap.size w5 u → ((convert 30 9 (.slice va vn vc)).run Try.prog u = .ok (.string xp) u ∧ (convert 30 9 (.slice ua un uc)).run Try.prog u = .ok (.string xp) u ∧ MC w.heap.size x ea en ec ia im ic ca cn cc da dn dc ra rn rc u ∧ MC b3 x ea2 en2 ec2 ia2 im2 ic2 ca2 cn2 cc2 da2 dn2 dc2 ra2 rn2 rc2 u)) := fun u hb => ⟨(hx1.out u hb).1, (hx1.out u hb).2, mod_cells (J5.out.X.belowS hb), mod_cells (Y5.out.belowS hb)⟩
  have B5 := Lib.hid ((Below.refl w5.heap.size w5).drew)
  have BB := Lib.hid (fun (u : World) (hb : Below w5.heap.size w5 u) => J5.out.B.trans (hb.mono J5.out.B.size))
  have RR := Lib.hid (fun (u : World) (hb : Below w5.heap.size w5 u) => R5.out.go hb hb.size)
  have SX := hS.out _ B5.out
  clear hx1 V5 U5 Y5 R5
  refine wp_region_held_drew (S := fun u => (convert 30 9 (.slice va vn vc)).run Try.prog u = .ok (.string xp) u ∧ (convert 30 9 (.slice ua un uc)).run Try.prog u = .ok (.string xp) u ∧ MC w.heap.size x ea en ec ia im ic ca cn cc da dn dc ra rn rc u ∧ MC b3 x ea2 en2 ec2 ia2 im2 ic2 ca2 cn2 cc2 da2 dn2 dc2 ra2 rn2 rc2 u) (by kernel_rfl) SX (fun hHeld => ?_)
  refine wpAnyH_take (i := 0) (v := ?tkv1) rfl (by kernel_rfl) (by kernel_rfl) (by kernel_rfl) (fun _ _ _ h => h) (Or.inl ⟨by rfl, ?tky1⟩) (by assumption) ?tkr1
  case tky1 =>
    intro u hSu
    obtain ⟨k1, k2, ⟨s0, s1, s2, s3, s4, s5⟩, ⟨r0, r1, r2, r3, r4, r5⟩⟩ := hSu
    go_simp
    try with_reducible rfl
  try simp only [Act.put, List.getElem_toArray, List.getElem_cons_succ, List.getElem_cons_zero, List.setIfInBounds_toArray, List.set_cons_zero, List.set_cons_succ]
  refine wpAnyH_take (i := 1) (v := ?tkv2) rfl (by kernel_rfl) (by kernel_rfl) (by kernel_rfl) (fun _ _ _ h => h) (Or.inl ⟨by rfl, ?tky2⟩) (by assumption) ?tkr2
  case tky2 =>
    intro u hSu
    obtain ⟨k1, k2, ⟨s0, s1, s2, s3, s4, s5⟩, ⟨r0, r1, r2, r3, r4, r5⟩⟩ := hSu
    go_simp
    try with_reducible rfl
  try simp only [Act.put, List.getElem_toArray, List.getElem_cons_succ, List.getElem_cons_zero, List.setIfInBounds_toArray, List.set_cons_zero, List.set_cons_succ]
  refine wpAnyH_take (i := 2) (v := ?tkv3) rfl (by kernel_rfl) (by kernel_rfl) (by kernel_rfl) (fun _ _ _ h => h) (Or.inl ⟨by rfl, ?tky3⟩) (by assumption) ?tkr3
  case tky3 =>
    intro u hSu
    obtain ⟨k1, k2, ⟨s0, s1, s2, s3, s4, s5⟩, ⟨r0, r1, r2, r3, r4, r5⟩⟩ := hSu
    go_simp
    try with_reducible rfl
  try simp only [Act.put, List.getElem_toArray, List.getElem_cons_succ, List.getElem_cons_zero, List.setIfInBounds_toArray, List.set_cons_zero, List.set_cons_succ]
  refine wpAnyH_take (i := 3) (v := ?tkv4) rfl (by kernel_rfl) (by kernel_rfl) (by kernel_rfl) (fun _ _ _ h => h) (Or.inl ⟨by rfl, ?tky4⟩) (by assumption) ?tkr4
  case tky4 =>
    intro u hSu
    obtain ⟨k1, k2, ⟨s0, s1, s2, s3, s4, s5⟩, ⟨r0, r1, r2, r3, r4, r5⟩⟩ := hSu
    go_simp
    try with_reducible rfl
  try simp only [Act.put, List.getElem_toArray, List.getElem_cons_succ, List.getElem_cons_zero, List.setIfInBounds_toArray, List.set_cons_zero, List.set_cons_succ]
  refine wpAnyH_take (i := 4) (v := ?tkv5) rfl (by kernel_rfl) (by kernel_rfl) (by kernel_rfl) (fun _ _ _ h => h) (Or.inl ⟨by rfl, ?tky5⟩) (by assumption) ?tkr5
  case tky5 =>
    intro u hSu
    obtain ⟨k1, k2, ⟨s0, s1, s2, s3, s4, s5⟩, ⟨r0, r1, r2, r3, r4, r5⟩⟩ := hSu
    go_simp
    try with_reducible rfl
  try simp only [Act.put, List.getElem_toArray, List.getElem_cons_succ, List.getElem_cons_zero, List.setIfInBounds_toArray, List.set_cons_zero, List.set_cons_succ]
  refine wpAnyH_take (i := 5) (v := ?tkv6) rfl (by kernel_rfl) (by kernel_rfl) (by kernel_rfl) (fun _ _ _ h => h) (Or.inl ⟨by rfl, ?tky6⟩) (by assumption) ?tkr6
  case tky6 =>
    intro u hSu
    obtain ⟨k1, k2, ⟨s0, s1, s2, s3, s4, s5⟩, ⟨r0, r1, r2, r3, r4, r5⟩⟩ := hSu
    go_simp
    try with_reducible rfl
  try simp only [Act.put, List.getElem_toArray, List.getElem_cons_succ, List.getElem_cons_zero, List.setIfInBounds_toArray, List.set_cons_zero, List.set_cons_succ]
  refine wpAnyH_take (i := 6) (v := ?tkv7) rfl (by kernel_rfl) (by kernel_rfl) (by kernel_rfl) (fun _ _ _ h => h) (Or.inl ⟨by rfl, ?tky7⟩) (by assumption) ?tkr7
  case tky7 =>
    intro u hSu
    obtain ⟨k1, k2, ⟨s0, s1, s2, s3, s4, s5⟩, ⟨r0, r1, r2, r3, r4, r5⟩⟩ := hSu
    go_simp
    try with_reducible rfl
  try simp only [Act.put, List.getElem_toArray, List.getElem_cons_succ, List.getElem_cons_zero, List.setIfInBounds_toArray, List.set_cons_zero, List.set_cons_succ]
  refine wpAnyH_take (i := 7) (v := ?tkv8) rfl (by kernel_rfl) (by kernel_rfl) (by kernel_rfl) (fun _ _ _ h => h) (Or.inl ⟨by rfl, ?tky8⟩) (by assumption) ?tkr8
  case tky8 =>
    intro u hSu
    obtain ⟨k1, k2, ⟨s0, s1, s2, s3, s4, s5⟩, ⟨r0, r1, r2, r3, r4, r5⟩⟩ := hSu
    go_simp
    try with_reducible rfl
  try simp only [Act.put, List.getElem_toArray, List.getElem_cons_succ, List.getElem_cons_zero, List.setIfInBounds_toArray, List.set_cons_zero, List.set_cons_succ]
  refine wpAnyH_take (i := 8) (v := ?tkv9) rfl (by kernel_rfl) (by kernel_rfl) (by kernel_rfl) (fun _ _ _ h => h) (Or.inl ⟨by rfl, ?tky9⟩) (by assumption) ?tkr9
  case tky9 =>
    intro u hSu
    obtain ⟨k1, k2, ⟨s0, s1, s2, s3, s4, s5⟩, ⟨r0, r1, r2, r3, r4, r5⟩⟩ := hSu
    go_simp
    try with_reducible rfl
  try simp only [Act.put, List.getElem_toArray, List.getElem_cons_succ, List.getElem_cons_zero, List.setIfInBounds_toArray, List.set_cons_zero, List.set_cons_succ]
  refine wpAnyH_take (i := 9) (v := ?tkv10) rfl (by kernel_rfl) (by kernel_rfl) (by kernel_rfl) (fun _ _ _ h => h) (Or.inl ⟨by rfl, ?tky10⟩) (by assumption) ?tkr10
  case tky10 =>
    intro u hSu
    obtain ⟨k1, k2, ⟨s0, s1, s2, s3, s4, s5⟩, ⟨r0, r1, r2, r3, r4, r5⟩⟩ := hSu
    go_simp
    try with_reducible rfl
  try simp only [Act.put, List.getElem_toArray, List.getElem_cons_succ, List.getElem_cons_zero, List.setIfInBounds_toArray, List.set_cons_zero, List.set_cons_succ]
  refine wpAnyH_take (i := 10) (v := ?tkv11) rfl (by kernel_rfl) (by kernel_rfl) (by kernel_rfl) (fun _ _ _ h => h) (Or.inl ⟨by rfl, ?tky11⟩) (by assumption) ?tkr11
  case tky11 =>
    intro u hSu
    obtain ⟨k1, k2, ⟨s0, s1, s2, s3, s4, s5⟩, ⟨r0, r1, r2, r3, r4, r5⟩⟩ := hSu
    go_simp
    try with_reducible rfl
  try simp only [Act.put, List.getElem_toArray, List.getElem_cons_succ, List.getElem_cons_zero, List.setIfInBounds_toArray, List.set_cons_zero, List.set_cons_succ]
  refine wpAnyH_take (i := 11) (v := ?tkv12) rfl (by kernel_rfl) (by kernel_rfl) (by kernel_rfl) (fun _ _ _ h => h) (Or.inl ⟨by rfl, ?tky12⟩) (by assumption) ?tkr12
  case tky12 =>
    intro u hSu
    obtain ⟨k1, k2, ⟨s0, s1, s2, s3, s4, s5⟩, ⟨r0, r1, r2, r3, r4, r5⟩⟩ := hSu
    go_simp
    try with_reducible rfl
  try simp only [Act.put, List.getElem_toArray, List.getElem_cons_succ, List.getElem_cons_zero, List.setIfInBounds_toArray, List.set_cons_zero, List.set_cons_succ]
  refine wpAnyH_take (i := 13) (v := ?tkv13) rfl (by kernel_rfl) (by kernel_rfl) (by kernel_rfl) (fun _ _ _ h => h) (Or.inl ⟨by rfl, ?tky13⟩) (by assumption) ?tkr13
  case tky13 =>
    intro u hSu
    obtain ⟨k1, k2, ⟨s0, s1, s2, s3, s4, s5⟩, ⟨r0, r1, r2, r3, r4, r5⟩⟩ := hSu
    go_simp
    try with_reducible rfl
  try simp only [Act.put, List.getElem_toArray, List.getElem_cons_succ, List.getElem_cons_zero, List.setIfInBounds_toArray, List.set_cons_zero, List.set_cons_succ]
  refine wpAnyH_ready (rs := [12]) (by kernel_rfl) (by simp) ?_
  refine AllReadyH.cons rfl (fun K hK => ?_) AllReadyH.nil
  (go_simp; go_at_call 14; (with_reducible refine (KO.out _ _ _ _ _ _ _ _ _ _ _ _ _ _ _ _ (RR.out _ B5.out)).mono ?_); rintro e w6 ⟨rfl, hb⟩; have B6 := Lib.hid (B5.out.trans (hb.mono B5.out.size)); clear hb)
  refine hK.out _ _ ?tks23 (fun hHeld => ?tkr23)
  case tks23 => exact hS.out _ B6.out
  clear hK K
  try simp only [Act.put, List.getElem_toArray, List.getElem_cons_succ, List.getElem_cons_zero, List.setIfInBounds_toArray, List.set_cons_zero, List.set_cons_succ]
  refine wpAnyH_ready (rs := [14]) (by kernel_rfl) (by simp) ?_
  refine AllReadyH.cons rfl (fun K hK => ?_) AllReadyH.nil
  (go_simp; go_at_call 15; (with_reducible refine (KR.out _ (BB.out _ B6.out)).mono ?_); rintro e w7 ⟨rfl, hb⟩; have B7 := Lib.hid (B6.out.trans (hb.mono B6.out.size)); clear hb)
  refine hK.out _ _ ?tks24 (fun hHeld => ?tkr24)
  case tks24 => exact hS.out _ B7.out
  clear hK K
  try simp only [Act.put, List.getElem_toArray, List.getElem_cons_succ, List.getElem_cons_zero, List.setIfInBounds_toArray, List.set_cons_zero, List.set_cons_succ]
  refine wpAnyH_take (i := 15) (v := ?tkv14) rfl (by kernel_rfl) (by kernel_rfl) (by kernel_rfl) (fun _ _ _ h => h) (Or.inl ⟨by rfl, ?tky14⟩) (by assumption) ?tkr14
  case tky14 =>
    intro u hSu
    obtain ⟨k1, k2, ⟨s0, s1, s2, s3, s4, s5⟩, ⟨r0, r1, r2, r3, r4, r5⟩⟩ := hSu
    go_simp
    try with_reducible rfl
  try simp only [Act.put, List.getElem_toArray, List.getElem_cons_succ, List.getElem_cons_zero, List.setIfInBounds_toArray, List.set_cons_zero, List.set_cons_succ]
  refine wpAnyH_take (i := 16) (v := ?tkv15) rfl (by kernel_rfl) (by kernel_rfl) (by kernel_rfl) (fun _ _ _ h => h) (Or.inl ⟨by rfl, ?tky15⟩) (by assumption) ?tkr15
  case tky15 =>
    intro u hSu
    obtain ⟨k1, k2, ⟨s0, s1, s2, s3, s4, s5⟩, ⟨r0, r1, r2, r3, r4, r5⟩⟩ := hSu
    go_simp
    try with_reducible rfl
  try simp only [Act.put, List.getElem_toArray, List.getElem_cons_succ, List.getElem_cons_zero, List.setIfInBounds_toArray, List.set_cons_zero, List.set_cons_succ]
  refine wpAnyH_take (i := 17) (v := ?tkv16) rfl (by kernel_rfl) (by kernel_rfl) (by kernel_rfl) (fun _ _ _ h => h) (Or.inl ⟨by rfl, ?tky16⟩) (by assumption) ?tkr16
  case tky16 =>
    intro u hSu
    obtain ⟨k1, k2, ⟨s0, s1, s2, s3, s4, s5⟩, ⟨r0, r1, r2, r3, r4, r5⟩⟩ := hSu
    go_simp
    try with_reducible rfl
  try simp only [Act.put, List.getElem_toArray, List.getElem_cons_succ, List.getElem_cons_zero, List.setIfInBounds_toArray, List.set_cons_zero, List.set_cons_succ]
  refine wpAnyH_take (i := 18) (v := ?tkv17) rfl (by kernel_rfl) (by kernel_rfl) (by kernel_rfl) (fun _ _ _ h => h) (Or.inl ⟨by rfl, ?tky17⟩) (by assumption) ?tkr17
  case tky17 =>
    intro u hSu
    obtain ⟨k1, k2, ⟨s0, s1, s2, s3, s4, s5⟩, ⟨r0, r1, r2, r3, r4, r5⟩⟩ := hSu
    go_simp
    try with_reducible rfl
  try simp only [Act.put, List.getElem_toArray, List.getElem_cons_succ, List.getElem_cons_zero, List.setIfInBounds_toArray, List.set_cons_zero, List.set_cons_succ]
  refine wpAnyH_take (i := 19) (v := ?tkv18) rfl (by kernel_rfl) (by kernel_rfl) (by kernel_rfl) (fun _ _ _ h => h) (Or.inl ⟨by rfl, ?tky18⟩) (by assumption) ?tkr18
  case tky18 =>
    intro u hSu
    obtain ⟨k1, k2, ⟨s0, s1, s2, s3, s4, s5⟩, ⟨r0, r1, r2, r3, r4, r5⟩⟩ := hSu
    go_simp
    try with_reducible rfl
  try simp only [Act.put, List.getElem_toArray, List.getElem_cons_succ, List.getElem_cons_zero, List.setIfInBounds_toArray, List.set_cons_zero, List.set_cons_succ]
  refine wpAnyH_ready (rs := [20]) (by kernel_rfl) (by simp) ?_
  refine AllReadyH.cons rfl (fun K hK => ?_) AllReadyH.nil
  (go_simp; go_at_call 16; (with_reducible refine (SO.out _ _ _ _ _ _ _ _ _ _ _ _ _ _ _ _ (RR.out _ B7.out) (BB.out _ B7.out)).mono ?_); rintro e w8 ⟨rfl, hb⟩; have B8 := Lib.hid (B7.out.trans (hb.mono B7.out.size)); clear hb)
  refine hK.out _ _ ?tks25 (fun hHeld => ?tkr25)
  case tks25 => exact hS.out _ B8.out
  clear hK K
  try simp only [Act.put, List.getElem_toArray, List.getElem_cons_succ, List.getElem_cons_zero, List.setIfInBounds_toArray, List.set_cons_zero, List.set_cons_succ]
  refine wpAnyH_take (i := 21) (v := ?tkv19) rfl (by kernel_rfl) (by kernel_rfl) (by kernel_rfl) (fun _ _ _ h => h) (Or.inl ⟨by rfl, ?tky19⟩) (by assumption) ?tkr19
  case tky19 =>
    intro u hSu
    obtain ⟨k1, k2, ⟨s0, s1, s2, s3, s4, s5⟩, ⟨r0, r1, r2, r3, r4, r5⟩⟩ := hSu
    go_simp
    try with_reducible rfl
  try simp only [Act.put, List.getElem_toArray, List.getElem_cons_succ, List.getElem_cons_zero, List.setIfInBounds_toArray, List.set_cons_zero, List.set_cons_succ]
  refine wpAnyH_take (i := 22) (v := ?tkv20) rfl (by kernel_rfl) (by kernel_rfl) (by kernel_rfl) (fun _ _ _ h => h) (Or.inl ⟨by rfl, ?tky20⟩) (by assumption) ?tkr20
  case tky20 =>
    intro u hSu
    obtain ⟨k1, k2, ⟨s0, s1, s2, s3, s4, s5⟩, ⟨r0, r1, r2, r3, r4, r5⟩⟩ := hSu
    go_simp
    try with_reducible rfl
  try simp only [Act.put, List.getElem_toArray, List.getElem_cons_succ, List.getElem_cons_zero, List.setIfInBounds_toArray, List.set_cons_zero, List.set_cons_succ]
  refine wpAnyH_ready (rs := [23]) (by kernel_rfl) (by simp) ?_
  refine AllReadyH.cons rfl (fun K hK => ?_) AllReadyH.nil
  (go_simp; go_at_call 10; (with_reducible refine (AW.out _).mono ?_); rintro e w9 ⟨rfl, hb⟩; have B9 := Lib.hid (B8.out.trans (hb.mono B8.out.size)); clear hb)
  refine hK.out _ _ ?tks26 (fun hHeld => ?tkr26)
  case tks26 => exact hS.out _ B9.out
  clear hK K
  try simp only [Act.put, List.getElem_toArray, List.getElem_cons_succ, List.getElem_cons_zero, List.setIfInBounds_toArray, List.set_cons_zero, List.set_cons_succ]
  refine wpAnyH_take (i := 24) (v := ?tkv21) rfl (by kernel_rfl) (by kernel_rfl) (by kernel_rfl) (fun _ _ _ h => h) (Or.inl ⟨by rfl, ?tky21⟩) (by assumption) ?tkr21
  case tky21 =>
    intro u hSu
    obtain ⟨k1, k2, ⟨s0, s1, s2, s3, s4, s5⟩, ⟨r0, r1, r2, r3, r4, r5⟩⟩ := hSu
    go_simp
    try with_reducible rfl
  try simp only [Act.put, List.getElem_toArray, List.getElem_cons_succ, List.getElem_cons_zero, List.setIfInBounds_toArray, List.set_cons_zero, List.set_cons_succ]
  refine wpAnyH_take (i := 25) (v := ?tkv22) rfl (by kernel_rfl) (by kernel_rfl) (by kernel_rfl) (fun _ _ _ h => h) (Or.inl ⟨by rfl, ?tky22⟩) (by assumption) ?tkr22
  case tky22 =>
    intro u hSu
    obtain ⟨k1, k2, ⟨s0, s1, s2, s3, s4, s5⟩, ⟨r0, r1, r2, r3, r4, r5⟩⟩ := hSu
    go_simp
    try with_reducible rfl
  try simp only [Act.put, List.getElem_toArray, List.getElem_cons_succ, List.getElem_cons_zero, List.setIfInBounds_toArray, List.set_cons_zero, List.set_cons_succ]
  refine wpAnyH_done (by kernel_rfl) ?_ _
  clear hHeld SX hS
  go_wp2_with fail
  go_ret
  exact ⟨rfl, BB.out _ B9.out⟩
end
end Go.Proofs.Ytdlinlkdielmkaa.WK
