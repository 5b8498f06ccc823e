/-
  Two modules' bytes: the walk of ObjectApart. Nothing here is a statement of the seed.
-/
import Derived.Test.YtdlinlkdielmkaaObjU
set_option linter.unusedSimpArgs false
set_option linter.unusedVariables false
namespace Go.Proofs.Ytdlinlkdielmkaa.OR
open Go.RowKit WM NR OM
set_option maxHeartbeats 4000000
set_option maxRecDepth 10000
/-- two modules' boxes, on the way -/
structure DJ (w : World) (cs ds : Array Value) (u : World) : Prop where
  X : Whole u w.heap.size 26 cs
  Y : Whole u (w.heap.size + 1) 26 ds
  B : Below w.heap.size w u
  sz : w.heap.size + 2 ≤ u.heap.size
theorem DJ.belowS {w u u' : World} {cs ds : Array Value} (h : DJ w cs ds u) (hb : Below u.heap.size u u') : DJ w cs ds u' := ⟨h.X.belowS hb, h.Y.belowS hb, h.B.trans (hb.mono h.B.size), Nat.le_trans h.sz hb.size⟩
theorem DJ.new (w : World) (cs ds : Array Value) : DJ w cs ds ((w.alloc (.cells cs 26)).alloc (.cells ds 26)) := by
  obtain ⟨h1, h2, h3⟩ := two_mods w cs ds
  exact ⟨h2, h3, h1, by simp⟩
theorem put_iff {m k : Md} (hm : chkM m = 0) (fm : FineM m) (hk : chkM k = 0) (fk : FineM k) : putL m = putL k ↔ m = k := ⟨put_inj hm fm hk fk, fun h => by rw [h]⟩
end Go.Proofs.Ytdlinlkdielmkaa.OR
namespace Go.Proofs.Ytdlinlkdielmkaa.WK
open Go.RowKit WM NR OM OR
set_option maxHeartbeats 4000000
set_option maxRecDepth 10000
section
variable {w : World} {ea : Option Addr} {en ec : Nat} {ia : Option Addr} {im ic : Nat} {ca : Option Addr} {cn cc : Nat} {da : Option Addr} {dn dc : Nat} {ra : Option Addr} {rn rc : Nat} {m : Md} {ea2 : Option Addr} {en2 ec2 : Nat} {ia2 : Option Addr} {im2 ic2 : Nat} {ca2 : Option Addr} {cn2 cc2 : Nat} {da2 : Option Addr} {dn2 dc2 : Nat} {ra2 : Option Addr} {rn2 rc2 : Nat} {k : Md}
theorem ObjectApart_walk (h : RdM (· < w.heap.size) w ea en ec ia im ic ca cn cc da dn dc ra rn rc m) (hf : FineM m) (h2 : RdM (· < w.heap.size) w ea2 en2 ec2 ia2 im2 ic2 ca2 cn2 cc2 da2 dn2 dc2 ra2 rn2 rc2 k) (hf2 : FineM k) :
    Calls Try.prog 8 #[mV (bs m.name) ea en ec ia im ic ca cn cc da dn dc ra rn rc, mV (bs k.name) ea2 en2 ec2 ia2 im2 ic2 ca2 cn2 cc2 da2 dn2 dc2 ra2 rn2 rc2] w fun e w' => e = .returned (.bool true) ∧ Below w.heap.size w w' := by
  have J0 := Lib.hid (DJ.new w (mCs (bs m.name) ea en ec ia im ic ca cn cc da dn dc ra rn rc) (mCs (bs k.name) ea2 en2 ec2 ia2 im2 ic2 ca2 cn2 cc2 da2 dn2 dc2 ra2 rn2 rc2))
  have S1 := Lib.hid (fun (u : World) (hb : Below w.heap.size w u) => size_any (h.go hb hb.size))
  have S2 := Lib.hid (fun (u : World) (hb : Below w.heap.size w u) => size_any (h2.go hb hb.size))
  have P1 := Lib.hid (fun (u : World) (hb : Below w.heap.size w u) => objPut_u (h.go hb hb.size) hf)
  have P2 := Lib.hid (fun (u : World) (hb : Below w.heap.size w u) => objPut_u (h2.go hb hb.size) hf2)
  have K1 := Lib.hid (fun (u : World) (hb : Below w.heap.size w u) => objCheck_any (h.go hb hb.size))
  have K2 := Lib.hid (fun (u : World) (hb : Below w.heap.size w u) => objCheck_any (h2.go hb hb.size))
  have SM := Lib.hid (fun (u : World) (hb : Below w.heap.size w u) => objSame_any (h.go hb hb.size) (h2.go hb hb.size))
  have AW := Lib.hid (fun (u : World) => awake_any u)
  have HI := Lib.hid (fun (hm : chkM m = 0) (hk : chkM k = 0) => put_iff hm hf hk hf2)
  have HP := Lib.hid (fun (hm : chkM m = 0) => show plM m = putL m by unfold plM; rw [if_pos hm])
  have HP2 := Lib.hid (fun (hm : chkM k = 0) => show plM k = putL k by unfold plM; rw [if_pos hm])
  clear h h2 hf hf2
  generalize bs m.name = x at *
  generalize bs k.name = y at *
  by_cases z1 : szF en [im, cn, dn, rn] ≤ 2000
  case neg =>
    have z1' : (2000 : Int) < (szF en [im, cn, dn, rn] : Nat) := by omega
    clear z1 P1 P2 K1 K2 SM HI HP HP2
    generalize ((szF en [im, cn, dn, rn] : Nat) : Int) = s1 at *
    go_enter Try.func8, Try.ntmps8
    go_upto_region 1 with fail
    generalize (w.alloc (.cells (mCs x ea en ec ia im ic ca cn cc da dn dc ra rn rc) 26)).alloc (.cells (mCs y ea2 en2 ec2 ia2 im2 ic2 ca2 cn2 cc2 da2 dn2 dc2 ra2 rn2 rc2) 26) = W0 at *
    obtain ⟨c0, c1, c2, c3, c4, c5⟩ := mod_cells J0.out.X
    have c6 := J0.out.X.lt
    go_wp2_with (first | (go_at_call 9; (with_reducible refine (S1.out _ J0.out.B).mono ?_); rintro e w1 ⟨rfl, hb⟩; have J1 := Lib.hid (J0.out.belowS hb); clear hb) | (go_at_call 10; (with_reducible refine (AW.out _).mono ?_); rintro e w2 ⟨rfl, hb⟩; have J2 := Lib.hid (J1.out.belowS hb); clear hb))
    go_ret
    exact ⟨rfl, J2.out.B⟩
  have z1' : ((szF en [im, cn, dn, rn] : Nat) : Int) ≤ 2000 := by omega
  clear z1
  generalize ((szF en [im, cn, dn, rn] : Nat) : Int) = s1 at *
  by_cases z2 : szF en2 [im2, cn2, dn2, rn2] ≤ 2000
  case neg =>
    have z2' : (2000 : Int) < (szF en2 [im2, cn2, dn2, rn2] : Nat) := by omega
    clear z2 P1 P2 K1 K2 SM HI HP HP2
    generalize ((szF en2 [im2, cn2, dn2, rn2] : Nat) : Int) = s2 at *
    go_enter Try.func8, Try.ntmps8
    go_upto_region 1 with fail
    generalize (w.alloc (.cells (mCs x ea en ec ia im ic ca cn cc da dn dc ra rn rc) 26)).alloc (.cells (mCs y ea2 en2 ec2 ia2 im2 ic2 ca2 cn2 cc2 da2 dn2 dc2 ra2 rn2 rc2) 26) = W0 at *
    obtain ⟨c0, c1, c2, c3, c4, c5⟩ := mod_cells J0.out.X
    have c6 := J0.out.X.lt
    go_wp2_with (first | (go_at_call 9; (with_reducible refine (S1.out _ J0.out.B).mono ?_); rintro e w1 ⟨rfl, hb⟩; have J1 := Lib.hid (J0.out.belowS hb); obtain ⟨d0, d1, d2, d3, d4, d5⟩ := mod_cells J1.out.Y; have d6 := J1.out.Y.lt; clear hb) | (go_at_call 9; (with_reducible refine (S2.out _ J1.out.B).mono ?_); rintro e w2 ⟨rfl, hb⟩; have J2 := Lib.hid (J1.out.belowS hb); clear hb) | (go_at_call 10; (with_reducible refine (AW.out _).mono ?_); rintro e w3 ⟨rfl, hb⟩; have J3 := Lib.hid (J2.out.belowS hb); clear hb))
    go_ret
    exact ⟨rfl, J3.out.B⟩
  have z2' : ((szF en2 [im2, cn2, dn2, rn2] : Nat) : Int) ≤ 2000 := by omega
  clear z2
  generalize ((szF en2 [im2, cn2, dn2, rn2] : Nat) : Int) = s2 at *
  unfold IsPutU at P1 P2
  go_enter Try.func8, Try.ntmps8
  go_upto_region 1 with fail
  generalize (w.alloc (.cells (mCs x ea en ec ia im ic ca cn cc da dn dc ra rn rc) 26)).alloc (.cells (mCs y ea2 en2 ec2 ia2 im2 ic2 ca2 cn2 cc2 da2 dn2 dc2 ra2 rn2 rc2) 26) = W0 at *
  obtain ⟨c0, c1, c2, c3, c4, c5⟩ := mod_cells J0.out.X
  have c6 := J0.out.X.lt
  go_upto_region 3 with (first | (go_at_call 9; (with_reducible refine (S1.out _ J0.out.B).mono ?_); rintro e w1 ⟨rfl, hb⟩; have J1 := Lib.hid (J0.out.belowS hb); obtain ⟨d0, d1, d2, d3, d4, d5⟩ := mod_cells J1.out.Y; have d6 := J1.out.Y.lt; clear hb) | (go_at_call 9; (with_reducible refine (S2.out _ J1.out.B).mono ?_); rintro e w2 ⟨rfl, hb⟩; have J2 := Lib.hid (J1.out.belowS hb); clear hb))
  clear c0 c1 c2 c3 c4 c5 c6 d0 d1 d2 d3 d4 d5 d6 J0 J1 S1 S2 z1' z2'
  obtain ⟨c0, c1, c2, c3, c4, c5⟩ := mod_cells J2.out.X
  have c6 := J2.out.X.lt
  go_upto_region 4 with (go_at_call 12; (with_reducible refine (P1.out _ J2.out.B).mono ?_); rintro e w3 ⟨va, vn, vc, rfl, hr, hb⟩; have J3 := Lib.hid (J2.out.belowS hb); have R3 := Lib.hid (hr.there.mono fun g hg => hg.2); clear hb hr)
  clear c0 c1 c2 c3 c4 c5 c6 J2 P1
  obtain ⟨c0, c1, c2, c3, c4, c5⟩ := mod_cells J3.out.Y
  have c6 := J3.out.Y.lt
  go_upto_region 5 with (go_at_call 12; (with_reducible refine (P2.out _ J3.out.B).mono ?_); rintro e w4 ⟨ua, un, uc, rfl, hr, hb⟩; have J4 := Lib.hid (J3.out.belowS hb); have R4 := Lib.hid (hr.there.mono fun g hg => hg.2); have Q4 := Lib.hid ((R3.out.below hb).mono (fun g hg => Nat.lt_of_lt_of_le hg hb.size)); clear hb hr)
  clear c0 c1 c2 c3 c4 c5 c6 J3 P2 R3
  obtain ⟨c0, c1, c2, c3, c4, c5⟩ := mod_cells J4.out.X
  have c6 := J4.out.X.lt
  by_cases hm : chkM m = 0
  case neg =>
    have hm' : ((chkM m : Int) != 0) = true := by simpa using hm
    clear hm HI HP HP2 SM R4 Q4
    generalize ((chkM m : Nat) : Int) = ki at *
    generalize ((chkM k : Nat) : Int) = li at *
    go_wp2_with (first | (go_at_call 14; (with_reducible refine (K1.out _ J4.out.B).mono ?_); rintro e w5 ⟨rfl, hb⟩; have J5 := Lib.hid (J4.out.belowS hb); obtain ⟨d0, d1, d2, d3, d4, d5⟩ := mod_cells J5.out.Y; have d6 := J5.out.Y.lt; clear hb) | (go_at_call 14; (with_reducible refine (K2.out _ J5.out.B).mono ?_); rintro e w6 ⟨rfl, hb⟩; have J6 := Lib.hid (J5.out.belowS hb); clear hb) | (go_at_call 10; (with_reducible refine (AW.out _).mono ?_); rintro e w7 ⟨rfl, hb⟩; have J7 := Lib.hid (J6.out.belowS hb); clear hb))
    go_ret
    exact ⟨rfl, J7.out.B⟩
  by_cases hk : chkM k = 0
  case neg =>
    have hk' : ((chkM k : Int) != 0) = true := by simpa using hk
    rw [hm] at K1 ⊢
    clear hm hk HI HP HP2 SM R4 Q4
    generalize ((chkM k : Nat) : Int) = li at *
    rw [show ((0 : Nat) : Int) = 0 from rfl] at K1 ⊢
    go_wp2_with (first | (go_at_call 14; (with_reducible refine (K1.out _ J4.out.B).mono ?_); rintro e w5 ⟨rfl, hb⟩; have J5 := Lib.hid (J4.out.belowS hb); obtain ⟨d0, d1, d2, d3, d4, d5⟩ := mod_cells J5.out.Y; have d6 := J5.out.Y.lt; clear hb) | (go_at_call 14; (with_reducible refine (K2.out _ J5.out.B).mono ?_); rintro e w6 ⟨rfl, hb⟩; have J6 := Lib.hid (J5.out.belowS hb); clear hb) | (go_at_call 10; (with_reducible refine (AW.out _).mono ?_); rintro e w7 ⟨rfl, hb⟩; have J7 := Lib.hid (J6.out.belowS hb); clear hb))
    go_ret
    exact ⟨rfl, J7.out.B⟩
  have hi := HI.out hm hk
  rw [HP.out hm] at Q4
  rw [HP2.out hk] at R4
  rw [hm, hk, show ((0 : Nat) : Int) = 0 from rfl]
  have hxy : ((bs (putL m)).toList == (bs (putL k)).toList) = decide (m = k) := by
    rw [bs_toList, bs_toList]
    by_cases h : m = k
    · rw [hi.2 h, decide_eq_true h]; simp
    · have hn : putL m ≠ putL k := fun e => h (hi.1 e)
      rw [decide_eq_false h]; simpa using hn
  clear HI HP HP2 hm hk K1 K2 c0 c1 c2 c3 c4 c5 c6 hi
  go_upto_region 7 with fail
  have Z4 := Lib.hid (J4.out.belowS (Below.refl _ _).drew)
  have hS : Hid (∀ u, Below w4.heap.size w4 u → ((convert 30 9 (.slice va vn vc)).run Try.prog u = .ok (.string (bs (putL m))) u ∧ (convert 30 9 (.slice ua un uc)).run Try.prog u = .ok (.string (bs (putL k))) u ∧ MC w.heap.size x ea en ec ia im ic ca cn cc da dn dc ra rn rc u ∧ MC (w.heap.size + 1) y ea2 en2 ec2 ia2 im2 ic2 ca2 cn2 cc2 da2 dn2 dc2 ra2 rn2 rc2 u)) := fun u hb => ⟨text_run (Q4.out.below hb), text_run (R4.out.below hb), mod_cells (J4.out.X.belowS hb), mod_cells (J4.out.Y.belowS hb)⟩
  have B4 := Lib.hid ((Below.refl w4.heap.size w4).drew)
  generalize decide (m = k) = D at *
  generalize bs (putL m) = xp at *
  generalize bs (putL k) = yp at *
  have SX := hS.out _ B4.out
  refine wp_region_held_drew (S := fun u => (convert 30 9 (.slice va vn vc)).run Try.prog u = .ok (.string xp) u ∧ (convert 30 9 (.slice ua un uc)).run Try.prog u = .ok (.string yp) u ∧ MC w.heap.size x ea en ec ia im ic ca cn cc da dn dc ra rn rc u ∧ MC (w.heap.size + 1) y ea2 en2 ec2 ia2 im2 ic2 ca2 cn2 cc2 da2 dn2 dc2 ra2 rn2 rc2 u) (by kernel_rfl) SX (fun hHeld => ?_)
  refine wpAnyH_take (i := 0) (v := ?tkv1) rfl (by kernel_rfl) (by kernel_rfl) (by kernel_rfl) (fun _ _ _ h => h) (Or.inl ⟨by rfl, ?tky1⟩) (by assumption) ?tkr1
  case tky1 =>
    intro u hSu
    obtain ⟨k1, k2, ⟨s0, s1, s2, s3, s4, s5⟩, ⟨r0, r1, r2, r3, r4, r5⟩⟩ := hSu
    go_simp
    try with_reducible rfl
  try simp only [Act.put, List.getElem_toArray, List.getElem_cons_succ, List.getElem_cons_zero, List.setIfInBounds_toArray, List.set_cons_zero, List.set_cons_succ]
  refine wpAnyH_take (i := 1) (v := ?tkv2) rfl (by kernel_rfl) (by kernel_rfl) (by kernel_rfl) (fun _ _ _ h => h) (Or.inl ⟨by rfl, ?tky2⟩) (by assumption) ?tkr2
  case tky2 =>
    intro u hSu
    obtain ⟨k1, k2, ⟨s0, s1, s2, s3, s4, s5⟩, ⟨r0, r1, r2, r3, r4, r5⟩⟩ := hSu
    go_simp
    try with_reducible rfl
  try simp only [Act.put, List.getElem_toArray, List.getElem_cons_succ, List.getElem_cons_zero, List.setIfInBounds_toArray, List.set_cons_zero, List.set_cons_succ]
  refine wpAnyH_take (i := 2) (v := ?tkv3) rfl (by kernel_rfl) (by kernel_rfl) (by kernel_rfl) (fun _ _ _ h => h) (Or.inl ⟨by rfl, ?tky3⟩) (by assumption) ?tkr3
  case tky3 =>
    intro u hSu
    obtain ⟨k1, k2, ⟨s0, s1, s2, s3, s4, s5⟩, ⟨r0, r1, r2, r3, r4, r5⟩⟩ := hSu
    go_simp
    try with_reducible rfl
  try simp only [Act.put, List.getElem_toArray, List.getElem_cons_succ, List.getElem_cons_zero, List.setIfInBounds_toArray, List.set_cons_zero, List.set_cons_succ]
  refine wpAnyH_take (i := 3) (v := ?tkv4) rfl (by kernel_rfl) (by kernel_rfl) (by kernel_rfl) (fun _ _ _ h => h) (Or.inl ⟨by rfl, ?tky4⟩) (by assumption) ?tkr4
  case tky4 =>
    intro u hSu
    obtain ⟨k1, k2, ⟨s0, s1, s2, s3, s4, s5⟩, ⟨r0, r1, r2, r3, r4, r5⟩⟩ := hSu
    go_simp
    try with_reducible rfl
  try simp only [Act.put, List.getElem_toArray, List.getElem_cons_succ, List.getElem_cons_zero, List.setIfInBounds_toArray, List.set_cons_zero, List.set_cons_succ]
  refine wpAnyH_take (i := 4) (v := ?tkv5) rfl (by kernel_rfl) (by kernel_rfl) (by kernel_rfl) (fun _ _ _ h => h) (Or.inl ⟨by rfl, ?tky5⟩) (by assumption) ?tkr5
  case tky5 =>
    intro u hSu
    obtain ⟨k1, k2, ⟨s0, s1, s2, s3, s4, s5⟩, ⟨r0, r1, r2, r3, r4, r5⟩⟩ := hSu
    go_simp
    try with_reducible rfl
  try simp only [Act.put, List.getElem_toArray, List.getElem_cons_succ, List.getElem_cons_zero, List.setIfInBounds_toArray, List.set_cons_zero, List.set_cons_succ]
  refine wpAnyH_take (i := 5) (v := ?tkv6) rfl (by kernel_rfl) (by kernel_rfl) (by kernel_rfl) (fun _ _ _ h => h) (Or.inl ⟨by rfl, ?tky6⟩) (by assumption) ?tkr6
  case tky6 =>
    intro u hSu
    obtain ⟨k1, k2, ⟨s0, s1, s2, s3, s4, s5⟩, ⟨r0, r1, r2, r3, r4, r5⟩⟩ := hSu
    go_simp
    try with_reducible rfl
  try simp only [Act.put, List.getElem_toArray, List.getElem_cons_succ, List.getElem_cons_zero, List.setIfInBounds_toArray, List.set_cons_zero, List.set_cons_succ]
  refine wpAnyH_take (i := 6) (v := ?tkv7) rfl (by kernel_rfl) (by kernel_rfl) (by kernel_rfl) (fun _ _ _ h => h) (Or.inl ⟨by rfl, ?tky7⟩) (by assumption) ?tkr7
  case tky7 =>
    intro u hSu
    obtain ⟨k1, k2, ⟨s0, s1, s2, s3, s4, s5⟩, ⟨r0, r1, r2, r3, r4, r5⟩⟩ := hSu
    go_simp
    try with_reducible rfl
  try simp only [Act.put, List.getElem_toArray, List.getElem_cons_succ, List.getElem_cons_zero, List.setIfInBounds_toArray, List.set_cons_zero, List.set_cons_succ]
  refine wpAnyH_ready (rs := [7]) (by kernel_rfl) (by simp) ?_
  refine AllReadyH.cons rfl (fun K hK => ?_) AllReadyH.nil
  (go_simp; go_at_call 20; (with_reducible refine (SM.out _ (J4.out.B.trans (B4.out.mono J4.out.B.size))).mono ?_); rintro e w5 ⟨rfl, hb⟩; have B5 := Lib.hid (B4.out.trans (hb.mono B4.out.size)); clear hb)
  refine hK.out _ _ ?tks12 (fun hHeld => ?tkr12)
  case tks12 => exact hS.out _ B5.out
  clear hK K
  try simp only [Act.put, List.getElem_toArray, List.getElem_cons_succ, List.getElem_cons_zero, List.setIfInBounds_toArray, List.set_cons_zero, List.set_cons_succ]
  refine wpAnyH_take (i := 8) (v := ?tkv8) rfl (by kernel_rfl) (by kernel_rfl) (by kernel_rfl) (fun _ _ _ h => h) (Or.inl ⟨by rfl, ?tky8⟩) (by assumption) ?tkr8
  case tky8 =>
    intro u hSu
    obtain ⟨k1, k2, ⟨s0, s1, s2, s3, s4, s5⟩, ⟨r0, r1, r2, r3, r4, r5⟩⟩ := hSu
    go_simp
    try with_reducible rfl
  try simp only [Act.put, List.getElem_toArray, List.getElem_cons_succ, List.getElem_cons_zero, List.setIfInBounds_toArray, List.set_cons_zero, List.set_cons_succ]
  refine wpAnyH_take (i := 9) (v := ?tkv9) rfl (by kernel_rfl) (by kernel_rfl) (by kernel_rfl) (fun _ _ _ h => h) (Or.inl ⟨by rfl, ?tky9⟩) (by assumption) ?tkr9
  case tky9 =>
    intro u hSu
    obtain ⟨k1, k2, ⟨s0, s1, s2, s3, s4, s5⟩, ⟨r0, r1, r2, r3, r4, r5⟩⟩ := hSu
    go_simp
    try with_reducible rfl
  try simp only [Act.put, List.getElem_toArray, List.getElem_cons_succ, List.getElem_cons_zero, List.setIfInBounds_toArray, List.set_cons_zero, List.set_cons_succ]
  refine wpAnyH_ready (rs := [10]) (by kernel_rfl) (by simp) ?_
  refine AllReadyH.cons rfl (fun K hK => ?_) AllReadyH.nil
  (go_simp; go_at_call 10; (with_reducible refine (AW.out _).mono ?_); rintro e w6 ⟨rfl, hb⟩; have B6 := Lib.hid (B5.out.trans (hb.mono B5.out.size)); clear hb)
  refine hK.out _ _ ?tks13 (fun hHeld => ?tkr13)
  case tks13 => exact hS.out _ B6.out
  clear hK K
  try simp only [Act.put, List.getElem_toArray, List.getElem_cons_succ, List.getElem_cons_zero, List.setIfInBounds_toArray, List.set_cons_zero, List.set_cons_succ]
  refine wpAnyH_take (i := 11) (v := ?tkv10) rfl (by kernel_rfl) (by kernel_rfl) (by kernel_rfl) (fun _ _ _ h => h) (Or.inl ⟨by rfl, ?tky10⟩) (by assumption) ?tkr10
  case tky10 =>
    intro u hSu
    obtain ⟨k1, k2, ⟨s0, s1, s2, s3, s4, s5⟩, ⟨r0, r1, r2, r3, r4, r5⟩⟩ := hSu
    go_simp
    try with_reducible rfl
  try simp only [Act.put, List.getElem_toArray, List.getElem_cons_succ, List.getElem_cons_zero, List.setIfInBounds_toArray, List.set_cons_zero, List.set_cons_succ]
  refine wpAnyH_take (i := 12) (v := ?tkv11) rfl (by kernel_rfl) (by kernel_rfl) (by kernel_rfl) (fun _ _ _ h => h) (Or.inl ⟨by rfl, ?tky11⟩) (by assumption) ?tkr11
  case tky11 =>
    intro u hSu
    obtain ⟨k1, k2, ⟨s0, s1, s2, s3, s4, s5⟩, ⟨r0, r1, r2, r3, r4, r5⟩⟩ := hSu
    go_simp
    try with_reducible rfl
  try simp only [Act.put, List.getElem_toArray, List.getElem_cons_succ, List.getElem_cons_zero, List.setIfInBounds_toArray, List.set_cons_zero, List.set_cons_succ]
  refine wpAnyH_done (by kernel_rfl) ?_ _
  clear hHeld SX hS
  go_wp2_with fail
  go_ret
  exact ⟨rfl, J4.out.B.trans (B6.out.mono J4.out.B.size)⟩
end
end Go.Proofs.Ytdlinlkdielmkaa.WK
