/-
  A call on the program's table and on the reference's: both tell the same, both leave the same. Nothing here is a statement of the seed.
-/
import Derived.Test.YtigalcmhongleaaGtPT
import Derived.BigRegion
set_option linter.unusedSimpArgs false
set_option linter.unusedVariables false
namespace Go.Proofs.Ytigalcmhongleaa.GL
open Go.RowKit WM NR OM OR GA GF
set_option maxHeartbeats 4000000
set_option maxRecDepth 10000
theorem do_open {PT : Rep} {S : Nat → Prop} {w : World} {v : Value} {f RT : Tb} {kd o k G E : Int} {X : ByteArray} (hP : GP PT) (h : PT S w v f) (hkd : 0 ≤ kd ∧ kd ≤ 255) (hkk : kd % 5 ≠ 2 ∧ kd % 5 ≠ 3 ∧ kd % 5 ≠ 4)
    (C1 : ∀ u, PT S u v f → Calls Try.prog 13 #[v, .agg #[.string X, .int .u16 o, .int .u32 k]] u fun e u2 => e = .returned (.tuple #[.int .i64 G, .int .i64 E]) ∧ Chg PT S u v RT u2) (C2 : ∀ u, Calls Try.prog 22 #[tV f, .agg #[.string X, .int .u16 o, .int .u32 k]] u fun e u2 => e = .returned (.tuple #[tV RT, .int .i64 G, .int .i64 E]) ∧ Below u.heap.size u u2) :
    Calls Try.prog 10 #[v, tV f, .agg #[.int .u8 kd, .string X, .int .u16 o, .int .u32 k]] w (IsDo PT S w v RT) := by
  obtain ⟨j0, hB0, hz0⟩ := QD.new w f #[.int .u8 kd, .string X, .int .u16 o, .int .u32 k]
  have J0 := Lib.hid j0
  have B0 := Lib.hid hB0
  have Z0 := Lib.hid hz0
  have HP := Lib.hid hP
  have HH := Lib.hid h
  have HS := Lib.hid (hP.lt h)
  have C1 := Lib.hid C1
  have C2 := Lib.hid C2
  have hkm : kd % 5 < 5 ∧ 0 ≤ kd % 5 := by omega
  have hkt : kd.tmod 5 = kd % 5 := by rw [Int.tmod_eq_emod_of_nonneg (by omega)]
  obtain ⟨hk1, hk2⟩ := hkd
  obtain ⟨hkm1, hkm2⟩ := hkm
  clear j0 hB0 hz0 hP h
  generalize kd % 5 = kk at *
  obtain ⟨hkA, hkB, hkC⟩ := hkk
  have hf2 : (kk == 2) = false := by simpa using hkA
  have hf3 : (kk == 3) = false := by simpa using hkB
  have hf4 : (kk == 4) = false := by simpa using hkC
  go_enter Try.func10, Try.ntmps10
  go_upto_region 5 with fail
  generalize ((((w.alloc (.cells (tC f) 32)).alloc (.cells #[.int .u8 kd, .string X, .int .u16 o, .int .u32 k] 37)).alloc (.cells tZ 32)).alloc (.cells #[.string ⟨#[]⟩, .int .u16 0, .int .u32 0] 35)).alloc (.cells #[.string ⟨#[]⟩, .int .u16 0, .int .u32 0] 29) = W at *
  have KA : Hid (∀ g (cx cy : Array Value) w1 u, QD w w1 g #[.int .u8 kd, .string X, .int .u16 o, .int .u32 k] cx cy u → u.cell? ⟨w.heap.size + 1, 0, none⟩ = some (.int .u8 kd) ∧ u.cell? ⟨w.heap.size + 1, 1, none⟩ = some (.string X) ∧ u.cell? ⟨w.heap.size + 1, 2, none⟩ = some (.int .u16 o) ∧ u.cell? ⟨w.heap.size + 1, 3, none⟩ = some (.int .u32 k) ∧ w.heap.size + 1 < u.heap.size) := Lib.hid (fun g cx cy w1 u h => ⟨h.A.cell 0, h.A.cell 1, h.A.cell 2, h.A.cell 3, h.A.lt⟩)
  obtain ⟨a0, a1, a2, a3, a6⟩ := KA.out _ _ _ _ _ J0.out
  have C1 := Lib.hid (C1.out W (HP.out.keep HH.out B0.out.size fun g hg => B0.out.block g (HS.out g hg)))
  go_upto_region 7 with (go_at_call 13; (with_reducible refine C1.out.mono ?_); rintro e w1 ⟨rfl, S', hp, hS', hF⟩; have J1 := Lib.hid (J0.out.call hF HS.out); have HC := Lib.hid (And.intro hp (And.intro hS' hF)); clear hp hS' hF)
  have J2 := J1
  clear a0 a1 a2 a3 a6 C1 J0 J1
  obtain ⟨a0, a1, a2, a3, a6⟩ := KA.out _ _ _ _ _ J2.out
  go_upto_region 17 with (first | (refine wl_T rfl (.tmp 4) rfl rfl J2.out.R ?_) | (go_at_call 22; (with_reducible refine (C2.out _).mono ?_); rintro e w4 ⟨rfl, hB⟩; have J3 := Lib.hid (J2.out.belowS hB); clear hB) | (refine wst_T rfl (.tmp 4) (.tmp 29) rfl rfl rfl rfl J3.out.R rfl ?_; have J4 := Lib.hid (J3.out.setR RT); generalize putT w4 w.heap.size RT = W5 at *))
  have J5 := J4
  clear a0 a1 a2 a3 a6 C2 J2 J3 J4
  have hbd : Below W5.heap.size W5 W5.drew := (Below.refl _ _).drew
  have JD := J5.out.belowS hbd
  have K0 := And.intro JD.R (And.intro JD.X JD.Y)
  have HOD := Lib.hid JD.O
  have K1 := And.intro (putT_far (f := RT) JD.R (show w.heap.size ≠ w.heap.size + 1 + 1 by omega)) (And.intro (putT_far (f := RT) JD.X (show w.heap.size + 1 + 1 + 1 ≠ w.heap.size + 1 + 1 by omega)) (putT_far (f := RT) JD.Y (show w.heap.size + 1 + 1 + 1 + 1 ≠ w.heap.size + 1 + 1 by omega)))
  have HOF := Lib.hid (putT_whole JD.O rfl RT)
  have HFF := Lib.hid (J5.out.F.drew.trans (putT_fr W5.drew (w.heap.size + 1 + 1) RT) (fun i hi => Or.inl ⟨by omega, by omega⟩))
  clear JD J5 hbd
  have HCX : Hid (∀ u : World, Whole u (w.heap.size + 1 + 1 + 1) 35 #[.string ⟨#[]⟩, .int .u16 0, .int .u32 0] → u.cell? ⟨w.heap.size + 1 + 1 + 1, 0, none⟩ = some (.string ⟨#[]⟩) ∧ u.cell? ⟨w.heap.size + 1 + 1 + 1, 1, none⟩ = some (.int .u16 0) ∧ u.cell? ⟨w.heap.size + 1 + 1 + 1, 2, none⟩ = some (.int .u32 0)) := Lib.hid (fun u h => ⟨h.cell 0, h.cell 1, h.cell 2⟩)
  have HCY : Hid (∀ u : World, Whole u (w.heap.size + 1 + 1 + 1 + 1) 29 #[.string ⟨#[]⟩, .int .u16 0, .int .u32 0] → u.cell? ⟨w.heap.size + 1 + 1 + 1 + 1, 0, none⟩ = some (.string ⟨#[]⟩) ∧ u.cell? ⟨w.heap.size + 1 + 1 + 1 + 1, 1, none⟩ = some (.int .u16 0) ∧ u.cell? ⟨w.heap.size + 1 + 1 + 1 + 1, 2, none⟩ = some (.int .u32 0)) := Lib.hid (fun u h => ⟨h.cell 0, h.cell 1, h.cell 2⟩)
  refine wp_region_held_drew (S := fun u => Whole u w.heap.size 32 (tC RT) ∧ Whole u (w.heap.size + 1 + 1 + 1) 35 #[.string ⟨#[]⟩, .int .u16 0, .int .u32 0] ∧ Whole u (w.heap.size + 1 + 1 + 1 + 1) 29 #[.string ⟨#[]⟩, .int .u16 0, .int .u32 0]) (by kernel_rfl) K0 (fun hHeld => ?_)
  refine wpAnyH_take (i := 0) (v := _) rfl (by kernel_rfl) (by kernel_rfl) (by kernel_rfl) (fun _ _ _ h => h) ((yl_T rfl (.tmp 4) rfl rfl (fun u h => h.1))) (by assumption) ?yyrest0
  try simp only [Act.put, List.getElem_toArray, List.getElem_cons_succ, List.getElem_cons_zero, List.setIfInBounds_toArray, List.set_cons_zero, List.set_cons_succ]
  refine wpAnyH_take (i := 1) (v := ?yyvv1) rfl (by kernel_rfl) (by kernel_rfl) (by kernel_rfl) (fun _ _ _ h => h) (Or.inl ⟨by rfl, ?yyhy1⟩) (by assumption) ?yyrest1
  case yyhy1 =>
    intro u hSu
    obtain ⟨s0, s1, s2⟩ := HCX.out u hSu.2.1; obtain ⟨q0, q1, q2⟩ := HCY.out u hSu.2.2; have s6 := hSu.2.1.lt; have q6 := hSu.2.2.lt
    go_simp
    try with_reducible rfl
  try simp only [Act.put, List.getElem_toArray, List.getElem_cons_succ, List.getElem_cons_zero, List.setIfInBounds_toArray, List.set_cons_zero, List.set_cons_succ]
  refine wpAnyH_take (i := 2) (v := ?yyvv2) rfl (by kernel_rfl) (by kernel_rfl) (by kernel_rfl) (fun _ _ _ h => h) (Or.inl ⟨by rfl, ?yyhy2⟩) (by assumption) ?yyrest2
  case yyhy2 =>
    intro u hSu
    obtain ⟨s0, s1, s2⟩ := HCX.out u hSu.2.1; obtain ⟨q0, q1, q2⟩ := HCY.out u hSu.2.2; have s6 := hSu.2.1.lt; have q6 := hSu.2.2.lt
    go_simp
    try with_reducible rfl
  try simp only [Act.put, List.getElem_toArray, List.getElem_cons_succ, List.getElem_cons_zero, List.setIfInBounds_toArray, List.set_cons_zero, List.set_cons_succ]
  refine wpAnyH_take (i := 3) (v := ?yyvv3) rfl (by kernel_rfl) (by kernel_rfl) (by kernel_rfl) (fun _ _ _ h => h) (Or.inl ⟨by rfl, ?yyhy3⟩) (by assumption) ?yyrest3
  case yyhy3 =>
    intro u hSu
    obtain ⟨s0, s1, s2⟩ := HCX.out u hSu.2.1; obtain ⟨q0, q1, q2⟩ := HCY.out u hSu.2.2; have s6 := hSu.2.1.lt; have q6 := hSu.2.2.lt
    go_simp
    try with_reducible rfl
  try simp only [Act.put, List.getElem_toArray, List.getElem_cons_succ, List.getElem_cons_zero, List.setIfInBounds_toArray, List.set_cons_zero, List.set_cons_succ]
  refine wpAnyH_take (i := 4) (v := ?yyvv4) rfl (by kernel_rfl) (by kernel_rfl) (by kernel_rfl) (fun _ _ _ h => h) (Or.inl ⟨by rfl, ?yyhy4⟩) (by assumption) ?yyrest4
  case yyhy4 =>
    intro u hSu
    obtain ⟨s0, s1, s2⟩ := HCX.out u hSu.2.1; obtain ⟨q0, q1, q2⟩ := HCY.out u hSu.2.2; have s6 := hSu.2.1.lt; have q6 := hSu.2.2.lt
    go_simp
    try with_reducible rfl
  try simp only [Act.put, List.getElem_toArray, List.getElem_cons_succ, List.getElem_cons_zero, List.setIfInBounds_toArray, List.set_cons_zero, List.set_cons_succ]
  refine wpAnyH_take (i := 5) (v := ?yyvv5) rfl (by kernel_rfl) (by kernel_rfl) (by kernel_rfl) (fun _ _ _ h => h) (Or.inl ⟨by rfl, ?yyhy5⟩) (by assumption) ?yyrest5
  case yyhy5 =>
    intro u hSu
    obtain ⟨s0, s1, s2⟩ := HCX.out u hSu.2.1; obtain ⟨q0, q1, q2⟩ := HCY.out u hSu.2.2; have s6 := hSu.2.1.lt; have q6 := hSu.2.2.lt
    go_simp
    try with_reducible rfl
  try simp only [Act.put, List.getElem_toArray, List.getElem_cons_succ, List.getElem_cons_zero, List.setIfInBounds_toArray, List.set_cons_zero, List.set_cons_succ]
  refine wpAnyH_take (i := 6) (v := ?yyvv6) rfl (by kernel_rfl) (by kernel_rfl) (by kernel_rfl) (fun _ _ _ h => h) (Or.inl ⟨by rfl, ?yyhy6⟩) (by assumption) ?yyrest6
  case yyhy6 =>
    intro u hSu
    obtain ⟨s0, s1, s2⟩ := HCX.out u hSu.2.1; obtain ⟨q0, q1, q2⟩ := HCY.out u hSu.2.2; have s6 := hSu.2.1.lt; have q6 := hSu.2.2.lt
    go_simp
    try with_reducible rfl
  try simp only [Act.put, List.getElem_toArray, List.getElem_cons_succ, List.getElem_cons_zero, List.setIfInBounds_toArray, List.set_cons_zero, List.set_cons_succ]
  refine wpAnyH_take (i := 7) (v := ?yyvv7) rfl (by kernel_rfl) (by kernel_rfl) (by kernel_rfl) (fun _ _ _ h => h) (Or.inl ⟨by rfl, ?yyhy7⟩) (by assumption) ?yyrest7
  case yyhy7 =>
    intro u hSu
    obtain ⟨s0, s1, s2⟩ := HCX.out u hSu.2.1; obtain ⟨q0, q1, q2⟩ := HCY.out u hSu.2.2; have s6 := hSu.2.1.lt; have q6 := hSu.2.2.lt
    go_simp
    try with_reducible rfl
  try simp only [Act.put, List.getElem_toArray, List.getElem_cons_succ, List.getElem_cons_zero, List.setIfInBounds_toArray, List.set_cons_zero, List.set_cons_succ]
  refine wpAnyH_take (i := 8) (v := ?yyvv8) rfl (by kernel_rfl) (by kernel_rfl) (by kernel_rfl) (fun _ _ _ h => h) (Or.inl ⟨by rfl, ?yyhy8⟩) (by assumption) ?yyrest8
  case yyhy8 =>
    intro u hSu
    obtain ⟨s0, s1, s2⟩ := HCX.out u hSu.2.1; obtain ⟨q0, q1, q2⟩ := HCY.out u hSu.2.2; have s6 := hSu.2.1.lt; have q6 := hSu.2.2.lt
    go_simp
    try with_reducible rfl
  try simp only [Act.put, List.getElem_toArray, List.getElem_cons_succ, List.getElem_cons_zero, List.setIfInBounds_toArray, List.set_cons_zero, List.set_cons_succ]
  refine wpAnyH_take (i := 9) (v := ?yyvv9) rfl (by kernel_rfl) (by kernel_rfl) (by kernel_rfl) (fun _ _ _ h => h) (Or.inl ⟨by rfl, ?yyhy9⟩) (by assumption) ?yyrest9
  case yyhy9 =>
    intro u hSu
    obtain ⟨s0, s1, s2⟩ := HCX.out u hSu.2.1; obtain ⟨q0, q1, q2⟩ := HCY.out u hSu.2.2; have s6 := hSu.2.1.lt; have q6 := hSu.2.2.lt
    go_simp
    try with_reducible rfl
  try simp only [Act.put, List.getElem_toArray, List.getElem_cons_succ, List.getElem_cons_zero, List.setIfInBounds_toArray, List.set_cons_zero, List.set_cons_succ]
  refine wpAnyH_take (i := 10) (v := ?yyvv10) rfl (by kernel_rfl) (by kernel_rfl) (by kernel_rfl) (fun _ _ _ h => h) (Or.inl ⟨by rfl, ?yyhy10⟩) (by assumption) ?yyrest10
  case yyhy10 =>
    intro u hSu
    obtain ⟨s0, s1, s2⟩ := HCX.out u hSu.2.1; obtain ⟨q0, q1, q2⟩ := HCY.out u hSu.2.2; have s6 := hSu.2.1.lt; have q6 := hSu.2.2.lt
    go_simp
    try with_reducible rfl
  try simp only [Act.put, List.getElem_toArray, List.getElem_cons_succ, List.getElem_cons_zero, List.setIfInBounds_toArray, List.set_cons_zero, List.set_cons_succ]
  refine wpAnyH_take (i := 11) (v := ?yyvv11) rfl (by kernel_rfl) (by kernel_rfl) (by kernel_rfl) (fun _ _ _ h => h) (Or.inl ⟨by rfl, ?yyhy11⟩) (by assumption) ?yyrest11
  case yyhy11 =>
    intro u hSu
    obtain ⟨s0, s1, s2⟩ := HCX.out u hSu.2.1; obtain ⟨q0, q1, q2⟩ := HCY.out u hSu.2.2; have s6 := hSu.2.1.lt; have q6 := hSu.2.2.lt
    go_simp
    try with_reducible rfl
  try simp only [Act.put, List.getElem_toArray, List.getElem_cons_succ, List.getElem_cons_zero, List.setIfInBounds_toArray, List.set_cons_zero, List.set_cons_succ]
  refine wpAnyH_take (i := 12) (v := ?yyvv12) rfl (by kernel_rfl) (by kernel_rfl) (by kernel_rfl) (fun _ _ _ h => h) (Or.inl ⟨by rfl, ?yyhy12⟩) (by assumption) ?yyrest12
  case yyhy12 =>
    intro u hSu
    obtain ⟨s0, s1, s2⟩ := HCX.out u hSu.2.1; obtain ⟨q0, q1, q2⟩ := HCY.out u hSu.2.2; have s6 := hSu.2.1.lt; have q6 := hSu.2.2.lt
    go_simp
    try with_reducible rfl
  try simp only [Act.put, List.getElem_toArray, List.getElem_cons_succ, List.getElem_cons_zero, List.setIfInBounds_toArray, List.set_cons_zero, List.set_cons_succ]
  refine wpAnyH_take (i := 13) (v := ?yyvv13) rfl (by kernel_rfl) (by kernel_rfl) (by kernel_rfl) (fun _ _ _ h => h) (Or.inl ⟨by rfl, ?yyhy13⟩) (by assumption) ?yyrest13
  case yyhy13 =>
    intro u hSu
    obtain ⟨s0, s1, s2⟩ := HCX.out u hSu.2.1; obtain ⟨q0, q1, q2⟩ := HCY.out u hSu.2.2; have s6 := hSu.2.1.lt; have q6 := hSu.2.2.lt
    go_simp
    try with_reducible rfl
  try simp only [Act.put, List.getElem_toArray, List.getElem_cons_succ, List.getElem_cons_zero, List.setIfInBounds_toArray, List.set_cons_zero, List.set_cons_succ]
  refine wpAnyH_ready (rs := [14]) (by kernel_rfl) (by simp) ?_
  refine AllReadyH.cons rfl (fun K hK => ?_) AllReadyH.nil
  (refine ws_T rfl rfl HOD.out rfl rfl rfl ?_; generalize putT W5.drew (w.heap.size + 1 + 1) RT = W7 at *)
  refine hK.out _ _ ?yyhS14 (fun hHeld => ?yyrest14)
  case yyhS14 => exact K1
  clear hK K
  try simp only [Act.put, List.getElem_toArray, List.getElem_cons_succ, List.getElem_cons_zero, List.setIfInBounds_toArray, List.set_cons_zero, List.set_cons_succ]
  refine wpAnyH_ready (rs := [15]) (by kernel_rfl) (by simp) ?_
  refine AllReadyH.cons rfl (fun K hK => ?_) AllReadyH.nil
  go_simp
  refine hK.out _ _ ?yyhS15 (fun hHeld => ?yyrest15)
  case yyhS15 => exact K1
  clear hK K
  try simp only [Act.put, List.getElem_toArray, List.getElem_cons_succ, List.getElem_cons_zero, List.setIfInBounds_toArray, List.set_cons_zero, List.set_cons_succ]
  refine wpAnyH_done (by kernel_rfl) ?_ _
  clear K0 K1 hHeld HOD HCX HCY
  go_wp2_with fail
  exact bodyPost_ret (v := .tuple #[tV RT, .bool true]) (res2 Try.results10 rfl rfl HOF.out) rfl (do_post HP.out B0.out Z0.out HC.out.2.2 HC.out.1 HC.out.2.1 HS.out HFF.out)
end Go.Proofs.Ytigalcmhongleaa.GL
