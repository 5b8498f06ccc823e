/-
  The walk of LayoutSizes, over what the program's functions tell. Nothing here is a statement of the seed.
-/
import Derived.Test.YtijacjcfnilaiaaLayPlans
set_option linter.unusedSimpArgs false
set_option linter.unusedVariables false
namespace Go.Proofs.Ytijacjcfnilaiaa.WK
open Go.RowKit WM NR OM OR YM YR
set_option maxHeartbeats 4000000
set_option maxRecDepth 10000
section
variable {w : World} {ea : Option Addr} {en ec : Nat} {ia : Option Addr} {im ic : Nat} {ca : Option Addr} {cn cc : Nat} {da : Option Addr} {dn dc : Nat} {ra : Option Addr} {rn rc : Nat} {m : Md}
theorem LayoutSizes_walk (h : RdM (· < w.heap.size) w ea en ec ia im ic ca cn cc da dn dc ra rn rc m) (hl : cn * 4 ≤ 140737488355328 ∧ dn * 4 ≤ 140737488355328) :
    Calls Try.prog 8 #[mV (bs m.name) ea en ec ia im ic ca cn cc da dn dc ra rn rc] w fun e w' => e = .returned (.bool true) ∧ Below w.heap.size w w' := by
  have JJ := Lib.hid (SJ.new w (mCs (bs m.name) ea en ec ia im ic ca cn cc da dn dc ra rn rc))
  have C1 := Lib.hid (fun (u : World) (hb : Below w.heap.size w u) => of_any (h.go hb hb.size) hl)
  have h3 := pgs_hold cn
  have h4 := pgs_hold dn
  have C3 := Lib.hid (pages_any (pgs cn : Nat) (pgs dn : Nat) (by omega) (by omega))
  have AW := Lib.hid awake_any
  have a1 : decide ((cn : Int) ≤ 16 * ((pgs cn : Nat) : Int)) = true := decide_eq_true (by omega)
  have a2 : decide (16 * ((pgs cn : Nat) : Int) - cn < 16) = true := decide_eq_true (by omega)
  have a3 : decide ((dn : Int) ≤ 16 * ((pgs dn : Nat) : Int)) = true := decide_eq_true (by omega)
  have a4 : decide (16 * ((pgs dn : Nat) : Int) - dn < 16) = true := decide_eq_true (by omega)
  have a5 : 0 ≤ ((pgs cn : Nat) : Int) ∧ 0 ≤ ((pgs dn : Nat) : Int) := by omega
  obtain ⟨P, hP⟩ : ∃ P, P = pgP ((pgs cn : Nat) : Int) ((pgs dn : Nat) : Int) := ⟨_, rfl⟩
  rw [← hP] at C3
  unfold pgP at hP
  have b1 : IntKind.i64.wrap (16 * ((pgs cn : Nat) : Int)) = 16 * ((pgs cn : Nat) : Int) := by rw [IntKind.wrap_i64]; omega
  have b2 : IntKind.i64.wrap (16 * ((pgs dn : Nat) : Int)) = 16 * ((pgs dn : Nat) : Int) := by rw [IntKind.wrap_i64]; omega
  have b3 : IntKind.i64.wrap (16 * ((pgs cn : Nat) : Int) - cn) = 16 * ((pgs cn : Nat) : Int) - cn := by rw [IntKind.wrap_i64]; omega
  have b4 : IntKind.i64.wrap (16 * ((pgs dn : Nat) : Int) - dn) = 16 * ((pgs dn : Nat) : Int) - dn := by rw [IntKind.wrap_i64]; omega
  have b5 : IntKind.i64.wrap (((pgs cn : Nat) : Int) + ((pgs dn : Nat) : Int)) = ((pgs cn : Nat) : Int) + ((pgs dn : Nat) : Int) := by rw [IntKind.wrap_i64]; omega
  clear h hl h3 h4
  generalize bs m.name = x at *
  generalize ((pgs cn : Nat) : Int) = p at *
  generalize ((pgs dn : Nat) : Int) = q at *
  obtain ⟨g1, g2⟩ := a5
  have hcase : decide (256 < P) = true ∨ (decide (256 < P) = false ∧ decide (256 < p) = true) ∨ (decide (256 < P) = false ∧ decide (256 < p) = false ∧ decide (256 < q) = true) ∨ (decide (256 < P) = false ∧ decide (256 < p) = false ∧ decide (256 < q) = false ∧ P = p + q) := by
    by_cases k1 : 256 < P <;> by_cases k2 : 256 < p <;> by_cases k3 : 256 < q <;> simp [k1, k2, k3]
    rw [hP, if_neg (by omega)]
  clear hP g1 g2
  generalize hX : 16 * p = X at *
  generalize hY : 16 * q = Y at *
  go_enter Try.func8, Try.ntmps8
  go_upto_region 1 with fail
  generalize w.alloc (.cells (mCs x ea en ec ia im ic ca cn cc da dn dc ra rn rc) 26) = W at *
  obtain ⟨c0, c1, c2, c3, c4, c5⟩ := mod_cells JJ.out.X
  have c6 := JJ.out.X.lt
  go_upto_region 2 with (go_at_call 9; (with_reducible refine (C1.out _ JJ.out.B).mono ?_); rintro e w1 ⟨rfl, hb⟩; have JJ := Lib.hid (JJ.out.belowS hb); clear hb)
  have bn := below_new w1 (.cells #[.int .i64 p, .int .i64 q] 28)
  have PP := Lib.hid (Whole.new w1 28 #[.int .i64 p, .int .i64 q])
  have JJ := Lib.hid (JJ.out.belowS bn)
  clear bn c0 c1 c2 c3 c4 c5 c6
  generalize w1.alloc (.cells #[.int .i64 p, .int .i64 q] 28) = W2 at *
  obtain ⟨d0, d1⟩ := two_cells PP.out
  have d6 := PP.out.lt
  go_quiet (fail)
  clear d0 d1 d6
  go_upto_region 3 with fail
  have bd : Below W2.heap.size W2 (W2.drewN nq).drew := (below_drewN (Below.refl _ _) _).drew
  have JJ := Lib.hid (JJ.out.belowS bd)
  have PP := Lib.hid (PP.out.belowS bd)
  have KK := And.intro (mod_cells JJ.out.X) (two_cells PP.out)
  clear bd
  refine wp_region_held_drew (S := fun u => MC w.heap.size x ea en ec ia im ic ca cn cc da dn dc ra rn rc u ∧ PC w1.heap.size (.int .i64 p) (.int .i64 q) u) (by kernel_rfl) KK (fun hHeld => ?_)
  refine wpAnyH_take (i := 0) (v := ?zvv0) rfl (by kernel_rfl) (by kernel_rfl) (by kernel_rfl) (fun _ _ _ h => h) (Or.inl ⟨by rfl, ?zhy0⟩) (by assumption) ?zrest0
  case zhy0 =>
    intro u hSu
    obtain ⟨⟨s0, s1, s2, s3, s4, s5⟩, s6, s7⟩ := hSu
    go_simp
    try with_reducible rfl
  try simp only [Act.put, List.getElem_toArray, List.getElem_cons_succ, List.getElem_cons_zero, List.setIfInBounds_toArray, List.set_cons_zero, List.set_cons_succ]
  refine wpAnyH_take (i := 1) (v := ?zvv1) rfl (by kernel_rfl) (by kernel_rfl) (by kernel_rfl) (fun _ _ _ h => h) (Or.inl ⟨by rfl, ?zhy1⟩) (by assumption) ?zrest1
  case zhy1 =>
    intro u hSu
    obtain ⟨⟨s0, s1, s2, s3, s4, s5⟩, s6, s7⟩ := hSu
    go_simp
    try with_reducible rfl
  try simp only [Act.put, List.getElem_toArray, List.getElem_cons_succ, List.getElem_cons_zero, List.setIfInBounds_toArray, List.set_cons_zero, List.set_cons_succ]
  refine wpAnyH_take (i := 2) (v := ?zvv2) rfl (by kernel_rfl) (by kernel_rfl) (by kernel_rfl) (fun _ _ _ h => h) (Or.inl ⟨by rfl, ?zhy2⟩) (by assumption) ?zrest2
  case zhy2 =>
    intro u hSu
    obtain ⟨⟨s0, s1, s2, s3, s4, s5⟩, s6, s7⟩ := hSu
    go_simp
    try with_reducible rfl
  try simp only [Act.put, List.getElem_toArray, List.getElem_cons_succ, List.getElem_cons_zero, List.setIfInBounds_toArray, List.set_cons_zero, List.set_cons_succ]
  refine wpAnyH_take (i := 3) (v := ?zvv3) rfl (by kernel_rfl) (by kernel_rfl) (by kernel_rfl) (fun _ _ _ h => h) (Or.inl ⟨by rfl, ?zhy3⟩) (by assumption) ?zrest3
  case zhy3 =>
    intro u hSu
    obtain ⟨⟨s0, s1, s2, s3, s4, s5⟩, s6, s7⟩ := hSu
    go_simp
    try with_reducible rfl
  try simp only [Act.put, List.getElem_toArray, List.getElem_cons_succ, List.getElem_cons_zero, List.setIfInBounds_toArray, List.set_cons_zero, List.set_cons_succ]
  refine wpAnyH_take (i := 4) (v := ?zvv4) rfl (by kernel_rfl) (by kernel_rfl) (by kernel_rfl) (fun _ _ _ h => h) (Or.inl ⟨by rfl, ?zhy4⟩) (by assumption) ?zrest4
  case zhy4 =>
    intro u hSu
    obtain ⟨⟨s0, s1, s2, s3, s4, s5⟩, s6, s7⟩ := hSu
    go_simp
    try with_reducible rfl
  try simp only [Act.put, List.getElem_toArray, List.getElem_cons_succ, List.getElem_cons_zero, List.setIfInBounds_toArray, List.set_cons_zero, List.set_cons_succ]
  refine wpAnyH_take (i := 5) (v := ?zvv5) rfl (by kernel_rfl) (by kernel_rfl) (by kernel_rfl) (fun _ _ _ h => h) (Or.inl ⟨by rfl, ?zhy5⟩) (by assumption) ?zrest5
  case zhy5 =>
    intro u hSu
    obtain ⟨⟨s0, s1, s2, s3, s4, s5⟩, s6, s7⟩ := hSu
    go_simp
    try with_reducible rfl
  try simp only [Act.put, List.getElem_toArray, List.getElem_cons_succ, List.getElem_cons_zero, List.setIfInBounds_toArray, List.set_cons_zero, List.set_cons_succ]
  refine wpAnyH_take (i := 6) (v := ?zvv6) rfl (by kernel_rfl) (by kernel_rfl) (by kernel_rfl) (fun _ _ _ h => h) (Or.inl ⟨by rfl, ?zhy6⟩) (by assumption) ?zrest6
  case zhy6 =>
    intro u hSu
    obtain ⟨⟨s0, s1, s2, s3, s4, s5⟩, s6, s7⟩ := hSu
    go_simp
    try with_reducible rfl
  try simp only [Act.put, List.getElem_toArray, List.getElem_cons_succ, List.getElem_cons_zero, List.setIfInBounds_toArray, List.set_cons_zero, List.set_cons_succ]
  refine wpAnyH_take (i := 7) (v := ?zvv7) rfl (by kernel_rfl) (by kernel_rfl) (by kernel_rfl) (fun _ _ _ h => h) (Or.inl ⟨by rfl, ?zhy7⟩) (by assumption) ?zrest7
  case zhy7 =>
    intro u hSu
    obtain ⟨⟨s0, s1, s2, s3, s4, s5⟩, s6, s7⟩ := hSu
    go_simp
    try with_reducible rfl
  try simp only [Act.put, List.getElem_toArray, List.getElem_cons_succ, List.getElem_cons_zero, List.setIfInBounds_toArray, List.set_cons_zero, List.set_cons_succ]
  refine wpAnyH_take (i := 8) (v := ?zvv8) rfl (by kernel_rfl) (by kernel_rfl) (by kernel_rfl) (fun _ _ _ h => h) (Or.inl ⟨by rfl, ?zhy8⟩) (by assumption) ?zrest8
  case zhy8 =>
    intro u hSu
    obtain ⟨⟨s0, s1, s2, s3, s4, s5⟩, s6, s7⟩ := hSu
    go_simp
    try with_reducible rfl
  try simp only [Act.put, List.getElem_toArray, List.getElem_cons_succ, List.getElem_cons_zero, List.setIfInBounds_toArray, List.set_cons_zero, List.set_cons_succ]
  refine wpAnyH_take (i := 9) (v := ?zvv9) rfl (by kernel_rfl) (by kernel_rfl) (by kernel_rfl) (fun _ _ _ h => h) (Or.inl ⟨by rfl, ?zhy9⟩) (by assumption) ?zrest9
  case zhy9 =>
    intro u hSu
    obtain ⟨⟨s0, s1, s2, s3, s4, s5⟩, s6, s7⟩ := hSu
    go_simp
    try with_reducible rfl
  try simp only [Act.put, List.getElem_toArray, List.getElem_cons_succ, List.getElem_cons_zero, List.setIfInBounds_toArray, List.set_cons_zero, List.set_cons_succ]
  refine wpAnyH_take (i := 10) (v := ?zvv10) rfl (by kernel_rfl) (by kernel_rfl) (by kernel_rfl) (fun _ _ _ h => h) (Or.inl ⟨by rfl, ?zhy10⟩) (by assumption) ?zrest10
  case zhy10 =>
    intro u hSu
    obtain ⟨⟨s0, s1, s2, s3, s4, s5⟩, s6, s7⟩ := hSu
    go_simp
    try with_reducible rfl
  try simp only [Act.put, List.getElem_toArray, List.getElem_cons_succ, List.getElem_cons_zero, List.setIfInBounds_toArray, List.set_cons_zero, List.set_cons_succ]
  refine wpAnyH_take (i := 11) (v := ?zvv11) rfl (by kernel_rfl) (by kernel_rfl) (by kernel_rfl) (fun _ _ _ h => h) (Or.inl ⟨by rfl, ?zhy11⟩) (by assumption) ?zrest11
  case zhy11 =>
    intro u hSu
    obtain ⟨⟨s0, s1, s2, s3, s4, s5⟩, s6, s7⟩ := hSu
    go_simp
    try with_reducible rfl
  try simp only [Act.put, List.getElem_toArray, List.getElem_cons_succ, List.getElem_cons_zero, List.setIfInBounds_toArray, List.set_cons_zero, List.set_cons_succ]
  refine wpAnyH_take (i := 12) (v := ?zvv12) rfl (by kernel_rfl) (by kernel_rfl) (by kernel_rfl) (fun _ _ _ h => h) (Or.inl ⟨by rfl, ?zhy12⟩) (by assumption) ?zrest12
  case zhy12 =>
    intro u hSu
    obtain ⟨⟨s0, s1, s2, s3, s4, s5⟩, s6, s7⟩ := hSu
    go_simp
    try with_reducible rfl
  try simp only [Act.put, List.getElem_toArray, List.getElem_cons_succ, List.getElem_cons_zero, List.setIfInBounds_toArray, List.set_cons_zero, List.set_cons_succ]
  refine wpAnyH_take (i := 13) (v := ?zvv13) rfl (by kernel_rfl) (by kernel_rfl) (by kernel_rfl) (fun _ _ _ h => h) (Or.inl ⟨by rfl, ?zhy13⟩) (by assumption) ?zrest13
  case zhy13 =>
    intro u hSu
    obtain ⟨⟨s0, s1, s2, s3, s4, s5⟩, s6, s7⟩ := hSu
    go_simp
    try with_reducible rfl
  try simp only [Act.put, List.getElem_toArray, List.getElem_cons_succ, List.getElem_cons_zero, List.setIfInBounds_toArray, List.set_cons_zero, List.set_cons_succ]
  refine wpAnyH_take (i := 14) (v := ?zvv14) rfl (by kernel_rfl) (by kernel_rfl) (by kernel_rfl) (fun _ _ _ h => h) (Or.inl ⟨by rfl, ?zhy14⟩) (by assumption) ?zrest14
  case zhy14 =>
    intro u hSu
    obtain ⟨⟨s0, s1, s2, s3, s4, s5⟩, s6, s7⟩ := hSu
    go_simp
    try with_reducible rfl
  try simp only [Act.put, List.getElem_toArray, List.getElem_cons_succ, List.getElem_cons_zero, List.setIfInBounds_toArray, List.set_cons_zero, List.set_cons_succ]
  refine wpAnyH_take (i := 15) (v := ?zvv15) rfl (by kernel_rfl) (by kernel_rfl) (by kernel_rfl) (fun _ _ _ h => h) (Or.inl ⟨by rfl, ?zhy15⟩) (by assumption) ?zrest15
  case zhy15 =>
    intro u hSu
    obtain ⟨⟨s0, s1, s2, s3, s4, s5⟩, s6, s7⟩ := hSu
    go_simp
    try with_reducible rfl
  try simp only [Act.put, List.getElem_toArray, List.getElem_cons_succ, List.getElem_cons_zero, List.setIfInBounds_toArray, List.set_cons_zero, List.set_cons_succ]
  refine wpAnyH_take (i := 16) (v := ?zvv16) rfl (by kernel_rfl) (by kernel_rfl) (by kernel_rfl) (fun _ _ _ h => h) (Or.inl ⟨by rfl, ?zhy16⟩) (by assumption) ?zrest16
  case zhy16 =>
    intro u hSu
    obtain ⟨⟨s0, s1, s2, s3, s4, s5⟩, s6, s7⟩ := hSu
    go_simp
    try with_reducible rfl
  try simp only [Act.put, List.getElem_toArray, List.getElem_cons_succ, List.getElem_cons_zero, List.setIfInBounds_toArray, List.set_cons_zero, List.set_cons_succ]
  refine wpAnyH_take (i := 17) (v := ?zvv17) rfl (by kernel_rfl) (by kernel_rfl) (by kernel_rfl) (fun _ _ _ h => h) (Or.inl ⟨by rfl, ?zhy17⟩) (by assumption) ?zrest17
  case zhy17 =>
    intro u hSu
    obtain ⟨⟨s0, s1, s2, s3, s4, s5⟩, s6, s7⟩ := hSu
    go_simp
    try with_reducible rfl
  try simp only [Act.put, List.getElem_toArray, List.getElem_cons_succ, List.getElem_cons_zero, List.setIfInBounds_toArray, List.set_cons_zero, List.set_cons_succ]
  refine wpAnyH_take (i := 18) (v := ?zvv18) rfl (by kernel_rfl) (by kernel_rfl) (by kernel_rfl) (fun _ _ _ h => h) (Or.inl ⟨by rfl, ?zhy18⟩) (by assumption) ?zrest18
  case zhy18 =>
    intro u hSu
    obtain ⟨⟨s0, s1, s2, s3, s4, s5⟩, s6, s7⟩ := hSu
    go_simp
    try with_reducible rfl
  try simp only [Act.put, List.getElem_toArray, List.getElem_cons_succ, List.getElem_cons_zero, List.setIfInBounds_toArray, List.set_cons_zero, List.set_cons_succ]
  refine wpAnyH_take (i := 19) (v := ?zvv19) rfl (by kernel_rfl) (by kernel_rfl) (by kernel_rfl) (fun _ _ _ h => h) (Or.inl ⟨by rfl, ?zhy19⟩) (by assumption) ?zrest19
  case zhy19 =>
    intro u hSu
    obtain ⟨⟨s0, s1, s2, s3, s4, s5⟩, s6, s7⟩ := hSu
    go_simp
    try with_reducible rfl
  try simp only [Act.put, List.getElem_toArray, List.getElem_cons_succ, List.getElem_cons_zero, List.setIfInBounds_toArray, List.set_cons_zero, List.set_cons_succ]
  refine wpAnyH_take (i := 20) (v := ?zvv20) rfl (by kernel_rfl) (by kernel_rfl) (by kernel_rfl) (fun _ _ _ h => h) (Or.inl ⟨by rfl, ?zhy20⟩) (by assumption) ?zrest20
  case zhy20 =>
    intro u hSu
    obtain ⟨⟨s0, s1, s2, s3, s4, s5⟩, s6, s7⟩ := hSu
    go_simp
    try with_reducible rfl
  try simp only [Act.put, List.getElem_toArray, List.getElem_cons_succ, List.getElem_cons_zero, List.setIfInBounds_toArray, List.set_cons_zero, List.set_cons_succ]
  refine wpAnyH_take (i := 21) (v := ?zvv21) rfl (by kernel_rfl) (by kernel_rfl) (by kernel_rfl) (fun _ _ _ h => h) (Or.inl ⟨by rfl, ?zhy21⟩) (by assumption) ?zrest21
  case zhy21 =>
    intro u hSu
    obtain ⟨⟨s0, s1, s2, s3, s4, s5⟩, s6, s7⟩ := hSu
    go_simp
    try with_reducible rfl
  try simp only [Act.put, List.getElem_toArray, List.getElem_cons_succ, List.getElem_cons_zero, List.setIfInBounds_toArray, List.set_cons_zero, List.set_cons_succ]
  refine wpAnyH_take (i := 22) (v := ?zvv22) rfl (by kernel_rfl) (by kernel_rfl) (by kernel_rfl) (fun _ _ _ h => h) (Or.inl ⟨by rfl, ?zhy22⟩) (by assumption) ?zrest22
  case zhy22 =>
    intro u hSu
    obtain ⟨⟨s0, s1, s2, s3, s4, s5⟩, s6, s7⟩ := hSu
    go_simp
    try with_reducible rfl
  try simp only [Act.put, List.getElem_toArray, List.getElem_cons_succ, List.getElem_cons_zero, List.setIfInBounds_toArray, List.set_cons_zero, List.set_cons_succ]
  refine wpAnyH_take (i := 23) (v := ?zvv23) rfl (by kernel_rfl) (by kernel_rfl) (by kernel_rfl) (fun _ _ _ h => h) (Or.inl ⟨by rfl, ?zhy23⟩) (by assumption) ?zrest23
  case zhy23 =>
    intro u hSu
    obtain ⟨⟨s0, s1, s2, s3, s4, s5⟩, s6, s7⟩ := hSu
    go_simp
    try with_reducible rfl
  try simp only [Act.put, List.getElem_toArray, List.getElem_cons_succ, List.getElem_cons_zero, List.setIfInBounds_toArray, List.set_cons_zero, List.set_cons_succ]
  refine wpAnyH_take (i := 24) (v := ?zvv24) rfl (by kernel_rfl) (by kernel_rfl) (by kernel_rfl) (fun _ _ _ h => h) (Or.inl ⟨by rfl, ?zhy24⟩) (by assumption) ?zrest24
  case zhy24 =>
    intro u hSu
    obtain ⟨⟨s0, s1, s2, s3, s4, s5⟩, s6, s7⟩ := hSu
    go_simp
    try with_reducible rfl
  try simp only [Act.put, List.getElem_toArray, List.getElem_cons_succ, List.getElem_cons_zero, List.setIfInBounds_toArray, List.set_cons_zero, List.set_cons_succ]
  refine wpAnyH_take (i := 25) (v := ?zvv25) rfl (by kernel_rfl) (by kernel_rfl) (by kernel_rfl) (fun _ _ _ h => h) (Or.inl ⟨by rfl, ?zhy25⟩) (by assumption) ?zrest25
  case zhy25 =>
    intro u hSu
    obtain ⟨⟨s0, s1, s2, s3, s4, s5⟩, s6, s7⟩ := hSu
    go_simp
    try with_reducible rfl
  try simp only [Act.put, List.getElem_toArray, List.getElem_cons_succ, List.getElem_cons_zero, List.setIfInBounds_toArray, List.set_cons_zero, List.set_cons_succ]
  refine wpAnyH_take (i := 26) (v := ?zvv26) rfl (by kernel_rfl) (by kernel_rfl) (by kernel_rfl) (fun _ _ _ h => h) (Or.inl ⟨by rfl, ?zhy26⟩) (by assumption) ?zrest26
  case zhy26 =>
    intro u hSu
    obtain ⟨⟨s0, s1, s2, s3, s4, s5⟩, s6, s7⟩ := hSu
    go_simp
    try with_reducible rfl
  try simp only [Act.put, List.getElem_toArray, List.getElem_cons_succ, List.getElem_cons_zero, List.setIfInBounds_toArray, List.set_cons_zero, List.set_cons_succ]
  refine wpAnyH_take (i := 27) (v := ?zvv27) rfl (by kernel_rfl) (by kernel_rfl) (by kernel_rfl) (fun _ _ _ h => h) (Or.inl ⟨by rfl, ?zhy27⟩) (by assumption) ?zrest27
  case zhy27 =>
    intro u hSu
    obtain ⟨⟨s0, s1, s2, s3, s4, s5⟩, s6, s7⟩ := hSu
    go_simp
    try with_reducible rfl
  try simp only [Act.put, List.getElem_toArray, List.getElem_cons_succ, List.getElem_cons_zero, List.setIfInBounds_toArray, List.set_cons_zero, List.set_cons_succ]
  refine wpAnyH_take (i := 28) (v := ?zvv28) rfl (by kernel_rfl) (by kernel_rfl) (by kernel_rfl) (fun _ _ _ h => h) (Or.inl ⟨by rfl, ?zhy28⟩) (by assumption) ?zrest28
  case zhy28 =>
    intro u hSu
    obtain ⟨⟨s0, s1, s2, s3, s4, s5⟩, s6, s7⟩ := hSu
    go_simp
    try with_reducible rfl
  try simp only [Act.put, List.getElem_toArray, List.getElem_cons_succ, List.getElem_cons_zero, List.setIfInBounds_toArray, List.set_cons_zero, List.set_cons_succ]
  refine wpAnyH_take (i := 29) (v := ?zvv29) rfl (by kernel_rfl) (by kernel_rfl) (by kernel_rfl) (fun _ _ _ h => h) (Or.inl ⟨by rfl, ?zhy29⟩) (by assumption) ?zrest29
  case zhy29 =>
    intro u hSu
    obtain ⟨⟨s0, s1, s2, s3, s4, s5⟩, s6, s7⟩ := hSu
    go_simp
    try with_reducible rfl
  try simp only [Act.put, List.getElem_toArray, List.getElem_cons_succ, List.getElem_cons_zero, List.setIfInBounds_toArray, List.set_cons_zero, List.set_cons_succ]
  refine wpAnyH_ready (rs := [30]) (by kernel_rfl) (by simp) ?_
  refine AllReadyH.cons rfl (fun K hK => ?_) AllReadyH.nil
  (go_simp; go_at_call 11; (with_reducible refine (C3.out _).mono ?_); rintro e w9 ⟨rfl, hb⟩; have JJ := Lib.hid (JJ.out.belowS hb); have PP := Lib.hid (PP.out.belowS hb); have KK := And.intro (mod_cells JJ.out.X) (two_cells PP.out); clear hb)
  refine hK.out _ _ ?zhS30 (fun hHeld => ?zrest30)
  case zhS30 => first | exact KK
  clear hK K
  try simp only [Act.put, List.getElem_toArray, List.getElem_cons_succ, List.getElem_cons_zero, List.setIfInBounds_toArray, List.set_cons_zero, List.set_cons_succ]
  rcases hcase with k1 | ⟨k1, k2⟩ | ⟨k1, k2, k3⟩ | ⟨k1, k2, k3, k4⟩
  · clear b5
    refine wpAnyH_take (i := 31) (v := ?avv31) rfl (by kernel_rfl) (by kernel_rfl) (by kernel_rfl) (fun _ _ _ h => h) (Or.inl ⟨by rfl, ?ahy31⟩) (by assumption) ?arest31
    case ahy31 =>
      intro u hSu
      obtain ⟨⟨s0, s1, s2, s3, s4, s5⟩, s6, s7⟩ := hSu
      go_simp
      try with_reducible rfl
    try simp only [Act.put, List.getElem_toArray, List.getElem_cons_succ, List.getElem_cons_zero, List.setIfInBounds_toArray, List.set_cons_zero, List.set_cons_succ]
    refine wpAnyH_take (i := 32) (v := ?avv32) rfl (by kernel_rfl) (by kernel_rfl) (by kernel_rfl) (fun _ _ _ h => h) (Or.inl ⟨by rfl, ?ahy32⟩) (by assumption) ?arest32
    case ahy32 =>
      intro u hSu
      obtain ⟨⟨s0, s1, s2, s3, s4, s5⟩, s6, s7⟩ := hSu
      go_simp
      try with_reducible rfl
    try simp only [Act.put, List.getElem_toArray, List.getElem_cons_succ, List.getElem_cons_zero, List.setIfInBounds_toArray, List.set_cons_zero, List.set_cons_succ]
    refine wpAnyH_take (i := 33) (v := undef) rfl (by kernel_rfl) (by kernel_rfl) (by kernel_rfl) (fun _ _ _ h => h) (Or.inr ⟨by rfl, rfl⟩) (by assumption) ?arest33
    try simp only [Act.put, List.getElem_toArray, List.getElem_cons_succ, List.getElem_cons_zero, List.setIfInBounds_toArray, List.set_cons_zero, List.set_cons_succ]
    refine wpAnyH_take (i := 34) (v := undef) rfl (by kernel_rfl) (by kernel_rfl) (by kernel_rfl) (fun _ _ _ h => h) (Or.inr ⟨by rfl, rfl⟩) (by assumption) ?arest34
    try simp only [Act.put, List.getElem_toArray, List.getElem_cons_succ, List.getElem_cons_zero, List.setIfInBounds_toArray, List.set_cons_zero, List.set_cons_succ]
    refine wpAnyH_take (i := 35) (v := undef) rfl (by kernel_rfl) (by kernel_rfl) (by kernel_rfl) (fun _ _ _ h => h) (Or.inr ⟨by rfl, rfl⟩) (by assumption) ?arest35
    try simp only [Act.put, List.getElem_toArray, List.getElem_cons_succ, List.getElem_cons_zero, List.setIfInBounds_toArray, List.set_cons_zero, List.set_cons_succ]
    refine wpAnyH_take (i := 36) (v := ?avv36) rfl (by kernel_rfl) (by kernel_rfl) (by kernel_rfl) (fun _ _ _ h => h) (Or.inl ⟨by rfl, ?ahy36⟩) (by assumption) ?arest36
    case ahy36 =>
      intro u hSu
      obtain ⟨⟨s0, s1, s2, s3, s4, s5⟩, s6, s7⟩ := hSu
      go_simp
      try with_reducible rfl
    try simp only [Act.put, List.getElem_toArray, List.getElem_cons_succ, List.getElem_cons_zero, List.setIfInBounds_toArray, List.set_cons_zero, List.set_cons_succ]
    refine wpAnyH_take (i := 37) (v := ?avv37) rfl (by kernel_rfl) (by kernel_rfl) (by kernel_rfl) (fun _ _ _ h => h) (Or.inl ⟨by rfl, ?ahy37⟩) (by assumption) ?arest37
    case ahy37 =>
      intro u hSu
      obtain ⟨⟨s0, s1, s2, s3, s4, s5⟩, s6, s7⟩ := hSu
      go_simp
      try with_reducible rfl
    try simp only [Act.put, List.getElem_toArray, List.getElem_cons_succ, List.getElem_cons_zero, List.setIfInBounds_toArray, List.set_cons_zero, List.set_cons_succ]
    refine wpAnyH_take (i := 38) (v := undef) rfl (by kernel_rfl) (by kernel_rfl) (by kernel_rfl) (fun _ _ _ h => h) (Or.inr ⟨by rfl, rfl⟩) (by assumption) ?arest38
    try simp only [Act.put, List.getElem_toArray, List.getElem_cons_succ, List.getElem_cons_zero, List.setIfInBounds_toArray, List.set_cons_zero, List.set_cons_succ]
    refine wpAnyH_take (i := 39) (v := undef) rfl (by kernel_rfl) (by kernel_rfl) (by kernel_rfl) (fun _ _ _ h => h) (Or.inr ⟨by rfl, rfl⟩) (by assumption) ?arest39
    try simp only [Act.put, List.getElem_toArray, List.getElem_cons_succ, List.getElem_cons_zero, List.setIfInBounds_toArray, List.set_cons_zero, List.set_cons_succ]
    refine wpAnyH_take (i := 40) (v := undef) rfl (by kernel_rfl) (by kernel_rfl) (by kernel_rfl) (fun _ _ _ h => h) (Or.inr ⟨by rfl, rfl⟩) (by assumption) ?arest40
    try simp only [Act.put, List.getElem_toArray, List.getElem_cons_succ, List.getElem_cons_zero, List.setIfInBounds_toArray, List.set_cons_zero, List.set_cons_succ]
    refine wpAnyH_take (i := 41) (v := ?avv41) rfl (by kernel_rfl) (by kernel_rfl) (by kernel_rfl) (fun _ _ _ h => h) (Or.inl ⟨by rfl, ?ahy41⟩) (by assumption) ?arest41
    case ahy41 =>
      intro u hSu
      obtain ⟨⟨s0, s1, s2, s3, s4, s5⟩, s6, s7⟩ := hSu
      go_simp
      try with_reducible rfl
    try simp only [Act.put, List.getElem_toArray, List.getElem_cons_succ, List.getElem_cons_zero, List.setIfInBounds_toArray, List.set_cons_zero, List.set_cons_succ]
    refine wpAnyH_take (i := 42) (v := ?avv42) rfl (by kernel_rfl) (by kernel_rfl) (by kernel_rfl) (fun _ _ _ h => h) (Or.inl ⟨by rfl, ?ahy42⟩) (by assumption) ?arest42
    case ahy42 =>
      intro u hSu
      obtain ⟨⟨s0, s1, s2, s3, s4, s5⟩, s6, s7⟩ := hSu
      go_simp
      try with_reducible rfl
    try simp only [Act.put, List.getElem_toArray, List.getElem_cons_succ, List.getElem_cons_zero, List.setIfInBounds_toArray, List.set_cons_zero, List.set_cons_succ]
    refine wpAnyH_take (i := 43) (v := undef) rfl (by kernel_rfl) (by kernel_rfl) (by kernel_rfl) (fun _ _ _ h => h) (Or.inr ⟨by rfl, rfl⟩) (by assumption) ?arest43
    try simp only [Act.put, List.getElem_toArray, List.getElem_cons_succ, List.getElem_cons_zero, List.setIfInBounds_toArray, List.set_cons_zero, List.set_cons_succ]
    refine wpAnyH_take (i := 44) (v := undef) rfl (by kernel_rfl) (by kernel_rfl) (by kernel_rfl) (fun _ _ _ h => h) (Or.inr ⟨by rfl, rfl⟩) (by assumption) ?arest44
    try simp only [Act.put, List.getElem_toArray, List.getElem_cons_succ, List.getElem_cons_zero, List.setIfInBounds_toArray, List.set_cons_zero, List.set_cons_succ]
    refine wpAnyH_take (i := 45) (v := undef) rfl (by kernel_rfl) (by kernel_rfl) (by kernel_rfl) (fun _ _ _ h => h) (Or.inr ⟨by rfl, rfl⟩) (by assumption) ?arest45
    try simp only [Act.put, List.getElem_toArray, List.getElem_cons_succ, List.getElem_cons_zero, List.setIfInBounds_toArray, List.set_cons_zero, List.set_cons_succ]
    refine wpAnyH_take (i := 46) (v := undef) rfl (by kernel_rfl) (by kernel_rfl) (by kernel_rfl) (fun _ _ _ h => h) (Or.inr ⟨by rfl, rfl⟩) (by assumption) ?arest46
    try simp only [Act.put, List.getElem_toArray, List.getElem_cons_succ, List.getElem_cons_zero, List.setIfInBounds_toArray, List.set_cons_zero, List.set_cons_succ]
    refine wpAnyH_take (i := 47) (v := undef) rfl (by kernel_rfl) (by kernel_rfl) (by kernel_rfl) (fun _ _ _ h => h) (Or.inr ⟨by rfl, rfl⟩) (by assumption) ?arest47
    try simp only [Act.put, List.getElem_toArray, List.getElem_cons_succ, List.getElem_cons_zero, List.setIfInBounds_toArray, List.set_cons_zero, List.set_cons_succ]
    refine wpAnyH_take (i := 48) (v := undef) rfl (by kernel_rfl) (by kernel_rfl) (by kernel_rfl) (fun _ _ _ h => h) (Or.inr ⟨by rfl, rfl⟩) (by assumption) ?arest48
    try simp only [Act.put, List.getElem_toArray, List.getElem_cons_succ, List.getElem_cons_zero, List.setIfInBounds_toArray, List.set_cons_zero, List.set_cons_succ]
    refine wpAnyH_take (i := 49) (v := undef) rfl (by kernel_rfl) (by kernel_rfl) (by kernel_rfl) (fun _ _ _ h => h) (Or.inr ⟨by rfl, rfl⟩) (by assumption) ?arest49
    try simp only [Act.put, List.getElem_toArray, List.getElem_cons_succ, List.getElem_cons_zero, List.setIfInBounds_toArray, List.set_cons_zero, List.set_cons_succ]
    refine wpAnyH_take (i := 50) (v := undef) rfl (by kernel_rfl) (by kernel_rfl) (by kernel_rfl) (fun _ _ _ h => h) (Or.inr ⟨by rfl, rfl⟩) (by assumption) ?arest50
    try simp only [Act.put, List.getElem_toArray, List.getElem_cons_succ, List.getElem_cons_zero, List.setIfInBounds_toArray, List.set_cons_zero, List.set_cons_succ]
    refine wpAnyH_take (i := 51) (v := ?avv51) rfl (by kernel_rfl) (by kernel_rfl) (by kernel_rfl) (fun _ _ _ h => h) (Or.inl ⟨by rfl, ?ahy51⟩) (by assumption) ?arest51
    case ahy51 =>
      intro u hSu
      obtain ⟨⟨s0, s1, s2, s3, s4, s5⟩, s6, s7⟩ := hSu
      go_simp
      try with_reducible rfl
    try simp only [Act.put, List.getElem_toArray, List.getElem_cons_succ, List.getElem_cons_zero, List.setIfInBounds_toArray, List.set_cons_zero, List.set_cons_succ]
    refine wpAnyH_take (i := 52) (v := ?avv52) rfl (by kernel_rfl) (by kernel_rfl) (by kernel_rfl) (fun _ _ _ h => h) (Or.inl ⟨by rfl, ?ahy52⟩) (by assumption) ?arest52
    case ahy52 =>
      intro u hSu
      obtain ⟨⟨s0, s1, s2, s3, s4, s5⟩, s6, s7⟩ := hSu
      go_simp
      try with_reducible rfl
    try simp only [Act.put, List.getElem_toArray, List.getElem_cons_succ, List.getElem_cons_zero, List.setIfInBounds_toArray, List.set_cons_zero, List.set_cons_succ]
    refine wpAnyH_take (i := 53) (v := ?avv53) rfl (by kernel_rfl) (by kernel_rfl) (by kernel_rfl) (fun _ _ _ h => h) (Or.inl ⟨by rfl, ?ahy53⟩) (by assumption) ?arest53
    case ahy53 =>
      intro u hSu
      obtain ⟨⟨s0, s1, s2, s3, s4, s5⟩, s6, s7⟩ := hSu
      go_simp
      try with_reducible rfl
    try simp only [Act.put, List.getElem_toArray, List.getElem_cons_succ, List.getElem_cons_zero, List.setIfInBounds_toArray, List.set_cons_zero, List.set_cons_succ]
    refine wpAnyH_ready (rs := [54]) (by kernel_rfl) (by simp) ?_
    refine AllReadyH.cons rfl (fun K hK => ?_) AllReadyH.nil
    (go_simp; go_at_call 15; (with_reducible refine (AW.out _).mono ?_); rintro e w9 ⟨rfl, hb⟩; have JJ := Lib.hid (JJ.out.belowS hb); have PP := Lib.hid (PP.out.belowS hb); have KK := And.intro (mod_cells JJ.out.X) (two_cells PP.out); clear hb)
    refine hK.out _ _ ?ahS54 (fun hHeld => ?arest54)
    case ahS54 => first | exact KK
    clear hK K
    try simp only [Act.put, List.getElem_toArray, List.getElem_cons_succ, List.getElem_cons_zero, List.setIfInBounds_toArray, List.set_cons_zero, List.set_cons_succ]
    refine wpAnyH_take (i := 55) (v := ?avv55) rfl (by kernel_rfl) (by kernel_rfl) (by kernel_rfl) (fun _ _ _ h => h) (Or.inl ⟨by rfl, ?ahy55⟩) (by assumption) ?arest55
    case ahy55 =>
      intro u hSu
      obtain ⟨⟨s0, s1, s2, s3, s4, s5⟩, s6, s7⟩ := hSu
      go_simp
      try with_reducible rfl
    try simp only [Act.put, List.getElem_toArray, List.getElem_cons_succ, List.getElem_cons_zero, List.setIfInBounds_toArray, List.set_cons_zero, List.set_cons_succ]
    refine wpAnyH_take (i := 56) (v := ?avv56) rfl (by kernel_rfl) (by kernel_rfl) (by kernel_rfl) (fun _ _ _ h => h) (Or.inl ⟨by rfl, ?ahy56⟩) (by assumption) ?arest56
    case ahy56 =>
      intro u hSu
      obtain ⟨⟨s0, s1, s2, s3, s4, s5⟩, s6, s7⟩ := hSu
      go_simp
      try with_reducible rfl
    try simp only [Act.put, List.getElem_toArray, List.getElem_cons_succ, List.getElem_cons_zero, List.setIfInBounds_toArray, List.set_cons_zero, List.set_cons_succ]
    refine wpAnyH_done (by kernel_rfl) ?_ _
    go_wp2_with fail
    go_ret
    exact ⟨rfl, JJ.out.B⟩
  · clear b5
    refine wpAnyH_take (i := 31) (v := ?bvv31) rfl (by kernel_rfl) (by kernel_rfl) (by kernel_rfl) (fun _ _ _ h => h) (Or.inl ⟨by rfl, ?bhy31⟩) (by assumption) ?brest31
    case bhy31 =>
      intro u hSu
      obtain ⟨⟨s0, s1, s2, s3, s4, s5⟩, s6, s7⟩ := hSu
      go_simp
      try with_reducible rfl
    try simp only [Act.put, List.getElem_toArray, List.getElem_cons_succ, List.getElem_cons_zero, List.setIfInBounds_toArray, List.set_cons_zero, List.set_cons_succ]
    refine wpAnyH_take (i := 32) (v := ?bvv32) rfl (by kernel_rfl) (by kernel_rfl) (by kernel_rfl) (fun _ _ _ h => h) (Or.inl ⟨by rfl, ?bhy32⟩) (by assumption) ?brest32
    case bhy32 =>
      intro u hSu
      obtain ⟨⟨s0, s1, s2, s3, s4, s5⟩, s6, s7⟩ := hSu
      go_simp
      try with_reducible rfl
    try simp only [Act.put, List.getElem_toArray, List.getElem_cons_succ, List.getElem_cons_zero, List.setIfInBounds_toArray, List.set_cons_zero, List.set_cons_succ]
    refine wpAnyH_take (i := 33) (v := ?bvv33) rfl (by kernel_rfl) (by kernel_rfl) (by kernel_rfl) (fun _ _ _ h => h) (Or.inl ⟨by rfl, ?bhy33⟩) (by assumption) ?brest33
    case bhy33 =>
      intro u hSu
      obtain ⟨⟨s0, s1, s2, s3, s4, s5⟩, s6, s7⟩ := hSu
      go_simp
      try with_reducible rfl
    try simp only [Act.put, List.getElem_toArray, List.getElem_cons_succ, List.getElem_cons_zero, List.setIfInBounds_toArray, List.set_cons_zero, List.set_cons_succ]
    refine wpAnyH_take (i := 34) (v := ?bvv34) rfl (by kernel_rfl) (by kernel_rfl) (by kernel_rfl) (fun _ _ _ h => h) (Or.inl ⟨by rfl, ?bhy34⟩) (by assumption) ?brest34
    case bhy34 =>
      intro u hSu
      obtain ⟨⟨s0, s1, s2, s3, s4, s5⟩, s6, s7⟩ := hSu
      go_simp
      try with_reducible rfl
    try simp only [Act.put, List.getElem_toArray, List.getElem_cons_succ, List.getElem_cons_zero, List.setIfInBounds_toArray, List.set_cons_zero, List.set_cons_succ]
    refine wpAnyH_take (i := 35) (v := ?bvv35) rfl (by kernel_rfl) (by kernel_rfl) (by kernel_rfl) (fun _ _ _ h => h) (Or.inl ⟨by rfl, ?bhy35⟩) (by assumption) ?brest35
    case bhy35 =>
      intro u hSu
      obtain ⟨⟨s0, s1, s2, s3, s4, s5⟩, s6, s7⟩ := hSu
      go_simp
      try with_reducible rfl
    try simp only [Act.put, List.getElem_toArray, List.getElem_cons_succ, List.getElem_cons_zero, List.setIfInBounds_toArray, List.set_cons_zero, List.set_cons_succ]
    refine wpAnyH_take (i := 36) (v := ?bvv36) rfl (by kernel_rfl) (by kernel_rfl) (by kernel_rfl) (fun _ _ _ h => h) (Or.inl ⟨by rfl, ?bhy36⟩) (by assumption) ?brest36
    case bhy36 =>
      intro u hSu
      obtain ⟨⟨s0, s1, s2, s3, s4, s5⟩, s6, s7⟩ := hSu
      go_simp
      try with_reducible rfl
    try simp only [Act.put, List.getElem_toArray, List.getElem_cons_succ, List.getElem_cons_zero, List.setIfInBounds_toArray, List.set_cons_zero, List.set_cons_succ]
    refine wpAnyH_take (i := 37) (v := ?bvv37) rfl (by kernel_rfl) (by kernel_rfl) (by kernel_rfl) (fun _ _ _ h => h) (Or.inl ⟨by rfl, ?bhy37⟩) (by assumption) ?brest37
    case bhy37 =>
      intro u hSu
      obtain ⟨⟨s0, s1, s2, s3, s4, s5⟩, s6, s7⟩ := hSu
      go_simp
      try with_reducible rfl
    try simp only [Act.put, List.getElem_toArray, List.getElem_cons_succ, List.getElem_cons_zero, List.setIfInBounds_toArray, List.set_cons_zero, List.set_cons_succ]
    refine wpAnyH_take (i := 38) (v := undef) rfl (by kernel_rfl) (by kernel_rfl) (by kernel_rfl) (fun _ _ _ h => h) (Or.inr ⟨by rfl, rfl⟩) (by assumption) ?brest38
    try simp only [Act.put, List.getElem_toArray, List.getElem_cons_succ, List.getElem_cons_zero, List.setIfInBounds_toArray, List.set_cons_zero, List.set_cons_succ]
    refine wpAnyH_take (i := 39) (v := undef) rfl (by kernel_rfl) (by kernel_rfl) (by kernel_rfl) (fun _ _ _ h => h) (Or.inr ⟨by rfl, rfl⟩) (by assumption) ?brest39
    try simp only [Act.put, List.getElem_toArray, List.getElem_cons_succ, List.getElem_cons_zero, List.setIfInBounds_toArray, List.set_cons_zero, List.set_cons_succ]
    refine wpAnyH_take (i := 40) (v := undef) rfl (by kernel_rfl) (by kernel_rfl) (by kernel_rfl) (fun _ _ _ h => h) (Or.inr ⟨by rfl, rfl⟩) (by assumption) ?brest40
    try simp only [Act.put, List.getElem_toArray, List.getElem_cons_succ, List.getElem_cons_zero, List.setIfInBounds_toArray, List.set_cons_zero, List.set_cons_succ]
    refine wpAnyH_take (i := 41) (v := ?bvv41) rfl (by kernel_rfl) (by kernel_rfl) (by kernel_rfl) (fun _ _ _ h => h) (Or.inl ⟨by rfl, ?bhy41⟩) (by assumption) ?brest41
    case bhy41 =>
      intro u hSu
      obtain ⟨⟨s0, s1, s2, s3, s4, s5⟩, s6, s7⟩ := hSu
      go_simp
      try with_reducible rfl
    try simp only [Act.put, List.getElem_toArray, List.getElem_cons_succ, List.getElem_cons_zero, List.setIfInBounds_toArray, List.set_cons_zero, List.set_cons_succ]
    refine wpAnyH_take (i := 42) (v := ?bvv42) rfl (by kernel_rfl) (by kernel_rfl) (by kernel_rfl) (fun _ _ _ h => h) (Or.inl ⟨by rfl, ?bhy42⟩) (by assumption) ?brest42
    case bhy42 =>
      intro u hSu
      obtain ⟨⟨s0, s1, s2, s3, s4, s5⟩, s6, s7⟩ := hSu
      go_simp
      try with_reducible rfl
    try simp only [Act.put, List.getElem_toArray, List.getElem_cons_succ, List.getElem_cons_zero, List.setIfInBounds_toArray, List.set_cons_zero, List.set_cons_succ]
    refine wpAnyH_take (i := 43) (v := undef) rfl (by kernel_rfl) (by kernel_rfl) (by kernel_rfl) (fun _ _ _ h => h) (Or.inr ⟨by rfl, rfl⟩) (by assumption) ?brest43
    try simp only [Act.put, List.getElem_toArray, List.getElem_cons_succ, List.getElem_cons_zero, List.setIfInBounds_toArray, List.set_cons_zero, List.set_cons_succ]
    refine wpAnyH_take (i := 44) (v := undef) rfl (by kernel_rfl) (by kernel_rfl) (by kernel_rfl) (fun _ _ _ h => h) (Or.inr ⟨by rfl, rfl⟩) (by assumption) ?brest44
    try simp only [Act.put, List.getElem_toArray, List.getElem_cons_succ, List.getElem_cons_zero, List.setIfInBounds_toArray, List.set_cons_zero, List.set_cons_succ]
    refine wpAnyH_take (i := 45) (v := undef) rfl (by kernel_rfl) (by kernel_rfl) (by kernel_rfl) (fun _ _ _ h => h) (Or.inr ⟨by rfl, rfl⟩) (by assumption) ?brest45
    try simp only [Act.put, List.getElem_toArray, List.getElem_cons_succ, List.getElem_cons_zero, List.setIfInBounds_toArray, List.set_cons_zero, List.set_cons_succ]
    refine wpAnyH_take (i := 46) (v := undef) rfl (by kernel_rfl) (by kernel_rfl) (by kernel_rfl) (fun _ _ _ h => h) (Or.inr ⟨by rfl, rfl⟩) (by assumption) ?brest46
    try simp only [Act.put, List.getElem_toArray, List.getElem_cons_succ, List.getElem_cons_zero, List.setIfInBounds_toArray, List.set_cons_zero, List.set_cons_succ]
    refine wpAnyH_take (i := 47) (v := undef) rfl (by kernel_rfl) (by kernel_rfl) (by kernel_rfl) (fun _ _ _ h => h) (Or.inr ⟨by rfl, rfl⟩) (by assumption) ?brest47
    try simp only [Act.put, List.getElem_toArray, List.getElem_cons_succ, List.getElem_cons_zero, List.setIfInBounds_toArray, List.set_cons_zero, List.set_cons_succ]
    refine wpAnyH_take (i := 48) (v := undef) rfl (by kernel_rfl) (by kernel_rfl) (by kernel_rfl) (fun _ _ _ h => h) (Or.inr ⟨by rfl, rfl⟩) (by assumption) ?brest48
    try simp only [Act.put, List.getElem_toArray, List.getElem_cons_succ, List.getElem_cons_zero, List.setIfInBounds_toArray, List.set_cons_zero, List.set_cons_succ]
    refine wpAnyH_take (i := 49) (v := undef) rfl (by kernel_rfl) (by kernel_rfl) (by kernel_rfl) (fun _ _ _ h => h) (Or.inr ⟨by rfl, rfl⟩) (by assumption) ?brest49
    try simp only [Act.put, List.getElem_toArray, List.getElem_cons_succ, List.getElem_cons_zero, List.setIfInBounds_toArray, List.set_cons_zero, List.set_cons_succ]
    refine wpAnyH_take (i := 50) (v := undef) rfl (by kernel_rfl) (by kernel_rfl) (by kernel_rfl) (fun _ _ _ h => h) (Or.inr ⟨by rfl, rfl⟩) (by assumption) ?brest50
    try simp only [Act.put, List.getElem_toArray, List.getElem_cons_succ, List.getElem_cons_zero, List.setIfInBounds_toArray, List.set_cons_zero, List.set_cons_succ]
    refine wpAnyH_take (i := 51) (v := ?bvv51) rfl (by kernel_rfl) (by kernel_rfl) (by kernel_rfl) (fun _ _ _ h => h) (Or.inl ⟨by rfl, ?bhy51⟩) (by assumption) ?brest51
    case bhy51 =>
      intro u hSu
      obtain ⟨⟨s0, s1, s2, s3, s4, s5⟩, s6, s7⟩ := hSu
      go_simp
      try with_reducible rfl
    try simp only [Act.put, List.getElem_toArray, List.getElem_cons_succ, List.getElem_cons_zero, List.setIfInBounds_toArray, List.set_cons_zero, List.set_cons_succ]
    refine wpAnyH_take (i := 52) (v := ?bvv52) rfl (by kernel_rfl) (by kernel_rfl) (by kernel_rfl) (fun _ _ _ h => h) (Or.inl ⟨by rfl, ?bhy52⟩) (by assumption) ?brest52
    case bhy52 =>
      intro u hSu
      obtain ⟨⟨s0, s1, s2, s3, s4, s5⟩, s6, s7⟩ := hSu
      go_simp
      try with_reducible rfl
    try simp only [Act.put, List.getElem_toArray, List.getElem_cons_succ, List.getElem_cons_zero, List.setIfInBounds_toArray, List.set_cons_zero, List.set_cons_succ]
    refine wpAnyH_take (i := 53) (v := ?bvv53) rfl (by kernel_rfl) (by kernel_rfl) (by kernel_rfl) (fun _ _ _ h => h) (Or.inl ⟨by rfl, ?bhy53⟩) (by assumption) ?brest53
    case bhy53 =>
      intro u hSu
      obtain ⟨⟨s0, s1, s2, s3, s4, s5⟩, s6, s7⟩ := hSu
      go_simp
      try with_reducible rfl
    try simp only [Act.put, List.getElem_toArray, List.getElem_cons_succ, List.getElem_cons_zero, List.setIfInBounds_toArray, List.set_cons_zero, List.set_cons_succ]
    refine wpAnyH_ready (rs := [54]) (by kernel_rfl) (by simp) ?_
    refine AllReadyH.cons rfl (fun K hK => ?_) AllReadyH.nil
    (go_simp; go_at_call 15; (with_reducible refine (AW.out _).mono ?_); rintro e w9 ⟨rfl, hb⟩; have JJ := Lib.hid (JJ.out.belowS hb); have PP := Lib.hid (PP.out.belowS hb); have KK := And.intro (mod_cells JJ.out.X) (two_cells PP.out); clear hb)
    refine hK.out _ _ ?bhS54 (fun hHeld => ?brest54)
    case bhS54 => first | exact KK
    clear hK K
    try simp only [Act.put, List.getElem_toArray, List.getElem_cons_succ, List.getElem_cons_zero, List.setIfInBounds_toArray, List.set_cons_zero, List.set_cons_succ]
    refine wpAnyH_take (i := 55) (v := ?bvv55) rfl (by kernel_rfl) (by kernel_rfl) (by kernel_rfl) (fun _ _ _ h => h) (Or.inl ⟨by rfl, ?bhy55⟩) (by assumption) ?brest55
    case bhy55 =>
      intro u hSu
      obtain ⟨⟨s0, s1, s2, s3, s4, s5⟩, s6, s7⟩ := hSu
      go_simp
      try with_reducible rfl
    try simp only [Act.put, List.getElem_toArray, List.getElem_cons_succ, List.getElem_cons_zero, List.setIfInBounds_toArray, List.set_cons_zero, List.set_cons_succ]
    refine wpAnyH_take (i := 56) (v := ?bvv56) rfl (by kernel_rfl) (by kernel_rfl) (by kernel_rfl) (fun _ _ _ h => h) (Or.inl ⟨by rfl, ?bhy56⟩) (by assumption) ?brest56
    case bhy56 =>
      intro u hSu
      obtain ⟨⟨s0, s1, s2, s3, s4, s5⟩, s6, s7⟩ := hSu
      go_simp
      try with_reducible rfl
    try simp only [Act.put, List.getElem_toArray, List.getElem_cons_succ, List.getElem_cons_zero, List.setIfInBounds_toArray, List.set_cons_zero, List.set_cons_succ]
    refine wpAnyH_done (by kernel_rfl) ?_ _
    go_wp2_with fail
    go_ret
    exact ⟨rfl, JJ.out.B⟩
  · clear b5
    refine wpAnyH_take (i := 31) (v := ?cvv31) rfl (by kernel_rfl) (by kernel_rfl) (by kernel_rfl) (fun _ _ _ h => h) (Or.inl ⟨by rfl, ?chy31⟩) (by assumption) ?crest31
    case chy31 =>
      intro u hSu
      obtain ⟨⟨s0, s1, s2, s3, s4, s5⟩, s6, s7⟩ := hSu
      go_simp
      try with_reducible rfl
    try simp only [Act.put, List.getElem_toArray, List.getElem_cons_succ, List.getElem_cons_zero, List.setIfInBounds_toArray, List.set_cons_zero, List.set_cons_succ]
    refine wpAnyH_take (i := 32) (v := ?cvv32) rfl (by kernel_rfl) (by kernel_rfl) (by kernel_rfl) (fun _ _ _ h => h) (Or.inl ⟨by rfl, ?chy32⟩) (by assumption) ?crest32
    case chy32 =>
      intro u hSu
      obtain ⟨⟨s0, s1, s2, s3, s4, s5⟩, s6, s7⟩ := hSu
      go_simp
      try with_reducible rfl
    try simp only [Act.put, List.getElem_toArray, List.getElem_cons_succ, List.getElem_cons_zero, List.setIfInBounds_toArray, List.set_cons_zero, List.set_cons_succ]
    refine wpAnyH_take (i := 33) (v := ?cvv33) rfl (by kernel_rfl) (by kernel_rfl) (by kernel_rfl) (fun _ _ _ h => h) (Or.inl ⟨by rfl, ?chy33⟩) (by assumption) ?crest33
    case chy33 =>
      intro u hSu
      obtain ⟨⟨s0, s1, s2, s3, s4, s5⟩, s6, s7⟩ := hSu
      go_simp
      try with_reducible rfl
    try simp only [Act.put, List.getElem_toArray, List.getElem_cons_succ, List.getElem_cons_zero, List.setIfInBounds_toArray, List.set_cons_zero, List.set_cons_succ]
    refine wpAnyH_take (i := 34) (v := ?cvv34) rfl (by kernel_rfl) (by kernel_rfl) (by kernel_rfl) (fun _ _ _ h => h) (Or.inl ⟨by rfl, ?chy34⟩) (by assumption) ?crest34
    case chy34 =>
      intro u hSu
      obtain ⟨⟨s0, s1, s2, s3, s4, s5⟩, s6, s7⟩ := hSu
      go_simp
      try with_reducible rfl
    try simp only [Act.put, List.getElem_toArray, List.getElem_cons_succ, List.getElem_cons_zero, List.setIfInBounds_toArray, List.set_cons_zero, List.set_cons_succ]
    refine wpAnyH_take (i := 35) (v := ?cvv35) rfl (by kernel_rfl) (by kernel_rfl) (by kernel_rfl) (fun _ _ _ h => h) (Or.inl ⟨by rfl, ?chy35⟩) (by assumption) ?crest35
    case chy35 =>
      intro u hSu
      obtain ⟨⟨s0, s1, s2, s3, s4, s5⟩, s6, s7⟩ := hSu
      go_simp
      try with_reducible rfl
    try simp only [Act.put, List.getElem_toArray, List.getElem_cons_succ, List.getElem_cons_zero, List.setIfInBounds_toArray, List.set_cons_zero, List.set_cons_succ]
    refine wpAnyH_take (i := 36) (v := ?cvv36) rfl (by kernel_rfl) (by kernel_rfl) (by kernel_rfl) (fun _ _ _ h => h) (Or.inl ⟨by rfl, ?chy36⟩) (by assumption) ?crest36
    case chy36 =>
      intro u hSu
      obtain ⟨⟨s0, s1, s2, s3, s4, s5⟩, s6, s7⟩ := hSu
      go_simp
      try with_reducible rfl
    try simp only [Act.put, List.getElem_toArray, List.getElem_cons_succ, List.getElem_cons_zero, List.setIfInBounds_toArray, List.set_cons_zero, List.set_cons_succ]
    refine wpAnyH_take (i := 37) (v := ?cvv37) rfl (by kernel_rfl) (by kernel_rfl) (by kernel_rfl) (fun _ _ _ h => h) (Or.inl ⟨by rfl, ?chy37⟩) (by assumption) ?crest37
    case chy37 =>
      intro u hSu
      obtain ⟨⟨s0, s1, s2, s3, s4, s5⟩, s6, s7⟩ := hSu
      go_simp
      try with_reducible rfl
    try simp only [Act.put, List.getElem_toArray, List.getElem_cons_succ, List.getElem_cons_zero, List.setIfInBounds_toArray, List.set_cons_zero, List.set_cons_succ]
    refine wpAnyH_take (i := 38) (v := ?cvv38) rfl (by kernel_rfl) (by kernel_rfl) (by kernel_rfl) (fun _ _ _ h => h) (Or.inl ⟨by rfl, ?chy38⟩) (by assumption) ?crest38
    case chy38 =>
      intro u hSu
      obtain ⟨⟨s0, s1, s2, s3, s4, s5⟩, s6, s7⟩ := hSu
      go_simp
      try with_reducible rfl
    try simp only [Act.put, List.getElem_toArray, List.getElem_cons_succ, List.getElem_cons_zero, List.setIfInBounds_toArray, List.set_cons_zero, List.set_cons_succ]
    refine wpAnyH_take (i := 39) (v := ?cvv39) rfl (by kernel_rfl) (by kernel_rfl) (by kernel_rfl) (fun _ _ _ h => h) (Or.inl ⟨by rfl, ?chy39⟩) (by assumption) ?crest39
    case chy39 =>
      intro u hSu
      obtain ⟨⟨s0, s1, s2, s3, s4, s5⟩, s6, s7⟩ := hSu
      go_simp
      try with_reducible rfl
    try simp only [Act.put, List.getElem_toArray, List.getElem_cons_succ, List.getElem_cons_zero, List.setIfInBounds_toArray, List.set_cons_zero, List.set_cons_succ]
    refine wpAnyH_take (i := 40) (v := ?cvv40) rfl (by kernel_rfl) (by kernel_rfl) (by kernel_rfl) (fun _ _ _ h => h) (Or.inl ⟨by rfl, ?chy40⟩) (by assumption) ?crest40
    case chy40 =>
      intro u hSu
      obtain ⟨⟨s0, s1, s2, s3, s4, s5⟩, s6, s7⟩ := hSu
      go_simp
      try with_reducible rfl
    try simp only [Act.put, List.getElem_toArray, List.getElem_cons_succ, List.getElem_cons_zero, List.setIfInBounds_toArray, List.set_cons_zero, List.set_cons_succ]
    refine wpAnyH_take (i := 41) (v := ?cvv41) rfl (by kernel_rfl) (by kernel_rfl) (by kernel_rfl) (fun _ _ _ h => h) (Or.inl ⟨by rfl, ?chy41⟩) (by assumption) ?crest41
    case chy41 =>
      intro u hSu
      obtain ⟨⟨s0, s1, s2, s3, s4, s5⟩, s6, s7⟩ := hSu
      go_simp
      try with_reducible rfl
    try simp only [Act.put, List.getElem_toArray, List.getElem_cons_succ, List.getElem_cons_zero, List.setIfInBounds_toArray, List.set_cons_zero, List.set_cons_succ]
    refine wpAnyH_take (i := 42) (v := ?cvv42) rfl (by kernel_rfl) (by kernel_rfl) (by kernel_rfl) (fun _ _ _ h => h) (Or.inl ⟨by rfl, ?chy42⟩) (by assumption) ?crest42
    case chy42 =>
      intro u hSu
      obtain ⟨⟨s0, s1, s2, s3, s4, s5⟩, s6, s7⟩ := hSu
      go_simp
      try with_reducible rfl
    try simp only [Act.put, List.getElem_toArray, List.getElem_cons_succ, List.getElem_cons_zero, List.setIfInBounds_toArray, List.set_cons_zero, List.set_cons_succ]
    refine wpAnyH_take (i := 43) (v := undef) rfl (by kernel_rfl) (by kernel_rfl) (by kernel_rfl) (fun _ _ _ h => h) (Or.inr ⟨by rfl, rfl⟩) (by assumption) ?crest43
    try simp only [Act.put, List.getElem_toArray, List.getElem_cons_succ, List.getElem_cons_zero, List.setIfInBounds_toArray, List.set_cons_zero, List.set_cons_succ]
    refine wpAnyH_take (i := 44) (v := undef) rfl (by kernel_rfl) (by kernel_rfl) (by kernel_rfl) (fun _ _ _ h => h) (Or.inr ⟨by rfl, rfl⟩) (by assumption) ?crest44
    try simp only [Act.put, List.getElem_toArray, List.getElem_cons_succ, List.getElem_cons_zero, List.setIfInBounds_toArray, List.set_cons_zero, List.set_cons_succ]
    refine wpAnyH_take (i := 45) (v := undef) rfl (by kernel_rfl) (by kernel_rfl) (by kernel_rfl) (fun _ _ _ h => h) (Or.inr ⟨by rfl, rfl⟩) (by assumption) ?crest45
    try simp only [Act.put, List.getElem_toArray, List.getElem_cons_succ, List.getElem_cons_zero, List.setIfInBounds_toArray, List.set_cons_zero, List.set_cons_succ]
    refine wpAnyH_take (i := 46) (v := undef) rfl (by kernel_rfl) (by kernel_rfl) (by kernel_rfl) (fun _ _ _ h => h) (Or.inr ⟨by rfl, rfl⟩) (by assumption) ?crest46
    try simp only [Act.put, List.getElem_toArray, List.getElem_cons_succ, List.getElem_cons_zero, List.setIfInBounds_toArray, List.set_cons_zero, List.set_cons_succ]
    refine wpAnyH_take (i := 47) (v := undef) rfl (by kernel_rfl) (by kernel_rfl) (by kernel_rfl) (fun _ _ _ h => h) (Or.inr ⟨by rfl, rfl⟩) (by assumption) ?crest47
    try simp only [Act.put, List.getElem_toArray, List.getElem_cons_succ, List.getElem_cons_zero, List.setIfInBounds_toArray, List.set_cons_zero, List.set_cons_succ]
    refine wpAnyH_take (i := 48) (v := undef) rfl (by kernel_rfl) (by kernel_rfl) (by kernel_rfl) (fun _ _ _ h => h) (Or.inr ⟨by rfl, rfl⟩) (by assumption) ?crest48
    try simp only [Act.put, List.getElem_toArray, List.getElem_cons_succ, List.getElem_cons_zero, List.setIfInBounds_toArray, List.set_cons_zero, List.set_cons_succ]
    refine wpAnyH_take (i := 49) (v := undef) rfl (by kernel_rfl) (by kernel_rfl) (by kernel_rfl) (fun _ _ _ h => h) (Or.inr ⟨by rfl, rfl⟩) (by assumption) ?crest49
    try simp only [Act.put, List.getElem_toArray, List.getElem_cons_succ, List.getElem_cons_zero, List.setIfInBounds_toArray, List.set_cons_zero, List.set_cons_succ]
    refine wpAnyH_take (i := 50) (v := undef) rfl (by kernel_rfl) (by kernel_rfl) (by kernel_rfl) (fun _ _ _ h => h) (Or.inr ⟨by rfl, rfl⟩) (by assumption) ?crest50
    try simp only [Act.put, List.getElem_toArray, List.getElem_cons_succ, List.getElem_cons_zero, List.setIfInBounds_toArray, List.set_cons_zero, List.set_cons_succ]
    refine wpAnyH_take (i := 51) (v := ?cvv51) rfl (by kernel_rfl) (by kernel_rfl) (by kernel_rfl) (fun _ _ _ h => h) (Or.inl ⟨by rfl, ?chy51⟩) (by assumption) ?crest51
    case chy51 =>
      intro u hSu
      obtain ⟨⟨s0, s1, s2, s3, s4, s5⟩, s6, s7⟩ := hSu
      go_simp
      try with_reducible rfl
    try simp only [Act.put, List.getElem_toArray, List.getElem_cons_succ, List.getElem_cons_zero, List.setIfInBounds_toArray, List.set_cons_zero, List.set_cons_succ]
    refine wpAnyH_take (i := 52) (v := ?cvv52) rfl (by kernel_rfl) (by kernel_rfl) (by kernel_rfl) (fun _ _ _ h => h) (Or.inl ⟨by rfl, ?chy52⟩) (by assumption) ?crest52
    case chy52 =>
      intro u hSu
      obtain ⟨⟨s0, s1, s2, s3, s4, s5⟩, s6, s7⟩ := hSu
      go_simp
      try with_reducible rfl
    try simp only [Act.put, List.getElem_toArray, List.getElem_cons_succ, List.getElem_cons_zero, List.setIfInBounds_toArray, List.set_cons_zero, List.set_cons_succ]
    refine wpAnyH_take (i := 53) (v := ?cvv53) rfl (by kernel_rfl) (by kernel_rfl) (by kernel_rfl) (fun _ _ _ h => h) (Or.inl ⟨by rfl, ?chy53⟩) (by assumption) ?crest53
    case chy53 =>
      intro u hSu
      obtain ⟨⟨s0, s1, s2, s3, s4, s5⟩, s6, s7⟩ := hSu
      go_simp
      try with_reducible rfl
    try simp only [Act.put, List.getElem_toArray, List.getElem_cons_succ, List.getElem_cons_zero, List.setIfInBounds_toArray, List.set_cons_zero, List.set_cons_succ]
    refine wpAnyH_ready (rs := [54]) (by kernel_rfl) (by simp) ?_
    refine AllReadyH.cons rfl (fun K hK => ?_) AllReadyH.nil
    (go_simp; go_at_call 15; (with_reducible refine (AW.out _).mono ?_); rintro e w9 ⟨rfl, hb⟩; have JJ := Lib.hid (JJ.out.belowS hb); have PP := Lib.hid (PP.out.belowS hb); have KK := And.intro (mod_cells JJ.out.X) (two_cells PP.out); clear hb)
    refine hK.out _ _ ?chS54 (fun hHeld => ?crest54)
    case chS54 => first | exact KK
    clear hK K
    try simp only [Act.put, List.getElem_toArray, List.getElem_cons_succ, List.getElem_cons_zero, List.setIfInBounds_toArray, List.set_cons_zero, List.set_cons_succ]
    refine wpAnyH_take (i := 55) (v := ?cvv55) rfl (by kernel_rfl) (by kernel_rfl) (by kernel_rfl) (fun _ _ _ h => h) (Or.inl ⟨by rfl, ?chy55⟩) (by assumption) ?crest55
    case chy55 =>
      intro u hSu
      obtain ⟨⟨s0, s1, s2, s3, s4, s5⟩, s6, s7⟩ := hSu
      go_simp
      try with_reducible rfl
    try simp only [Act.put, List.getElem_toArray, List.getElem_cons_succ, List.getElem_cons_zero, List.setIfInBounds_toArray, List.set_cons_zero, List.set_cons_succ]
    refine wpAnyH_take (i := 56) (v := ?cvv56) rfl (by kernel_rfl) (by kernel_rfl) (by kernel_rfl) (fun _ _ _ h => h) (Or.inl ⟨by rfl, ?chy56⟩) (by assumption) ?crest56
    case chy56 =>
      intro u hSu
      obtain ⟨⟨s0, s1, s2, s3, s4, s5⟩, s6, s7⟩ := hSu
      go_simp
      try with_reducible rfl
    try simp only [Act.put, List.getElem_toArray, List.getElem_cons_succ, List.getElem_cons_zero, List.setIfInBounds_toArray, List.set_cons_zero, List.set_cons_succ]
    refine wpAnyH_done (by kernel_rfl) ?_ _
    go_wp2_with fail
    go_ret
    exact ⟨rfl, JJ.out.B⟩
  · have b6 : IntKind.i64.wrap (p + q) = P := b5.trans k4.symm
    clear k4 b5
    refine wpAnyH_take (i := 31) (v := ?dvv31) rfl (by kernel_rfl) (by kernel_rfl) (by kernel_rfl) (fun _ _ _ h => h) (Or.inl ⟨by rfl, ?dhy31⟩) (by assumption) ?drest31
    case dhy31 =>
      intro u hSu
      obtain ⟨⟨s0, s1, s2, s3, s4, s5⟩, s6, s7⟩ := hSu
      go_simp
      try with_reducible rfl
    try simp only [Act.put, List.getElem_toArray, List.getElem_cons_succ, List.getElem_cons_zero, List.setIfInBounds_toArray, List.set_cons_zero, List.set_cons_succ]
    refine wpAnyH_take (i := 32) (v := ?dvv32) rfl (by kernel_rfl) (by kernel_rfl) (by kernel_rfl) (fun _ _ _ h => h) (Or.inl ⟨by rfl, ?dhy32⟩) (by assumption) ?drest32
    case dhy32 =>
      intro u hSu
      obtain ⟨⟨s0, s1, s2, s3, s4, s5⟩, s6, s7⟩ := hSu
      go_simp
      try with_reducible rfl
    try simp only [Act.put, List.getElem_toArray, List.getElem_cons_succ, List.getElem_cons_zero, List.setIfInBounds_toArray, List.set_cons_zero, List.set_cons_succ]
    refine wpAnyH_take (i := 33) (v := ?dvv33) rfl (by kernel_rfl) (by kernel_rfl) (by kernel_rfl) (fun _ _ _ h => h) (Or.inl ⟨by rfl, ?dhy33⟩) (by assumption) ?drest33
    case dhy33 =>
      intro u hSu
      obtain ⟨⟨s0, s1, s2, s3, s4, s5⟩, s6, s7⟩ := hSu
      go_simp
      try with_reducible rfl
    try simp only [Act.put, List.getElem_toArray, List.getElem_cons_succ, List.getElem_cons_zero, List.setIfInBounds_toArray, List.set_cons_zero, List.set_cons_succ]
    refine wpAnyH_take (i := 34) (v := ?dvv34) rfl (by kernel_rfl) (by kernel_rfl) (by kernel_rfl) (fun _ _ _ h => h) (Or.inl ⟨by rfl, ?dhy34⟩) (by assumption) ?drest34
    case dhy34 =>
      intro u hSu
      obtain ⟨⟨s0, s1, s2, s3, s4, s5⟩, s6, s7⟩ := hSu
      go_simp
      try with_reducible rfl
    try simp only [Act.put, List.getElem_toArray, List.getElem_cons_succ, List.getElem_cons_zero, List.setIfInBounds_toArray, List.set_cons_zero, List.set_cons_succ]
    refine wpAnyH_take (i := 35) (v := ?dvv35) rfl (by kernel_rfl) (by kernel_rfl) (by kernel_rfl) (fun _ _ _ h => h) (Or.inl ⟨by rfl, ?dhy35⟩) (by assumption) ?drest35
    case dhy35 =>
      intro u hSu
      obtain ⟨⟨s0, s1, s2, s3, s4, s5⟩, s6, s7⟩ := hSu
      go_simp
      try with_reducible rfl
    try simp only [Act.put, List.getElem_toArray, List.getElem_cons_succ, List.getElem_cons_zero, List.setIfInBounds_toArray, List.set_cons_zero, List.set_cons_succ]
    refine wpAnyH_take (i := 36) (v := ?dvv36) rfl (by kernel_rfl) (by kernel_rfl) (by kernel_rfl) (fun _ _ _ h => h) (Or.inl ⟨by rfl, ?dhy36⟩) (by assumption) ?drest36
    case dhy36 =>
      intro u hSu
      obtain ⟨⟨s0, s1, s2, s3, s4, s5⟩, s6, s7⟩ := hSu
      go_simp
      try with_reducible rfl
    try simp only [Act.put, List.getElem_toArray, List.getElem_cons_succ, List.getElem_cons_zero, List.setIfInBounds_toArray, List.set_cons_zero, List.set_cons_succ]
    refine wpAnyH_take (i := 37) (v := ?dvv37) rfl (by kernel_rfl) (by kernel_rfl) (by kernel_rfl) (fun _ _ _ h => h) (Or.inl ⟨by rfl, ?dhy37⟩) (by assumption) ?drest37
    case dhy37 =>
      intro u hSu
      obtain ⟨⟨s0, s1, s2, s3, s4, s5⟩, s6, s7⟩ := hSu
      go_simp
      try with_reducible rfl
    try simp only [Act.put, List.getElem_toArray, List.getElem_cons_succ, List.getElem_cons_zero, List.setIfInBounds_toArray, List.set_cons_zero, List.set_cons_succ]
    refine wpAnyH_take (i := 38) (v := ?dvv38) rfl (by kernel_rfl) (by kernel_rfl) (by kernel_rfl) (fun _ _ _ h => h) (Or.inl ⟨by rfl, ?dhy38⟩) (by assumption) ?drest38
    case dhy38 =>
      intro u hSu
      obtain ⟨⟨s0, s1, s2, s3, s4, s5⟩, s6, s7⟩ := hSu
      go_simp
      try with_reducible rfl
    try simp only [Act.put, List.getElem_toArray, List.getElem_cons_succ, List.getElem_cons_zero, List.setIfInBounds_toArray, List.set_cons_zero, List.set_cons_succ]
    refine wpAnyH_take (i := 39) (v := ?dvv39) rfl (by kernel_rfl) (by kernel_rfl) (by kernel_rfl) (fun _ _ _ h => h) (Or.inl ⟨by rfl, ?dhy39⟩) (by assumption) ?drest39
    case dhy39 =>
      intro u hSu
      obtain ⟨⟨s0, s1, s2, s3, s4, s5⟩, s6, s7⟩ := hSu
      go_simp
      try with_reducible rfl
    try simp only [Act.put, List.getElem_toArray, List.getElem_cons_succ, List.getElem_cons_zero, List.setIfInBounds_toArray, List.set_cons_zero, List.set_cons_succ]
    refine wpAnyH_take (i := 40) (v := ?dvv40) rfl (by kernel_rfl) (by kernel_rfl) (by kernel_rfl) (fun _ _ _ h => h) (Or.inl ⟨by rfl, ?dhy40⟩) (by assumption) ?drest40
    case dhy40 =>
      intro u hSu
      obtain ⟨⟨s0, s1, s2, s3, s4, s5⟩, s6, s7⟩ := hSu
      go_simp
      try with_reducible rfl
    try simp only [Act.put, List.getElem_toArray, List.getElem_cons_succ, List.getElem_cons_zero, List.setIfInBounds_toArray, List.set_cons_zero, List.set_cons_succ]
    refine wpAnyH_take (i := 41) (v := ?dvv41) rfl (by kernel_rfl) (by kernel_rfl) (by kernel_rfl) (fun _ _ _ h => h) (Or.inl ⟨by rfl, ?dhy41⟩) (by assumption) ?drest41
    case dhy41 =>
      intro u hSu
      obtain ⟨⟨s0, s1, s2, s3, s4, s5⟩, s6, s7⟩ := hSu
      go_simp
      try with_reducible rfl
    try simp only [Act.put, List.getElem_toArray, List.getElem_cons_succ, List.getElem_cons_zero, List.setIfInBounds_toArray, List.set_cons_zero, List.set_cons_succ]
    refine wpAnyH_take (i := 42) (v := ?dvv42) rfl (by kernel_rfl) (by kernel_rfl) (by kernel_rfl) (fun _ _ _ h => h) (Or.inl ⟨by rfl, ?dhy42⟩) (by assumption) ?drest42
    case dhy42 =>
      intro u hSu
      obtain ⟨⟨s0, s1, s2, s3, s4, s5⟩, s6, s7⟩ := hSu
      go_simp
      try with_reducible rfl
    try simp only [Act.put, List.getElem_toArray, List.getElem_cons_succ, List.getElem_cons_zero, List.setIfInBounds_toArray, List.set_cons_zero, List.set_cons_succ]
    refine wpAnyH_take (i := 43) (v := ?dvv43) rfl (by kernel_rfl) (by kernel_rfl) (by kernel_rfl) (fun _ _ _ h => h) (Or.inl ⟨by rfl, ?dhy43⟩) (by assumption) ?drest43
    case dhy43 =>
      intro u hSu
      obtain ⟨⟨s0, s1, s2, s3, s4, s5⟩, s6, s7⟩ := hSu
      go_simp
      try with_reducible rfl
    try simp only [Act.put, List.getElem_toArray, List.getElem_cons_succ, List.getElem_cons_zero, List.setIfInBounds_toArray, List.set_cons_zero, List.set_cons_succ]
    refine wpAnyH_take (i := 45) (v := ?dvv45) rfl (by kernel_rfl) (by kernel_rfl) (by kernel_rfl) (fun _ _ _ h => h) (Or.inl ⟨by rfl, ?dhy45⟩) (by assumption) ?drest45
    case dhy45 =>
      intro u hSu
      obtain ⟨⟨s0, s1, s2, s3, s4, s5⟩, s6, s7⟩ := hSu
      go_simp
      try with_reducible rfl
    try simp only [Act.put, List.getElem_toArray, List.getElem_cons_succ, List.getElem_cons_zero, List.setIfInBounds_toArray, List.set_cons_zero, List.set_cons_succ]
    refine wpAnyH_take (i := 46) (v := ?dvv46) rfl (by kernel_rfl) (by kernel_rfl) (by kernel_rfl) (fun _ _ _ h => h) (Or.inl ⟨by rfl, ?dhy46⟩) (by assumption) ?drest46
    case dhy46 =>
      intro u hSu
      obtain ⟨⟨s0, s1, s2, s3, s4, s5⟩, s6, s7⟩ := hSu
      go_simp
      try with_reducible rfl
    try simp only [Act.put, List.getElem_toArray, List.getElem_cons_succ, List.getElem_cons_zero, List.setIfInBounds_toArray, List.set_cons_zero, List.set_cons_succ]
    refine wpAnyH_take (i := 47) (v := ?dvv47) rfl (by kernel_rfl) (by kernel_rfl) (by kernel_rfl) (fun _ _ _ h => h) (Or.inl ⟨by rfl, ?dhy47⟩) (by assumption) ?drest47
    case dhy47 =>
      intro u hSu
      obtain ⟨⟨s0, s1, s2, s3, s4, s5⟩, s6, s7⟩ := hSu
      go_simp
      try with_reducible rfl
    try simp only [Act.put, List.getElem_toArray, List.getElem_cons_succ, List.getElem_cons_zero, List.setIfInBounds_toArray, List.set_cons_zero, List.set_cons_succ]
    refine wpAnyH_take (i := 48) (v := ?dvv48) rfl (by kernel_rfl) (by kernel_rfl) (by kernel_rfl) (fun _ _ _ h => h) (Or.inl ⟨by rfl, ?dhy48⟩) (by assumption) ?drest48
    case dhy48 =>
      intro u hSu
      obtain ⟨⟨s0, s1, s2, s3, s4, s5⟩, s6, s7⟩ := hSu
      go_simp
      try with_reducible rfl
    try simp only [Act.put, List.getElem_toArray, List.getElem_cons_succ, List.getElem_cons_zero, List.setIfInBounds_toArray, List.set_cons_zero, List.set_cons_succ]
    refine wpAnyH_take (i := 49) (v := ?dvv49) rfl (by kernel_rfl) (by kernel_rfl) (by kernel_rfl) (fun _ _ _ h => h) (Or.inl ⟨by rfl, ?dhy49⟩) (by assumption) ?drest49
    case dhy49 =>
      intro u hSu
      obtain ⟨⟨s0, s1, s2, s3, s4, s5⟩, s6, s7⟩ := hSu
      go_simp
      try with_reducible rfl
    try simp only [Act.put, List.getElem_toArray, List.getElem_cons_succ, List.getElem_cons_zero, List.setIfInBounds_toArray, List.set_cons_zero, List.set_cons_succ]
    refine wpAnyH_ready (rs := [44]) (by kernel_rfl) (by simp) ?_
    refine AllReadyH.cons rfl (fun K hK => ?_) AllReadyH.nil
    (go_simp; go_at_call 11; (with_reducible refine (C3.out _).mono ?_); rintro e w9 ⟨rfl, hb⟩; have JJ := Lib.hid (JJ.out.belowS hb); have PP := Lib.hid (PP.out.belowS hb); have KK := And.intro (mod_cells JJ.out.X) (two_cells PP.out); clear hb)
    refine hK.out _ _ ?dhS44 (fun hHeld => ?drest44)
    case dhS44 => first | exact KK
    clear hK K
    try simp only [Act.put, List.getElem_toArray, List.getElem_cons_succ, List.getElem_cons_zero, List.setIfInBounds_toArray, List.set_cons_zero, List.set_cons_succ]
    refine wpAnyH_take (i := 50) (v := ?dvv50) rfl (by kernel_rfl) (by kernel_rfl) (by kernel_rfl) (fun _ _ _ h => h) (Or.inl ⟨by rfl, ?dhy50⟩) (by assumption) ?drest50
    case dhy50 =>
      intro u hSu
      obtain ⟨⟨s0, s1, s2, s3, s4, s5⟩, s6, s7⟩ := hSu
      go_simp
      try with_reducible rfl
    try simp only [Act.put, List.getElem_toArray, List.getElem_cons_succ, List.getElem_cons_zero, List.setIfInBounds_toArray, List.set_cons_zero, List.set_cons_succ]
    refine wpAnyH_take (i := 51) (v := ?dvv51) rfl (by kernel_rfl) (by kernel_rfl) (by kernel_rfl) (fun _ _ _ h => h) (Or.inl ⟨by rfl, ?dhy51⟩) (by assumption) ?drest51
    case dhy51 =>
      intro u hSu
      obtain ⟨⟨s0, s1, s2, s3, s4, s5⟩, s6, s7⟩ := hSu
      go_simp
      try with_reducible rfl
    try simp only [Act.put, List.getElem_toArray, List.getElem_cons_succ, List.getElem_cons_zero, List.setIfInBounds_toArray, List.set_cons_zero, List.set_cons_succ]
    refine wpAnyH_take (i := 52) (v := ?dvv52) rfl (by kernel_rfl) (by kernel_rfl) (by kernel_rfl) (fun _ _ _ h => h) (Or.inl ⟨by rfl, ?dhy52⟩) (by assumption) ?drest52
    case dhy52 =>
      intro u hSu
      obtain ⟨⟨s0, s1, s2, s3, s4, s5⟩, s6, s7⟩ := hSu
      go_simp
      try with_reducible rfl
    try simp only [Act.put, List.getElem_toArray, List.getElem_cons_succ, List.getElem_cons_zero, List.setIfInBounds_toArray, List.set_cons_zero, List.set_cons_succ]
    refine wpAnyH_take (i := 53) (v := ?dvv53) rfl (by kernel_rfl) (by kernel_rfl) (by kernel_rfl) (fun _ _ _ h => h) (Or.inl ⟨by rfl, ?dhy53⟩) (by assumption) ?drest53
    case dhy53 =>
      intro u hSu
      obtain ⟨⟨s0, s1, s2, s3, s4, s5⟩, s6, s7⟩ := hSu
      go_simp
      try with_reducible rfl
    try simp only [Act.put, List.getElem_toArray, List.getElem_cons_succ, List.getElem_cons_zero, List.setIfInBounds_toArray, List.set_cons_zero, List.set_cons_succ]
    refine wpAnyH_ready (rs := [54]) (by kernel_rfl) (by simp) ?_
    refine AllReadyH.cons rfl (fun K hK => ?_) AllReadyH.nil
    (go_simp; go_at_call 15; (with_reducible refine (AW.out _).mono ?_); rintro e w9 ⟨rfl, hb⟩; have JJ := Lib.hid (JJ.out.belowS hb); have PP := Lib.hid (PP.out.belowS hb); have KK := And.intro (mod_cells JJ.out.X) (two_cells PP.out); clear hb)
    refine hK.out _ _ ?dhS54 (fun hHeld => ?drest54)
    case dhS54 => first | exact KK
    clear hK K
    try simp only [Act.put, List.getElem_toArray, List.getElem_cons_succ, List.getElem_cons_zero, List.setIfInBounds_toArray, List.set_cons_zero, List.set_cons_succ]
    refine wpAnyH_take (i := 55) (v := ?dvv55) rfl (by kernel_rfl) (by kernel_rfl) (by kernel_rfl) (fun _ _ _ h => h) (Or.inl ⟨by rfl, ?dhy55⟩) (by assumption) ?drest55
    case dhy55 =>
      intro u hSu
      obtain ⟨⟨s0, s1, s2, s3, s4, s5⟩, s6, s7⟩ := hSu
      go_simp
      try with_reducible rfl
    try simp only [Act.put, List.getElem_toArray, List.getElem_cons_succ, List.getElem_cons_zero, List.setIfInBounds_toArray, List.set_cons_zero, List.set_cons_succ]
    refine wpAnyH_take (i := 56) (v := ?dvv56) rfl (by kernel_rfl) (by kernel_rfl) (by kernel_rfl) (fun _ _ _ h => h) (Or.inl ⟨by rfl, ?dhy56⟩) (by assumption) ?drest56
    case dhy56 =>
      intro u hSu
      obtain ⟨⟨s0, s1, s2, s3, s4, s5⟩, s6, s7⟩ := hSu
      go_simp
      try with_reducible rfl
    try simp only [Act.put, List.getElem_toArray, List.getElem_cons_succ, List.getElem_cons_zero, List.setIfInBounds_toArray, List.set_cons_zero, List.set_cons_succ]
    refine wpAnyH_done (by kernel_rfl) ?_ _
    go_wp2_with fail
    go_ret
    exact ⟨rfl, JJ.out.B⟩
end
end Go.Proofs.Ytijacjcfnilaiaa.WK
