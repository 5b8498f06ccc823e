/-
  The law's look at both tables: they tell the same. Nothing here is a statement of the seed.
-/
import Derived.Test.YtleggfofgpiabaaGreatSymDo
set_option linter.unusedSimpArgs false
set_option linter.unusedVariables false
namespace Go.Proofs.YtleggfofgpiabaaGreat.SP
open Go.RowKit WM NR OM OR SM SR SF
set_option maxHeartbeats 4000000
set_option maxRecDepth 10000
/-- the law has counted the first k entries up, to see that they are its own -/
def incE (e : En) : En := { e with refs := e.refs + 1 }
def incK (l : List En) (k : Nat) : List En := (l.take k).map incE ++ l.drop k
theorem incK_zero (l : List En) : incK l 0 = l := by simp [incK]
theorem incK_len (l : List En) (k : Nat) : (incK l k).length = l.length := by
  unfold incK
  rw [List.length_append, List.length_map, List.length_take, List.length_drop]
  omega
theorem incK_at (l : List En) (k : Nat) (h : k < l.length) : (incK l k).getD k e0 = l.getD k e0 := by
  unfold incK
  have hl : ((l.take k).map incE).length = k := by rw [List.length_map, List.length_take]; omega
  rw [List.getD_eq_getElem?_getD, List.getElem?_append_right (by omega), hl, Nat.sub_self, List.getElem?_drop, Nat.add_zero, ← List.getD_eq_getElem?_getD]
theorem incK_set (l : List En) (k : Nat) (h : k < l.length) : (incK l k).set k { (incK l k).getD k e0 with refs := (l.getD k e0).refs + 1 } = incK l (k + 1) := by
  have hl : ((l.take k).map incE).length = k := by rw [List.length_map, List.length_take]; omega
  rw [incK_at l k h]
  unfold incK
  rw [take_succ_getD l e0 k h, List.map_append, List.set_append_right _ _ (by omega), hl, Nat.sub_self, List.drop_eq_getElem_cons h, List.set_cons_zero, List.append_assoc, List.getD_eq_getElem?_getD, List.getElem?_eq_getElem h]
  rfl
structure EJ (w : World) (c0 c1 : Array Value) (u : World) : Prop where
  X : Whole u w.heap.size 30 c0
  Y : Whole u (w.heap.size + 1) 34 c1
  B : Below w.heap.size w u
theorem EJ.belowS {w u u' : World} {c0 c1 : Array Value} (h : EJ w c0 c1 u) (hb : Below u.heap.size u u') : EJ w c0 c1 u' := ⟨h.X.belowS hb, h.Y.belowS hb, h.B.trans (hb.mono h.B.size)⟩
theorem EJ.new (w : World) (c0 c1 : Array Value) : EJ w c0 c1 ((w.alloc (.cells c0 30)).alloc (.cells c1 34)) := by
  have b0 := below_new w (.cells c0 30)
  have b1 := below_new (w.alloc (.cells c0 30)) (.cells c1 34)
  have s0 : (w.alloc (.cells c0 30)).heap.size = w.heap.size + 1 := by simp
  have y := Whole.new (w.alloc (.cells c0 30)) 34 c1
  rw [s0] at y
  exact ⟨(Whole.new w _ _).belowS b1, y, b0.trans (b1.mono b0.size)⟩
theorem EJ.set {w u : World} {c0 c1 : Array Value} (h : EJ w c0 c1 u) {p : Addr} (hp : w.heap.size + 2 ≤ p.block) (y : Value) : EJ w c0 c1 (u.setCell p y) := ⟨Whole.far h.X (show w.heap.size ≠ p.block by omega) y, Whole.far h.Y (show w.heap.size + 1 ≠ p.block by omega) y, h.B.setCell (by omega) y⟩
abbrev BX (b : Nat) (ma : Option Addr) (mn mc : Nat) (la : Option Addr) (ln lc : Nat) (k : Int) (y : ByteArray) (g : Int) (na : Option Addr) (nn nc : Nat) (u : World) : Prop :=
  (u.cell? ⟨b, 0, none⟩ = some (.slice ma mn mc) ∧ u.cell? ⟨b, 1, none⟩ = some (.slice la ln lc)) ∧ u.cell? ⟨b + 1, 0, none⟩ = some (.int .u8 k) ∧ u.cell? ⟨b + 1, 1, none⟩ = some (.string y) ∧ u.cell? ⟨b + 1, 2, none⟩ = some (.int .i64 g) ∧ u.cell? ⟨b + 1, 3, none⟩ = some (.slice na nn nc)
section
variable {G S : Nat → Prop} {w : World} {v : Value} {ma : Option Addr} {mn mc : Nat} {la : Option Addr} {ln lc : Nat} {t : Tb}
theorem same_any (h : Duo G S w v ma mn mc la ln lc t) (hg : SM.Good t) (hb : t.mods.length ≤ 10000 ∧ t.L.length ≤ 80000) (x : Ac) (hx : AcOk (fun g => ¬ S g ∧ g < w.heap.size) w x) (hn : x.nm.length ≤ 2097152) (hns : ∀ s ∈ x.ns, s.length ≤ 2097152) :
    Calls Tryz.prog 12 #[v, tbV ma mn mc la ln lc, acV x] w fun e u => e = .returned (.bool true) ∧ Below w.heap.size w u := by
  obtain ⟨xk, xn, xg, na, nn, nc, ns⟩ := x
  simp only at hn hns
  have hrd := hx.ns
  simp only at hrd
  obtain ⟨lm, ll, _, _⟩ := h.R.lens
  obtain ⟨n1, n2, n3⟩ := reads_len hrd
  rw [strs_len] at n1
  unfold maxLen at n3
  have hn3 : (nn : Int) ≤ 9223372036854775807 := by omega
  have q3 : (nn : Int) ≤ nc := by omega
  have hn2 : (ln : Int) ≤ 9223372036854775807 := by omega
  have J0 := Lib.hid (EJ.new w (tbC ma mn mc la ln lc) #[.int .u8 xk, .string (bs xn), .int .i64 xg, .slice na nn nc])
  have hRw : RdT (· < w.heap.size) w ma mn mc la ln lc t := h.R.mono fun g hg => (h.GS g hg).2
  have hq2 : (ln : Int) ≤ lc := by have := hRw.en.len.2.1; omega
  have hr8 : ∀ e ∈ t.L, 0 ≤ e.refs ∧ e.refs ≤ 8 := fun e he => ⟨(hg.bd e he).2.2.2.2.1, (hg.bd e he).2.2.2.2.2⟩
  have kp : ∀ u, Below w.heap.size w u → PT S u v t := fun u hb0 => h.P.keep hb0.size fun g hg => hb0.block g (h.P.lt g hg)
  have CL := Lib.hid (fun (u : World) (hb0 : Below w.heap.size w u) => list_any (kp u hb0) hg hb)
  have CR := Lib.hid (fun (u : World) (hb0 : Below w.heap.size w u) => refs_any (kp u hb0) hg hb xn (by omega))
  have CH := Lib.hid (fun (u : World) (hb0 : Below w.heap.size w u) => has_any (kp u hb0) hg hb xn (by omega))
  have CF : Hid (∀ (u : World) (hb0 : Below w.heap.size w u) (k : Nat), k < nn → Calls Tryz.prog 14 #[v, .string (bs (ns.getD k []))] u fun e u' => e = .returned (.tuple #[enV (findM t.L (ns.getD k [])).1, .int .i64 (findM t.L (ns.getD k [])).2]) ∧ Below u.heap.size u u') := Lib.hid (fun u hb0 k hk => find_any (kp u hb0) hg hb (ns.getD k []) (Nat.le_trans (hns _ (by rw [List.getD_eq_getElem?_getD, List.getElem?_eq_getElem (by omega)]; exact List.getElem_mem _)) (by omega)))
  have DR := Lib.hid (fun (u : World) (hb0 : Below w.heap.size w u) => refRefs_any (hRw.go hb0 hb0.size) hr8 (by omega) xn)
  have DH := Lib.hid (fun (u : World) (hb0 : Below w.heap.size w u) => refHas_any (hRw.go hb0 hb0.size) xn)
  have DF := Lib.hid (fun (u : World) (hb0 : Below w.heap.size w u) (s : List UInt8) => refFind_any (hRw.go hb0 hb0.size) s)
  have HE := Lib.hid hRw.en
  have HN := Lib.hid (hrd.mono (G' := (· < w.heap.size)) fun g hg => hg.2)
  have HG : Hid (∀ k, k < ln → (0 ≤ (t.L.getD k e0).gate ∧ (t.L.getD k e0).gate ≤ 7) ∧ (0 ≤ (t.L.getD k e0).idx ∧ (t.L.getD k e0).idx ≤ 7) ∧ 0 ≤ (t.L.getD k e0).refs ∧ (t.L.getD k e0).refs ≤ 8) := Lib.hid (fun k hk => by
    have := hg.bd _ (getD_mem (l := t.L) (k := k) (by omega))
    omega)
  have AW := Lib.hid (And.intro ll n1)
  rw [ll] at CL
  clear h hg hb hx hn hns hrd lm hRw kp hr8 n2 n3
  change Calls _ _ #[v, tbV ma mn mc la ln lc, .agg #[.int .u8 xk, .string (bs xn), .int .i64 xg, .slice na nn nc]] w _
  generalize bs xn = y at *
  generalize refsM t.L xn = R at *
  generalize hasM t xn = HB at *
  go_enter Tryz.func12, Tryz.ntmps12
  go_upto_region 1 with fail
  generalize (w.alloc (.cells (tbC ma mn mc la ln lc) 30)).alloc (.cells #[.int .u8 xk, .string y, .int .i64 xg, .slice na nn nc] 34) = W at *
  have hW2 := J0.out.Y.lt
  go_upto_region 2 with (go_at_call 21; (with_reducible refine (CL.out _ J0.out.B).mono ?_); rintro e w1 ⟨a1, c1, rfl, hO, hc1, hB⟩; have J1 := Lib.hid (J0.out.belowS hB); have O1 := Lib.hid hO; have hsz1 := hB.size; clear hB hO)
  have hbd1 : Below w1.heap.size w1 w1.drew := (Below.refl _ _).drew
  have J2 := Lib.hid (J1.out.belowS hbd1)
  have O2 := Lib.hid (owns_below O1.out hbd1)
  have K0 : BX w.heap.size ma mn mc la ln lc xk y xg na nn nc w1.drew := ⟨two_cells J2.out.X, four_cells J2.out.Y⟩
  have hcl : (ln : Int) ≤ c1 := by obtain ⟨_, _, e1, h1⟩ := owns_le O1.out; simp only [Value.slice.injEq] at e1; omega
  unfold maxLen at hc1
  clear J1 O1 hbd1
  refine wp_region_held_drew (S := fun u => BX w.heap.size ma mn mc la ln lc xk y xg na nn nc u) (by kernel_rfl) K0 (fun hHeld => ?_)
  refine wpAnyH_take (i := 0) (v := ?avv0) rfl (by kernel_rfl) (by kernel_rfl) (by kernel_rfl) (fun _ _ _ h => h) (Or.inl ⟨by rfl, ?ahy0⟩) (by assumption) ?arest0
  case ahy0 =>
    intro u hSu
    obtain ⟨⟨s0, s1⟩, s2, s3, s4, s5⟩ := hSu
    go_simp
    try with_reducible rfl
  try simp only [Act.put, List.getElem_toArray, List.getElem_cons_succ, List.getElem_cons_zero, List.setIfInBounds_toArray, List.set_cons_zero, List.set_cons_succ]
  refine wpAnyH_take (i := 1) (v := ?avv1) rfl (by kernel_rfl) (by kernel_rfl) (by kernel_rfl) (fun _ _ _ h => h) (Or.inl ⟨by rfl, ?ahy1⟩) (by assumption) ?arest1
  case ahy1 =>
    intro u hSu
    obtain ⟨⟨s0, s1⟩, s2, s3, s4, s5⟩ := hSu
    go_simp
    try with_reducible rfl
  try simp only [Act.put, List.getElem_toArray, List.getElem_cons_succ, List.getElem_cons_zero, List.setIfInBounds_toArray, List.set_cons_zero, List.set_cons_succ]
  refine wpAnyH_take (i := 2) (v := ?avv2) rfl (by kernel_rfl) (by kernel_rfl) (by kernel_rfl) (fun _ _ _ h => h) (Or.inl ⟨by rfl, ?ahy2⟩) (by assumption) ?arest2
  case ahy2 =>
    intro u hSu
    obtain ⟨⟨s0, s1⟩, s2, s3, s4, s5⟩ := hSu
    go_simp
    try with_reducible rfl
  try simp only [Act.put, List.getElem_toArray, List.getElem_cons_succ, List.getElem_cons_zero, List.setIfInBounds_toArray, List.set_cons_zero, List.set_cons_succ]
  refine wpAnyH_take (i := 3) (v := ?avv3) rfl (by kernel_rfl) (by kernel_rfl) (by kernel_rfl) (fun _ _ _ h => h) (Or.inl ⟨by rfl, ?ahy3⟩) (by assumption) ?arest3
  case ahy3 =>
    intro u hSu
    obtain ⟨⟨s0, s1⟩, s2, s3, s4, s5⟩ := hSu
    go_simp
    try with_reducible rfl
  try simp only [Act.put, List.getElem_toArray, List.getElem_cons_succ, List.getElem_cons_zero, List.setIfInBounds_toArray, List.set_cons_zero, List.set_cons_succ]
  refine wpAnyH_take (i := 4) (v := ?avv4) rfl (by kernel_rfl) (by kernel_rfl) (by kernel_rfl) (fun _ _ _ h => h) (Or.inl ⟨by rfl, ?ahy4⟩) (by assumption) ?arest4
  case ahy4 =>
    intro u hSu
    obtain ⟨⟨s0, s1⟩, s2, s3, s4, s5⟩ := hSu
    go_simp
    try with_reducible rfl
  try simp only [Act.put, List.getElem_toArray, List.getElem_cons_succ, List.getElem_cons_zero, List.setIfInBounds_toArray, List.set_cons_zero, List.set_cons_succ]
  refine wpAnyH_take (i := 5) (v := ?avv5) rfl (by kernel_rfl) (by kernel_rfl) (by kernel_rfl) (fun _ _ _ h => h) (Or.inl ⟨by rfl, ?ahy5⟩) (by assumption) ?arest5
  case ahy5 =>
    intro u hSu
    obtain ⟨⟨s0, s1⟩, s2, s3, s4, s5⟩ := hSu
    go_simp
    try with_reducible rfl
  try simp only [Act.put, List.getElem_toArray, List.getElem_cons_succ, List.getElem_cons_zero, List.setIfInBounds_toArray, List.set_cons_zero, List.set_cons_succ]
  refine wpAnyH_take (i := 6) (v := ?avv6) rfl (by kernel_rfl) (by kernel_rfl) (by kernel_rfl) (fun _ _ _ h => h) (Or.inl ⟨by rfl, ?ahy6⟩) (by assumption) ?arest6
  case ahy6 =>
    intro u hSu
    obtain ⟨⟨s0, s1⟩, s2, s3, s4, s5⟩ := hSu
    go_simp
    try with_reducible rfl
  try simp only [Act.put, List.getElem_toArray, List.getElem_cons_succ, List.getElem_cons_zero, List.setIfInBounds_toArray, List.set_cons_zero, List.set_cons_succ]
  refine wpAnyH_take (i := 7) (v := ?avv7) rfl (by kernel_rfl) (by kernel_rfl) (by kernel_rfl) (fun _ _ _ h => h) (Or.inl ⟨by rfl, ?ahy7⟩) (by assumption) ?arest7
  case ahy7 =>
    intro u hSu
    obtain ⟨⟨s0, s1⟩, s2, s3, s4, s5⟩ := hSu
    go_simp
    try with_reducible rfl
  try simp only [Act.put, List.getElem_toArray, List.getElem_cons_succ, List.getElem_cons_zero, List.setIfInBounds_toArray, List.set_cons_zero, List.set_cons_succ]
  refine wpAnyH_take (i := 8) (v := ?avv8) rfl (by kernel_rfl) (by kernel_rfl) (by kernel_rfl) (fun _ _ _ h => h) (Or.inl ⟨by rfl, ?ahy8⟩) (by assumption) ?arest8
  case ahy8 =>
    intro u hSu
    obtain ⟨⟨s0, s1⟩, s2, s3, s4, s5⟩ := hSu
    go_simp
    try with_reducible rfl
  try simp only [Act.put, List.getElem_toArray, List.getElem_cons_succ, List.getElem_cons_zero, List.setIfInBounds_toArray, List.set_cons_zero, List.set_cons_succ]
  refine wpAnyH_take (i := 9) (v := ?avv9) rfl (by kernel_rfl) (by kernel_rfl) (by kernel_rfl) (fun _ _ _ h => h) (Or.inl ⟨by rfl, ?ahy9⟩) (by assumption) ?arest9
  case ahy9 =>
    intro u hSu
    obtain ⟨⟨s0, s1⟩, s2, s3, s4, s5⟩ := hSu
    go_simp
    try with_reducible rfl
  try simp only [Act.put, List.getElem_toArray, List.getElem_cons_succ, List.getElem_cons_zero, List.setIfInBounds_toArray, List.set_cons_zero, List.set_cons_succ]
  refine wpAnyH_take (i := 11) (v := ?avv11) rfl (by kernel_rfl) (by kernel_rfl) (by kernel_rfl) (fun _ _ _ h => h) (Or.inl ⟨by rfl, ?ahy11⟩) (by assumption) ?arest11
  case ahy11 =>
    intro u hSu
    obtain ⟨⟨s0, s1⟩, s2, s3, s4, s5⟩ := hSu
    go_simp
    try with_reducible rfl
  try simp only [Act.put, List.getElem_toArray, List.getElem_cons_succ, List.getElem_cons_zero, List.setIfInBounds_toArray, List.set_cons_zero, List.set_cons_succ]
  refine wpAnyH_take (i := 12) (v := ?avv12) rfl (by kernel_rfl) (by kernel_rfl) (by kernel_rfl) (fun _ _ _ h => h) (Or.inl ⟨by rfl, ?ahy12⟩) (by assumption) ?arest12
  case ahy12 =>
    intro u hSu
    obtain ⟨⟨s0, s1⟩, s2, s3, s4, s5⟩ := hSu
    go_simp
    try with_reducible rfl
  try simp only [Act.put, List.getElem_toArray, List.getElem_cons_succ, List.getElem_cons_zero, List.setIfInBounds_toArray, List.set_cons_zero, List.set_cons_succ]
  refine wpAnyH_take (i := 13) (v := ?avv13) rfl (by kernel_rfl) (by kernel_rfl) (by kernel_rfl) (fun _ _ _ h => h) (Or.inl ⟨by rfl, ?ahy13⟩) (by assumption) ?arest13
  case ahy13 =>
    intro u hSu
    obtain ⟨⟨s0, s1⟩, s2, s3, s4, s5⟩ := hSu
    go_simp
    try with_reducible rfl
  try simp only [Act.put, List.getElem_toArray, List.getElem_cons_succ, List.getElem_cons_zero, List.setIfInBounds_toArray, List.set_cons_zero, List.set_cons_succ]
  refine wpAnyH_ready (rs := [10]) (by kernel_rfl) (by simp) ?_
  refine AllReadyH.cons rfl (fun K hK => ?_) AllReadyH.nil
  (go_simp; go_at_call 19; (with_reducible refine (CR.out _ J2.out.B).mono ?_); rintro e w2 ⟨rfl, hB⟩; have J3 := Lib.hid (J2.out.belowS hB); have O3 := Lib.hid (owns_below O2.out hB); have K1 : BX w.heap.size ma mn mc la ln lc xk y xg na nn nc w2 := ⟨two_cells J3.out.X, four_cells J3.out.Y⟩; clear hB)
  refine hK.out _ _ ?ahS10 (fun hHeld => ?arest10)
  case ahS10 => first | exact K4 | exact K3 | exact K2 | exact K1
  clear hK K
  try simp only [Act.put, List.getElem_toArray, List.getElem_cons_succ, List.getElem_cons_zero, List.setIfInBounds_toArray, List.set_cons_zero, List.set_cons_succ]
  refine wpAnyH_ready (rs := [14]) (by kernel_rfl) (by simp) ?_
  refine AllReadyH.cons rfl (fun K hK => ?_) AllReadyH.nil
  (go_simp; go_at_call 26; (with_reducible refine (DR.out _ J3.out.B).mono ?_); rintro e w3 ⟨rfl, hB⟩; have J4 := Lib.hid (J3.out.belowS hB); have O4 := Lib.hid (owns_below O3.out hB); have K2 : BX w.heap.size ma mn mc la ln lc xk y xg na nn nc w3 := ⟨two_cells J4.out.X, four_cells J4.out.Y⟩; clear hB)
  refine hK.out _ _ ?ahS14 (fun hHeld => ?arest14)
  case ahS14 => first | exact K4 | exact K3 | exact K2 | exact K1
  clear hK K
  try simp only [Act.put, List.getElem_toArray, List.getElem_cons_succ, List.getElem_cons_zero, List.setIfInBounds_toArray, List.set_cons_zero, List.set_cons_succ]
  refine wpAnyH_take (i := 15) (v := ?avv15) rfl (by kernel_rfl) (by kernel_rfl) (by kernel_rfl) (fun _ _ _ h => h) (Or.inl ⟨by rfl, ?ahy15⟩) (by assumption) ?arest15
  case ahy15 =>
    intro u hSu
    obtain ⟨⟨s0, s1⟩, s2, s3, s4, s5⟩ := hSu
    go_simp
    try with_reducible rfl
  try simp only [Act.put, List.getElem_toArray, List.getElem_cons_succ, List.getElem_cons_zero, List.setIfInBounds_toArray, List.set_cons_zero, List.set_cons_succ]
  refine wpAnyH_take (i := 16) (v := ?avv16) rfl (by kernel_rfl) (by kernel_rfl) (by kernel_rfl) (fun _ _ _ h => h) (Or.inl ⟨by rfl, ?ahy16⟩) (by assumption) ?arest16
  case ahy16 =>
    intro u hSu
    obtain ⟨⟨s0, s1⟩, s2, s3, s4, s5⟩ := hSu
    go_simp
    try with_reducible rfl
  try simp only [Act.put, List.getElem_toArray, List.getElem_cons_succ, List.getElem_cons_zero, List.setIfInBounds_toArray, List.set_cons_zero, List.set_cons_succ]
  refine wpAnyH_take (i := 17) (v := ?avv17) rfl (by kernel_rfl) (by kernel_rfl) (by kernel_rfl) (fun _ _ _ h => h) (Or.inl ⟨by rfl, ?ahy17⟩) (by assumption) ?arest17
  case ahy17 =>
    intro u hSu
    obtain ⟨⟨s0, s1⟩, s2, s3, s4, s5⟩ := hSu
    go_simp
    try with_reducible rfl
  try simp only [Act.put, List.getElem_toArray, List.getElem_cons_succ, List.getElem_cons_zero, List.setIfInBounds_toArray, List.set_cons_zero, List.set_cons_succ]
  refine wpAnyH_take (i := 18) (v := ?avv18) rfl (by kernel_rfl) (by kernel_rfl) (by kernel_rfl) (fun _ _ _ h => h) (Or.inl ⟨by rfl, ?ahy18⟩) (by assumption) ?arest18
  case ahy18 =>
    intro u hSu
    obtain ⟨⟨s0, s1⟩, s2, s3, s4, s5⟩ := hSu
    go_simp
    try with_reducible rfl
  try simp only [Act.put, List.getElem_toArray, List.getElem_cons_succ, List.getElem_cons_zero, List.setIfInBounds_toArray, List.set_cons_zero, List.set_cons_succ]
  refine wpAnyH_take (i := 19) (v := ?avv19) rfl (by kernel_rfl) (by kernel_rfl) (by kernel_rfl) (fun _ _ _ h => h) (Or.inl ⟨by rfl, ?ahy19⟩) (by assumption) ?arest19
  case ahy19 =>
    intro u hSu
    obtain ⟨⟨s0, s1⟩, s2, s3, s4, s5⟩ := hSu
    go_simp
    try with_reducible rfl
  try simp only [Act.put, List.getElem_toArray, List.getElem_cons_succ, List.getElem_cons_zero, List.setIfInBounds_toArray, List.set_cons_zero, List.set_cons_succ]
  refine wpAnyH_take (i := 20) (v := ?avv20) rfl (by kernel_rfl) (by kernel_rfl) (by kernel_rfl) (fun _ _ _ h => h) (Or.inl ⟨by rfl, ?ahy20⟩) (by assumption) ?arest20
  case ahy20 =>
    intro u hSu
    obtain ⟨⟨s0, s1⟩, s2, s3, s4, s5⟩ := hSu
    go_simp
    try with_reducible rfl
  try simp only [Act.put, List.getElem_toArray, List.getElem_cons_succ, List.getElem_cons_zero, List.setIfInBounds_toArray, List.set_cons_zero, List.set_cons_succ]
  refine wpAnyH_take (i := 22) (v := ?avv22) rfl (by kernel_rfl) (by kernel_rfl) (by kernel_rfl) (fun _ _ _ h => h) (Or.inl ⟨by rfl, ?ahy22⟩) (by assumption) ?arest22
  case ahy22 =>
    intro u hSu
    obtain ⟨⟨s0, s1⟩, s2, s3, s4, s5⟩ := hSu
    go_simp
    try with_reducible rfl
  try simp only [Act.put, List.getElem_toArray, List.getElem_cons_succ, List.getElem_cons_zero, List.setIfInBounds_toArray, List.set_cons_zero, List.set_cons_succ]
  refine wpAnyH_take (i := 23) (v := ?avv23) rfl (by kernel_rfl) (by kernel_rfl) (by kernel_rfl) (fun _ _ _ h => h) (Or.inl ⟨by rfl, ?ahy23⟩) (by assumption) ?arest23
  case ahy23 =>
    intro u hSu
    obtain ⟨⟨s0, s1⟩, s2, s3, s4, s5⟩ := hSu
    go_simp
    try with_reducible rfl
  try simp only [Act.put, List.getElem_toArray, List.getElem_cons_succ, List.getElem_cons_zero, List.setIfInBounds_toArray, List.set_cons_zero, List.set_cons_succ]
  refine wpAnyH_take (i := 24) (v := ?avv24) rfl (by kernel_rfl) (by kernel_rfl) (by kernel_rfl) (fun _ _ _ h => h) (Or.inl ⟨by rfl, ?ahy24⟩) (by assumption) ?arest24
  case ahy24 =>
    intro u hSu
    obtain ⟨⟨s0, s1⟩, s2, s3, s4, s5⟩ := hSu
    go_simp
    try with_reducible rfl
  try simp only [Act.put, List.getElem_toArray, List.getElem_cons_succ, List.getElem_cons_zero, List.setIfInBounds_toArray, List.set_cons_zero, List.set_cons_succ]
  refine wpAnyH_ready (rs := [21]) (by kernel_rfl) (by simp) ?_
  refine AllReadyH.cons rfl (fun K hK => ?_) AllReadyH.nil
  (go_simp; go_at_call 20; (with_reducible refine (CH.out _ J4.out.B).mono ?_); rintro e w4 ⟨rfl, hB⟩; have J5 := Lib.hid (J4.out.belowS hB); have O5 := Lib.hid (owns_below O4.out hB); have K3 : BX w.heap.size ma mn mc la ln lc xk y xg na nn nc w4 := ⟨two_cells J5.out.X, four_cells J5.out.Y⟩; clear hB)
  refine hK.out _ _ ?ahS21 (fun hHeld => ?arest21)
  case ahS21 => first | exact K4 | exact K3 | exact K2 | exact K1
  clear hK K
  try simp only [Act.put, List.getElem_toArray, List.getElem_cons_succ, List.getElem_cons_zero, List.setIfInBounds_toArray, List.set_cons_zero, List.set_cons_succ]
  refine wpAnyH_ready (rs := [25]) (by kernel_rfl) (by simp) ?_
  refine AllReadyH.cons rfl (fun K hK => ?_) AllReadyH.nil
  (go_simp; go_at_call 27; (with_reducible refine (DH.out _ J5.out.B).mono ?_); rintro e w5 ⟨rfl, hB⟩; have J6 := Lib.hid (J5.out.belowS hB); have O6 := Lib.hid (owns_below O5.out hB); have K4 : BX w.heap.size ma mn mc la ln lc xk y xg na nn nc w5 := ⟨two_cells J6.out.X, four_cells J6.out.Y⟩; clear hB)
  refine hK.out _ _ ?ahS25 (fun hHeld => ?arest25)
  case ahS25 => first | exact K4 | exact K3 | exact K2 | exact K1
  clear hK K
  try simp only [Act.put, List.getElem_toArray, List.getElem_cons_succ, List.getElem_cons_zero, List.setIfInBounds_toArray, List.set_cons_zero, List.set_cons_succ]
  refine wpAnyH_take (i := 26) (v := ?avv26) rfl (by kernel_rfl) (by kernel_rfl) (by kernel_rfl) (fun _ _ _ h => h) (Or.inl ⟨by rfl, ?ahy26⟩) (by assumption) ?arest26
  case ahy26 =>
    intro u hSu
    obtain ⟨⟨s0, s1⟩, s2, s3, s4, s5⟩ := hSu
    go_simp
    try with_reducible rfl
  try simp only [Act.put, List.getElem_toArray, List.getElem_cons_succ, List.getElem_cons_zero, List.setIfInBounds_toArray, List.set_cons_zero, List.set_cons_succ]
  refine wpAnyH_take (i := 27) (v := ?avv27) rfl (by kernel_rfl) (by kernel_rfl) (by kernel_rfl) (fun _ _ _ h => h) (Or.inl ⟨by rfl, ?ahy27⟩) (by assumption) ?arest27
  case ahy27 =>
    intro u hSu
    obtain ⟨⟨s0, s1⟩, s2, s3, s4, s5⟩ := hSu
    go_simp
    try with_reducible rfl
  try simp only [Act.put, List.getElem_toArray, List.getElem_cons_succ, List.getElem_cons_zero, List.setIfInBounds_toArray, List.set_cons_zero, List.set_cons_succ]
  refine wpAnyH_done (by kernel_rfl) ?_ _
  clear K0 K1 K2 K3 K4 O2 O3 O4 O5 J2 J3 J4 J5 CL CR CH DR DH J0
  go_wp2_with fail
  go_loopw [8] (fun i wr => ∃ k : Nat, k ≤ ln ∧ i = .int .i64 (k : Int) ∧ Hid (EJ w (tbC ma mn mc la ln lc) #[.int .u8 xk, .string y, .int .i64 xg, .slice na nn nc] wr) ∧ Hid (wr.ownsRow W.heap.size 37 5 (.slice a1 ln c1) ln (eC (incK t.L k)))) (fun i _ => ln - (intOf i).toNat)
  case atStart => exact ⟨0, by omega, rfl, J6, by rw [incK_zero]; exact O6⟩
  case round =>
    obtain ⟨k, hk, rfl, J, O⟩ := hrel
    clear J6 O6
    by_cases hlt : k < ln
    · have hlt' : (k : Int) < ln := by omega
      have ha1 : ∃ q, a1 = some ⟨q, 0, none⟩ := by
        rcases O.out.2 with ⟨h0, h1⟩ | ⟨q, _, _, e1, _⟩
        · omega
        · simp only [Value.slice.injEq] at e1
          exact ⟨q, e1.1⟩
      obtain ⟨q, rfl⟩ := ha1
      obtain ⟨cur, WQ⟩ := owns_whole O.out (g := q) rfl
      have hq := (owns_lt O.out (g := q) rfl).1
      obtain ⟨g, off, rfl, q1, _⟩ := HE.out.at (Below.refl _ _) hlt
      have hil := incK_len t.L k
      have hat := eC_at (incK t.L k) k (by rw [hil, AW.out.1]; exact hlt)
      rw [incK_at t.L k (by rw [AW.out.1]; exact hlt)] at hat
      obtain ⟨g7, i7, r8⟩ := HG.out k hlt
      have hbd2 : Below wr.heap.size wr wr.drew := (Below.refl _ _).drew
      have KF : Hid (∀ u, EJ w (tbC ma mn mc (some ⟨g, off, none⟩) ln lc) #[.int .u8 xk, .string y, .int .i64 xg, .slice na nn nc] u → u.ownsRow W.heap.size 37 5 (.slice (some ⟨q, 0, none⟩) ln c1) ln (eC (incK t.L k)) → BX w.heap.size ma mn mc (some ⟨g, off, none⟩) ln lc xk y xg na nn nc u ∧ EnAt u g (off + k * 5) (t.L.getD k e0) ∧ EnAt u q (k * 5) (t.L.getD k e0)) := Lib.hid (fun u hJ hO => by
        obtain ⟨g', off', e, _, e1⟩ := HE.out.at hJ.B hlt
        simp only [Option.some.injEq, Addr.mk.injEq, and_true] at e
        obtain ⟨rfl, rfl⟩ := e
        exact ⟨⟨two_cells hJ.X, four_cells hJ.Y⟩, e1, (hO.cellAt _ (by omega)).trans hat.1, (hO.cellAt _ (by omega)).trans hat.2.1, (hO.cellAt _ (by omega)).trans hat.2.2.1, (hO.cellAt _ (by omega)).trans hat.2.2.2.1, (hO.cellAt _ (by omega)).trans hat.2.2.2.2⟩)
      have hst := incK_set t.L k (by rw [AW.out.1]; exact hlt)
      have HST := Lib.hid hst
      have HIL : Hid ((incK t.L k).length = ln) := Lib.hid (by rw [hil, AW.out.1])
      clear hat hil hst
      obtain ⟨E, hE⟩ : ∃ E, E = t.L.getD k e0 := ⟨_, rfl⟩
      rw [← hE] at KF g7 i7 r8 HST
      have hE := Lib.hid hE
      obtain ⟨en, em, eg, ei, er⟩ := E
      simp only at g7 i7 r8
      change Hid ((incK t.L k).set k { (incK t.L k).getD k e0 with refs := er + 1 } = _) at HST
      have KF : Hid (∀ u : World, EJ w (tbC ma mn mc (some ⟨g, off, none⟩) ln lc) #[.int .u8 xk, .string y, .int .i64 xg, .slice na nn nc] u → u.ownsRow W.heap.size 37 5 (.slice (some ⟨q, 0, none⟩) ln c1) ln (eC (incK t.L k)) → BX w.heap.size ma mn mc (some ⟨g, off, none⟩) ln lc xk y xg na nn nc u ∧ (u.cell? ⟨g, off + k * 5, none⟩ = some (.string (bs en)) ∧ u.cell? ⟨g, off + k * 5 + 1, none⟩ = some (.string (bs em)) ∧ u.cell? ⟨g, off + k * 5 + 2, none⟩ = some (.int .i64 eg) ∧ u.cell? ⟨g, off + k * 5 + 3, none⟩ = some (.int .i64 ei) ∧ u.cell? ⟨g, off + k * 5 + 4, none⟩ = some (.int .i64 er)) ∧ (u.cell? ⟨q, k * 5, none⟩ = some (.string (bs en)) ∧ u.cell? ⟨q, k * 5 + 1, none⟩ = some (.string (bs em)) ∧ u.cell? ⟨q, k * 5 + 2, none⟩ = some (.int .i64 eg) ∧ u.cell? ⟨q, k * 5 + 3, none⟩ = some (.int .i64 ei) ∧ u.cell? ⟨q, k * 5 + 4, none⟩ = some (.int .i64 er))) := KF
      have CS1 := Lib.hid (slot_any (bs en) (bs em) eg ei er g7 i7)
      have CS2 := Lib.hid (refSlot_any (bs en) (bs em) eg ei er g7 i7)
      have hw : IntKind.i64.wrap (er + 1) = er + 1 := by rw [IntKind.wrap_i64]; omega
      have J2 := Lib.hid (J.out.belowS hbd2)
      have O2 := Lib.hid (owns_below O.out hbd2)
      have K0 := KF.out _ J2.out O2.out
      generalize bs en = b1 at *
      generalize bs em = b2 at *
      clear hE g7 i7
      go_upto_region 7 with fail
      refine wp_region_held_drew (S := fun u => BX w.heap.size ma mn mc (some ⟨g, off, none⟩) ln lc xk y xg na nn nc u ∧ (u.cell? ⟨g, off + k * 5, none⟩ = some (.string b1) ∧ u.cell? ⟨g, off + k * 5 + 1, none⟩ = some (.string b2) ∧ u.cell? ⟨g, off + k * 5 + 2, none⟩ = some (.int .i64 eg) ∧ u.cell? ⟨g, off + k * 5 + 3, none⟩ = some (.int .i64 ei) ∧ u.cell? ⟨g, off + k * 5 + 4, none⟩ = some (.int .i64 er)) ∧ (u.cell? ⟨q, k * 5, none⟩ = some (.string b1) ∧ u.cell? ⟨q, k * 5 + 1, none⟩ = some (.string b2) ∧ u.cell? ⟨q, k * 5 + 2, none⟩ = some (.int .i64 eg) ∧ u.cell? ⟨q, k * 5 + 3, none⟩ = some (.int .i64 ei) ∧ u.cell? ⟨q, k * 5 + 4, none⟩ = some (.int .i64 er))) (by kernel_rfl) K0 (fun hHeld => ?_)
      refine wpAnyH_take (i := 0) (v := ?bvv0) rfl (by kernel_rfl) (by kernel_rfl) (by kernel_rfl) (fun _ _ _ h => h) (Or.inl ⟨by rfl, ?bhy0⟩) (by assumption) ?brest0
      case bhy0 =>
        intro u hSu
        obtain ⟨⟨⟨s0, s1⟩, s2, s3, s4, s5⟩, ⟨e0, e1, e2, e3, e4⟩, ⟨l0, l1, l2, l3, l4⟩⟩ := hSu
        go_simp
        try with_reducible rfl
      try simp only [Act.put, List.getElem_toArray, List.getElem_cons_succ, List.getElem_cons_zero, List.setIfInBounds_toArray, List.set_cons_zero, List.set_cons_succ]
      refine wpAnyH_take (i := 1) (v := ?bvv1) rfl (by kernel_rfl) (by kernel_rfl) (by kernel_rfl) (fun _ _ _ h => h) (Or.inl ⟨by rfl, ?bhy1⟩) (by assumption) ?brest1
      case bhy1 =>
        intro u hSu
        obtain ⟨⟨⟨s0, s1⟩, s2, s3, s4, s5⟩, ⟨e0, e1, e2, e3, e4⟩, ⟨l0, l1, l2, l3, l4⟩⟩ := hSu
        go_simp
        try with_reducible rfl
      try simp only [Act.put, List.getElem_toArray, List.getElem_cons_succ, List.getElem_cons_zero, List.setIfInBounds_toArray, List.set_cons_zero, List.set_cons_succ]
      refine wpAnyH_take (i := 2) (v := ?bvv2) rfl (by kernel_rfl) (by kernel_rfl) (by kernel_rfl) (fun _ _ _ h => h) (Or.inl ⟨by rfl, ?bhy2⟩) (by assumption) ?brest2
      case bhy2 =>
        intro u hSu
        obtain ⟨⟨⟨s0, s1⟩, s2, s3, s4, s5⟩, ⟨e0, e1, e2, e3, e4⟩, ⟨l0, l1, l2, l3, l4⟩⟩ := hSu
        go_simp
        try with_reducible rfl
      try simp only [Act.put, List.getElem_toArray, List.getElem_cons_succ, List.getElem_cons_zero, List.setIfInBounds_toArray, List.set_cons_zero, List.set_cons_succ]
      refine wpAnyH_take (i := 3) (v := ?bvv3) rfl (by kernel_rfl) (by kernel_rfl) (by kernel_rfl) (fun _ _ _ h => h) (Or.inl ⟨by rfl, ?bhy3⟩) (by assumption) ?brest3
      case bhy3 =>
        intro u hSu
        obtain ⟨⟨⟨s0, s1⟩, s2, s3, s4, s5⟩, ⟨e0, e1, e2, e3, e4⟩, ⟨l0, l1, l2, l3, l4⟩⟩ := hSu
        go_simp
        try with_reducible rfl
      try simp only [Act.put, List.getElem_toArray, List.getElem_cons_succ, List.getElem_cons_zero, List.setIfInBounds_toArray, List.set_cons_zero, List.set_cons_succ]
      refine wpAnyH_take (i := 4) (v := ?bvv4) rfl (by kernel_rfl) (by kernel_rfl) (by kernel_rfl) (fun _ _ _ h => h) (Or.inl ⟨by rfl, ?bhy4⟩) (by assumption) ?brest4
      case bhy4 =>
        intro u hSu
        obtain ⟨⟨⟨s0, s1⟩, s2, s3, s4, s5⟩, ⟨e0, e1, e2, e3, e4⟩, ⟨l0, l1, l2, l3, l4⟩⟩ := hSu
        go_simp
        try with_reducible rfl
      try simp only [Act.put, List.getElem_toArray, List.getElem_cons_succ, List.getElem_cons_zero, List.setIfInBounds_toArray, List.set_cons_zero, List.set_cons_succ]
      refine wpAnyH_take (i := 5) (v := ?bvv5) rfl (by kernel_rfl) (by kernel_rfl) (by kernel_rfl) (fun _ _ _ h => h) (Or.inl ⟨by rfl, ?bhy5⟩) (by assumption) ?brest5
      case bhy5 =>
        intro u hSu
        obtain ⟨⟨⟨s0, s1⟩, s2, s3, s4, s5⟩, ⟨e0, e1, e2, e3, e4⟩, ⟨l0, l1, l2, l3, l4⟩⟩ := hSu
        go_simp
        try with_reducible rfl
      try simp only [Act.put, List.getElem_toArray, List.getElem_cons_succ, List.getElem_cons_zero, List.setIfInBounds_toArray, List.set_cons_zero, List.set_cons_succ]
      refine wpAnyH_take (i := 6) (v := ?bvv6) rfl (by kernel_rfl) (by kernel_rfl) (by kernel_rfl) (fun _ _ _ h => h) (Or.inl ⟨by rfl, ?bhy6⟩) (by assumption) ?brest6
      case bhy6 =>
        intro u hSu
        obtain ⟨⟨⟨s0, s1⟩, s2, s3, s4, s5⟩, ⟨e0, e1, e2, e3, e4⟩, ⟨l0, l1, l2, l3, l4⟩⟩ := hSu
        go_simp
        try with_reducible rfl
      try simp only [Act.put, List.getElem_toArray, List.getElem_cons_succ, List.getElem_cons_zero, List.setIfInBounds_toArray, List.set_cons_zero, List.set_cons_succ]
      refine wpAnyH_take (i := 7) (v := ?bvv7) rfl (by kernel_rfl) (by kernel_rfl) (by kernel_rfl) (fun _ _ _ h => h) (Or.inl ⟨by rfl, ?bhy7⟩) (by assumption) ?brest7
      case bhy7 =>
        intro u hSu
        obtain ⟨⟨⟨s0, s1⟩, s2, s3, s4, s5⟩, ⟨e0, e1, e2, e3, e4⟩, ⟨l0, l1, l2, l3, l4⟩⟩ := hSu
        go_simp
        try with_reducible rfl
      try simp only [Act.put, List.getElem_toArray, List.getElem_cons_succ, List.getElem_cons_zero, List.setIfInBounds_toArray, List.set_cons_zero, List.set_cons_succ]
      refine wpAnyH_take (i := 8) (v := ?bvv8) rfl (by kernel_rfl) (by kernel_rfl) (by kernel_rfl) (fun _ _ _ h => h) (Or.inl ⟨by rfl, ?bhy8⟩) (by assumption) ?brest8
      case bhy8 =>
        intro u hSu
        obtain ⟨⟨⟨s0, s1⟩, s2, s3, s4, s5⟩, ⟨e0, e1, e2, e3, e4⟩, ⟨l0, l1, l2, l3, l4⟩⟩ := hSu
        go_simp
        try with_reducible rfl
      try simp only [Act.put, List.getElem_toArray, List.getElem_cons_succ, List.getElem_cons_zero, List.setIfInBounds_toArray, List.set_cons_zero, List.set_cons_succ]
      refine wpAnyH_take (i := 9) (v := ?bvv9) rfl (by kernel_rfl) (by kernel_rfl) (by kernel_rfl) (fun _ _ _ h => h) (Or.inl ⟨by rfl, ?bhy9⟩) (by assumption) ?brest9
      case bhy9 =>
        intro u hSu
        obtain ⟨⟨⟨s0, s1⟩, s2, s3, s4, s5⟩, ⟨e0, e1, e2, e3, e4⟩, ⟨l0, l1, l2, l3, l4⟩⟩ := hSu
        go_simp
        try with_reducible rfl
      try simp only [Act.put, List.getElem_toArray, List.getElem_cons_succ, List.getElem_cons_zero, List.setIfInBounds_toArray, List.set_cons_zero, List.set_cons_succ]
      refine wpAnyH_take (i := 10) (v := ?bvv10) rfl (by kernel_rfl) (by kernel_rfl) (by kernel_rfl) (fun _ _ _ h => h) (Or.inl ⟨by rfl, ?bhy10⟩) (by assumption) ?brest10
      case bhy10 =>
        intro u hSu
        obtain ⟨⟨⟨s0, s1⟩, s2, s3, s4, s5⟩, ⟨e0, e1, e2, e3, e4⟩, ⟨l0, l1, l2, l3, l4⟩⟩ := hSu
        go_simp
        try with_reducible rfl
      try simp only [Act.put, List.getElem_toArray, List.getElem_cons_succ, List.getElem_cons_zero, List.setIfInBounds_toArray, List.set_cons_zero, List.set_cons_succ]
      refine wpAnyH_take (i := 11) (v := ?bvv11) rfl (by kernel_rfl) (by kernel_rfl) (by kernel_rfl) (fun _ _ _ h => h) (Or.inl ⟨by rfl, ?bhy11⟩) (by assumption) ?brest11
      case bhy11 =>
        intro u hSu
        obtain ⟨⟨⟨s0, s1⟩, s2, s3, s4, s5⟩, ⟨e0, e1, e2, e3, e4⟩, ⟨l0, l1, l2, l3, l4⟩⟩ := hSu
        go_simp
        try with_reducible rfl
      try simp only [Act.put, List.getElem_toArray, List.getElem_cons_succ, List.getElem_cons_zero, List.setIfInBounds_toArray, List.set_cons_zero, List.set_cons_succ]
      refine wpAnyH_take (i := 12) (v := ?bvv12) rfl (by kernel_rfl) (by kernel_rfl) (by kernel_rfl) (fun _ _ _ h => h) (Or.inl ⟨by rfl, ?bhy12⟩) (by assumption) ?brest12
      case bhy12 =>
        intro u hSu
        obtain ⟨⟨⟨s0, s1⟩, s2, s3, s4, s5⟩, ⟨e0, e1, e2, e3, e4⟩, ⟨l0, l1, l2, l3, l4⟩⟩ := hSu
        go_simp
        try with_reducible rfl
      try simp only [Act.put, List.getElem_toArray, List.getElem_cons_succ, List.getElem_cons_zero, List.setIfInBounds_toArray, List.set_cons_zero, List.set_cons_succ]
      refine wpAnyH_take (i := 13) (v := ?bvv13) rfl (by kernel_rfl) (by kernel_rfl) (by kernel_rfl) (fun _ _ _ h => h) (Or.inl ⟨by rfl, ?bhy13⟩) (by assumption) ?brest13
      case bhy13 =>
        intro u hSu
        obtain ⟨⟨⟨s0, s1⟩, s2, s3, s4, s5⟩, ⟨e0, e1, e2, e3, e4⟩, ⟨l0, l1, l2, l3, l4⟩⟩ := hSu
        go_simp
        try with_reducible rfl
      try simp only [Act.put, List.getElem_toArray, List.getElem_cons_succ, List.getElem_cons_zero, List.setIfInBounds_toArray, List.set_cons_zero, List.set_cons_succ]
      refine wpAnyH_take (i := 14) (v := ?bvv14) rfl (by kernel_rfl) (by kernel_rfl) (by kernel_rfl) (fun _ _ _ h => h) (Or.inl ⟨by rfl, ?bhy14⟩) (by assumption) ?brest14
      case bhy14 =>
        intro u hSu
        obtain ⟨⟨⟨s0, s1⟩, s2, s3, s4, s5⟩, ⟨e0, e1, e2, e3, e4⟩, ⟨l0, l1, l2, l3, l4⟩⟩ := hSu
        go_simp
        try with_reducible rfl
      try simp only [Act.put, List.getElem_toArray, List.getElem_cons_succ, List.getElem_cons_zero, List.setIfInBounds_toArray, List.set_cons_zero, List.set_cons_succ]
      refine wpAnyH_take (i := 16) (v := ?bvv16) rfl (by kernel_rfl) (by kernel_rfl) (by kernel_rfl) (fun _ _ _ h => h) (Or.inl ⟨by rfl, ?bhy16⟩) (by assumption) ?brest16
      case bhy16 =>
        intro u hSu
        obtain ⟨⟨⟨s0, s1⟩, s2, s3, s4, s5⟩, ⟨e0, e1, e2, e3, e4⟩, ⟨l0, l1, l2, l3, l4⟩⟩ := hSu
        go_simp
        try with_reducible rfl
      try simp only [Act.put, List.getElem_toArray, List.getElem_cons_succ, List.getElem_cons_zero, List.setIfInBounds_toArray, List.set_cons_zero, List.set_cons_succ]
      refine wpAnyH_take (i := 17) (v := ?bvv17) rfl (by kernel_rfl) (by kernel_rfl) (by kernel_rfl) (fun _ _ _ h => h) (Or.inl ⟨by rfl, ?bhy17⟩) (by assumption) ?brest17
      case bhy17 =>
        intro u hSu
        obtain ⟨⟨⟨s0, s1⟩, s2, s3, s4, s5⟩, ⟨e0, e1, e2, e3, e4⟩, ⟨l0, l1, l2, l3, l4⟩⟩ := hSu
        go_simp
        try with_reducible rfl
      try simp only [Act.put, List.getElem_toArray, List.getElem_cons_succ, List.getElem_cons_zero, List.setIfInBounds_toArray, List.set_cons_zero, List.set_cons_succ]
      refine wpAnyH_take (i := 18) (v := ?bvv18) rfl (by kernel_rfl) (by kernel_rfl) (by kernel_rfl) (fun _ _ _ h => h) (Or.inl ⟨by rfl, ?bhy18⟩) (by assumption) ?brest18
      case bhy18 =>
        intro u hSu
        obtain ⟨⟨⟨s0, s1⟩, s2, s3, s4, s5⟩, ⟨e0, e1, e2, e3, e4⟩, ⟨l0, l1, l2, l3, l4⟩⟩ := hSu
        go_simp
        try with_reducible rfl
      try simp only [Act.put, List.getElem_toArray, List.getElem_cons_succ, List.getElem_cons_zero, List.setIfInBounds_toArray, List.set_cons_zero, List.set_cons_succ]
      refine wpAnyH_take (i := 19) (v := ?bvv19) rfl (by kernel_rfl) (by kernel_rfl) (by kernel_rfl) (fun _ _ _ h => h) (Or.inl ⟨by rfl, ?bhy19⟩) (by assumption) ?brest19
      case bhy19 =>
        intro u hSu
        obtain ⟨⟨⟨s0, s1⟩, s2, s3, s4, s5⟩, ⟨e0, e1, e2, e3, e4⟩, ⟨l0, l1, l2, l3, l4⟩⟩ := hSu
        go_simp
        try with_reducible rfl
      try simp only [Act.put, List.getElem_toArray, List.getElem_cons_succ, List.getElem_cons_zero, List.setIfInBounds_toArray, List.set_cons_zero, List.set_cons_succ]
      refine wpAnyH_take (i := 20) (v := ?bvv20) rfl (by kernel_rfl) (by kernel_rfl) (by kernel_rfl) (fun _ _ _ h => h) (Or.inl ⟨by rfl, ?bhy20⟩) (by assumption) ?brest20
      case bhy20 =>
        intro u hSu
        obtain ⟨⟨⟨s0, s1⟩, s2, s3, s4, s5⟩, ⟨e0, e1, e2, e3, e4⟩, ⟨l0, l1, l2, l3, l4⟩⟩ := hSu
        go_simp
        try with_reducible rfl
      try simp only [Act.put, List.getElem_toArray, List.getElem_cons_succ, List.getElem_cons_zero, List.setIfInBounds_toArray, List.set_cons_zero, List.set_cons_succ]
      refine wpAnyH_ready (rs := [15]) (by kernel_rfl) (by simp) ?_
      refine AllReadyH.cons rfl (fun K hK => ?_) AllReadyH.nil
      (go_simp; go_at_call 22; (with_reducible refine (CS1.out _).mono ?_); rintro e w6 ⟨rfl, hB⟩; have J3 := Lib.hid (J2.out.belowS hB); have O3 := Lib.hid (owns_below O2.out hB); have K3 := KF.out _ J3.out O3.out; clear hB)
      refine hK.out _ _ ?bhS15 (fun hHeld => ?brest15)
      case bhS15 => first | exact K4 | exact K3
      clear hK K
      try simp only [Act.put, List.getElem_toArray, List.getElem_cons_succ, List.getElem_cons_zero, List.setIfInBounds_toArray, List.set_cons_zero, List.set_cons_succ]
      refine wpAnyH_ready (rs := [21]) (by kernel_rfl) (by simp) ?_
      refine AllReadyH.cons rfl (fun K hK => ?_) AllReadyH.nil
      (go_simp; go_at_call 28; (with_reducible refine (CS2.out _).mono ?_); rintro e w7 ⟨rfl, hB⟩; have J4 := Lib.hid (J3.out.belowS hB); have O4 := Lib.hid (owns_below O3.out hB); have K4 := KF.out _ J4.out O4.out; clear hB)
      refine hK.out _ _ ?bhS21 (fun hHeld => ?brest21)
      case bhS21 => first | exact K4 | exact K3
      clear hK K
      try simp only [Act.put, List.getElem_toArray, List.getElem_cons_succ, List.getElem_cons_zero, List.setIfInBounds_toArray, List.set_cons_zero, List.set_cons_succ]
      refine wpAnyH_take (i := 22) (v := ?bvv22) rfl (by kernel_rfl) (by kernel_rfl) (by kernel_rfl) (fun _ _ _ h => h) (Or.inl ⟨by rfl, ?bhy22⟩) (by assumption) ?brest22
      case bhy22 =>
        intro u hSu
        obtain ⟨⟨⟨s0, s1⟩, s2, s3, s4, s5⟩, ⟨e0, e1, e2, e3, e4⟩, ⟨l0, l1, l2, l3, l4⟩⟩ := hSu
        go_simp
        try with_reducible rfl
      try simp only [Act.put, List.getElem_toArray, List.getElem_cons_succ, List.getElem_cons_zero, List.setIfInBounds_toArray, List.set_cons_zero, List.set_cons_succ]
      refine wpAnyH_take (i := 23) (v := ?bvv23) rfl (by kernel_rfl) (by kernel_rfl) (by kernel_rfl) (fun _ _ _ h => h) (Or.inl ⟨by rfl, ?bhy23⟩) (by assumption) ?brest23
      case bhy23 =>
        intro u hSu
        obtain ⟨⟨⟨s0, s1⟩, s2, s3, s4, s5⟩, ⟨e0, e1, e2, e3, e4⟩, ⟨l0, l1, l2, l3, l4⟩⟩ := hSu
        go_simp
        try with_reducible rfl
      try simp only [Act.put, List.getElem_toArray, List.getElem_cons_succ, List.getElem_cons_zero, List.setIfInBounds_toArray, List.set_cons_zero, List.set_cons_succ]
      refine wpAnyH_done (by kernel_rfl) ?_ _
      obtain ⟨_, _, _, _, _, _, r4⟩ := K4
      obtain ⟨cur4, WQ4⟩ := owns_whole O4.out (g := q) rfl
      have rf := WQ4.frozen (k * 5 + 4)
      have rl := WQ4.lt
      have O5 := owns_put O4.out (i := k * 5 + 4) (by omega) (.int .i64 (er + 1))
      rw [eC_set (incK t.L k) k (er + 1) (by rw [HIL.out]; exact hlt), HST.out] at O5
      have J5 := Lib.hid (J4.out.set (p := ⟨q, k * 5 + 4, none⟩) (show w.heap.size + 2 ≤ q by omega) (.int .i64 (er + 1)))
      have O5 := Lib.hid O5
      clear K0 K3 J2 J3 J4 O2 O3 O4 J O KF HST HIL CS1 CS2 WQ WQ4
      go_wp2_with fail
      go_roundw
      case rel => exact ⟨k + 1, by omega, by go_num, J5, O5⟩
      case measure => simp [intOf]; omega
    · obtain rfl : k = ln := by omega
      clear O HG
      go_wp2_with fail
      go_loopw [9] (fun i wr => ∃ k2 : Nat, k2 ≤ nn ∧ i = .int .i64 (k2 : Int) ∧ Hid (EJ w (tbC ma mn mc la k lc) #[.int .u8 xk, .string y, .int .i64 xg, .slice na nn nc] wr)) (fun i _ => nn - (intOf i).toNat)
      case atStart => exact ⟨0, by omega, rfl, J⟩
      case round =>
        obtain ⟨k2, hk2, rfl, J2⟩ := hrel
        clear J
        obtain ⟨a0, a1', a2, a3⟩ := four_cells J2.out.Y
        have a6 := J2.out.Y.lt
        by_cases hlt : k2 < nn
        · have hlt' : (k2 : Int) < nn := by omega
          have kl : k2 < ns.length := by rw [AW.out.2]; exact hlt
          obtain ⟨g, off, rfl, q1, _⟩ := reads_at HN.out (Below.refl _ _) hlt
          have RE : Hid (∀ u, Below w.heap.size w u → u.cell? ⟨g, off + k2, none⟩ = some (.string (bs (ns.getD k2 [])))) := Lib.hid (fun u hu => by
            obtain ⟨g', off', e2, _, e3⟩ := reads_at HN.out hu hlt
            simp only [Option.some.injEq, Addr.mk.injEq, and_true] at e2
            obtain ⟨rfl, rfl⟩ := e2
            rw [strs_at kl] at e3
            exact e3)
          have CC := Lib.hid (fun u hb0 => CF.out u hb0 k2 hlt)
          have DD := Lib.hid (fun u hb0 => DF.out u hb0 (ns.getD k2 []))
          obtain ⟨E, hE⟩ : ∃ E, E = (findM t.L (ns.getD k2 [])).1 := ⟨_, rfl⟩
          obtain ⟨M, hM⟩ : ∃ M, M = (findM t.L (ns.getD k2 [])).2 := ⟨_, rfl⟩
          rw [← hE, ← hM] at CC DD
          obtain ⟨en, em, eg, ei, er⟩ := E
          change Hid (∀ u hb0, Calls _ _ _ _ fun e u' => e = .returned (.tuple #[.agg #[.string (bs en), .string (bs em), .int .i64 eg, .int .i64 ei, .int .i64 er], .int .i64 M]) ∧ _) at CC
          change Hid (∀ u hb0, Calls _ _ _ _ fun e u' => e = .returned (.tuple #[.agg #[.string (bs en), .string (bs em), .int .i64 eg, .int .i64 ei, .int .i64 er], .int .i64 M]) ∧ _) at DD
          have r0 := RE.out _ J2.out.B
          clear hE hM kl
          generalize hz : bs (ns.getD k2 []) = z at *
          clear hz
          generalize bs en = b1 at *
          generalize bs em = b2 at *
          go_upto_region 14 with (go_at_call 14; (with_reducible refine (CC.out _ J2.out.B).mono ?_); rintro e w8 ⟨rfl, hB⟩; have J3 := Lib.hid (J2.out.belowS hB); clear hB)
          have bn := below_new w8 (.cells #[.string b1, .string b2, .int .i64 eg, .int .i64 ei, .int .i64 er] 37)
          have J4 := Lib.hid (J3.out.belowS bn)
          have PX := Lib.hid (Whole.new w8 37 #[.string b1, .string b2, .int .i64 eg, .int .i64 ei, .int .i64 er])
          clear bn a0 a1' a2 a3 a6 r0 J2 J3
          generalize w8.alloc (.cells #[.string b1, .string b2, .int .i64 eg, .int .i64 ei, .int .i64 er] 37) = W9 at *
          have hbd2 : Below W9.heap.size W9 W9.drew := (Below.refl _ _).drew
          have J5 := Lib.hid (J4.out.belowS hbd2)
          have PX5 := Lib.hid (PX.out.belowS hbd2)
          have KF : Hid (∀ u, EJ w (tbC ma mn mc la k lc) #[.int .u8 xk, .string y, .int .i64 xg, .slice (some ⟨g, off, none⟩) nn nc] u → BX w.heap.size ma mn mc la k lc xk y xg (some ⟨g, off, none⟩) nn nc u ∧ u.cell? ⟨g, off + k2, none⟩ = some (.string z)) := Lib.hid (fun u hJ => ⟨⟨two_cells hJ.X, four_cells hJ.Y⟩, RE.out u hJ.B⟩)
          have K0 := KF.out _ J5.out
          refine wp_region_held_drew (S := fun u => BX w.heap.size ma mn mc la k lc xk y xg (some ⟨g, off, none⟩) nn nc u ∧ u.cell? ⟨g, off + k2, none⟩ = some (.string z)) (by kernel_rfl) K0 (fun hHeld => ?_)
          refine wpAnyH_take (i := 0) (v := ?cvv0) rfl (by kernel_rfl) (by kernel_rfl) (by kernel_rfl) (fun _ _ _ h => h) (Or.inl ⟨by rfl, ?chy0⟩) (by assumption) ?crest0
          case chy0 =>
            intro u hSu
            obtain ⟨⟨⟨s0, s1⟩, s2, s3, s4, s5⟩, s6⟩ := hSu
            go_simp
            try with_reducible rfl
          try simp only [Act.put, List.getElem_toArray, List.getElem_cons_succ, List.getElem_cons_zero, List.setIfInBounds_toArray, List.set_cons_zero, List.set_cons_succ]
          refine wpAnyH_take (i := 1) (v := ?cvv1) rfl (by kernel_rfl) (by kernel_rfl) (by kernel_rfl) (fun _ _ _ h => h) (Or.inl ⟨by rfl, ?chy1⟩) (by assumption) ?crest1
          case chy1 =>
            intro u hSu
            obtain ⟨⟨⟨s0, s1⟩, s2, s3, s4, s5⟩, s6⟩ := hSu
            go_simp
            try with_reducible rfl
          try simp only [Act.put, List.getElem_toArray, List.getElem_cons_succ, List.getElem_cons_zero, List.setIfInBounds_toArray, List.set_cons_zero, List.set_cons_succ]
          refine wpAnyH_take (i := 2) (v := ?cvv2) rfl (by kernel_rfl) (by kernel_rfl) (by kernel_rfl) (fun _ _ _ h => h) (Or.inl ⟨by rfl, ?chy2⟩) (by assumption) ?crest2
          case chy2 =>
            intro u hSu
            obtain ⟨⟨⟨s0, s1⟩, s2, s3, s4, s5⟩, s6⟩ := hSu
            go_simp
            try with_reducible rfl
          try simp only [Act.put, List.getElem_toArray, List.getElem_cons_succ, List.getElem_cons_zero, List.setIfInBounds_toArray, List.set_cons_zero, List.set_cons_succ]
          refine wpAnyH_take (i := 3) (v := ?cvv3) rfl (by kernel_rfl) (by kernel_rfl) (by kernel_rfl) (fun _ _ _ h => h) (Or.inl ⟨by rfl, ?chy3⟩) (by assumption) ?crest3
          case chy3 =>
            intro u hSu
            obtain ⟨⟨⟨s0, s1⟩, s2, s3, s4, s5⟩, s6⟩ := hSu
            go_simp
            try with_reducible rfl
          try simp only [Act.put, List.getElem_toArray, List.getElem_cons_succ, List.getElem_cons_zero, List.setIfInBounds_toArray, List.set_cons_zero, List.set_cons_succ]
          refine wpAnyH_take (i := 4) (v := ?cvv4) rfl (by kernel_rfl) (by kernel_rfl) (by kernel_rfl) (fun _ _ _ h => h) (Or.inl ⟨by rfl, ?chy4⟩) (by assumption) ?crest4
          case chy4 =>
            intro u hSu
            obtain ⟨⟨⟨s0, s1⟩, s2, s3, s4, s5⟩, s6⟩ := hSu
            go_simp
            try with_reducible rfl
          try simp only [Act.put, List.getElem_toArray, List.getElem_cons_succ, List.getElem_cons_zero, List.setIfInBounds_toArray, List.set_cons_zero, List.set_cons_succ]
          refine wpAnyH_take (i := 5) (v := ?cvv5) rfl (by kernel_rfl) (by kernel_rfl) (by kernel_rfl) (fun _ _ _ h => h) (Or.inl ⟨by rfl, ?chy5⟩) (by assumption) ?crest5
          case chy5 =>
            intro u hSu
            obtain ⟨⟨⟨s0, s1⟩, s2, s3, s4, s5⟩, s6⟩ := hSu
            go_simp
            try with_reducible rfl
          try simp only [Act.put, List.getElem_toArray, List.getElem_cons_succ, List.getElem_cons_zero, List.setIfInBounds_toArray, List.set_cons_zero, List.set_cons_succ]
          refine wpAnyH_ready (rs := [6, 10]) (by kernel_rfl) (by simp) ?_
          refine AllReadyH.cons rfl ?_ (AllReadyH.cons rfl ?_ AllReadyH.nil)
          · intro K hK
            go_simp
            go_at_call 29
            with_reducible refine (DD.out _ J5.out.B).mono ?_
            rintro e w10 ⟨rfl, hB⟩
            have J6 := Lib.hid (J5.out.belowS hB)
            have PX6 := Lib.hid (PX5.out.belowS hB)
            have K6 := KF.out _ J6.out
            have b7 := below_new w10 (.cells #[.string ⟨#[]⟩, .string ⟨#[]⟩, .int .i64 0, .int .i64 0, .int .i64 0] 61)
            have K7 := KF.out _ (J6.out.belowS b7)
            have RZ7 := Whole.new w10 61 #[.string ⟨#[]⟩, .string ⟨#[]⟩, .int .i64 0, .int .i64 0, .int .i64 0]
            obtain ⟨y0, y1, y2, y3, y4⟩ := five_cells RZ7
            obtain ⟨yf0, yf1, yf2, yf3, yf4⟩ := five_free RZ7
            have yl := RZ7.lt
            have b8 := below_new w10 (.cells #[.string b1, .string b2, .int .i64 eg, .int .i64 ei, .int .i64 er] 61)
            have J8 := Lib.hid (J6.out.belowS b8)
            have K8 := KF.out _ J8.out
            have PX8 := PX6.out.belowS b8
            have RX8 := Whole.new w10 61 #[.string b1, .string b2, .int .i64 eg, .int .i64 ei, .int .i64 er]
            clear hB b7 b8 RZ7
            refine hK.out _ _ K6 (fun hHeld => ?_)
            clear hK K
            try simp only [Act.put, List.getElem_toArray, List.getElem_cons_succ, List.getElem_cons_zero, List.setIfInBounds_toArray, List.set_cons_zero, List.set_cons_succ]
            refine wpAnyH_take (i := 7) (v := ?dvv7) rfl (by kernel_rfl) (by kernel_rfl) (by kernel_rfl) (fun _ _ _ h => h) (Or.inl ⟨by rfl, ?dhy7⟩) (by assumption) ?drest7
            case dhy7 =>
              intro u hSu
              obtain ⟨⟨⟨s0, s1⟩, s2, s3, s4, s5⟩, s6⟩ := hSu
              go_simp
              try with_reducible rfl
            try simp only [Act.put, List.getElem_toArray, List.getElem_cons_succ, List.getElem_cons_zero, List.setIfInBounds_toArray, List.set_cons_zero, List.set_cons_succ]
            refine wpAnyH_take (i := 8) (v := ?dvv8) rfl (by kernel_rfl) (by kernel_rfl) (by kernel_rfl) (fun _ _ _ h => h) (Or.inl ⟨by rfl, ?dhy8⟩) (by assumption) ?drest8
            case dhy8 =>
              intro u hSu
              obtain ⟨⟨⟨s0, s1⟩, s2, s3, s4, s5⟩, s6⟩ := hSu
              go_simp
              try with_reducible rfl
            try simp only [Act.put, List.getElem_toArray, List.getElem_cons_succ, List.getElem_cons_zero, List.setIfInBounds_toArray, List.set_cons_zero, List.set_cons_succ]
            refine wpAnyH_take (i := 9) (v := ?dvv9) rfl (by kernel_rfl) (by kernel_rfl) (by kernel_rfl) (fun _ _ _ h => h) (Or.inl ⟨by rfl, ?dhy9⟩) (by assumption) ?drest9
            case dhy9 =>
              intro u hSu
              obtain ⟨⟨⟨s0, s1⟩, s2, s3, s4, s5⟩, s6⟩ := hSu
              go_simp
              try with_reducible rfl
            try simp only [Act.put, List.getElem_toArray, List.getElem_cons_succ, List.getElem_cons_zero, List.setIfInBounds_toArray, List.set_cons_zero, List.set_cons_succ]
            refine wpAnyH_ready (rs := [10]) (by kernel_rfl) (by simp) ?_
            refine AllReadyH.cons rfl (fun K hK => ?_) AllReadyH.nil
            go_simp
            refine hK.out _ _ ?dhS10 (fun hHeld => ?drest10)
            case dhS10 => first | exact K8 | exact K7 | exact K6
            clear hK K
            try simp only [Act.put, List.getElem_toArray, List.getElem_cons_succ, List.getElem_cons_zero, List.setIfInBounds_toArray, List.set_cons_zero, List.set_cons_succ]
            refine wpAnyH_ready (rs := [11]) (by kernel_rfl) (by simp) ?_
            refine AllReadyH.cons rfl (fun K hK => ?_) AllReadyH.nil
            go_simp
            refine hK.out _ _ ?dhS11 (fun hHeld => ?drest11)
            case dhS11 => first | exact K8 | exact K7 | exact K6
            clear hK K
            try simp only [Act.put, List.getElem_toArray, List.getElem_cons_succ, List.getElem_cons_zero, List.setIfInBounds_toArray, List.set_cons_zero, List.set_cons_succ]
            refine wpAnyH_take (i := 12) (v := ?dvv12) rfl (by kernel_rfl) (by kernel_rfl) (by kernel_rfl) (fun _ _ _ h => h) (Or.inl ⟨by rfl, ?dhy12⟩) (by assumption) ?drest12
            case dhy12 =>
              intro u hSu
              obtain ⟨⟨⟨s0, s1⟩, s2, s3, s4, s5⟩, s6⟩ := hSu
              go_simp
              try with_reducible rfl
            try simp only [Act.put, List.getElem_toArray, List.getElem_cons_succ, List.getElem_cons_zero, List.setIfInBounds_toArray, List.set_cons_zero, List.set_cons_succ]
            refine wpAnyH_done (by kernel_rfl) ?_ _
            clear y0 y1 y2 y3 y4 yf0 yf1 yf2 yf3 yf4 yl K0 K6 K7 K8 J5 J6 PX5 PX6 J4 PX
            generalize w10.alloc (.cells #[.string b1, .string b2, .int .i64 eg, .int .i64 ei, .int .i64 er] 61) = w11 at *
            obtain ⟨y0, y1, y2, y3, y4⟩ := five_cells RX8
            have yl := RX8.lt
            obtain ⟨x0, x1, x2, x3, x4⟩ := five_cells PX8
            have xl := PX8.lt
            go_wp2_with fail
            go_roundw
            case rel => exact ⟨k2 + 1, by omega, by go_num, J8⟩
            case measure => simp [intOf]; omega
          · intro K hK
            have b7 : Below W9.heap.size W9 ((W9.alloc (.cells #[.string ⟨#[]⟩, .string ⟨#[]⟩, .int .i64 0, .int .i64 0, .int .i64 0] 61)).drew) := (below_new W9 _).drew
            have J6 := Lib.hid (J4.out.belowS b7)
            have PX6 := Lib.hid (PX.out.belowS b7)
            have K6 := KF.out _ J6.out
            have RZ6 : Hid (Whole ((W9.alloc (.cells #[.string ⟨#[]⟩, .string ⟨#[]⟩, .int .i64 0, .int .i64 0, .int .i64 0] 61)).drew) W9.heap.size 61 #[.string ⟨#[]⟩, .string ⟨#[]⟩, .int .i64 0, .int .i64 0, .int .i64 0]) := Lib.hid (Whole.new W9 _ _)
            clear b7
            go_simp
            refine hK.out _ _ K6 (fun hHeld => ?_)
            clear hK K
            try simp only [Act.put, List.getElem_toArray, List.getElem_cons_succ, List.getElem_cons_zero, List.setIfInBounds_toArray, List.set_cons_zero, List.set_cons_succ]
            refine wpAnyH_ready (rs := [6]) (by kernel_rfl) (by simp) ?_
            refine AllReadyH.cons rfl (fun K hK => ?_) AllReadyH.nil
            go_simp
            go_at_call 29
            with_reducible refine (DD.out _ J6.out.B).mono ?_
            rintro e w10 ⟨rfl, hB⟩
            have J7 := Lib.hid (J6.out.belowS hB)
            have PX7 := Lib.hid (PX6.out.belowS hB)
            have K7 := KF.out _ J7.out
            have RZ7 := RZ6.out.belowS hB
            have hw9 := PX.out.lt
            have hww := J4.out.Y.lt
            obtain ⟨y0, y1, y2, y3, y4⟩ := five_cells RZ7
            obtain ⟨yf0, yf1, yf2, yf3, yf4⟩ := five_free RZ7
            have yl := RZ7.lt
            have RX8 := ((((RZ7.set_ 0 (.string b1)).set_ 1 (.string b2)).set_ 2 (.int .i64 eg)).set_ 3 (.int .i64 ei)).set_ 4 (.int .i64 er)
            have J8 := Lib.hid (((((J7.out.set (p := ⟨W9.heap.size, 0, none⟩) hww (.string b1)).set (p := ⟨W9.heap.size, 1, none⟩) hww (.string b2)).set (p := ⟨W9.heap.size, 2, none⟩) hww (.int .i64 eg)).set (p := ⟨W9.heap.size, 3, none⟩) hww (.int .i64 ei)).set (p := ⟨W9.heap.size, 4, none⟩) hww (.int .i64 er))
            have hne : w8.heap.size ≠ W9.heap.size := Nat.ne_of_lt hw9
            have PX8 := Whole.far (Whole.far (Whole.far (Whole.far (Whole.far PX7.out (p := ⟨W9.heap.size, 0, none⟩) hne (.string b1)) (p := ⟨W9.heap.size, 1, none⟩) hne (.string b2)) (p := ⟨W9.heap.size, 2, none⟩) hne (.int .i64 eg)) (p := ⟨W9.heap.size, 3, none⟩) hne (.int .i64 ei)) (p := ⟨W9.heap.size, 4, none⟩) hne (.int .i64 er)
            have K8 := KF.out _ J8.out
            clear hB RZ7
            refine hK.out _ _ K7 (fun hHeld => ?_)
            clear hK K
            try simp only [Act.put, List.getElem_toArray, List.getElem_cons_succ, List.getElem_cons_zero, List.setIfInBounds_toArray, List.set_cons_zero, List.set_cons_succ]
            refine wpAnyH_take (i := 7) (v := ?evv7) rfl (by kernel_rfl) (by kernel_rfl) (by kernel_rfl) (fun _ _ _ h => h) (Or.inl ⟨by rfl, ?ehy7⟩) (by assumption) ?erest7
            case ehy7 =>
              intro u hSu
              obtain ⟨⟨⟨s0, s1⟩, s2, s3, s4, s5⟩, s6⟩ := hSu
              go_simp
              try with_reducible rfl
            try simp only [Act.put, List.getElem_toArray, List.getElem_cons_succ, List.getElem_cons_zero, List.setIfInBounds_toArray, List.set_cons_zero, List.set_cons_succ]
            refine wpAnyH_take (i := 8) (v := ?evv8) rfl (by kernel_rfl) (by kernel_rfl) (by kernel_rfl) (fun _ _ _ h => h) (Or.inl ⟨by rfl, ?ehy8⟩) (by assumption) ?erest8
            case ehy8 =>
              intro u hSu
              obtain ⟨⟨⟨s0, s1⟩, s2, s3, s4, s5⟩, s6⟩ := hSu
              go_simp
              try with_reducible rfl
            try simp only [Act.put, List.getElem_toArray, List.getElem_cons_succ, List.getElem_cons_zero, List.setIfInBounds_toArray, List.set_cons_zero, List.set_cons_succ]
            refine wpAnyH_take (i := 9) (v := ?evv9) rfl (by kernel_rfl) (by kernel_rfl) (by kernel_rfl) (fun _ _ _ h => h) (Or.inl ⟨by rfl, ?ehy9⟩) (by assumption) ?erest9
            case ehy9 =>
              intro u hSu
              obtain ⟨⟨⟨s0, s1⟩, s2, s3, s4, s5⟩, s6⟩ := hSu
              go_simp
              try with_reducible rfl
            try simp only [Act.put, List.getElem_toArray, List.getElem_cons_succ, List.getElem_cons_zero, List.setIfInBounds_toArray, List.set_cons_zero, List.set_cons_succ]
            refine wpAnyH_ready (rs := [11]) (by kernel_rfl) (by simp) ?_
            refine AllReadyH.cons rfl (fun K hK => ?_) AllReadyH.nil
            go_simp
            refine hK.out _ _ ?ehS11 (fun hHeld => ?erest11)
            case ehS11 => first | exact K8 | exact K7
            clear hK K
            try simp only [Act.put, List.getElem_toArray, List.getElem_cons_succ, List.getElem_cons_zero, List.setIfInBounds_toArray, List.set_cons_zero, List.set_cons_succ]
            refine wpAnyH_take (i := 12) (v := ?evv12) rfl (by kernel_rfl) (by kernel_rfl) (by kernel_rfl) (fun _ _ _ h => h) (Or.inl ⟨by rfl, ?ehy12⟩) (by assumption) ?erest12
            case ehy12 =>
              intro u hSu
              obtain ⟨⟨⟨s0, s1⟩, s2, s3, s4, s5⟩, s6⟩ := hSu
              go_simp
              try with_reducible rfl
            try simp only [Act.put, List.getElem_toArray, List.getElem_cons_succ, List.getElem_cons_zero, List.setIfInBounds_toArray, List.set_cons_zero, List.set_cons_succ]
            refine wpAnyH_done (by kernel_rfl) ?_ _
            clear y0 y1 y2 y3 y4 yf0 yf1 yf2 yf3 yf4 yl K0 K6 K7 K8 J5 J6 J7 PX5 PX6 PX7 J4 RZ6
            generalize ((((w10.setCell ⟨W9.heap.size, 0, none⟩ (.string b1)).setCell ⟨W9.heap.size, 1, none⟩ (.string b2)).setCell ⟨W9.heap.size, 2, none⟩ (.int .i64 eg)).setCell ⟨W9.heap.size, 3, none⟩ (.int .i64 ei)).setCell ⟨W9.heap.size, 4, none⟩ (.int .i64 er) = w11 at *
            obtain ⟨y0, y1, y2, y3, y4⟩ := five_cells RX8
            have yl := RX8.lt
            obtain ⟨x0, x1, x2, x3, x4⟩ := five_cells PX8
            have xl := PX8.lt
            go_wp2_with fail
            go_roundw
            case rel => exact ⟨k2 + 1, by omega, by go_num, J8⟩
            case measure => simp [intOf]; omega
        · obtain rfl : k2 = nn := by omega
          clear CF DF HN
          go_wp2_with fail
          go_ret
          exact ⟨rfl, J2.out.B⟩
end
end Go.Proofs.YtleggfofgpiabaaGreat.SP
