/-
  The reference of layer 18: Close. Nothing here is a statement of the seed.
-/
import Derived.Test.YtigalcmhongleaaGtRef4
set_option linter.unusedSimpArgs false
set_option linter.unusedVariables false
namespace Go.Proofs.Ytigalcmhongleaa.GF
open Go.RowKit WM NR OM OR GA
set_option maxHeartbeats 4000000
set_option maxRecDepth 10000
/-- the boxes on the way of Close: the table, the table told, the bind told -/
structure QC (w : World) (f : Tb) (u : World) : Prop where
  X : Whole u w.heap.size 32 (tC f)
  Y : Whole u (w.heap.size + 1) 32 tZ
  Z : Whole u (w.heap.size + 1 + 1) 29 #[.string ⟨#[]⟩, .int .u16 0, .int .u32 0]
  B : Below w.heap.size w u
theorem QC.belowS {w u u' : World} {f : Tb} (h : QC w f u) (hb : Below u.heap.size u u') : QC w f u' := ⟨h.X.belowS hb, h.Y.belowS hb, h.Z.belowS hb, h.B.trans (hb.mono h.B.size)⟩
theorem QC.new (w : World) (f : Tb) : QC w f (((w.alloc (.cells (tC f) 32)).alloc (.cells tZ 32)).alloc (.cells #[.string ⟨#[]⟩, .int .u16 0, .int .u32 0] 29)) := by
  have b1 := below_new w (.cells (tC f) 32)
  have b3 := below_new (w.alloc (.cells (tC f) 32)) (.cells tZ 32)
  have b4 := below_new ((w.alloc (.cells (tC f) 32)).alloc (.cells tZ 32)) (.cells #[.string ⟨#[]⟩, .int .u16 0, .int .u32 0] 29)
  have n3 := Whole.new (w.alloc (.cells (tC f) 32)) 32 tZ
  have n4 := Whole.new ((w.alloc (.cells (tC f) 32)).alloc (.cells tZ 32)) 29 #[.string ⟨#[]⟩, .int .u16 0, .int .u32 0]
  rw [show (w.alloc (.cells (tC f) 32)).heap.size = w.heap.size + 1 by simp] at n3
  rw [show ((w.alloc (.cells (tC f) 32)).alloc (.cells tZ 32)).heap.size = w.heap.size + 1 + 1 by simp] at n4
  exact ⟨((Whole.new w 32 (tC f)).belowS b3).belowS b4, n3.belowS b4, n4, (b1.trans (b3.mono b1.size)).trans (b4.mono (b1.trans (b3.mono b1.size)).size)⟩
section
variable {w : World} {f : Tb}
theorem close_no {X : ByteArray} {E G : Int} {FB : Bd} (hE : (E == 0) = false) (CF : ∀ u, Calls Try.prog 21 #[tV f, .string X] u fun e u2 => e = .returned (.tuple #[.int .i64 G, bdV FB, .int .i64 E]) ∧ Below u.heap.size u u2) : Calls Try.prog 20 #[tV f, .string X] w fun e u => e = .returned (.tuple #[tV f, .int .i64 G, bdV FB, .int .i64 E]) ∧ Below w.heap.size w u := by
  have J0 := Lib.hid (QC.new w f)
  have CF := Lib.hid CF
  go_enter Try.func20, Try.ntmps20
  go_upto_region 1 with fail
  generalize ((w.alloc (.cells (tC f) 32)).alloc (.cells tZ 32)).alloc (.cells #[.string ⟨#[]⟩, .int .u16 0, .int .u32 0] 29) = W at *
  go_upto_region 2 with (first | (refine wl_T rfl (.tmp 2) rfl rfl J0.out.X ?_) | (go_at_call 21; (with_reducible refine (CF.out _).mono ?_); rintro e w1 ⟨rfl, hB⟩; have J1 := Lib.hid (J0.out.belowS hB); clear hB))
  have b9 := below_new w1 (.cells (bdC FB) 29)
  have J3 := Lib.hid (J1.out.belowS b9)
  have T9 := Lib.hid (Whole.new w1 29 (bdC FB))
  have HP9 := Lib.hid (show w.heap.size + 1 + 1 < w1.heap.size from J1.out.Z.lt)
  clear b9 J1 J0 CF
  generalize w1.alloc (.cells #[.string (bs FB.nm), .int .u16 FB.ow, .int .u32 FB.bs] 29) = W3 at *
  generalize w1.heap.size = p9 at *
  go_upto_region 4 with fail
  have HX4 := Lib.hid J3.out.X
  have HY4 := Lib.hid J3.out.Y
  have HZ4 := Lib.hid J3.out.Z
  have HB4 := Lib.hid J3.out.B
  have HT4 := T9
  clear J3
  have hbd : Below W3.heap.size W3 W3.drew := (Below.refl _ _).drew
  have K0 := And.intro (HX4.out.belowS hbd) (HT4.out.belowS hbd)
  have hyd := HY4.out.belowS hbd
  have hzd := HZ4.out.belowS hbd
  have HYD := Lib.hid hyd
  have K1 := And.intro (putT_far (f := f) K0.1 (show w.heap.size ≠ w.heap.size + 1 by omega)) (putT_far (f := f) K0.2 (show p9 ≠ w.heap.size + 1 by have := HP9.out; omega))
  have hz5 := putT_far (f := f) hzd (show w.heap.size + 1 + 1 ≠ w.heap.size + 1 by omega)
  have hy5 := putT_whole hyd rfl f
  have hb5 := putT_below HB4.out.drew (by have := HB4.out.size; exact this) (show w.heap.size ≤ w.heap.size + 1 by omega) f
  have HS5 := Lib.hid hz5
  have HY6 := Lib.hid (putBd_far (b := FB) hy5 (show w.heap.size + 1 ≠ w.heap.size + 1 + 1 by omega))
  have HZ6 := Lib.hid (putBd_whole (b := FB) hz5 rfl)
  have HB6 := Lib.hid (putBd_below (b := FB) hb5 (show w.heap.size ≤ w.heap.size + 1 + 1 by omega))
  have K6 := And.intro (putBd_far (b := FB) K1.1 (show w.heap.size ≠ w.heap.size + 1 + 1 by omega)) (putBd_far (b := FB) K1.2 (show p9 ≠ w.heap.size + 1 + 1 by have := HP9.out; omega))
  have z6 := hz5.lt
  have f0 := hz5.frozen 0
  have f1 := hz5.frozen 1
  have f2 := hz5.frozen 2
  obtain ⟨v0, v1, v2, c0, c1, c2⟩ := box3 hz5 rfl
  clear hyd hzd hz5 hy5 hb5 hbd
  refine wp_region_held_drew (S := fun u => Whole u w.heap.size 32 (tC f) ∧ Whole u p9 29 (bdC FB)) (by kernel_rfl) K0 (fun hHeld => ?_)
  refine wpAnyH_take (i := 0) (v := _) rfl (by kernel_rfl) (by kernel_rfl) (by kernel_rfl) (fun _ _ _ h => h) ((yl_T rfl (.tmp 2) rfl rfl (fun u h => h.1))) (by assumption) ?yyrest0
  try simp only [Act.put, List.getElem_toArray, List.getElem_cons_succ, List.getElem_cons_zero, List.setIfInBounds_toArray, List.set_cons_zero, List.set_cons_succ]
  refine wpAnyH_take (i := 1) (v := ?yyvv1) rfl (by kernel_rfl) (by kernel_rfl) (by kernel_rfl) (fun _ _ _ h => h) (Or.inl ⟨by rfl, ?yyhy1⟩) (by assumption) ?yyrest1
  case yyhy1 =>
    intro u hSu
    obtain ⟨s0, s1, s2⟩ := bd_cells hSu.2; have s6 := hSu.2.lt
    go_simp
    try with_reducible rfl
  try simp only [Act.put, List.getElem_toArray, List.getElem_cons_succ, List.getElem_cons_zero, List.setIfInBounds_toArray, List.set_cons_zero, List.set_cons_succ]
  refine wpAnyH_take (i := 2) (v := ?yyvv2) rfl (by kernel_rfl) (by kernel_rfl) (by kernel_rfl) (fun _ _ _ h => h) (Or.inl ⟨by rfl, ?yyhy2⟩) (by assumption) ?yyrest2
  case yyhy2 =>
    intro u hSu
    obtain ⟨s0, s1, s2⟩ := bd_cells hSu.2; have s6 := hSu.2.lt
    go_simp
    try with_reducible rfl
  try simp only [Act.put, List.getElem_toArray, List.getElem_cons_succ, List.getElem_cons_zero, List.setIfInBounds_toArray, List.set_cons_zero, List.set_cons_succ]
  refine wpAnyH_take (i := 3) (v := ?yyvv3) rfl (by kernel_rfl) (by kernel_rfl) (by kernel_rfl) (fun _ _ _ h => h) (Or.inl ⟨by rfl, ?yyhy3⟩) (by assumption) ?yyrest3
  case yyhy3 =>
    intro u hSu
    obtain ⟨s0, s1, s2⟩ := bd_cells hSu.2; have s6 := hSu.2.lt
    go_simp
    try with_reducible rfl
  try simp only [Act.put, List.getElem_toArray, List.getElem_cons_succ, List.getElem_cons_zero, List.setIfInBounds_toArray, List.set_cons_zero, List.set_cons_succ]
  refine wpAnyH_ready (rs := [4]) (by kernel_rfl) (by simp) ?_
  refine AllReadyH.cons rfl (fun K hK => ?_) AllReadyH.nil
  (refine ws_T rfl rfl HYD.out rfl rfl rfl ?_; generalize putT W3.drew (w.heap.size + 1) f = W5 at *)
  refine hK.out _ _ ?yyhS4 (fun hHeld => ?yyrest4)
  case yyhS4 => first | exact K6 | exact K1
  clear hK K
  try simp only [Act.put, List.getElem_toArray, List.getElem_cons_succ, List.getElem_cons_zero, List.setIfInBounds_toArray, List.set_cons_zero, List.set_cons_succ]
  refine wpAnyH_take (i := 5) (v := ?yyvv5) rfl (by kernel_rfl) (by kernel_rfl) (by kernel_rfl) (fun _ _ _ h => h) (Or.inl ⟨by rfl, ?yyhy5⟩) (by assumption) ?yyrest5
  case yyhy5 =>
    intro u hSu
    obtain ⟨s0, s1, s2⟩ := bd_cells hSu.2; have s6 := hSu.2.lt
    go_simp
    try with_reducible rfl
  try simp only [Act.put, List.getElem_toArray, List.getElem_cons_succ, List.getElem_cons_zero, List.setIfInBounds_toArray, List.set_cons_zero, List.set_cons_succ]
  refine wpAnyH_ready (rs := [6]) (by kernel_rfl) (by simp) ?_
  refine AllReadyH.cons rfl (fun K hK => ?_) AllReadyH.nil
  go_simp
  refine hK.out _ _ ?yyhS6 (fun hHeld => ?yyrest6)
  case yyhS6 => first | exact K6 | exact K1
  clear hK K
  try simp only [Act.put, List.getElem_toArray, List.getElem_cons_succ, List.getElem_cons_zero, List.setIfInBounds_toArray, List.set_cons_zero, List.set_cons_succ]
  refine wpAnyH_take (i := 7) (v := ?yyvv7) rfl (by kernel_rfl) (by kernel_rfl) (by kernel_rfl) (fun _ _ _ h => h) (Or.inl ⟨by rfl, ?yyhy7⟩) (by assumption) ?yyrest7
  case yyhy7 =>
    intro u hSu
    obtain ⟨s0, s1, s2⟩ := bd_cells hSu.2; have s6 := hSu.2.lt
    go_simp
    try with_reducible rfl
  try simp only [Act.put, List.getElem_toArray, List.getElem_cons_succ, List.getElem_cons_zero, List.setIfInBounds_toArray, List.set_cons_zero, List.set_cons_succ]
  refine wpAnyH_done (by kernel_rfl) ?_ _
  clear K0 K1 K6 hHeld z6 f0 f1 f2 c0 c1 c2 HYD HS5
  go_wp2_with fail
  rw [putBd_eq _ (w.heap.size + 1 + 1) _ _ _ FB rfl rfl rfl]
  exact bodyPost_ret (v := .tuple #[tV f, .int .i64 G, bdV FB, .int .i64 E]) (res4 Try.results20 rfl rfl rfl rfl HY6.out HZ6.out) rfl ⟨rfl, HB6.out⟩
theorem close_yes {X : ByteArray} {E : Int} {FB : Bd} {kk : Nat} (hkk : kk < 8) (hE : (E == 0) = true) (CF : ∀ u, Calls Try.prog 21 #[tV f, .string X] u fun e u2 => e = .returned (.tuple #[.int .i64 (kk : Int), bdV FB, .int .i64 E]) ∧ Below u.heap.size u u2) : Calls Try.prog 20 #[tV f, .string X] w fun e u => e = .returned (.tuple #[tV (setT f kk b0), .int .i64 (kk : Int), bdV FB, .int .i64 E]) ∧ Below w.heap.size w u := by
  have J0 := Lib.hid (QC.new w f)
  have CF := Lib.hid CF
  obtain ⟨F, hF⟩ : ∃ q, q = setT f kk b0 := ⟨_, rfl⟩
  rw [← hF]
  have HF := Lib.hid hF
  clear hF
  go_enter Try.func20, Try.ntmps20
  go_upto_region 1 with fail
  generalize ((w.alloc (.cells (tC f) 32)).alloc (.cells tZ 32)).alloc (.cells #[.string ⟨#[]⟩, .int .u16 0, .int .u32 0] 29) = W at *
  go_upto_region 2 with (first | (refine wl_T rfl (.tmp 2) rfl rfl J0.out.X ?_) | (go_at_call 21; (with_reducible refine (CF.out _).mono ?_); rintro e w1 ⟨rfl, hB⟩; have J1 := Lib.hid (J0.out.belowS hB); clear hB))
  have b9 := below_new w1 (.cells (bdC FB) 29)
  have J3 := Lib.hid (J1.out.belowS b9)
  have T9 := Lib.hid (Whole.new w1 29 (bdC FB))
  have HP9 := Lib.hid (show w.heap.size + 1 + 1 < w1.heap.size from J1.out.Z.lt)
  clear b9 J1 J0 CF
  generalize w1.alloc (.cells #[.string (bs FB.nm), .int .u16 FB.ow, .int .u32 FB.bs] 29) = W3 at *
  generalize w1.heap.size = p9 at *
  have kk8 : (kk : Int) < 8 := by omega
  obtain ⟨y0, y1, y2⟩ := box_at J3.out.X hkk
  have x6 := J3.out.X.lt
  have xf0 := J3.out.X.frozen (kk * 3)
  have xf1 := J3.out.X.frozen (kk * 3 + 1)
  have xf2 := J3.out.X.frozen (kk * 3 + 2)
  have HX4 := Lib.hid (box_set J3.out.X hkk b0)
  rw [← HF.out] at HX4
  have far : ∀ q (t : TypeId) (cs : Array Value), w.heap.size ≠ q → Whole W3 q t cs → Whole (((W3.setCell ⟨w.heap.size, kk * 3, none⟩ (.string ⟨#[]⟩)).setCell ⟨w.heap.size, kk * 3 + 1, none⟩ (.int .u16 0)).setCell ⟨w.heap.size, kk * 3 + 2, none⟩ (.int .u32 0)) q t cs := fun q t cs hq hw => ((hw.far (p := ⟨w.heap.size, kk * 3, none⟩) (Ne.symm hq) _).far (p := ⟨w.heap.size, kk * 3 + 1, none⟩) (Ne.symm hq) _).far (p := ⟨w.heap.size, kk * 3 + 2, none⟩) (Ne.symm hq) _
  have HX4 : Hid (Whole (((W3.setCell ⟨w.heap.size, kk * 3, none⟩ (.string ⟨#[]⟩)).setCell ⟨w.heap.size, kk * 3 + 1, none⟩ (.int .u16 0)).setCell ⟨w.heap.size, kk * 3 + 2, none⟩ (.int .u32 0)) w.heap.size 32 (tC F)) := HX4
  have HY4 := Lib.hid (far _ _ _ (by omega) J3.out.Y)
  have HZ4 := Lib.hid (far _ _ _ (by omega) J3.out.Z)
  have HT4 := Lib.hid (far _ _ _ (by have := HP9.out; omega) T9.out)
  have HB4 := Lib.hid (((J3.out.B.setCell (p := ⟨w.heap.size, kk * 3, none⟩) (Nat.le_refl _) (.string ⟨#[]⟩)).setCell (p := ⟨w.heap.size, kk * 3 + 1, none⟩) (Nat.le_refl _) (.int .u16 0)).setCell (p := ⟨w.heap.size, kk * 3 + 2, none⟩) (Nat.le_refl _) (.int .u32 0))
  clear far T9 J3
  go_upto_region 4 with fail
  clear y0 y1 y2 x6 xf0 xf1 xf2
  generalize ((W3.setCell ⟨w.heap.size, kk * 3, none⟩ (.string ⟨#[]⟩)).setCell ⟨w.heap.size, kk * 3 + 1, none⟩ (.int .u16 0)).setCell ⟨w.heap.size, kk * 3 + 2, none⟩ (.int .u32 0) = W4 at *
  have hbd : Below W4.heap.size W4 W4.drew := (Below.refl _ _).drew
  have K0 := And.intro (HX4.out.belowS hbd) (HT4.out.belowS hbd)
  have hyd := HY4.out.belowS hbd
  have hzd := HZ4.out.belowS hbd
  have HYD := Lib.hid hyd
  have K1 := And.intro (putT_far (f := F) K0.1 (show w.heap.size ≠ w.heap.size + 1 by omega)) (putT_far (f := F) K0.2 (show p9 ≠ w.heap.size + 1 by have := HP9.out; omega))
  have hz5 := putT_far (f := F) hzd (show w.heap.size + 1 + 1 ≠ w.heap.size + 1 by omega)
  have hy5 := putT_whole hyd rfl F
  have hb5 := putT_below HB4.out.drew (by have := HB4.out.size; exact this) (show w.heap.size ≤ w.heap.size + 1 by omega) F
  have HS5 := Lib.hid hz5
  have HY6 := Lib.hid (putBd_far (b := FB) hy5 (show w.heap.size + 1 ≠ w.heap.size + 1 + 1 by omega))
  have HZ6 := Lib.hid (putBd_whole (b := FB) hz5 rfl)
  have HB6 := Lib.hid (putBd_below (b := FB) hb5 (show w.heap.size ≤ w.heap.size + 1 + 1 by omega))
  have K6 := And.intro (putBd_far (b := FB) K1.1 (show w.heap.size ≠ w.heap.size + 1 + 1 by omega)) (putBd_far (b := FB) K1.2 (show p9 ≠ w.heap.size + 1 + 1 by have := HP9.out; omega))
  have z6 := hz5.lt
  have f0 := hz5.frozen 0
  have f1 := hz5.frozen 1
  have f2 := hz5.frozen 2
  obtain ⟨v0, v1, v2, c0, c1, c2⟩ := box3 hz5 rfl
  clear hyd hzd hz5 hy5 hb5 hbd
  refine wp_region_held_drew (S := fun u => Whole u w.heap.size 32 (tC F) ∧ Whole u p9 29 (bdC FB)) (by kernel_rfl) K0 (fun hHeld => ?_)
  refine wpAnyH_take (i := 0) (v := _) rfl (by kernel_rfl) (by kernel_rfl) (by kernel_rfl) (fun _ _ _ h => h) ((yl_T rfl (.tmp 2) rfl rfl (fun u h => h.1))) (by assumption) ?yyrest0
  try simp only [Act.put, List.getElem_toArray, List.getElem_cons_succ, List.getElem_cons_zero, List.setIfInBounds_toArray, List.set_cons_zero, List.set_cons_succ]
  refine wpAnyH_take (i := 1) (v := ?yyvv1) rfl (by kernel_rfl) (by kernel_rfl) (by kernel_rfl) (fun _ _ _ h => h) (Or.inl ⟨by rfl, ?yyhy1⟩) (by assumption) ?yyrest1
  case yyhy1 =>
    intro u hSu
    obtain ⟨s0, s1, s2⟩ := bd_cells hSu.2; have s6 := hSu.2.lt
    go_simp
    try with_reducible rfl
  try simp only [Act.put, List.getElem_toArray, List.getElem_cons_succ, List.getElem_cons_zero, List.setIfInBounds_toArray, List.set_cons_zero, List.set_cons_succ]
  refine wpAnyH_take (i := 2) (v := ?yyvv2) rfl (by kernel_rfl) (by kernel_rfl) (by kernel_rfl) (fun _ _ _ h => h) (Or.inl ⟨by rfl, ?yyhy2⟩) (by assumption) ?yyrest2
  case yyhy2 =>
    intro u hSu
    obtain ⟨s0, s1, s2⟩ := bd_cells hSu.2; have s6 := hSu.2.lt
    go_simp
    try with_reducible rfl
  try simp only [Act.put, List.getElem_toArray, List.getElem_cons_succ, List.getElem_cons_zero, List.setIfInBounds_toArray, List.set_cons_zero, List.set_cons_succ]
  refine wpAnyH_take (i := 3) (v := ?yyvv3) rfl (by kernel_rfl) (by kernel_rfl) (by kernel_rfl) (fun _ _ _ h => h) (Or.inl ⟨by rfl, ?yyhy3⟩) (by assumption) ?yyrest3
  case yyhy3 =>
    intro u hSu
    obtain ⟨s0, s1, s2⟩ := bd_cells hSu.2; have s6 := hSu.2.lt
    go_simp
    try with_reducible rfl
  try simp only [Act.put, List.getElem_toArray, List.getElem_cons_succ, List.getElem_cons_zero, List.setIfInBounds_toArray, List.set_cons_zero, List.set_cons_succ]
  refine wpAnyH_ready (rs := [4]) (by kernel_rfl) (by simp) ?_
  refine AllReadyH.cons rfl (fun K hK => ?_) AllReadyH.nil
  (refine ws_T rfl rfl HYD.out rfl rfl rfl ?_; generalize putT W4.drew (w.heap.size + 1) F = W5 at *)
  refine hK.out _ _ ?yyhS4 (fun hHeld => ?yyrest4)
  case yyhS4 => first | exact K6 | exact K1
  clear hK K
  try simp only [Act.put, List.getElem_toArray, List.getElem_cons_succ, List.getElem_cons_zero, List.setIfInBounds_toArray, List.set_cons_zero, List.set_cons_succ]
  refine wpAnyH_take (i := 5) (v := ?yyvv5) rfl (by kernel_rfl) (by kernel_rfl) (by kernel_rfl) (fun _ _ _ h => h) (Or.inl ⟨by rfl, ?yyhy5⟩) (by assumption) ?yyrest5
  case yyhy5 =>
    intro u hSu
    obtain ⟨s0, s1, s2⟩ := bd_cells hSu.2; have s6 := hSu.2.lt
    go_simp
    try with_reducible rfl
  try simp only [Act.put, List.getElem_toArray, List.getElem_cons_succ, List.getElem_cons_zero, List.setIfInBounds_toArray, List.set_cons_zero, List.set_cons_succ]
  refine wpAnyH_ready (rs := [6]) (by kernel_rfl) (by simp) ?_
  refine AllReadyH.cons rfl (fun K hK => ?_) AllReadyH.nil
  go_simp
  refine hK.out _ _ ?yyhS6 (fun hHeld => ?yyrest6)
  case yyhS6 => first | exact K6 | exact K1
  clear hK K
  try simp only [Act.put, List.getElem_toArray, List.getElem_cons_succ, List.getElem_cons_zero, List.setIfInBounds_toArray, List.set_cons_zero, List.set_cons_succ]
  refine wpAnyH_take (i := 7) (v := ?yyvv7) rfl (by kernel_rfl) (by kernel_rfl) (by kernel_rfl) (fun _ _ _ h => h) (Or.inl ⟨by rfl, ?yyhy7⟩) (by assumption) ?yyrest7
  case yyhy7 =>
    intro u hSu
    obtain ⟨s0, s1, s2⟩ := bd_cells hSu.2; have s6 := hSu.2.lt
    go_simp
    try with_reducible rfl
  try simp only [Act.put, List.getElem_toArray, List.getElem_cons_succ, List.getElem_cons_zero, List.setIfInBounds_toArray, List.set_cons_zero, List.set_cons_succ]
  refine wpAnyH_done (by kernel_rfl) ?_ _
  clear K0 K1 K6 hHeld z6 f0 f1 f2 c0 c1 c2 HYD HS5
  go_wp2_with fail
  rw [putBd_eq _ (w.heap.size + 1 + 1) _ _ _ FB rfl rfl rfl]
  exact bodyPost_ret (v := .tuple #[tV F, .int .i64 (kk : Int), bdV FB, .int .i64 E]) (res4 Try.results20 rfl rfl rfl rfl HY6.out HZ6.out) rfl ⟨rfl, HB6.out⟩
theorem refClose_any (m : List UInt8) : Calls Try.prog 20 #[tV f, .string (bs m)] w fun e u => e = .returned (.tuple #[tV (closeM f m).t, .int .i64 (closeM f m).g, bdV (closeM f m).b, .int .i64 (closeM f m).e]) ∧ Below w.heap.size w u := by
  have CF := fun u => refFind_any (w := u) (f := f) m
  rcases fst8_cases (hasB f m) with ⟨hp, -⟩ | ⟨kk, hkk, hp, -, -⟩
  · have hpl : place f m = -1 := hp
    rw [show findM f m = ⟨f, 0, b0, 8⟩ by simp only [findM, hpl]; rfl] at CF
    rw [show closeM f m = ⟨f, 0, b0, 8⟩ by simp only [closeM, hpl]; rfl]
    exact close_no rfl CF
  · have hpl : place f m = (kk : Int) := hp
    have hn : ¬ ((kk : Int) < 0) := by omega
    rw [show findM f m = ⟨f, (kk : Int), f kk, 0⟩ by simp only [findM, hpl, if_neg hn, Int.toNat_natCast]] at CF
    rw [show closeM f m = ⟨setT f kk b0, (kk : Int), f kk, 0⟩ by simp only [closeM, hpl, if_neg hn, Int.toNat_natCast]]
    exact close_yes hkk rfl CF
end
end Go.Proofs.Ytigalcmhongleaa.GF
