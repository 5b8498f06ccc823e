/-
  The reference of layer 17: one more that waits. Nothing here is a statement of the seed.
-/
import Derived.Test.YtcpkiepdpmaeoaaEpTake
set_option linter.unusedSimpArgs false
set_option linter.unusedVariables false
namespace Go.Proofs.Ytcpkiepdpmaeoaa.EF
open Go.RowKit WM NR OM OR EM ER
set_option maxHeartbeats 4000000
set_option maxRecDepth 10000
/-- a clock, an epoch and an error come back -/
def IsRt (G : Nat → Prop) (c : Ck) (o : Int) (w : World) : Ending → World → Prop := fun e u => ∃ la ln lc, e = .returned (.tuple #[ckV (retC c o).now la ln lc, .int .u64 (retV c), .int .i64 (retE c)]) ∧ ReadsW (fun b => (G b ∨ w.heap.size ≤ b) ∧ b < u.heap.size) u (.slice la ln lc) (retC c o).l ∧ Below w.heap.size w u
theorem ret_full {c : Ck} (h : 1099511627776 ≤ c.now) (o : Int) : retC c o = c ∧ retV c = 0 ∧ retE c = 7 := by
  have hf : full c := h
  unfold retC retV retE
  rw [if_pos hf, if_pos hf, if_pos hf]
  exact ⟨rfl, rfl, rfl⟩
theorem ret_less {c : Ck} (h : ¬ 1099511627776 ≤ c.now) (o : Int) : retC c o = ⟨c.now + 1, c.l ++ [⟨o, c.now + 1⟩]⟩ ∧ retV c = c.now + 1 ∧ retE c = 0 := by
  have hf : ¬ full c := h
  unfold retC retV retE
  rw [if_neg hf, if_neg hf, if_neg hf]
  exact ⟨rfl, rfl, rfl⟩
theorem ret_post {G : Nat → Prop} {w u : World} {c : Ck} {o : Int} {B n : Nat} {a1 : Option Addr} {c1 : Nat} {t : TypeId} (hf : ¬ 1099511627776 ≤ c.now) (hB : w.heap.size + 2 ≤ B) (ho : u.ownsRow B t 2 (.slice a1 n c1) n (wC (c.l ++ [⟨o, c.now + 1⟩]))) (hb : Below w.heap.size w u) :
    IsRt G c o w (.returned (.tuple #[ckV (c.now + 1) a1 n c1, .int .u64 (c.now + 1), .int .i64 0])) ((u.setCell ⟨w.heap.size + 1, 0, none⟩ (.int .u64 (c.now + 1))).setCell ⟨w.heap.size + 1, 1, none⟩ (.slice a1 n c1)) := by
  obtain ⟨e1, e2, e3⟩ := ret_less hf o
  have hE := own_set (i := 1) (own_set (i := 0) ho (show w.heap.size + 1 < B by omega) (.int .u64 (c.now + 1))) (show w.heap.size + 1 < B by omega) (.slice a1 n c1)
  refine ⟨a1, n, c1, by rw [e1, e2, e3], ?_, (hb.setCell (by simp) _).setCell (by simp) _⟩
  rw [e1]
  exact (ReadsW.of_owns hE).there.mono fun g hg => ⟨Or.inr (by have := hg.1.1; omega), hg.2⟩
theorem refRet_any {w : World} {G : Nat → Prop} {t : Int} {la : Option Addr} {ln lc : Nat} {l : List Wt} (h : ReadsW G w (.slice la ln lc) l) (hG : ∀ g, G g → g < w.heap.size) (hbd : ln ≤ 100000) (ht : 0 ≤ t ∧ t ≤ 18446744073709551615) (o : Int) :
    Calls Try.prog 25 #[ckV t la ln lc, .int .u16 o] w (IsRt G ⟨t, l⟩ o w) := by
  have b0 := below_new w (.cells (ckC t la ln lc) 29)
  have b1 := below_new (w.alloc (.cells (ckC t la ln lc) 29)) (.cells (ckC 0 none 0 0) 29)
  have hX := (Whole.new w 29 (ckC t la ln lc)).belowS b1
  have hB := b0.trans (b1.mono b0.size)
  have hY := Whole.new (w.alloc (.cells (ckC t la ln lc) 29)) 29 (ckC 0 none 0 0)
  have s0 : (w.alloc (.cells (ckC t la ln lc) 29)).heap.size = w.heap.size + 1 := by simp
  have s1 : w.heap.size + 2 ≤ ((w.alloc (.cells (ckC t la ln lc) 29)).alloc (.cells (ckC 0 none 0 0) 29)).heap.size := by simp
  rw [s0] at hY
  have HX := Lib.hid hX
  have HY := Lib.hid hY
  have HB := Lib.hid hB
  have HS := Lib.hid s1
  obtain ⟨ht1, ht2⟩ := ht
  clear b0 b1 s0 hX hY hB s1
  by_cases hf : 1099511627776 ≤ t
  · have R : Hid (∀ u, Below w.heap.size w u → IsRt G ⟨t, l⟩ o w (.returned (.tuple #[ckV t la ln lc, .int .u64 0, .int .i64 7])) u) := Lib.hid (fun u hu => by
      obtain ⟨e1, e2, e3⟩ := ret_full (c := ⟨t, l⟩) hf o
      refine ⟨la, ln, lc, by rw [e1, e2, e3], ?_, hu⟩
      rw [e1]
      exact (h.keep fun g hg _ => hu.block g (hG g hg)).mono fun g hg => ⟨Or.inl hg, Nat.lt_of_lt_of_le (hG g hg) hu.size⟩)
    clear h hG
    go_enter Try.func25, Try.ntmps25
    go_upto_region 1 with fail
    generalize (w.alloc (.cells (ckC t la ln lc) 29)).alloc (.cells (ckC 0 none 0 0) 29) = w1 at *
    have x0 : w1.cell? ⟨w.heap.size, 0, none⟩ = some (.int .u64 t) := HX.out.cell 0
    have x1 : w1.cell? ⟨w.heap.size, 1, none⟩ = some (.slice la ln lc) := HX.out.cell 1
    have x6 := HX.out.lt
    have d0 := HY.out.lt
    have d1 := HY.out.frozen 0
    have d2 := HY.out.frozen 1
    have d4 : w1.cell? ⟨w.heap.size + 1, 0, none⟩ = some (.int .u64 0) := HY.out.cell 0
    have d5 : w1.cell? ⟨w.heap.size + 1, 1, none⟩ = some (.slice none 0 0) := HY.out.cell 1
    have hz0 : ((w1.setCell ⟨w.heap.size + 1, 0, none⟩ (.int .u64 t)).setCell ⟨w.heap.size + 1, 1, none⟩ (.slice la ln lc)).cell? ⟨w.heap.size + 1, 0, none⟩ = some (.int .u64 t) := ((HY.out.set_ 0 (.int .u64 t)).set_ 1 (.slice la ln lc)).cell 0
    have hz1 : ((w1.setCell ⟨w.heap.size + 1, 0, none⟩ (.int .u64 t)).setCell ⟨w.heap.size + 1, 1, none⟩ (.slice la ln lc)).cell? ⟨w.heap.size + 1, 1, none⟩ = some (.slice la ln lc) := ((HY.out.set_ 0 (.int .u64 t)).set_ 1 (.slice la ln lc)).cell 1
    go_wp2_with fail
    exact bodyPost_ret (v := .tuple #[ckV t la ln lc, .int .u64 0, .int .i64 7]) (by simp [results, Try.results25, go_sem, hz0, hz1]) rfl (R.out _ ((HB.out.setCell (by simp) _).setCell (by simp) _))
  · have hwr : IntKind.u64.wrap (t + 1) = t + 1 := by rw [IntKind.wrap_u64]; omega
    have HPP := Lib.hid (fun (u : World) (B n : Nat) (a1 : Option Addr) (c1 : Nat) (ty : TypeId) => ret_post (G := G) (w := w) (u := u) (c := ⟨t, l⟩) (o := o) (B := B) (n := n) (a1 := a1) (c1 := c1) (t := ty) hf)
    have HT := Lib.hid h
    have HG := Lib.hid hG
    clear h hG
    go_enter Try.func25, Try.ntmps25
    go_upto_region 1 with fail
    generalize (w.alloc (.cells (ckC t la ln lc) 29)).alloc (.cells (ckC 0 none 0 0) 29) = w1 at *
    have x0 : w1.cell? ⟨w.heap.size, 0, none⟩ = some (.int .u64 t) := HX.out.cell 0
    have x6 := HX.out.lt
    go_upto_region 4 with fail
    clear x0 x6
    have hbd0 : Below w1.heap.size w1 w1.drew := (Below.refl _ _).drew
    have B0 : Below w.heap.size w w1.drew := HB.out.drew
    have hx0 := HX.out.belowS hbd0
    have hy0 := HY.out.belowS hbd0
    have S0 : w.heap.size + 2 ≤ w1.drew.heap.size := HS.out
    have S1 : w.heap.size ≤ w1.drew.heap.size := by omega
    have ht1 := (HT.out.keep (w' := w1.drew) (fun g hg _ => B0.block g (HG.out g hg))).there
    have HK := Lib.hid (fun (u : World) (hu : Below w1.drew.heap.size w1.drew u) => show (fun u => u.cell? ⟨w.heap.size, 0, none⟩ = some (.int .u64 t) ∧ u.cell? ⟨w.heap.size, 1, none⟩ = some (.slice la ln lc)) u from ⟨(hx0.belowS hu).cell 0, (hx0.belowS hu).cell 1⟩)
    have K0 : (fun u => u.cell? ⟨w.heap.size, 0, none⟩ = some (.int .u64 t) ∧ u.cell? ⟨w.heap.size, 1, none⟩ = some (.slice la ln lc)) w1.drew := HK.out _ (Below.refl _ _)
    clear HX HY HB HS hbd0 HT HG
    refine wp_region_held_drew (S := (fun u => u.cell? ⟨w.heap.size, 0, none⟩ = some (.int .u64 t) ∧ u.cell? ⟨w.heap.size, 1, none⟩ = some (.slice la ln lc))) (by kernel_rfl) K0 (fun hHeld => ?_)
    refine wpAnyH_take (i := 0) (v := ?evv0) rfl (by kernel_rfl) (by kernel_rfl) (by kernel_rfl) (fun _ _ _ h => h) (Or.inl ⟨by rfl, ?ehy0⟩) (by assumption) ?erest0
    case ehy0 =>
      intro u hSu
      obtain ⟨s0, s1⟩ := hSu
      go_simp
      try with_reducible rfl
    try simp only [Act.put, List.getElem_toArray, List.getElem_cons_succ, List.getElem_cons_zero, List.setIfInBounds_toArray, List.set_cons_zero, List.set_cons_succ]
    refine wpAnyH_take (i := 1) (v := ?evv1) rfl (by kernel_rfl) (by kernel_rfl) (by kernel_rfl) (fun _ _ _ h => h) (Or.inl ⟨by rfl, ?ehy1⟩) (by assumption) ?erest1
    case ehy1 =>
      intro u hSu
      obtain ⟨s0, s1⟩ := hSu
      go_simp
      try with_reducible rfl
    try simp only [Act.put, List.getElem_toArray, List.getElem_cons_succ, List.getElem_cons_zero, List.setIfInBounds_toArray, List.set_cons_zero, List.set_cons_succ]
    refine wpAnyH_take (i := 2) (v := ?evv2) rfl (by kernel_rfl) (by kernel_rfl) (by kernel_rfl) (fun _ _ _ h => h) (Or.inl ⟨by rfl, ?ehy2⟩) (by assumption) ?erest2
    case ehy2 =>
      intro u hSu
      obtain ⟨s0, s1⟩ := hSu
      go_simp
      try with_reducible rfl
    try simp only [Act.put, List.getElem_toArray, List.getElem_cons_succ, List.getElem_cons_zero, List.setIfInBounds_toArray, List.set_cons_zero, List.set_cons_succ]
    refine wpAnyH_take (i := 3) (v := ?evv3) rfl (by kernel_rfl) (by kernel_rfl) (by kernel_rfl) (fun _ _ _ h => h) (Or.inl ⟨by rfl, ?ehy3⟩) (by assumption) ?erest3
    case ehy3 =>
      intro u hSu
      obtain ⟨s0, s1⟩ := hSu
      go_simp
      try with_reducible rfl
    try simp only [Act.put, List.getElem_toArray, List.getElem_cons_succ, List.getElem_cons_zero, List.setIfInBounds_toArray, List.set_cons_zero, List.set_cons_succ]
    refine wpAnyH_take (i := 4) (v := ?evv4) rfl (by kernel_rfl) (by kernel_rfl) (by kernel_rfl) (fun _ _ _ h => h) (Or.inl ⟨by rfl, ?ehy4⟩) (by assumption) ?erest4
    case ehy4 =>
      intro u hSu
      obtain ⟨s0, s1⟩ := hSu
      go_simp
      try with_reducible rfl
    try simp only [Act.put, List.getElem_toArray, List.getElem_cons_succ, List.getElem_cons_zero, List.setIfInBounds_toArray, List.set_cons_zero, List.set_cons_succ]
    refine wpAnyH_take (i := 5) (v := ?evv5) rfl (by kernel_rfl) (by kernel_rfl) (by kernel_rfl) (fun _ _ _ h => h) (Or.inl ⟨by rfl, ?ehy5⟩) (by assumption) ?erest5
    case ehy5 =>
      intro u hSu
      obtain ⟨s0, s1⟩ := hSu
      go_simp
      try with_reducible rfl
    try simp only [Act.put, List.getElem_toArray, List.getElem_cons_succ, List.getElem_cons_zero, List.setIfInBounds_toArray, List.set_cons_zero, List.set_cons_succ]
    refine wpAnyH_take (i := 7) (v := ?evv7) rfl (by kernel_rfl) (by kernel_rfl) (by kernel_rfl) (fun _ _ _ h => h) (Or.inl ⟨by rfl, ?ehy7⟩) (by assumption) ?erest7
    case ehy7 =>
      intro u hSu
      obtain ⟨s0, s1⟩ := hSu
      go_simp
      try with_reducible rfl
    try simp only [Act.put, List.getElem_toArray, List.getElem_cons_succ, List.getElem_cons_zero, List.setIfInBounds_toArray, List.set_cons_zero, List.set_cons_succ]
    refine wpAnyH_take (i := 8) (v := ?evv8) rfl (by kernel_rfl) (by kernel_rfl) (by kernel_rfl) (fun _ _ _ h => h) (Or.inl ⟨by rfl, ?ehy8⟩) (by assumption) ?erest8
    case ehy8 =>
      intro u hSu
      obtain ⟨s0, s1⟩ := hSu
      go_simp
      try with_reducible rfl
    try simp only [Act.put, List.getElem_toArray, List.getElem_cons_succ, List.getElem_cons_zero, List.setIfInBounds_toArray, List.set_cons_zero, List.set_cons_succ]
    refine wpAnyH_take (i := 9) (v := ?evv9) rfl (by kernel_rfl) (by kernel_rfl) (by kernel_rfl) (fun _ _ _ h => h) (Or.inl ⟨by rfl, ?ehy9⟩) (by assumption) ?erest9
    case ehy9 =>
      intro u hSu
      obtain ⟨s0, s1⟩ := hSu
      go_simp
      try with_reducible rfl
    try simp only [Act.put, List.getElem_toArray, List.getElem_cons_succ, List.getElem_cons_zero, List.setIfInBounds_toArray, List.set_cons_zero, List.set_cons_succ]
    refine wpAnyH_take (i := 10) (v := ?evv10) rfl (by kernel_rfl) (by kernel_rfl) (by kernel_rfl) (fun _ _ _ h => h) (Or.inl ⟨by rfl, ?ehy10⟩) (by assumption) ?erest10
    case ehy10 =>
      intro u hSu
      obtain ⟨s0, s1⟩ := hSu
      go_simp
      try with_reducible rfl
    try simp only [Act.put, List.getElem_toArray, List.getElem_cons_succ, List.getElem_cons_zero, List.setIfInBounds_toArray, List.set_cons_zero, List.set_cons_succ]
    refine wpAnyH_take (i := 11) (v := ?evv11) rfl (by kernel_rfl) (by kernel_rfl) (by kernel_rfl) (fun _ _ _ h => h) (Or.inl ⟨by rfl, ?ehy11⟩) (by assumption) ?erest11
    case ehy11 =>
      intro u hSu
      obtain ⟨s0, s1⟩ := hSu
      go_simp
      try with_reducible rfl
    try simp only [Act.put, List.getElem_toArray, List.getElem_cons_succ, List.getElem_cons_zero, List.setIfInBounds_toArray, List.set_cons_zero, List.set_cons_succ]
    refine wpAnyH_take (i := 15) (v := ?evv15) rfl (by kernel_rfl) (by kernel_rfl) (by kernel_rfl) (fun _ _ _ h => h) (Or.inl ⟨by rfl, ?ehy15⟩) (by assumption) ?erest15
    case ehy15 =>
      intro u hSu
      obtain ⟨s0, s1⟩ := hSu
      go_simp
      try with_reducible rfl
    try simp only [Act.put, List.getElem_toArray, List.getElem_cons_succ, List.getElem_cons_zero, List.setIfInBounds_toArray, List.set_cons_zero, List.set_cons_succ]
    refine wpAnyH_take (i := 16) (v := ?evv16) rfl (by kernel_rfl) (by kernel_rfl) (by kernel_rfl) (fun _ _ _ h => h) (Or.inl ⟨by rfl, ?ehy16⟩) (by assumption) ?erest16
    case ehy16 =>
      intro u hSu
      obtain ⟨s0, s1⟩ := hSu
      go_simp
      try with_reducible rfl
    try simp only [Act.put, List.getElem_toArray, List.getElem_cons_succ, List.getElem_cons_zero, List.setIfInBounds_toArray, List.set_cons_zero, List.set_cons_succ]
    refine wpAnyH_take (i := 17) (v := ?evv17) rfl (by kernel_rfl) (by kernel_rfl) (by kernel_rfl) (fun _ _ _ h => h) (Or.inl ⟨by rfl, ?ehy17⟩) (by assumption) ?erest17
    case ehy17 =>
      intro u hSu
      obtain ⟨s0, s1⟩ := hSu
      go_simp
      try with_reducible rfl
    try simp only [Act.put, List.getElem_toArray, List.getElem_cons_succ, List.getElem_cons_zero, List.setIfInBounds_toArray, List.set_cons_zero, List.set_cons_succ]
    refine wpAnyH_ready (rs := [6, 12]) (by kernel_rfl) (by simp) ?_
    refine AllReadyH.cons rfl ?_ (AllReadyH.cons rfl ?_ AllReadyH.nil)
    · intro K hK
      obtain ⟨v4, u4, hr4, ho4, hg4⟩ := app_wt (ty := 27) (u := w1.drew) (B := w1.drew.heap.size) (n := 0) (l := []) (Nat.le_refl _) (owns_nil _ _ _ _) ht1 (by omega)
      have b04 : Below w1.drew.heap.size w1.drew u4 := below_none hg4
      have b06 : Below w1.drew.heap.size w1.drew (u4.alloc (.cells #[.int .u16 o, .int .u64 (t + 1)] 67)) := b04.trans ((below_new u4 (.cells #[.int .u16 o, .int .u64 (t + 1)] 67)).mono b04.size)
      rw [Nat.zero_add, List.nil_append] at ho4
      have ho6 := owns_below ho4 (below_new u4 (.cells #[.int .u16 o, .int .u64 (t + 1)] 67))
      have one6 := one_wt u4 ⟨o, t + 1⟩ 67
      obtain ⟨v7, u7, hr7, ho7, hg7⟩ := app_wt (ty := 27) (B := w1.drew.heap.size) b06.size ho6 one6 (by omega)
      have b07 := below_grown b06 b06.size ho6 (Nat.le_refl _) hg7
      obtain ⟨a7, c7, rfl, _⟩ := owns_le ho7
      have K4 := HK.out _ b04
      have K6 := HK.out _ b06
      have K7 := HK.out _ b07
      have R := Lib.hid (HPP.out u7 _ _ a7 c7 _ S0 ho7 (B0.trans (b07.mono S1)))
      have hy7 := hy0.belowS b07
      have b08 : Below w1.drew.heap.size w1.drew u7 := b07
      have d0 := hy7.lt
      have d1 := hy7.frozen 0
      have d2 := hy7.frozen 1
      have d4 : u7.cell? ⟨w.heap.size + 1, 0, none⟩ = some (.int .u64 0) := hy7.cell 0
      have d5 : u7.cell? ⟨w.heap.size + 1, 1, none⟩ = some (.slice none 0 0) := hy7.cell 1
      have hx7 := ((hx0.belowS b07).far (p := ⟨w.heap.size + 1, 0, none⟩) (show w.heap.size ≠ w.heap.size + 1 by omega) (.int .u64 (t + 1))).far (p := ⟨w.heap.size + 1, 1, none⟩) (show w.heap.size ≠ w.heap.size + 1 by omega) (.slice a7 (ln + 1) c7)
      have K8 : (fun u => u.cell? ⟨w.heap.size, 0, none⟩ = some (.int .u64 t) ∧ u.cell? ⟨w.heap.size, 1, none⟩ = some (.slice la ln lc)) ((u7.setCell ⟨w.heap.size + 1, 0, none⟩ (.int .u64 (t + 1))).setCell ⟨w.heap.size + 1, 1, none⟩ (.slice a7 (ln + 1) c7)) := ⟨hx7.cell 0, hx7.cell 1⟩
      have hz0 : ((u7.setCell ⟨w.heap.size + 1, 0, none⟩ (.int .u64 (t + 1))).setCell ⟨w.heap.size + 1, 1, none⟩ (.slice a7 (ln + 1) c7)).cell? ⟨w.heap.size + 1, 0, none⟩ = some (.int .u64 (t + 1)) := ((hy7.set_ 0 (.int .u64 (t + 1))).set_ 1 (.slice a7 (ln + 1) c7)).cell 0
      have hz1 : ((u7.setCell ⟨w.heap.size + 1, 0, none⟩ (.int .u64 (t + 1))).setCell ⟨w.heap.size + 1, 1, none⟩ (.slice a7 (ln + 1) c7)).cell? ⟨w.heap.size + 1, 1, none⟩ = some (.slice a7 (ln + 1) c7) := ((hy7.set_ 0 (.int .u64 (t + 1))).set_ 1 (.slice a7 (ln + 1) c7)).cell 1
      clear ho6 ho7 hg4 hg7 b04 b06 b07 b08 one6 ho4 hy7 hx7
      refine Lib.wp_append_run _ _ _ _ _ rfl (.slice none 0 0) (.slice la ln lc) rfl rfl _ _ hr4 ?_
      refine hK.out _ _ K4 (fun hHeld => ?_)
      clear hK K
      try simp only [Act.put, List.getElem_toArray, List.getElem_cons_succ, List.getElem_cons_zero, List.setIfInBounds_toArray, List.set_cons_zero, List.set_cons_succ]
      refine wpAnyH_ready (rs := [12]) (by kernel_rfl) (by simp) ?_
      refine AllReadyH.cons rfl (fun K hK => ?_) AllReadyH.nil
      go_simp
      refine hK.out _ _ K6 (fun hHeld => ?_)
      clear hK K
      try simp only [Act.put, List.getElem_toArray, List.getElem_cons_succ, List.getElem_cons_zero, List.setIfInBounds_toArray, List.set_cons_zero, List.set_cons_succ]
      refine wpAnyH_ready (rs := [13]) (by kernel_rfl) (by simp) ?_
      refine AllReadyH.cons rfl (fun K hK => ?_) AllReadyH.nil
      refine Lib.wp_append_run _ _ _ _ _ rfl v4 (.slice (some ⟨u4.heap.size, 0, none⟩) 1 1) rfl rfl _ _ hr7 ?_
      refine hK.out _ _ K7 (fun hHeld => ?_)
      clear hK K
      try simp only [Act.put, List.getElem_toArray, List.getElem_cons_succ, List.getElem_cons_zero, List.setIfInBounds_toArray, List.set_cons_zero, List.set_cons_succ]
      refine wpAnyH_take (i := 14) (v := ?eavv14) rfl (by kernel_rfl) (by kernel_rfl) (by kernel_rfl) (fun _ _ _ h => h) (Or.inl ⟨by rfl, ?eahy14⟩) (by assumption) ?earest14
      case eahy14 =>
        intro u hSu
        obtain ⟨s0, s1⟩ := hSu
        go_simp
        try with_reducible rfl
      try simp only [Act.put, List.getElem_toArray, List.getElem_cons_succ, List.getElem_cons_zero, List.setIfInBounds_toArray, List.set_cons_zero, List.set_cons_succ]
      refine wpAnyH_ready (rs := [18]) (by kernel_rfl) (by simp) ?_
      refine AllReadyH.cons rfl (fun K hK => ?_) AllReadyH.nil
      go_simp
      refine hK.out _ _ ?eahS18 (fun hHeld => ?earest18)
      case eahS18 => exact K8
      clear hK K
      try simp only [Act.put, List.getElem_toArray, List.getElem_cons_succ, List.getElem_cons_zero, List.setIfInBounds_toArray, List.set_cons_zero, List.set_cons_succ]
      refine wpAnyH_take (i := 19) (v := ?eavv19) rfl (by kernel_rfl) (by kernel_rfl) (by kernel_rfl) (fun _ _ _ h => h) (Or.inl ⟨by rfl, ?eahy19⟩) (by assumption) ?earest19
      case eahy19 =>
        intro u hSu
        obtain ⟨s0, s1⟩ := hSu
        go_simp
        try with_reducible rfl
      try simp only [Act.put, List.getElem_toArray, List.getElem_cons_succ, List.getElem_cons_zero, List.setIfInBounds_toArray, List.set_cons_zero, List.set_cons_succ]
      refine wpAnyH_take (i := 20) (v := ?eavv20) rfl (by kernel_rfl) (by kernel_rfl) (by kernel_rfl) (fun _ _ _ h => h) (Or.inl ⟨by rfl, ?eahy20⟩) (by assumption) ?earest20
      case eahy20 =>
        intro u hSu
        obtain ⟨s0, s1⟩ := hSu
        go_simp
        try with_reducible rfl
      try simp only [Act.put, List.getElem_toArray, List.getElem_cons_succ, List.getElem_cons_zero, List.setIfInBounds_toArray, List.set_cons_zero, List.set_cons_succ]
      refine wpAnyH_done (by kernel_rfl) ?_ _
      clear K0 K4 K6 K7 K8 hHeld HK hr4 hr7 d0 d1 d2 d4 d5
      go_wp2_with fail
      exact bodyPost_ret (v := .tuple #[ckV (t + 1) a7 (ln + 1) c7, .int .u64 (t + 1), .int .i64 0]) (by simp [results, Try.results25, go_sem, hz0, hz1]) rfl R.out
    · intro K hK
      have b06 : Below w1.drew.heap.size w1.drew (w1.drew.alloc (.cells #[.int .u16 o, .int .u64 (t + 1)] 67)) := below_new w1.drew (.cells #[.int .u16 o, .int .u64 (t + 1)] 67)
      obtain ⟨v4, u4, hr4, ho4, hg4⟩ := app_wt (ty := 27) (u := w1.drew.alloc (.cells #[.int .u16 o, .int .u64 (t + 1)] 67)) (B := w1.drew.heap.size) (n := 0) (l := []) b06.size (owns_nil _ _ _ _) (ht1.keep (w' := w1.drew.alloc (.cells #[.int .u16 o, .int .u64 (t + 1)] 67)) (fun g hg hgl => b06.block g hg.2)) (by omega)
      have b46 := below_none hg4
      have b04 : Below w1.drew.heap.size w1.drew u4 := b06.trans (b46.mono b06.size)
      rw [Nat.zero_add, List.nil_append] at ho4
      have one6 := (one_wt w1.drew ⟨o, t + 1⟩ 67).keep (w' := u4) (fun g hg hlt => b46.block g hlt)
      obtain ⟨v7, u7, hr7, ho7, hg7⟩ := app_wt (ty := 27) (B := w1.drew.heap.size) b04.size ho4 one6 (by omega)
      have b07 := below_grown b04 b04.size ho4 (Nat.le_refl _) hg7
      obtain ⟨a7, c7, rfl, _⟩ := owns_le ho7
      have K4 := HK.out _ b04
      have K6 := HK.out _ b06
      have K7 := HK.out _ b07
      have R := Lib.hid (HPP.out u7 _ _ a7 c7 _ S0 ho7 (B0.trans (b07.mono S1)))
      have hy7 := hy0.belowS b07
      have d0 := hy7.lt
      have d1 := hy7.frozen 0
      have d2 := hy7.frozen 1
      have d4 : u7.cell? ⟨w.heap.size + 1, 0, none⟩ = some (.int .u64 0) := hy7.cell 0
      have d5 : u7.cell? ⟨w.heap.size + 1, 1, none⟩ = some (.slice none 0 0) := hy7.cell 1
      have hx7 := ((hx0.belowS b07).far (p := ⟨w.heap.size + 1, 0, none⟩) (show w.heap.size ≠ w.heap.size + 1 by omega) (.int .u64 (t + 1))).far (p := ⟨w.heap.size + 1, 1, none⟩) (show w.heap.size ≠ w.heap.size + 1 by omega) (.slice a7 (ln + 1) c7)
      have K8 : (fun u => u.cell? ⟨w.heap.size, 0, none⟩ = some (.int .u64 t) ∧ u.cell? ⟨w.heap.size, 1, none⟩ = some (.slice la ln lc)) ((u7.setCell ⟨w.heap.size + 1, 0, none⟩ (.int .u64 (t + 1))).setCell ⟨w.heap.size + 1, 1, none⟩ (.slice a7 (ln + 1) c7)) := ⟨hx7.cell 0, hx7.cell 1⟩
      have hz0 : ((u7.setCell ⟨w.heap.size + 1, 0, none⟩ (.int .u64 (t + 1))).setCell ⟨w.heap.size + 1, 1, none⟩ (.slice a7 (ln + 1) c7)).cell? ⟨w.heap.size + 1, 0, none⟩ = some (.int .u64 (t + 1)) := ((hy7.set_ 0 (.int .u64 (t + 1))).set_ 1 (.slice a7 (ln + 1) c7)).cell 0
      have hz1 : ((u7.setCell ⟨w.heap.size + 1, 0, none⟩ (.int .u64 (t + 1))).setCell ⟨w.heap.size + 1, 1, none⟩ (.slice a7 (ln + 1) c7)).cell? ⟨w.heap.size + 1, 1, none⟩ = some (.slice a7 (ln + 1) c7) := ((hy7.set_ 0 (.int .u64 (t + 1))).set_ 1 (.slice a7 (ln + 1) c7)).cell 1
      clear ho7 hg4 hg7 b04 b46 b06 b07 one6 ho4 hy7 hx7
      go_simp
      refine hK.out _ _ K6 (fun hHeld => ?_)
      clear hK K
      try simp only [Act.put, List.getElem_toArray, List.getElem_cons_succ, List.getElem_cons_zero, List.setIfInBounds_toArray, List.set_cons_zero, List.set_cons_succ]
      refine wpAnyH_ready (rs := [6]) (by kernel_rfl) (by simp) ?_
      refine AllReadyH.cons rfl (fun K hK => ?_) AllReadyH.nil
      refine Lib.wp_append_run _ _ _ _ _ rfl (.slice none 0 0) (.slice la ln lc) rfl rfl _ _ hr4 ?_
      refine hK.out _ _ K4 (fun hHeld => ?_)
      clear hK K
      try simp only [Act.put, List.getElem_toArray, List.getElem_cons_succ, List.getElem_cons_zero, List.setIfInBounds_toArray, List.set_cons_zero, List.set_cons_succ]
      refine wpAnyH_ready (rs := [13]) (by kernel_rfl) (by simp) ?_
      refine AllReadyH.cons rfl (fun K hK => ?_) AllReadyH.nil
      refine Lib.wp_append_run _ _ _ _ _ rfl v4 (.slice (some ⟨w1.drew.heap.size, 0, none⟩) 1 1) rfl rfl _ _ hr7 ?_
      refine hK.out _ _ K7 (fun hHeld => ?_)
      clear hK K
      try simp only [Act.put, List.getElem_toArray, List.getElem_cons_succ, List.getElem_cons_zero, List.setIfInBounds_toArray, List.set_cons_zero, List.set_cons_succ]
      refine wpAnyH_take (i := 14) (v := ?ebvv14) rfl (by kernel_rfl) (by kernel_rfl) (by kernel_rfl) (fun _ _ _ h => h) (Or.inl ⟨by rfl, ?ebhy14⟩) (by assumption) ?ebrest14
      case ebhy14 =>
        intro u hSu
        obtain ⟨s0, s1⟩ := hSu
        go_simp
        try with_reducible rfl
      try simp only [Act.put, List.getElem_toArray, List.getElem_cons_succ, List.getElem_cons_zero, List.setIfInBounds_toArray, List.set_cons_zero, List.set_cons_succ]
      refine wpAnyH_ready (rs := [18]) (by kernel_rfl) (by simp) ?_
      refine AllReadyH.cons rfl (fun K hK => ?_) AllReadyH.nil
      go_simp
      refine hK.out _ _ ?ebhS18 (fun hHeld => ?ebrest18)
      case ebhS18 => exact K8
      clear hK K
      try simp only [Act.put, List.getElem_toArray, List.getElem_cons_succ, List.getElem_cons_zero, List.setIfInBounds_toArray, List.set_cons_zero, List.set_cons_succ]
      refine wpAnyH_take (i := 19) (v := ?ebvv19) rfl (by kernel_rfl) (by kernel_rfl) (by kernel_rfl) (fun _ _ _ h => h) (Or.inl ⟨by rfl, ?ebhy19⟩) (by assumption) ?ebrest19
      case ebhy19 =>
        intro u hSu
        obtain ⟨s0, s1⟩ := hSu
        go_simp
        try with_reducible rfl
      try simp only [Act.put, List.getElem_toArray, List.getElem_cons_succ, List.getElem_cons_zero, List.setIfInBounds_toArray, List.set_cons_zero, List.set_cons_succ]
      refine wpAnyH_take (i := 20) (v := ?ebvv20) rfl (by kernel_rfl) (by kernel_rfl) (by kernel_rfl) (fun _ _ _ h => h) (Or.inl ⟨by rfl, ?ebhy20⟩) (by assumption) ?ebrest20
      case ebhy20 =>
        intro u hSu
        obtain ⟨s0, s1⟩ := hSu
        go_simp
        try with_reducible rfl
      try simp only [Act.put, List.getElem_toArray, List.getElem_cons_succ, List.getElem_cons_zero, List.setIfInBounds_toArray, List.set_cons_zero, List.set_cons_succ]
      refine wpAnyH_done (by kernel_rfl) ?_ _
      clear K0 K4 K6 K7 K8 hHeld HK hr4 hr7 d0 d1 d2 d4 d5
      go_wp2_with fail
      exact bodyPost_ret (v := .tuple #[ckV (t + 1) a7 (ln + 1) c7, .int .u64 (t + 1), .int .i64 0]) (by simp [results, Try.results25, go_sem, hz0, hz1]) rfl R.out
end Go.Proofs.Ytcpkiepdpmaeoaa.EF
