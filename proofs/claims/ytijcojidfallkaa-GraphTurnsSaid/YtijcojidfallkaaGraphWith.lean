/-
  The reference of layer 14: a node put in order. Nothing here is a statement of the seed.
-/
import Derived.Test.YtijcojidfallkaaGraphOut
set_option linter.unusedSimpArgs false
set_option linter.unusedVariables false
namespace Go.Proofs.Ytijcojidfallkaa.GF
open Go.RowKit WM NR OM OR GM GR
set_option maxHeartbeats 4000000
set_option maxRecDepth 10000
theorem with_at {l : List Nr} {x : Nr} : ∀ {j : Nat}, j ≤ l.length → (∀ i, i < j → Op.bytesLess (l.getD i r0).nm x.nm = true) → (j = l.length ∨ Op.bytesLess (l.getD j r0).nm x.nm = false) → withM (ndL l) x.nd = ndL (l.take j ++ [x] ++ l.drop j) := by
  induction l with
  | nil =>
    intro j hj _ _
    obtain rfl : j = 0 := by simpa using hj
    rfl
  | cons a l ih =>
    intro j hj h1 h2
    cases j with
    | zero =>
      have h3 : Op.bytesLess a.nm x.nm = false := by
        rcases h2 with h2 | h2
        · simp at h2
        · simpa using h2
      unfold withM
      simp only [ndL, List.map_cons]
      rw [List.takeWhile_cons_of_neg (by simp [h3]), List.dropWhile_cons_of_neg (by simp [h3])]
      rfl
    | succ j =>
      have h0 := h1 0 (by omega)
      simp only [List.getD_cons_zero] at h0
      have ih := ih (j := j) (by simpa using hj) (fun i hi => by have := h1 (i + 1) (by omega); simpa using this) (by
        rcases h2 with h2 | h2
        · exact Or.inl (by simpa using h2)
        · exact Or.inr (by simpa using h2))
      unfold withM at ih ⊢
      simp only [ndL, List.map_cons] at ih ⊢
      rw [List.takeWhile_cons_of_pos (by exact h0), List.dropWhile_cons_of_pos (by exact h0), List.take_succ_cons, List.drop_succ_cons, List.cons_append, ih]
      rfl
theorem with_post {G : Nat → Prop} {w u : World} {la : Option Addr} {ln lc : Nat} {l : List Nr} (h0 : RdG G w la ln lc l) (hG : ∀ g, G g → g < w.heap.size) {x : Nr} (hx : Reads G w (.slice x.da x.dn x.dc) (strs x.ds)) {j : Nat} (hj : j ≤ ln) (hw : withM (ndL l) x.nd = ndL (l.take j ++ [x] ++ l.drop j)) {a1 : Option Addr} {n c1 : Nat} (ho : u.ownsRow (w.heap.size + 3) 78 2 (.slice a1 n c1) n (nC (l.take j ++ [x] ++ l.drop j))) (hB : Below w.heap.size w u) :
    IsG G (withM (ndL l) x.nd) w (.returned (gV a1 n c1)) (u.setCell ⟨w.heap.size + 2, 0, none⟩ (.slice a1 n c1)) := by
  have hE := own_set (i := 0) ho (show w.heap.size + 2 < w.heap.size + 3 by omega) (.slice a1 n c1)
  have hb : Below w.heap.size w (u.setCell ⟨w.heap.size + 2, 0, none⟩ (.slice a1 n c1)) := hB.setCell (by simp) _
  rw [hw]
  refine ⟨_, _, _, l.take j ++ [x] ++ l.drop j, rfl, ⟨?_, fun y hy => ?_⟩, rfl, hb⟩
  · have hl : (l.take j ++ [x] ++ l.drop j).length = n := by have := ho.1; rw [nC_len] at this; omega
    rw [← hl] at hE ⊢
    exact (ReadsN.of_owns hE).mono fun g hg => ⟨Or.inr (by omega), (owns_lt hE hg.2).2⟩
  · have hy2 : Reads G w (.slice y.da y.dn y.dc) (strs y.ds) := by
      rcases List.mem_append.1 hy with hy | hy
      · rcases List.mem_append.1 hy with hy | hy
        · exact h0.ok y (List.mem_of_mem_take hy)
        · rw [List.mem_singleton.1 hy]; exact hx
      · exact h0.ok y (List.mem_of_mem_drop hy)
    exact (hy2.keep fun g hg _ => hb.block g (hG g hg)).mono fun g hg => ⟨Or.inl hg, Nat.lt_of_lt_of_le (hG g hg) hb.size⟩
theorem refWith_any {w : World} {la : Option Addr} {ln lc : Nat} {l : List Nr} {G : Nat → Prop} (h0 : RdG G w la ln lc l) (hG : ∀ g, G g → g < w.heap.size) (hbd : ln ≤ 100000) (x : Nr) (hx : Reads G w (.slice x.da x.dn x.dc) (strs x.ds)) :
    Calls Try.prog 47 #[gV la ln lc, nV x] w (IsG G (withM (ndL l) x.nd) w) := by
  have h := h0.mono hG
  obtain ⟨lm, q2, _⟩ := h.len
  have hn1 : (ln : Int) ≤ 9223372036854775807 := by omega
  have q2' : (ln : Int) ≤ lc := by omega
  have HL := Lib.hid lm
  have HE := Lib.hid h
  have HI0 := Lib.hid (fun (j : Nat) (hj : j ≤ ln) => with_at (l := l) (x := x) (j := j) (by rw [lm]; exact hj))
  have HPP := Lib.hid (fun (j : Nat) (hj : j ≤ ln) (hw : withM (ndL l) x.nd = ndL (l.take j ++ [x] ++ l.drop j)) (u : World) (a1 : Option Addr) (n c1 : Nat) (ho : u.ownsRow (w.heap.size + 3) 78 2 (.slice a1 n c1) n (nC (l.take j ++ [x] ++ l.drop j))) (hB : Below w.heap.size w u) => with_post h0 hG hx hj hw ho hB)
  generalize withM (ndL l) x.nd = R at *
  obtain ⟨X, hXe⟩ : ∃ X, X = bs x.nm := ⟨_, rfl⟩
  obtain ⟨xa, hxa⟩ : ∃ a, a = x.da := ⟨_, rfl⟩
  obtain ⟨xb, hxb⟩ : ∃ a, a = x.dn := ⟨_, rfl⟩
  obtain ⟨xc, hxc⟩ : ∃ a, a = x.dc := ⟨_, rfl⟩
  show Calls Try.prog 47 #[gV la ln lc, .agg #[.string (bs x.nm), .slice x.da x.dn x.dc]] w (IsG G R w)
  have HXX : Hid (#[Value.string (bs x.nm), .slice x.da x.dn x.dc] = #[.string X, .slice xa xb xc]) := Lib.hid (by rw [hXe, hxa, hxb, hxc])
  rw [← hXe, ← hxa, ← hxb, ← hxc]
  have HXN := Lib.hid hXe
  have b0 := below_new w (.cells (gC la ln lc) 29)
  have hx0 := Whole.new w 29 (gC la ln lc)
  have s0 : (w.alloc (.cells (gC la ln lc) 29)).heap.size = w.heap.size + 1 := by simp
  have b1 := below_new (w.alloc (.cells (gC la ln lc) 29)) (.cells #[.string X, .slice xa xb xc] 78)
  have hn0 := Whole.new (w.alloc (.cells (gC la ln lc) 29)) 78 #[.string X, .slice xa xb xc]
  rw [s0] at hn0
  have s1 : ((w.alloc (.cells (gC la ln lc) 29)).alloc (.cells #[.string X, .slice xa xb xc] 78)).heap.size = w.heap.size + 2 := by simp
  have b2 := below_new ((w.alloc (.cells (gC la ln lc) 29)).alloc (.cells #[.string X, .slice xa xb xc] 78)) (.cells #[.slice none 0 0] 29)
  have hy0 := Whole.new ((w.alloc (.cells (gC la ln lc) 29)).alloc (.cells #[.string X, .slice xa xb xc] 78)) 29 #[.slice none 0 0]
  rw [s1] at hy0
  have hx0 := (hx0.belowS b1).belowS b2
  have hn0 := hn0.belowS b2
  have hb0 := b0.trans ((b1.trans (b2.mono b1.size)).mono b0.size)
  have hs0 : w.heap.size + 3 ≤ (((w.alloc (.cells (gC la ln lc) 29)).alloc (.cells #[.string X, .slice xa xb xc] 78)).alloc (.cells #[.slice none 0 0] 29)).heap.size := by simp
  clear s0 s1 b0 b1 b2 h h0 hG hx hXe hxa hxb hxc lm
  go_enter Try.func47, Try.ntmps47
  go_upto_region 1 with fail
  generalize ((w.alloc (.cells (gC la ln lc) 29)).alloc (.cells #[.string X, .slice xa xb xc] 78)).alloc (.cells #[.slice none 0 0] 29) = W at *
  have HX0 := Lib.hid hx0
  have HN0 := Lib.hid hn0
  have HY0 := Lib.hid hy0
  have HB0 := Lib.hid hb0
  have HS0 := Lib.hid hs0
  clear hx0 hn0 hy0 hb0 hs0
  go_wp2_with fail
  go_loopw [5] (fun v5 wr => ∃ j : Nat, j ≤ ln ∧ v5 = .int .i64 (j : Int) ∧ Hid (∀ i, i < j → Op.bytesLess (l.getD i r0).nm x.nm = true) ∧ Hid (Below W.heap.size W wr)) (fun v5 _ => ln - (intOf v5).toNat)
  case atStart => exact ⟨0, by omega, rfl, Lib.hid (fun i hi => by omega), Lib.hid (Below.refl _ _)⟩
  case round =>
    obtain ⟨j, hj0, rfl, HN, HF2⟩ := hrel
    have HB1 := Lib.hid (HB0.out.trans (HF2.out.mono HB0.out.size))
    have cx : wr.cell? ⟨w.heap.size, 0, none⟩ = some (.slice la ln lc) := (HX0.out.belowS HF2.out).cell 0
    have cn : wr.cell? ⟨w.heap.size + 1, 0, none⟩ = some (.string X) := (HN0.out.belowS HF2.out).cell 0
    have lx := (HX0.out.belowS HF2.out).lt
    have ln0 := (HN0.out.belowS HF2.out).lt
    have j0 : (0 : Int) ≤ j := by omega
    have HU0 : Hid (∀ q, Whole (wr.drewN q) w.heap.size 29 (gC la ln lc) ∧ Whole (wr.drewN q) (w.heap.size + 1) 78 #[.string X, .slice xa xb xc] ∧ Whole (wr.drewN q) (w.heap.size + 2) 29 #[.slice none 0 0] ∧ Below w.heap.size w (wr.drewN q) ∧ w.heap.size + 3 ≤ (wr.drewN q).heap.size ∧ Below W.heap.size W (wr.drewN q)) := Lib.hid (fun q =>
      have hdq : Below W.heap.size W (wr.drewN q) := ⟨HF2.out.os, HF2.out.tape, HF2.out.output, HF2.out.size, HF2.out.block⟩
      ⟨HX0.out.belowS hdq, HN0.out.belowS hdq, HY0.out.belowS hdq, ⟨HB1.out.os, HB1.out.tape, HB1.out.output, HB1.out.size, HB1.out.block⟩, Nat.le_trans HS0.out HF2.out.size, hdq⟩)
    by_cases hlj : j < ln
    · have hlj' : (j : Int) < ln := by omega
      have hd : decide ((j : Int) < (ln : Int)) = true := decide_eq_true hlj'
      obtain ⟨g, off, hla, _, y1, y2⟩ := HE.out.at HB1.out hlj
      have HIN := Lib.hid (fun hb => HI0.out j hj0 HN.out (Or.inr hb))
      have HN2 := Lib.hid (fun (hb : Op.bytesLess (l.getD j r0).nm x.nm = true) i (hi : i < j + 1) => if h2 : i < j then HN.out i h2 else by rw [show i = j by omega]; exact hb)
      obtain ⟨b, hb⟩ : ∃ b, b = Op.bytesLess (l.getD j r0).nm x.nm := ⟨_, rfl⟩
      rw [← hb] at HIN HN2
      have hbb : Op.bytesLess (bs (l.getD j r0).nm).toList X.toList = b := by rw [HXN.out, bs_toList, bs_toList]; exact hb.symm
      generalize bs (l.getD j r0).nm = Y at *
      clear hb y2
      subst hla
      cases b with
      | true =>
        have HN3 := Lib.hid (HN2.out rfl)
        clear HIN HN2 HN
        go_upto_region 2 with fail
        go_quiet (fail)
        have HF3 := Lib.hid (HU0.out nq).2.2.2.2.2
        go_wp2_with fail
        go_roundw
        case rel => exact ⟨j + 1, by omega, by go_num, HN3, HF3⟩
        case measure => simp [intOf]; omega
      | false =>
        have HI := Lib.hid (HIN.out rfl)
        clear HIN HN2 HN
        go_upto_region 2 with fail
        go_quiet (fail)
        clear cx cn lx ln0 y1
        obtain ⟨hx0, hn0, hy0, hb0, hs0, _⟩ := HU0.out nq
        generalize wr.drewN nq = u0 at *
        obtain ⟨a1, cc1, hr1, ht1⟩ := ReadsN.take HE.out.en elemNd sizeNd j (by rw [HL.out]; exact hj0)
        obtain ⟨a2, cc2, hr2, ht2⟩ := ReadsN.drop HE.out.en elemNd sizeNd j (by rw [HL.out]; exact hj0)
        rw [HL.out] at hr2 ht2
        have hbd : Below u0.heap.size u0 u0.drew := (Below.refl _ _).drew
        have S0 : w.heap.size + 3 ≤ u0.drew.heap.size := hs0
        have S1 : w.heap.size ≤ u0.drew.heap.size := by omega
        have B0 : Below w.heap.size w u0.drew := hb0.drew
        have hx0 : Whole u0.drew w.heap.size 29 (gC (some ⟨g, off, none⟩) ln lc) := hx0.belowS hbd
        have hn0 : Whole u0.drew (w.heap.size + 1) 78 #[.string X, .slice xa xb xc] := hn0.belowS hbd
        have hy0 : Whole u0.drew (w.heap.size + 2) 29 #[.slice none 0 0] := hy0.belowS hbd
        have ht1 := ((ht1.keep (w' := u0.drew) (fun g hg _ => B0.block g hg))).there
        have ht2 := ((ht2.keep (w' := u0.drew) (fun g hg _ => B0.block g hg))).there
        have HK := Lib.hid (fun (u : World) (hu : Below u0.drew.heap.size u0.drew u) => show (fun u => u.cell? ⟨w.heap.size, 0, none⟩ = some (.slice (some ⟨g, off, none⟩) ln lc) ∧ u.cell? ⟨w.heap.size + 1, 0, none⟩ = some (.string X) ∧ u.cell? ⟨w.heap.size + 1, 1, none⟩ = some (.slice xa xb xc)) u from ⟨(hx0.belowS hu).cell 0, (hn0.belowS hu).cell 0, (hn0.belowS hu).cell 1⟩)
        have K0 : (fun u => u.cell? ⟨w.heap.size, 0, none⟩ = some (.slice (some ⟨g, off, none⟩) ln lc) ∧ u.cell? ⟨w.heap.size + 1, 0, none⟩ = some (.string X) ∧ u.cell? ⟨w.heap.size + 1, 1, none⟩ = some (.slice xa xb xc)) u0.drew := HK.out _ (Below.refl _ _)
        clear hbd hb0 hs0 hn0
        go_upto_region 5 with fail
        refine wp_region_held_drew (S := (fun u => u.cell? ⟨w.heap.size, 0, none⟩ = some (.slice (some ⟨g, off, none⟩) ln lc) ∧ u.cell? ⟨w.heap.size + 1, 0, none⟩ = some (.string X) ∧ u.cell? ⟨w.heap.size + 1, 1, none⟩ = some (.slice xa xb xc))) (by kernel_rfl) K0 (fun hHeld => ?_)
        refine wpAnyH_take (i := 0) (v := ?evv0) rfl (by kernel_rfl) (by kernel_rfl) (by kernel_rfl) (fun _ _ _ h => h) (Or.inl ⟨by rfl, ?ehy0⟩) (by assumption) ?erest0
        case ehy0 =>
          intro u hSu
          obtain ⟨s0, s1, s2⟩ := hSu
          go_simp
          try with_reducible rfl
        try simp only [Act.put, List.getElem_toArray, List.getElem_cons_succ, List.getElem_cons_zero, List.setIfInBounds_toArray, List.set_cons_zero, List.set_cons_succ]
        refine wpAnyH_take (i := 1) (v := ?evv1) rfl (by kernel_rfl) (by kernel_rfl) (by kernel_rfl) (fun _ _ _ h => h) (Or.inl ⟨by rfl, ?ehy1⟩) (by assumption) ?erest1
        case ehy1 =>
          intro u hSu
          obtain ⟨s0, s1, s2⟩ := hSu
          go_simp
          try with_reducible rfl
        try simp only [Act.put, List.getElem_toArray, List.getElem_cons_succ, List.getElem_cons_zero, List.setIfInBounds_toArray, List.set_cons_zero, List.set_cons_succ]
        refine wpAnyH_take (i := 2) (v := ?evv2) rfl (by kernel_rfl) (by kernel_rfl) (by kernel_rfl) (fun _ _ _ h => h) (Or.inl ⟨by rfl, ?ehy2⟩) (by assumption) ?erest2
        case ehy2 =>
          intro u hSu
          obtain ⟨s0, s1, s2⟩ := hSu
          go_simp
          try with_reducible rfl
        try simp only [Act.put, List.getElem_toArray, List.getElem_cons_succ, List.getElem_cons_zero, List.setIfInBounds_toArray, List.set_cons_zero, List.set_cons_succ]
        refine wpAnyH_take (i := 3) (v := ?evv3) rfl (by kernel_rfl) (by kernel_rfl) (by kernel_rfl) (fun _ _ _ h => h) (Or.inl ⟨by rfl, ?ehy3⟩) (by assumption) ?erest3
        case ehy3 =>
          intro u hSu
          obtain ⟨s0, s1, s2⟩ := hSu
          go_simp
          try with_reducible rfl
        try simp only [Act.put, List.getElem_toArray, List.getElem_cons_succ, List.getElem_cons_zero, List.setIfInBounds_toArray, List.set_cons_zero, List.set_cons_succ]
        refine wpAnyH_take (i := 4) (v := ?evv4) rfl (by kernel_rfl) (by kernel_rfl) (by kernel_rfl) (fun _ _ _ h => h) (Or.inl ⟨by rfl, ?ehy4⟩) (by assumption) ?erest4
        case ehy4 =>
          intro u hSu
          obtain ⟨s0, s1, s2⟩ := hSu
          go_simp
          try with_reducible rfl
        try simp only [Act.put, List.getElem_toArray, List.getElem_cons_succ, List.getElem_cons_zero, List.setIfInBounds_toArray, List.set_cons_zero, List.set_cons_succ]
        refine wpAnyH_take (i := 6) (v := ?evv6) rfl (by kernel_rfl) (by kernel_rfl) (by kernel_rfl) (fun _ _ _ h => h) (Or.inl ⟨by rfl, ?ehy6⟩) (by assumption) ?erest6
        case ehy6 =>
          intro u hSu
          obtain ⟨s0, s1, s2⟩ := hSu
          go_simp
          try with_reducible rfl
        try simp only [Act.put, List.getElem_toArray, List.getElem_cons_succ, List.getElem_cons_zero, List.setIfInBounds_toArray, List.set_cons_zero, List.set_cons_succ]
        refine wpAnyH_ready (rs := [5, 7]) (by kernel_rfl) (by simp) ?_
        refine AllReadyH.cons rfl ?_ (AllReadyH.cons rfl ?_ AllReadyH.nil)
        · intro K hK
          obtain ⟨v4, u4, hr4, ho4, hg4⟩ := app_nd (ty := 27) (u := u0.drew) (B := u0.drew.heap.size) (n := 0) (l := []) (Nat.le_refl _) (owns_nil _ _ _ _) ht1 (by omega)
          have b04 : Below u0.drew.heap.size u0.drew u4 := below_none hg4
          have b06 : Below u0.drew.heap.size u0.drew (u4.alloc (.cells #[.string X, .slice xa xb xc] 78)) := b04.trans ((below_new u4 (.cells #[.string X, .slice xa xb xc] 78)).mono b04.size)
          rw [Nat.zero_add, List.nil_append] at ho4
          have ho6 := owns_below ho4 (below_new u4 (.cells #[.string X, .slice xa xb xc] 78))
          have one6 := one_nd u4 x 78
          rw [HXX.out] at one6
          obtain ⟨v7, u7, hr7, ho7, hg7⟩ := app_nd (ty := 27) (B := u0.drew.heap.size) b06.size ho6 one6 (by omega)
          have b07 := below_grown b06 b06.size ho6 (Nat.le_refl _) hg7
          have K4 : (fun u => u.cell? ⟨w.heap.size, 0, none⟩ = some (.slice (some ⟨g, off, none⟩) ln lc) ∧ u.cell? ⟨w.heap.size + 1, 0, none⟩ = some (.string X) ∧ u.cell? ⟨w.heap.size + 1, 1, none⟩ = some (.slice xa xb xc)) u4 := HK.out _ b04
          have K6 : (fun u => u.cell? ⟨w.heap.size, 0, none⟩ = some (.slice (some ⟨g, off, none⟩) ln lc) ∧ u.cell? ⟨w.heap.size + 1, 0, none⟩ = some (.string X) ∧ u.cell? ⟨w.heap.size + 1, 1, none⟩ = some (.slice xa xb xc)) (u4.alloc (.cells #[.string X, .slice xa xb xc] 78)) := HK.out _ b06
          have K7 : (fun u => u.cell? ⟨w.heap.size, 0, none⟩ = some (.slice (some ⟨g, off, none⟩) ln lc) ∧ u.cell? ⟨w.heap.size + 1, 0, none⟩ = some (.string X) ∧ u.cell? ⟨w.heap.size + 1, 1, none⟩ = some (.slice xa xb xc)) u7 := HK.out _ b07
          clear ho6
          refine Lib.wp_append_run _ _ _ _ _ rfl (.slice none 0 0) (.slice a1 j cc1) rfl rfl _ _ hr4 ?_
          refine hK.out _ _ K4 (fun hHeld => ?_)
          clear hK K
          try simp only [Act.put, List.getElem_toArray, List.getElem_cons_succ, List.getElem_cons_zero, List.setIfInBounds_toArray, List.set_cons_zero, List.set_cons_succ]
          refine wpAnyH_ready (rs := [7]) (by kernel_rfl) (by simp) ?_
          refine AllReadyH.cons rfl (fun K hK => ?_) AllReadyH.nil
          go_simp
          refine hK.out _ _ K6 (fun hHeld => ?_)
          clear hK K
          try simp only [Act.put, List.getElem_toArray, List.getElem_cons_succ, List.getElem_cons_zero, List.setIfInBounds_toArray, List.set_cons_zero, List.set_cons_succ]
          refine wpAnyH_ready (rs := [8]) (by kernel_rfl) (by simp) ?_
          refine AllReadyH.cons rfl (fun K hK => ?_) AllReadyH.nil
          refine Lib.wp_append_run _ _ _ _ _ rfl v4 (.slice (some ⟨u4.heap.size, 0, none⟩) 1 1) rfl rfl _ _ hr7 ?_
          refine hK.out _ _ K7 (fun hHeld => ?_)
          clear hK K
          try simp only [Act.put, List.getElem_toArray, List.getElem_cons_succ, List.getElem_cons_zero, List.setIfInBounds_toArray, List.set_cons_zero, List.set_cons_succ]
          refine wpAnyH_take (i := 9) (v := ?eavv9) rfl (by kernel_rfl) (by kernel_rfl) (by kernel_rfl) (fun _ _ _ h => h) (Or.inl ⟨by rfl, ?eahy9⟩) (by assumption) ?earest9
          case eahy9 =>
            intro u hSu
            obtain ⟨s0, s1, s2⟩ := hSu
            go_simp
            try with_reducible rfl
          try simp only [Act.put, List.getElem_toArray, List.getElem_cons_succ, List.getElem_cons_zero, List.setIfInBounds_toArray, List.set_cons_zero, List.set_cons_succ]
          refine wpAnyH_done (by kernel_rfl) ?_ _
          clear K0 K4 K6 K7 hHeld
          obtain ⟨v9, u9, hr9, ho9, hg9⟩ := app_nd (ty := 27) (B := u0.drew.heap.size) b07.size ho7 (ht2.keep (w' := u7) (fun g hg hgl => b07.block g hgl)) (by omega)
          have b09 := below_grown b07 b07.size ho7 (Nat.le_refl _) hg9
          obtain ⟨a9, c9, hv9⟩ := own_form ho9
          subst hv9
          have R := Lib.hid (HPP.out j hj0 HI.out u9 a9 _ c9 (owns_base ho9 S0) (B0.trans (b09.mono S1)))
          have hy9 := hy0.belowS b09
          have d0 := hy9.lt
          have d1 := hy9.frozen 0
          have d2 := hy9.cell 0
          have hz := (hy9.set_ 0 (.slice a9 (j + 1 + (ln - j)) c9)).cell 0
          have x9 : u9.cell? ⟨w.heap.size, 0, none⟩ = some (.slice (some ⟨g, off, none⟩) ln lc) := (hx0.belowS b09).cell 0
          have x7 : u7.cell? ⟨w.heap.size, 0, none⟩ = some (.slice (some ⟨g, off, none⟩) ln lc) := (hx0.belowS b07).cell 0
          clear hr1 hr4 hr7 ho9 hg9 ho7 b07 b09 ht1 ht2 HK one6 ho4 hg4 hg7 b04 b06 HPP HI hx0 hy0 hy9
          go_wp2_with (at_builtin; refine Lib.wpList_append_run _ rfl _ _ _ _ rfl _ _ rfl rfl _ _ hr9 ?_)
          exact bodyPost_ret (v := gV a9 (j + 1 + (ln - j)) c9) (by simp [results, Try.results47, go_sem, hz]) rfl R.out
        · intro K hK
          have b06 : Below u0.drew.heap.size u0.drew (u0.drew.alloc (.cells #[.string X, .slice xa xb xc] 78)) := below_new u0.drew (.cells #[.string X, .slice xa xb xc] 78)
          obtain ⟨v4, u4, hr4, ho4, hg4⟩ := app_nd (ty := 27) (u := u0.drew.alloc (.cells #[.string X, .slice xa xb xc] 78)) (B := u0.drew.heap.size) (n := 0) (l := []) b06.size (owns_nil _ _ _ _) (ht1.keep (w' := u0.drew.alloc (.cells #[.string X, .slice xa xb xc] 78)) (fun g hg hgl => b06.block g hg.2)) (by omega)
          have b46 := below_none hg4
          have b04 : Below u0.drew.heap.size u0.drew u4 := b06.trans (b46.mono b06.size)
          rw [Nat.zero_add, List.nil_append] at ho4
          have one6 := (one_nd u0.drew x 78)
          rw [HXX.out] at one6
          have one6 := one6.keep (w' := u4) (fun g hg hlt => b46.block g hlt)
          obtain ⟨v7, u7, hr7, ho7, hg7⟩ := app_nd (ty := 27) (B := u0.drew.heap.size) b04.size ho4 one6 (by omega)
          have b07 := below_grown b04 b04.size ho4 (Nat.le_refl _) hg7
          have K4 : (fun u => u.cell? ⟨w.heap.size, 0, none⟩ = some (.slice (some ⟨g, off, none⟩) ln lc) ∧ u.cell? ⟨w.heap.size + 1, 0, none⟩ = some (.string X) ∧ u.cell? ⟨w.heap.size + 1, 1, none⟩ = some (.slice xa xb xc)) u4 := HK.out _ b04
          have K6 : (fun u => u.cell? ⟨w.heap.size, 0, none⟩ = some (.slice (some ⟨g, off, none⟩) ln lc) ∧ u.cell? ⟨w.heap.size + 1, 0, none⟩ = some (.string X) ∧ u.cell? ⟨w.heap.size + 1, 1, none⟩ = some (.slice xa xb xc)) (u0.drew.alloc (.cells #[.string X, .slice xa xb xc] 78)) := HK.out _ b06
          have K7 : (fun u => u.cell? ⟨w.heap.size, 0, none⟩ = some (.slice (some ⟨g, off, none⟩) ln lc) ∧ u.cell? ⟨w.heap.size + 1, 0, none⟩ = some (.string X) ∧ u.cell? ⟨w.heap.size + 1, 1, none⟩ = some (.slice xa xb xc)) u7 := HK.out _ b07
          clear b46
          go_simp
          refine hK.out _ _ K6 (fun hHeld => ?_)
          clear hK K
          try simp only [Act.put, List.getElem_toArray, List.getElem_cons_succ, List.getElem_cons_zero, List.setIfInBounds_toArray, List.set_cons_zero, List.set_cons_succ]
          refine wpAnyH_ready (rs := [5]) (by kernel_rfl) (by simp) ?_
          refine AllReadyH.cons rfl (fun K hK => ?_) AllReadyH.nil
          refine Lib.wp_append_run _ _ _ _ _ rfl (.slice none 0 0) (.slice a1 j cc1) rfl rfl _ _ hr4 ?_
          refine hK.out _ _ K4 (fun hHeld => ?_)
          clear hK K
          try simp only [Act.put, List.getElem_toArray, List.getElem_cons_succ, List.getElem_cons_zero, List.setIfInBounds_toArray, List.set_cons_zero, List.set_cons_succ]
          refine wpAnyH_ready (rs := [8]) (by kernel_rfl) (by simp) ?_
          refine AllReadyH.cons rfl (fun K hK => ?_) AllReadyH.nil
          refine Lib.wp_append_run _ _ _ _ _ rfl v4 (.slice (some ⟨u0.drew.heap.size, 0, none⟩) 1 1) rfl rfl _ _ hr7 ?_
          refine hK.out _ _ K7 (fun hHeld => ?_)
          clear hK K
          try simp only [Act.put, List.getElem_toArray, List.getElem_cons_succ, List.getElem_cons_zero, List.setIfInBounds_toArray, List.set_cons_zero, List.set_cons_succ]
          refine wpAnyH_take (i := 9) (v := ?ebvv9) rfl (by kernel_rfl) (by kernel_rfl) (by kernel_rfl) (fun _ _ _ h => h) (Or.inl ⟨by rfl, ?ebhy9⟩) (by assumption) ?ebrest9
          case ebhy9 =>
            intro u hSu
            obtain ⟨s0, s1, s2⟩ := hSu
            go_simp
            try with_reducible rfl
          try simp only [Act.put, List.getElem_toArray, List.getElem_cons_succ, List.getElem_cons_zero, List.setIfInBounds_toArray, List.set_cons_zero, List.set_cons_succ]
          refine wpAnyH_done (by kernel_rfl) ?_ _
          clear K0 K4 K6 K7 hHeld
          obtain ⟨v9, u9, hr9, ho9, hg9⟩ := app_nd (ty := 27) (B := u0.drew.heap.size) b07.size ho7 (ht2.keep (w' := u7) (fun g hg hgl => b07.block g hgl)) (by omega)
          have b09 := below_grown b07 b07.size ho7 (Nat.le_refl _) hg9
          obtain ⟨a9, c9, hv9⟩ := own_form ho9
          subst hv9
          have R := Lib.hid (HPP.out j hj0 HI.out u9 a9 _ c9 (owns_base ho9 S0) (B0.trans (b09.mono S1)))
          have hy9 := hy0.belowS b09
          have d0 := hy9.lt
          have d1 := hy9.frozen 0
          have d2 := hy9.cell 0
          have hz := (hy9.set_ 0 (.slice a9 (j + 1 + (ln - j)) c9)).cell 0
          have x9 : u9.cell? ⟨w.heap.size, 0, none⟩ = some (.slice (some ⟨g, off, none⟩) ln lc) := (hx0.belowS b09).cell 0
          have x7 : u7.cell? ⟨w.heap.size, 0, none⟩ = some (.slice (some ⟨g, off, none⟩) ln lc) := (hx0.belowS b07).cell 0
          clear hr1 hr4 hr7 ho9 hg9 ho7 b07 b09 ht1 ht2 HK one6 ho4 hg4 hg7 b04 b06 HPP HI hx0 hy0 hy9
          go_wp2_with (at_builtin; refine Lib.wpList_append_run _ rfl _ _ _ _ rfl _ _ rfl rfl _ _ hr9 ?_)
          exact bodyPost_ret (v := gV a9 (j + 1 + (ln - j)) c9) (by simp [results, Try.results47, go_sem, hz]) rfl R.out
    · have hje : j = ln := by omega
      have hlj' : ¬ ((j : Int) < ln) := by omega
      have hd : decide ((j : Int) < (ln : Int)) = false := decide_eq_false hlj'
      have HI := Lib.hid (HI0.out j hj0 HN.out (Or.inl (by rw [HL.out]; exact hje)))
      clear hje HN
      go_upto_region 2 with fail
      go_quiet (fail)
      clear cx cn lx ln0
      obtain ⟨hx0, hn0, hy0, hb0, hs0, _⟩ := HU0.out nq
      generalize wr.drewN nq = u0 at *
      obtain ⟨a1, cc1, hr1, ht1⟩ := ReadsN.take HE.out.en elemNd sizeNd j (by rw [HL.out]; exact hj0)
      obtain ⟨a2, cc2, hr2, ht2⟩ := ReadsN.drop HE.out.en elemNd sizeNd j (by rw [HL.out]; exact hj0)
      rw [HL.out] at hr2 ht2
      have hbd : Below u0.heap.size u0 u0.drew := (Below.refl _ _).drew
      have S0 : w.heap.size + 3 ≤ u0.drew.heap.size := hs0
      have S1 : w.heap.size ≤ u0.drew.heap.size := by omega
      have B0 : Below w.heap.size w u0.drew := hb0.drew
      have hx0 : Whole u0.drew w.heap.size 29 (gC la ln lc) := hx0.belowS hbd
      have hn0 : Whole u0.drew (w.heap.size + 1) 78 #[.string X, .slice xa xb xc] := hn0.belowS hbd
      have hy0 : Whole u0.drew (w.heap.size + 2) 29 #[.slice none 0 0] := hy0.belowS hbd
      have ht1 := ((ht1.keep (w' := u0.drew) (fun g hg _ => B0.block g hg))).there
      have ht2 := ((ht2.keep (w' := u0.drew) (fun g hg _ => B0.block g hg))).there
      have HK := Lib.hid (fun (u : World) (hu : Below u0.drew.heap.size u0.drew u) => show (fun u => u.cell? ⟨w.heap.size, 0, none⟩ = some (.slice la ln lc) ∧ u.cell? ⟨w.heap.size + 1, 0, none⟩ = some (.string X) ∧ u.cell? ⟨w.heap.size + 1, 1, none⟩ = some (.slice xa xb xc)) u from ⟨(hx0.belowS hu).cell 0, (hn0.belowS hu).cell 0, (hn0.belowS hu).cell 1⟩)
      have K0 : (fun u => u.cell? ⟨w.heap.size, 0, none⟩ = some (.slice la ln lc) ∧ u.cell? ⟨w.heap.size + 1, 0, none⟩ = some (.string X) ∧ u.cell? ⟨w.heap.size + 1, 1, none⟩ = some (.slice xa xb xc)) u0.drew := HK.out _ (Below.refl _ _)
      clear hbd hb0 hs0 hn0
      go_upto_region 5 with fail
      refine wp_region_held_drew (S := (fun u => u.cell? ⟨w.heap.size, 0, none⟩ = some (.slice la ln lc) ∧ u.cell? ⟨w.heap.size + 1, 0, none⟩ = some (.string X) ∧ u.cell? ⟨w.heap.size + 1, 1, none⟩ = some (.slice xa xb xc))) (by kernel_rfl) K0 (fun hHeld => ?_)
      refine wpAnyH_take (i := 0) (v := ?fvv0) rfl (by kernel_rfl) (by kernel_rfl) (by kernel_rfl) (fun _ _ _ h => h) (Or.inl ⟨by rfl, ?fhy0⟩) (by assumption) ?frest0
      case fhy0 =>
        intro u hSu
        obtain ⟨s0, s1, s2⟩ := hSu
        go_simp
        try with_reducible rfl
      try simp only [Act.put, List.getElem_toArray, List.getElem_cons_succ, List.getElem_cons_zero, List.setIfInBounds_toArray, List.set_cons_zero, List.set_cons_succ]
      refine wpAnyH_take (i := 1) (v := ?fvv1) rfl (by kernel_rfl) (by kernel_rfl) (by kernel_rfl) (fun _ _ _ h => h) (Or.inl ⟨by rfl, ?fhy1⟩) (by assumption) ?frest1
      case fhy1 =>
        intro u hSu
        obtain ⟨s0, s1, s2⟩ := hSu
        go_simp
        try with_reducible rfl
      try simp only [Act.put, List.getElem_toArray, List.getElem_cons_succ, List.getElem_cons_zero, List.setIfInBounds_toArray, List.set_cons_zero, List.set_cons_succ]
      refine wpAnyH_take (i := 2) (v := ?fvv2) rfl (by kernel_rfl) (by kernel_rfl) (by kernel_rfl) (fun _ _ _ h => h) (Or.inl ⟨by rfl, ?fhy2⟩) (by assumption) ?frest2
      case fhy2 =>
        intro u hSu
        obtain ⟨s0, s1, s2⟩ := hSu
        go_simp
        try with_reducible rfl
      try simp only [Act.put, List.getElem_toArray, List.getElem_cons_succ, List.getElem_cons_zero, List.setIfInBounds_toArray, List.set_cons_zero, List.set_cons_succ]
      refine wpAnyH_take (i := 3) (v := ?fvv3) rfl (by kernel_rfl) (by kernel_rfl) (by kernel_rfl) (fun _ _ _ h => h) (Or.inl ⟨by rfl, ?fhy3⟩) (by assumption) ?frest3
      case fhy3 =>
        intro u hSu
        obtain ⟨s0, s1, s2⟩ := hSu
        go_simp
        try with_reducible rfl
      try simp only [Act.put, List.getElem_toArray, List.getElem_cons_succ, List.getElem_cons_zero, List.setIfInBounds_toArray, List.set_cons_zero, List.set_cons_succ]
      refine wpAnyH_take (i := 4) (v := ?fvv4) rfl (by kernel_rfl) (by kernel_rfl) (by kernel_rfl) (fun _ _ _ h => h) (Or.inl ⟨by rfl, ?fhy4⟩) (by assumption) ?frest4
      case fhy4 =>
        intro u hSu
        obtain ⟨s0, s1, s2⟩ := hSu
        go_simp
        try with_reducible rfl
      try simp only [Act.put, List.getElem_toArray, List.getElem_cons_succ, List.getElem_cons_zero, List.setIfInBounds_toArray, List.set_cons_zero, List.set_cons_succ]
      refine wpAnyH_take (i := 6) (v := ?fvv6) rfl (by kernel_rfl) (by kernel_rfl) (by kernel_rfl) (fun _ _ _ h => h) (Or.inl ⟨by rfl, ?fhy6⟩) (by assumption) ?frest6
      case fhy6 =>
        intro u hSu
        obtain ⟨s0, s1, s2⟩ := hSu
        go_simp
        try with_reducible rfl
      try simp only [Act.put, List.getElem_toArray, List.getElem_cons_succ, List.getElem_cons_zero, List.setIfInBounds_toArray, List.set_cons_zero, List.set_cons_succ]
      refine wpAnyH_ready (rs := [5, 7]) (by kernel_rfl) (by simp) ?_
      refine AllReadyH.cons rfl ?_ (AllReadyH.cons rfl ?_ AllReadyH.nil)
      · intro K hK
        obtain ⟨v4, u4, hr4, ho4, hg4⟩ := app_nd (ty := 27) (u := u0.drew) (B := u0.drew.heap.size) (n := 0) (l := []) (Nat.le_refl _) (owns_nil _ _ _ _) ht1 (by omega)
        have b04 : Below u0.drew.heap.size u0.drew u4 := below_none hg4
        have b06 : Below u0.drew.heap.size u0.drew (u4.alloc (.cells #[.string X, .slice xa xb xc] 78)) := b04.trans ((below_new u4 (.cells #[.string X, .slice xa xb xc] 78)).mono b04.size)
        rw [Nat.zero_add, List.nil_append] at ho4
        have ho6 := owns_below ho4 (below_new u4 (.cells #[.string X, .slice xa xb xc] 78))
        have one6 := one_nd u4 x 78
        rw [HXX.out] at one6
        obtain ⟨v7, u7, hr7, ho7, hg7⟩ := app_nd (ty := 27) (B := u0.drew.heap.size) b06.size ho6 one6 (by omega)
        have b07 := below_grown b06 b06.size ho6 (Nat.le_refl _) hg7
        have K4 : (fun u => u.cell? ⟨w.heap.size, 0, none⟩ = some (.slice la ln lc) ∧ u.cell? ⟨w.heap.size + 1, 0, none⟩ = some (.string X) ∧ u.cell? ⟨w.heap.size + 1, 1, none⟩ = some (.slice xa xb xc)) u4 := HK.out _ b04
        have K6 : (fun u => u.cell? ⟨w.heap.size, 0, none⟩ = some (.slice la ln lc) ∧ u.cell? ⟨w.heap.size + 1, 0, none⟩ = some (.string X) ∧ u.cell? ⟨w.heap.size + 1, 1, none⟩ = some (.slice xa xb xc)) (u4.alloc (.cells #[.string X, .slice xa xb xc] 78)) := HK.out _ b06
        have K7 : (fun u => u.cell? ⟨w.heap.size, 0, none⟩ = some (.slice la ln lc) ∧ u.cell? ⟨w.heap.size + 1, 0, none⟩ = some (.string X) ∧ u.cell? ⟨w.heap.size + 1, 1, none⟩ = some (.slice xa xb xc)) u7 := HK.out _ b07
        clear ho6
        refine Lib.wp_append_run _ _ _ _ _ rfl (.slice none 0 0) (.slice a1 j cc1) rfl rfl _ _ hr4 ?_
        refine hK.out _ _ K4 (fun hHeld => ?_)
        clear hK K
        try simp only [Act.put, List.getElem_toArray, List.getElem_cons_succ, List.getElem_cons_zero, List.setIfInBounds_toArray, List.set_cons_zero, List.set_cons_succ]
        refine wpAnyH_ready (rs := [7]) (by kernel_rfl) (by simp) ?_
        refine AllReadyH.cons rfl (fun K hK => ?_) AllReadyH.nil
        go_simp
        refine hK.out _ _ K6 (fun hHeld => ?_)
        clear hK K
        try simp only [Act.put, List.getElem_toArray, List.getElem_cons_succ, List.getElem_cons_zero, List.setIfInBounds_toArray, List.set_cons_zero, List.set_cons_succ]
        refine wpAnyH_ready (rs := [8]) (by kernel_rfl) (by simp) ?_
        refine AllReadyH.cons rfl (fun K hK => ?_) AllReadyH.nil
        refine Lib.wp_append_run _ _ _ _ _ rfl v4 (.slice (some ⟨u4.heap.size, 0, none⟩) 1 1) rfl rfl _ _ hr7 ?_
        refine hK.out _ _ K7 (fun hHeld => ?_)
        clear hK K
        try simp only [Act.put, List.getElem_toArray, List.getElem_cons_succ, List.getElem_cons_zero, List.setIfInBounds_toArray, List.set_cons_zero, List.set_cons_succ]
        refine wpAnyH_take (i := 9) (v := ?favv9) rfl (by kernel_rfl) (by kernel_rfl) (by kernel_rfl) (fun _ _ _ h => h) (Or.inl ⟨by rfl, ?fahy9⟩) (by assumption) ?farest9
        case fahy9 =>
          intro u hSu
          obtain ⟨s0, s1, s2⟩ := hSu
          go_simp
          try with_reducible rfl
        try simp only [Act.put, List.getElem_toArray, List.getElem_cons_succ, List.getElem_cons_zero, List.setIfInBounds_toArray, List.set_cons_zero, List.set_cons_succ]
        refine wpAnyH_done (by kernel_rfl) ?_ _
        clear K0 K4 K6 K7 hHeld
        obtain ⟨v9, u9, hr9, ho9, hg9⟩ := app_nd (ty := 27) (B := u0.drew.heap.size) b07.size ho7 (ht2.keep (w' := u7) (fun g hg hgl => b07.block g hgl)) (by omega)
        have b09 := below_grown b07 b07.size ho7 (Nat.le_refl _) hg9
        obtain ⟨a9, c9, hv9⟩ := own_form ho9
        subst hv9
        have R := Lib.hid (HPP.out j hj0 HI.out u9 a9 _ c9 (owns_base ho9 S0) (B0.trans (b09.mono S1)))
        have hy9 := hy0.belowS b09
        have d0 := hy9.lt
        have d1 := hy9.frozen 0
        have d2 := hy9.cell 0
        have hz := (hy9.set_ 0 (.slice a9 (j + 1 + (ln - j)) c9)).cell 0
        have x9 : u9.cell? ⟨w.heap.size, 0, none⟩ = some (.slice la ln lc) := (hx0.belowS b09).cell 0
        have x7 : u7.cell? ⟨w.heap.size, 0, none⟩ = some (.slice la ln lc) := (hx0.belowS b07).cell 0
        clear hr1 hr4 hr7 ho9 hg9 ho7 b07 b09 ht1 ht2 HK one6 ho4 hg4 hg7 b04 b06 HPP HI hx0 hy0 hy9
        go_wp2_with (at_builtin; refine Lib.wpList_append_run _ rfl _ _ _ _ rfl _ _ rfl rfl _ _ hr9 ?_)
        exact bodyPost_ret (v := gV a9 (j + 1 + (ln - j)) c9) (by simp [results, Try.results47, go_sem, hz]) rfl R.out
      · intro K hK
        have b06 : Below u0.drew.heap.size u0.drew (u0.drew.alloc (.cells #[.string X, .slice xa xb xc] 78)) := below_new u0.drew (.cells #[.string X, .slice xa xb xc] 78)
        obtain ⟨v4, u4, hr4, ho4, hg4⟩ := app_nd (ty := 27) (u := u0.drew.alloc (.cells #[.string X, .slice xa xb xc] 78)) (B := u0.drew.heap.size) (n := 0) (l := []) b06.size (owns_nil _ _ _ _) (ht1.keep (w' := u0.drew.alloc (.cells #[.string X, .slice xa xb xc] 78)) (fun g hg hgl => b06.block g hg.2)) (by omega)
        have b46 := below_none hg4
        have b04 : Below u0.drew.heap.size u0.drew u4 := b06.trans (b46.mono b06.size)
        rw [Nat.zero_add, List.nil_append] at ho4
        have one6 := (one_nd u0.drew x 78)
        rw [HXX.out] at one6
        have one6 := one6.keep (w' := u4) (fun g hg hlt => b46.block g hlt)
        obtain ⟨v7, u7, hr7, ho7, hg7⟩ := app_nd (ty := 27) (B := u0.drew.heap.size) b04.size ho4 one6 (by omega)
        have b07 := below_grown b04 b04.size ho4 (Nat.le_refl _) hg7
        have K4 : (fun u => u.cell? ⟨w.heap.size, 0, none⟩ = some (.slice la ln lc) ∧ u.cell? ⟨w.heap.size + 1, 0, none⟩ = some (.string X) ∧ u.cell? ⟨w.heap.size + 1, 1, none⟩ = some (.slice xa xb xc)) u4 := HK.out _ b04
        have K6 : (fun u => u.cell? ⟨w.heap.size, 0, none⟩ = some (.slice la ln lc) ∧ u.cell? ⟨w.heap.size + 1, 0, none⟩ = some (.string X) ∧ u.cell? ⟨w.heap.size + 1, 1, none⟩ = some (.slice xa xb xc)) (u0.drew.alloc (.cells #[.string X, .slice xa xb xc] 78)) := HK.out _ b06
        have K7 : (fun u => u.cell? ⟨w.heap.size, 0, none⟩ = some (.slice la ln lc) ∧ u.cell? ⟨w.heap.size + 1, 0, none⟩ = some (.string X) ∧ u.cell? ⟨w.heap.size + 1, 1, none⟩ = some (.slice xa xb xc)) u7 := HK.out _ b07
        clear b46
        go_simp
        refine hK.out _ _ K6 (fun hHeld => ?_)
        clear hK K
        try simp only [Act.put, List.getElem_toArray, List.getElem_cons_succ, List.getElem_cons_zero, List.setIfInBounds_toArray, List.set_cons_zero, List.set_cons_succ]
        refine wpAnyH_ready (rs := [5]) (by kernel_rfl) (by simp) ?_
        refine AllReadyH.cons rfl (fun K hK => ?_) AllReadyH.nil
        refine Lib.wp_append_run _ _ _ _ _ rfl (.slice none 0 0) (.slice a1 j cc1) rfl rfl _ _ hr4 ?_
        refine hK.out _ _ K4 (fun hHeld => ?_)
        clear hK K
        try simp only [Act.put, List.getElem_toArray, List.getElem_cons_succ, List.getElem_cons_zero, List.setIfInBounds_toArray, List.set_cons_zero, List.set_cons_succ]
        refine wpAnyH_ready (rs := [8]) (by kernel_rfl) (by simp) ?_
        refine AllReadyH.cons rfl (fun K hK => ?_) AllReadyH.nil
        refine Lib.wp_append_run _ _ _ _ _ rfl v4 (.slice (some ⟨u0.drew.heap.size, 0, none⟩) 1 1) rfl rfl _ _ hr7 ?_
        refine hK.out _ _ K7 (fun hHeld => ?_)
        clear hK K
        try simp only [Act.put, List.getElem_toArray, List.getElem_cons_succ, List.getElem_cons_zero, List.setIfInBounds_toArray, List.set_cons_zero, List.set_cons_succ]
        refine wpAnyH_take (i := 9) (v := ?fbvv9) rfl (by kernel_rfl) (by kernel_rfl) (by kernel_rfl) (fun _ _ _ h => h) (Or.inl ⟨by rfl, ?fbhy9⟩) (by assumption) ?fbrest9
        case fbhy9 =>
          intro u hSu
          obtain ⟨s0, s1, s2⟩ := hSu
          go_simp
          try with_reducible rfl
        try simp only [Act.put, List.getElem_toArray, List.getElem_cons_succ, List.getElem_cons_zero, List.setIfInBounds_toArray, List.set_cons_zero, List.set_cons_succ]
        refine wpAnyH_done (by kernel_rfl) ?_ _
        clear K0 K4 K6 K7 hHeld
        obtain ⟨v9, u9, hr9, ho9, hg9⟩ := app_nd (ty := 27) (B := u0.drew.heap.size) b07.size ho7 (ht2.keep (w' := u7) (fun g hg hgl => b07.block g hgl)) (by omega)
        have b09 := below_grown b07 b07.size ho7 (Nat.le_refl _) hg9
        obtain ⟨a9, c9, hv9⟩ := own_form ho9
        subst hv9
        have R := Lib.hid (HPP.out j hj0 HI.out u9 a9 _ c9 (owns_base ho9 S0) (B0.trans (b09.mono S1)))
        have hy9 := hy0.belowS b09
        have d0 := hy9.lt
        have d1 := hy9.frozen 0
        have d2 := hy9.cell 0
        have hz := (hy9.set_ 0 (.slice a9 (j + 1 + (ln - j)) c9)).cell 0
        have x9 : u9.cell? ⟨w.heap.size, 0, none⟩ = some (.slice la ln lc) := (hx0.belowS b09).cell 0
        have x7 : u7.cell? ⟨w.heap.size, 0, none⟩ = some (.slice la ln lc) := (hx0.belowS b07).cell 0
        clear hr1 hr4 hr7 ho9 hg9 ho7 b07 b09 ht1 ht2 HK one6 ho4 hg4 hg7 b04 b06 HPP HI hx0 hy0 hy9
        go_wp2_with (at_builtin; refine Lib.wpList_append_run _ rfl _ _ _ _ rfl _ _ rfl rfl _ _ hr9 ?_)
        exact bodyPost_ret (v := gV a9 (j + 1 + (ln - j)) c9) (by simp [results, Try.results47, go_sem, hz]) rfl R.out
end Go.Proofs.Ytijcojidfallkaa.GF
