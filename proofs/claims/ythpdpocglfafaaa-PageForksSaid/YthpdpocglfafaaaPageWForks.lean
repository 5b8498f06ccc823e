/-
  The walk of PageForks. Nothing here is a statement of the seed.
-/
import Derived.Test.YthpdpocglfafaaaPageWPlays
import Derived.Test.YthpdpocglfafaaaPageMath3
set_option linter.unusedSimpArgs false
set_option linter.unusedVariables false
namespace Go.Proofs.Ythpdpocglfafaaa.WK
open Go.RowKit PM PR PF

theorem fork_i {w0 wr w4 : World} {p g R pf gf gr c : Nat} {l : List Pg}
    (H : Hid (True ∧ FineL l ∧ Tb wr p g l ∧ Row wr gr l ∧ gr ≠ g ∧ l.length ≤ c ∧ c ≤ maxLen ∧ Whole wr R 28 #[.slice (some ⟨gr, 0, none⟩) l.length c] ∧ w0.heap.size ≤ g ∧ w0.heap.size ≤ p ∧ w0.heap.size ≤ R ∧ Below w0.heap.size w0 wr))
    (hT : Hid (Tb w4 pf gf l)) (hpf : wr.heap.size ≤ pf) (hgf : wr.heap.size ≤ gf) (hb : Below wr.heap.size wr w4) : Duo (fun _ => True) wr pf gf w4.heap.size (w4.alloc (.cells #[.slice (some ⟨gr, 0, none⟩) l.length c] 28)) := by
  obtain ⟨h1, h2, h3, h4, h5, h6, h7, h8, h9, h10, h11, h12⟩ := H.out
  have hgr := h4.lt
  exact ⟨l, gr, c, trivial, h2, hT.out.belowS (below_new _ _), (h4.belowS hb).alloc _, by omega, h6, h7, Whole.new _ _ _, hgf, hpf, hb.size, hb.alloc hb.size _⟩
theorem fork_ii {w0 wr w4 : World} {p g R pf gf gr c X : Nat} {l : List Pg}
    (H : Hid (True ∧ FineL l ∧ Tb wr p g l ∧ Row wr gr l ∧ gr ≠ g ∧ l.length ≤ c ∧ c ≤ maxLen ∧ Whole wr R 28 #[.slice (some ⟨gr, 0, none⟩) l.length c] ∧ w0.heap.size ≤ g ∧ w0.heap.size ≤ p ∧ w0.heap.size ≤ R ∧ Below w0.heap.size w0 wr))
    (hT : Hid (Tb w4 pf gf l)) (hpf : wr.heap.size ≤ pf) (hgf : wr.heap.size ≤ gf) (hb : Below wr.heap.size wr w4) (hX : Hid (Whole w4 X 28 #[.slice none 0 0])) (hXs : wr.heap.size ≤ X) : Duo (fun _ => True) wr pf gf X (w4.setCell ⟨X, 0, none⟩ (.slice (some ⟨gr, 0, none⟩) l.length c)) := by
  obtain ⟨h1, h2, h3, h4, h5, h6, h7, h8, h9, h10, h11, h12⟩ := H.out
  have hgr := h4.lt
  have hXg : X ≠ gf := hX.out.ne_ hT.out.row.choose_spec (by decide)
  have hXp : X ≠ pf := by obtain ⟨_, _, c, _, _, hp⟩ := hT.out; exact hX.out.ne_ hp (by decide)
  obtain ⟨t1, t2, t3, t4, t5, t6⟩ := hT.out
  refine ⟨l, gr, c, trivial, h2, ⟨t1, t2.far hXg.symm _, t3, t4, t5, t6.far hXp.symm _⟩, (h4.belowS hb).far (by show gr ≠ X; omega) _, by omega, h6, h7, ?_, hgf, hpf, hXs, hb.setCell hXs _⟩
  have := hX.out.set_ 0 (.slice (some ⟨gr, 0, none⟩) l.length c)
  simpa using this
theorem keep_al {W8 w4 : World} {R : Nat} {v : Option Value} (h : w4.cell? ⟨R, 0, none⟩ = v) (hR : R < w4.heap.size) (hb : Below W8.heap.size W8 w4) (o : Obj) : (w4.alloc o).cell? ⟨R, 0, none⟩ = v ∧ Below W8.heap.size W8 (w4.alloc o) :=
  ⟨((below_new w4 o).cell (p := ⟨R, 0, none⟩) hR).trans h, hb.alloc hb.size o⟩
theorem keep_st {W8 w4 : World} {R : Nat} {v : Option Value} (h : w4.cell? ⟨R, 0, none⟩ = v) (hR : R ≠ W8.heap.size) (hb : Below W8.heap.size W8 w4) (u : Value) : (w4.setCell ⟨W8.heap.size, 0, none⟩ u).cell? ⟨R, 0, none⟩ = v ∧ Below W8.heap.size W8 (w4.setCell ⟨W8.heap.size, 0, none⟩ u) :=
  ⟨(World.cell?_setCell_other _ _ _ _ (fun e => hR (congrArg Addr.block e).symm)).trans h, hb.setCell (Nat.le_refl _) u⟩
theorem acts_on {w W : World} {a : Option Addr} {n : Nat} (h : Hid (n = 0 ∨ ∃ ga off, a = some ⟨ga, off, none⟩ ∧ ga < w.heap.size ∧
    ∀ i, i < n → ∃ k x m o e : Int, (0 ≤ k ∧ k ≤ 255) ∧ m ≤ 9223372036854775807 ∧ w.cell? ⟨ga, off + i * 5, none⟩ = some (.int .u8 k) ∧ w.cell? ⟨ga, off + i * 5 + 1, none⟩ = some (.int .i64 x) ∧ w.cell? ⟨ga, off + i * 5 + 2, none⟩ = some (.int .i64 m) ∧
      w.cell? ⟨ga, off + i * 5 + 3, none⟩ = some (.int .u16 o) ∧ w.cell? ⟨ga, off + i * 5 + 4, none⟩ = some (.int .u64 e))) (hb : Below w.heap.size w W) : Hid (n = 0 ∨ ∃ ga off, a = some ⟨ga, off, none⟩ ∧ ga < W.heap.size ∧
    ∀ i, i < n → ∃ k x m o e : Int, (0 ≤ k ∧ k ≤ 255) ∧ m ≤ 9223372036854775807 ∧ W.cell? ⟨ga, off + i * 5, none⟩ = some (.int .u8 k) ∧ W.cell? ⟨ga, off + i * 5 + 1, none⟩ = some (.int .i64 x) ∧ W.cell? ⟨ga, off + i * 5 + 2, none⟩ = some (.int .i64 m) ∧
      W.cell? ⟨ga, off + i * 5 + 3, none⟩ = some (.int .u16 o) ∧ W.cell? ⟨ga, off + i * 5 + 4, none⟩ = some (.int .u64 e)) :=
  Lib.hid (h.out.imp id fun ⟨ga, off, e, hg, hall⟩ => ⟨ga, off, e, Nat.lt_of_lt_of_le hg hb.size, fun i hi => act_at (Lib.hid hall) hi hb hg⟩)
set_option maxRecDepth 100000 in
set_option maxHeartbeats 8000000 in
theorem PageForks_walk (n : Int) (hn0 : 0 ≤ n ∧ n ≤ 255) (v v2 : Value) (m m2 : Nat) (w : World) (hv : Acts w.heap.size w v m) (hv2 : Acts w.heap.size w v2 m2) : Calls Try.prog 5 #[.int .u8 n, v, v2] w fun e w' => e = .returned (.bool true) ∧ Below w.heap.size w w' := by
  obtain ⟨a, cap, rfl, hmc, hcm, hacts⟩ := hv
  obtain ⟨a2, cap2, rfl, hmc2, hcm2, hacts2⟩ := hv2
  unfold maxLen at hcm hcm2
  by_cases h100 : 60 < m
  · have h100' : (60 : Int) < m := by omega
    clear hacts hacts2
    go_enter Try.func5, Try.ntmps5
    go_wp2_with (go_at_call 9; (with_reducible refine (awake_any _).mono ?_); rintro e w1 ⟨rfl, hb⟩)
    go_ret
    exact ⟨rfl, hb⟩
  have h100' : (m : Int) ≤ 60 := by omega
  by_cases h200 : 60 < m2
  · have h200' : (60 : Int) < m2 := by omega
    clear hacts hacts2
    go_enter Try.func5, Try.ntmps5
    go_wp2_with (go_at_call 9; (with_reducible refine (awake_any _).mono ?_); rintro e w1 ⟨rfl, hb⟩)
    go_ret
    exact ⟨rfl, hb⟩
  · have h200' : (m2 : Int) ≤ 60 := by omega
    have d1 : decide ((60 : Int) < m) = false := by simp; omega
    have d2 : decide ((60 : Int) < m2) = false := by simp; omega
    have CN := Lib.hid (new_any n w)
    have CM := Lib.hid (fun w => refNew_any n w)
    have hN : (min (max n 0) 256).toNat ≤ 256 := by omega
    generalize (min (max n 0) 256).toNat = N at *
    have HA := Lib.hid hacts
    have HA2 := Lib.hid hacts2
    clear hacts hacts2
    go_enter Try.func5, Try.ntmps5
    go_wp2_with fail
    (go_at_call 10; (with_reducible refine CN.out.mono ?_); rintro e w1 ⟨p, g, rfl, hT, hp, hg, hb⟩; have H1 := Lib.hid hT; have B1 := Lib.hid hb; clear hT hb)
    go_wp2_with fail
    (go_at_call 11; (with_reducible refine (CM.out _).mono ?_); rintro e w2 ⟨gr, c, rfl, hR, hg2, hb2⟩; have H2 := Lib.hid (duo_new (J := fun _ => True) trivial hN H1.out hp hg B1.out hR hg2 hb2); clear hR hb2)
    go_wp2_with fail
    generalize w2.heap.size = R at *
    generalize w2.alloc (.cells #[.slice (some ⟨gr, 0, none⟩) N c] 28) = w3 at *
    clear CN CM H1 B1 hg2
    go_loopw [9] (fun i wr => ∃ k : Nat, k ≤ m ∧ i = .int .i64 (k : Int) ∧ Hid (Duo (fun _ => True) w p g R wr)) (fun i _ => m - (intOf i).toNat)
    case atStart => exact ⟨0, by omega, rfl, H2⟩
    case round =>
      obtain ⟨k, hk, rfl, hD⟩ := hrel
      have hbw := hD.out.below
      by_cases hlt : k < m
      · obtain ⟨l, gr2, c2, e0, f0, hRg, hRl, hgw, h256, hO⟩ := duo_open hD.out
        have hlt' : (k : Int) < m := by omega
        have hk0 : (0 : Int) ≤ k := by omega
        rcases HA.out with h0 | ⟨ga, off, rfl, hga, hall⟩
        · omega
        · obtain ⟨q, x, mm, o, ee, hq, hmm, a0, a1, a2, a3, a4⟩ := act_at (Lib.hid hall) hlt hbw hga
          have CD := Lib.hid (duo_do (J := (fun _ => True)) q x mm o ee hq hmm hO)
          have HALL := Lib.hid hall
          have NEXT := Lib.hid (fun w2 gr' c' D => duo_next (J := (fun _ => True)) (fun _ _ _ _ => trivial) (w2 := w2) (x := ⟨q, x, mm, o, ee⟩) (gr' := gr') (c' := c') hO D)
          clear hall hq hmm hbw hO
          generalize l.length = ln at *
          go_wp2_with fail
          go_region_with (go_at_call 13; (with_reducible refine CD.out.mono ?_); rintro en w4 ⟨gr3, c3, rfl, hD3, e3, f3⟩)
          all_goals
            have HD5 := Lib.hid (NEXT.out _ _ _ hD3)
            generalize hw5 : w4.setCell ⟨R, 0, none⟩ (.slice (some ⟨gr3, 0, none⟩) (actL l ⟨q, x, mm, o, ee⟩).length c3) = w5 at *
            clear hw5 e3 f3 hD3 CD NEXT e0 f0 a0 a1 a2 a3 a4 hRl
            generalize (actL l ⟨q, x, mm, o, ee⟩).length = ln5 at *
            go_wp2_with fail
            go_roundw
            case rel => exact ⟨k + 1, by omega, by go_num, HD5⟩
            case measure => simp [intOf]; omega
      · obtain rfl : k = m := by omega
        obtain ⟨W8, hW8⟩ : ∃ W8, W8 = wr := ⟨_, rfl⟩
        subst hW8
        obtain ⟨l, gr2, c2, e0, f0, hRg, hRl, hgw, h256, hO⟩ := duo_open hD.out
        have CF := Lib.hid (fun u (hu : Below W8.heap.size W8 u) => fork_tb (hO.out.2.2.1.belowS hu))
        have HD1 := hD
        have hbd : Below W8.heap.size W8 W8.drew := (Below.refl _ _).drew
        have HB2 := acts_on HA2 hbw
        have FI := Lib.hid (fun w4 pf gf hT h1 h2 h3 => fork_i (w4 := w4) (pf := pf) (gf := gf) hO hT h1 h2 h3)
        have FII := Lib.hid (fun w4 pf gf X hT h1 h2 h3 h4 h5 => fork_ii (w4 := w4) (pf := pf) (gf := gf) (X := X) hO hT h1 h2 h3 h4 h5)
        have hRn : R ≠ W8.heap.size := Nat.ne_of_lt hRl
        have hRn1 : R < W8.heap.size + 1 := Nat.lt_succ_of_lt hRl
        clear hO hD
        generalize hlen : l.length = ln at *
        have HLN := Lib.hid hlen
        clear hlen
        go_wp2_with fail
        have hba1 : Below W8.heap.size W8 (W8.drew.alloc (.cells #[.slice none 0 0] 28)) := hbd.alloc hbd.size _
        have hba2 : Below W8.heap.size W8 (W8.alloc (.cells #[.slice none 0 0] 28)).drew := (below_new W8 _).drew
        have hed1 : W8.drew.cell? ⟨R, 0, none⟩ = some (.slice (some ⟨gr2, 0, none⟩) ln c2) := e0
        have hed2 : (W8.drew.alloc (.cells #[.slice none 0 0] 28)).cell? ⟨R, 0, none⟩ = some (.slice (some ⟨gr2, 0, none⟩) ln c2) := (hba1.cell (p := ⟨R, 0, none⟩) hRl).trans e0
        have hed3 : (W8.alloc (.cells #[.slice none 0 0] 28)).drew.cell? ⟨R, 0, none⟩ = some (.slice (some ⟨gr2, 0, none⟩) ln c2) := (hba2.cell (p := ⟨R, 0, none⟩) hRl).trans e0
        have HNX1 : Hid (Whole (W8.drew.alloc (.cells #[.slice none 0 0] 28)) W8.heap.size 28 #[.slice none 0 0]) := Lib.hid (Whole.new W8.drew _ _)
        have HNX2 : Hid (Whole (W8.alloc (.cells #[.slice none 0 0] 28)).drew W8.heap.size 28 #[.slice none 0 0]) := Lib.hid (Whole.new W8 _ _)
        go_region_held3 (fun u => u.cell? ⟨R, 0, none⟩ = some (.slice (some ⟨gr2, 0, none⟩) ln c2) ∧ Below W8.heap.size W8 u)
          (first | with_reducible exact ⟨e4, hw4⟩ | with_reducible exact HAL.out _ | with_reducible exact HST.out _ | with_reducible exact ⟨hed1, hbd⟩ | with_reducible exact ⟨hed2, hba1⟩ | with_reducible exact ⟨hed3, hba2⟩)
          ((go_at_call 20; (first | ((with_reducible refine (CF.out _ hbd).mono ?_); rintro en w4 ⟨pf, gf, rfl, hTf, hpf, hgf, hb4⟩; have HT4 := Lib.hid hTf; have hw4 : Below W8.heap.size W8 w4 := hbd.trans hb4; have e4 := (hw4.cell (p := ⟨R, 0, none⟩) hRl).trans e0; have hR4 : R < w4.heap.size := Nat.lt_of_lt_of_le hRl hw4.size; have HPF := Lib.hid (show W8.heap.size ≤ pf by have := hpf; simp at this; omega); have HGF := Lib.hid (show W8.heap.size ≤ gf by have := hgf; simp at this; omega); have HAL := Lib.hid (fun o => keep_al e4 hR4 hw4 o); clear hTf hpf hgf; clear hb4) | ((with_reducible refine (CF.out _ hba1).mono ?_); rintro en w4 ⟨pf, gf, rfl, hTf, hpf, hgf, hb4⟩; have HT4 := Lib.hid hTf; have hw4 : Below W8.heap.size W8 w4 := (hba1).trans (hb4.mono (by simp)); have e4 := (hw4.cell (p := ⟨R, 0, none⟩) hRl).trans e0; have hR4 : R < w4.heap.size := Nat.lt_of_lt_of_le hRl hw4.size; have HPF := Lib.hid (show W8.heap.size ≤ pf by have := hpf; simp at this; omega); have HGF := Lib.hid (show W8.heap.size ≤ gf by have := hgf; simp at this; omega); have HAL := Lib.hid (fun o => keep_al e4 hR4 hw4 o); clear hTf hpf hgf; have B4 := (HNX1.out).belowS hb4; have x4 := B4.cell 0; have xf4 := B4.frozen 0; have xl4 := B4.lt; simp only [List.getElem?_toArray, List.getElem?_cons_zero] at x4; have HB4 := Lib.hid B4; have HST := Lib.hid (fun u => keep_st e4 hRn hw4 u); clear hb4 B4) | ((with_reducible refine (CF.out _ hba2).mono ?_); rintro en w4 ⟨pf, gf, rfl, hTf, hpf, hgf, hb4⟩; have HT4 := Lib.hid hTf; have hw4 : Below W8.heap.size W8 w4 := (hba2).trans (hb4.mono (by simp)); have e4 := (hw4.cell (p := ⟨R, 0, none⟩) hRl).trans e0; have hR4 : R < w4.heap.size := Nat.lt_of_lt_of_le hRl hw4.size; have HPF := Lib.hid (show W8.heap.size ≤ pf by have := hpf; simp at this; omega); have HGF := Lib.hid (show W8.heap.size ≤ gf by have := hgf; simp at this; omega); have HAL := Lib.hid (fun o => keep_al e4 hR4 hw4 o); clear hTf hpf hgf; have B4 := (HNX2.out).belowS hb4; have x4 := B4.cell 0; have xf4 := B4.frozen 0; have xl4 := B4.lt; simp only [List.getElem?_toArray, List.getElem?_cons_zero] at x4; have HB4 := Lib.hid B4; have HST := Lib.hid (fun u => keep_st e4 hRn hw4 u); clear hb4 B4))))
        all_goals
          rename_i hHeld
          clear hHeld
          first | (have HD2 := Lib.hid (FII.out w4 pf gf W8.heap.size HT4 HPF.out HGF.out hw4 HB4 (Nat.le_refl _)); generalize w4.setCell ⟨W8.heap.size, 0, none⟩ (.slice (some ⟨gr2, 0, none⟩) ln c2) = W9 at *; clear x4 xf4 xl4 HB4 HST; revert HD2; generalize W8.heap.size = X; intro HD2) | (have HD2 := Lib.hid (FI.out w4 pf gf HT4 HPF.out HGF.out hw4); generalize w4.alloc (.cells #[.slice (some ⟨gr2, 0, none⟩) ln c2] 28) = W9 at *; generalize w4.heap.size = X at *)
          clear hed1 hed2 hed3 hba1 hba2 HNX1 HNX2 CF FI FII e0 e4 hw4 HAL HPF HGF HT4 hR4 hRn hRn1 hbd
          go_wp2_with fail
          go_loopw [13] (fun i wr => ∃ k : Nat, k ≤ m2 ∧ i = .int .i64 (k : Int) ∧ Hid (Duo (fun _ => True) W8 pf gf X wr)) (fun i _ => m2 - (intOf i).toNat)
          case atStart => exact ⟨0, by omega, rfl, HD2⟩
          case round =>
            obtain ⟨k, hk, rfl, hD⟩ := hrel
            have hbw := hD.out.below
            by_cases hlt : k < m2
            · obtain ⟨l, gr2, c2, e0, f0, hRg, hRl, hgw, h256, hO⟩ := duo_open hD.out
              have hlt' : (k : Int) < m2 := by omega
              have hk0 : (0 : Int) ≤ k := by omega
              rcases HB2.out with h0 | ⟨ga, off, rfl, hga, hall⟩
              · omega
              · obtain ⟨q, x, mm, o, ee, hq, hmm, a0, a1, a2, a3, a4⟩ := act_at (Lib.hid hall) hlt hbw hga
                have CD := Lib.hid (duo_do (J := (fun _ => True)) q x mm o ee hq hmm hO)
                have HALL := Lib.hid hall
                have NEXT := Lib.hid (fun w2 gr' c' D => duo_next (J := (fun _ => True)) (fun _ _ _ _ => trivial) (w2 := w2) (x := ⟨q, x, mm, o, ee⟩) (gr' := gr') (c' := c') hO D)
                clear hall hq hmm hbw hO
                generalize l.length = ln at *
                go_wp2_with fail
                go_region_with (go_at_call 13; (with_reducible refine CD.out.mono ?_); rintro en w4 ⟨gr3, c3, rfl, hD3, e3, f3⟩)
                all_goals
                  have HD5 := Lib.hid (NEXT.out _ _ _ hD3)
                  generalize hw5 : w4.setCell ⟨X, 0, none⟩ (.slice (some ⟨gr3, 0, none⟩) (actL l ⟨q, x, mm, o, ee⟩).length c3) = w5 at *
                  clear hw5 e3 f3 hD3 CD NEXT e0 f0 a0 a1 a2 a3 a4 hRl
                  generalize (actL l ⟨q, x, mm, o, ee⟩).length = ln5 at *
                  go_wp2_with fail
                  go_roundw
                  case rel => exact ⟨k + 1, by omega, by go_num, HD5⟩
                  case measure => simp [intOf]; omega
            · obtain rfl : k = m2 := by omega
              have HDt := Lib.hid (HD1.out.belowS hD.out.below)
              have HDf := hD
              have hbz : Below wr.heap.size wr wr := Below.refl _ _
              go_wp2_with fail
              (go_at_call 21; refine (len_nil _).mono ?_; rintro e wn1 ⟨rfl, rfl⟩)
              go_wp2_with fail
              (go_at_call 22; refine (get_nil 0 _).mono ?_; rintro e wn2 ⟨rfl, hbn⟩; have hbz := below_of hbz hbn; clear hbn)
              go_wp2_with fail
              (go_at_call 23; refine (used_nil _).mono ?_; rintro e wn3 ⟨rfl, hbn⟩; have hbz := below_of hbz hbn; clear hbn)
              go_wp2_with fail
              (go_at_call 20; refine (fork_nil _).mono ?_; rintro e wn4 ⟨rfl, rfl⟩)
              go_wp2_with fail
              (go_at_call 24; refine (stage_nil 0 1 1 _).mono ?_; rintro e wn5 ⟨rfl, rfl⟩)
              go_wp2_with fail
              (go_at_call 25; refine (publish_nil 1 0 _).mono ?_; rintro e wn6 ⟨rfl, hbn⟩; have hbz := below_of hbz hbn; clear hbn)
              go_wp2_with fail
              (go_at_call 26; refine (retire_nil 1 1 _).mono ?_; rintro e wn7 ⟨rfl, hbn⟩; have hbz := below_of hbz hbn; clear hbn)
              have HDf7 := Lib.hid (HDf.out.belowS hbz)
              obtain ⟨l7, gr7, c7, e7, _, _, _, _, _, hO7⟩ := duo_open HDf7.out
              have CS := Lib.hid (duo_same (J := fun _ => True) hO7)
              generalize l7.length = ln7 at *
              go_wp2_with fail
              (go_at_call 27; refine (release_nil 1 _).mono ?_; rintro e wn8 ⟨rfl, rfl⟩)
              go_wp2_with fail
              (go_at_call 12; (with_reducible refine CS.out.mono ?_); rintro e wx ⟨rfl, hbx⟩)
              have hbz2 := below_of hbz hbx
              have HDt8 := Lib.hid (HDt.out.belowS hbz2)
              obtain ⟨l8, gr8, c8, e8, _, _, _, _, _, hO8⟩ := duo_open HDt8.out
              have CT := Lib.hid (duo_same (J := fun _ => True) hO8)
              generalize l8.length = ln8 at *
              go_wp2_with fail
              (go_at_call 12; (with_reducible refine CT.out.mono ?_); rintro e wy ⟨rfl, hby⟩)
              have HBY := Lib.hid (HDt8.out.below.trans (hby.mono HDt8.out.below.size))
              clear e7 e8
              go_wp2_with fail
              (go_at_call 9; (with_reducible refine (awake_any _).mono ?_); rintro e wz ⟨rfl, hbw9⟩)
              go_wp2_with fail
              go_ret
              exact ⟨rfl, HBY.out.trans (hbw9.mono HBY.out.size)⟩
end Go.Proofs.Ythpdpocglfafaaa.WK
