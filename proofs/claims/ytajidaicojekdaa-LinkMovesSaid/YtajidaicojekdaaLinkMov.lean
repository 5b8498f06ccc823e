/-
  The law LinkMoves, walked. Nothing here is a statement of the seed.
-/
import Derived.Test.YtajidaicojekdaaLinkOnl
set_option linter.unusedSimpArgs false
set_option linter.unusedVariables false
namespace Go.Proofs.Ytajidaicojekdaa.KF
open Go.RowKit WM NR OM OR VM YM YR RM RF KM
theorem zeros_u32 (n : Nat) : u32s (List.replicate n 0) = List.replicate n (Value.int .u32 0) := by simp [u32s]
/-- a cell of an image's row -/
theorem row_cell {B : Nat} {w : World} {a : Option Addr} {n cap : Nat} {m : Md} {c d : Int} {l : List Nat} (h : w.ownsRow B 46 1 (.slice a n cap) n (u32s (imgL m c d l))) (hn : nW m = n) (hw : ∀ i : Nat, 0 ≤ wrdW m c d l (i : Nat)) {k : Nat} (hk : k < n) :
    ∃ g, a = some ⟨g, 0, none⟩ ∧ w.cell? ⟨g, k, none⟩ = some (.int .u32 (wrdW m c d l (k : Nat))) ∧ n ≤ cap ∧ g < w.heap.size := by
  obtain ⟨hxl, hform⟩ := h
  rcases hform with ⟨_, hN0⟩ | ⟨g, cap', cur, hsl, hbg, hrow, hnc, hcm, hcs, htk⟩
  · exfalso; omega
  simp only [Value.slice.injEq, true_and] at hsl
  obtain ⟨rfl, rfl⟩ := hsl
  have hown : w.ownsRow B 46 1 (.slice (some ⟨g, 0, none⟩) n cap) n (u32s (imgL m c d l)) := ⟨hxl, Or.inr ⟨g, cap, cur, rfl, hbg, hrow, hnc, hcm, hcs, htk⟩⟩
  have e := hown.cellAt k (by omega)
  rw [words_at (by rw [imgL_len, hn]; exact hk), imgL_at (by rw [hn]; exact hk), Int.toNat_of_nonneg (hw k)] at e
  exact ⟨g, rfl, e, hnc, (Array.getElem?_eq_some_iff.1 hrow).1⟩
end Go.Proofs.Ytajidaicojekdaa.KF
namespace Go.Proofs.Ytajidaicojekdaa.WK
open Go.RowKit WM NR OM OR VM YM YR RM RF KM KF
set_option maxHeartbeats 4000000
set_option maxRecDepth 10000
section
variable {w : World} {ea : Option Addr} {en ec : Nat} {ia : Option Addr} {im ic : Nat} {ca : Option Addr} {cn cc : Nat} {da : Option Addr} {dn dc : Nat} {ra : Option Addr} {rn rc : Nat} {m : Md}
theorem LinkMoves_walk (h : RdM (· < w.heap.size) w ea en ec ia im ic ca cn cc da dn dc ra rn rc m) (hf : FineM m) (fa fb : Int) (hfa : 0 ≤ fa ∧ fa ≤ 255) (hfb : 0 ≤ fb ∧ fb ≤ 255) :
    Calls Try.prog 7 #[mV (bs m.name) ea en ec ia im ic ca cn cc da dn dc ra rn rc, .int .u8 fa, .int .u8 fb] w fun e w' => e = .returned (.bool true) ∧ Below w.heap.size w w' := by
  obtain ⟨l1, l2, l3, l4, l5⟩ := h.lens
  have J0 := Lib.hid (MJ1.new w (mCs (bs m.name) ea en ec ia im ic ca cn cc da dn dc ra rn rc))
  have CS := Lib.hid (fun (u : World) (hb : Below w.heap.size w u) => size_any (h.go hb hb.size))
  have CK := Lib.hid (fun (u : World) (hb : Below w.heap.size w u) => VR.vcheck_any (h.go hb hb.size) hf)
  have AW := Lib.hid awk16
  by_cases hall : szF en [im, cn, dn, rn] ≤ 2000 ∧ VR.chkV m = 0
  · obtain ⟨hs, hk⟩ := hall
    obtain ⟨z1, z2, z3, z4, z5⟩ := szF_five hs
    have hG : VM.Good m := good_of (by unfold VR.chkV at hk; split at hk <;> omega)
    obtain ⟨⟨_, y2, _, _, _⟩, _⟩ := chk_ok hG.ck
    rw [l2] at y2
    have hl0 : cn * 4 ≤ 140737488355328 ∧ dn * 4 ≤ 140737488355328 := by omega
    have CO := Lib.hid (fun (u : World) (hb : Below w.heap.size w u) => of_any (h.go hb hb.size) hl0)
    have b1 : pgs cn ≤ 125 := pgs_le (by omega)
    have b2 : pgs dn ≤ 125 := pgs_le (by omega)
    have CT1 := Lib.hid (at_any ((pgs cn : Nat) : Int) ((pgs dn : Nat) : Int) fa (by omega) (by omega) (by omega))
    have CT2 := Lib.hid (at_any ((pgs cn : Nat) : Int) ((pgs dn : Nat) : Int) fb (by omega) (by omega) (by omega))
    obtain ⟨hq1, hq2⟩ := nW_pages (good_lng hG)
    obtain ⟨a1, a2, a3, a4⟩ := atP_bd ((pgs cn : Nat) : Int) ((pgs dn : Nat) : Int) fa
    obtain ⟨b11, b12, b13, b14⟩ := atP_bd ((pgs cn : Nat) : Int) ((pgs dn : Nat) : Int) fb
    unfold resAt at CT1 CT2
    obtain ⟨⟨c, d, pe⟩, hat⟩ : ∃ q, atP ((pgs cn : Nat) : Int) ((pgs dn : Nat) : Int) fa = q := ⟨_, rfl⟩
    obtain ⟨⟨c', d', pf⟩, hat2⟩ : ∃ q, atP ((pgs cn : Nat) : Int) ((pgs dn : Nat) : Int) fb = q := ⟨_, rfl⟩
    rw [hat] at CT1 a1 a2 a3 a4
    rw [hat2] at CT2 b11 b12 b13 b14
    simp only at CT1 a1 a2 a3 a4 CT2 b11 b12 b13 b14
    have hby : pe = 0 → pf = 0 → d' - d = c' - c := fun e1 e2 => by
      subst e1 e2
      obtain ⟨x1, x2⟩ := at_where hat
      obtain ⟨x3, x4⟩ := at_where hat2
      omega
    have hzl : m.imps.length ≤ (List.replicate im 0 : List Nat).length := by rw [List.length_replicate]; omega
    have hzs : ∀ x ∈ (List.replicate im 0 : List Nat), x ≤ 65535 := fun x hx => by have := List.eq_of_mem_replicate hx; omega
    have CI1 := Lib.hid (fun (u : World) (hb : Below w.heap.size w u) (q : Value) (hR : Slots u q (List.replicate im 0)) => by
      have := KP.image_any (h.go hb hb.size) hf hl0 c d (by omega) (by omega) (List.replicate im 0) q hR (fun x hx => by have := hzs x hx; omega)
      rw [good_img hG hzl hzs (by omega) (by omega)] at this
      exact this)
    have CI2 := Lib.hid (fun (u : World) (hb : Below w.heap.size w u) (q : Value) (hR : Slots u q (List.replicate im 0)) => by
      have := KP.image_any (h.go hb hb.size) hf hl0 c' d' (by omega) (by omega) (List.replicate im 0) q hR (fun x hx => by have := hzs x hx; omega)
      rw [good_img hG hzl hzs (by omega) (by omega)] at this
      exact this)
    have HI1 := Lib.hid (good_img hG hzl hzs (c := c) (d := d) (by omega) (by omega))
    have HI2 := Lib.hid (good_img hG hzl hzs (c := c') (d := d') (by omega) (by omega))
    have CP := Lib.hid (fun (u : World) (hb : Below w.heap.size w u) (k : Nat) (hk : k ≤ 640) => spot_any (h.go hb hb.size) hl0 (k : Int) (by omega))
    have HM := Lib.hid (fun (e1 : pe = 0) (e2 : pf = 0) (i : Nat) => moves_by hG (i : Int) hzl hzs (c := c) (d := d) (c' := c') (d' := d') (by omega) (by omega) (by omega) (by omega) (hby e1 e2))
    have HB1 := Lib.hid (fun i : Nat => (wrdW_bd hf (c := c) (d := d) (fun x (hx : x ∈ (List.replicate im 0 : List Nat)) => by have := hzs x hx; omega) (i : Int)).1)
    have HB2 := Lib.hid (fun i : Nat => (wrdW_bd hf (c := c') (d := d') (fun x (hx : x ∈ (List.replicate im 0 : List Nat)) => by have := hzs x hx; omega) (i : Int)).1)
    have hs' : ¬ (2000 : Int) < (szF en [im, cn, dn, rn] : Nat) := by omega
    have HF := Lib.hid (fun (k : Nat) (hk : k < rn) => hf.rels _ (mem_getD (l := m.rels) (d := ⟨0, 0, 0⟩) (i := k) (by omega)))
    have HG := Lib.hid hG
    have HRL := Lib.hid h.rl
    have HLR := Lib.hid l5
    have hrc : (rn : Int) ≤ rc := by have := h.rl.len.2.1; omega
    have HW := Lib.hid (And.intro l3 l4)
    rw [hk] at CK
    obtain ⟨i0, hi, hz0, hz1, hz2⟩ := info_parts infoWord
    have hnm : im ≤ maxLen := by unfold maxLen; omega
    have hnb : 4 * im ≤ 281474976710656 := by omega
    clear h hf hs hk hG hl0 l1 l2 l3 l4 l5 z1 z2 z3 z4 hq1 b1 b2 hat hat2 hzl hzs hby
    generalize ((szF en [im, cn, dn, rn] : Nat) : Int) = S at *
    obtain ⟨n, hnw⟩ : ∃ n, nW m = n := ⟨_, rfl⟩
    rw [hnw] at hq2
    have HNW := Lib.hid hnw
    clear hnw
    generalize pgs cn = p at *
    generalize pgs dn = pq at *
    generalize bs m.name = x at *
    have hsd : decide ((2000 : Int) < S) = false := decide_eq_false hs'
    go_enter Try.func7, Try.ntmps7
    go_upto_region 1 with fail
    generalize w.alloc (.cells (mCs x ea en ec ia im ic ca cn cc da dn dc ra rn rc) 45) = W at *
    have JJ := J0
    clear J0
    obtain ⟨c0, c1, c2, c3, c4, c5⟩ := mod_cells JJ.out.X
    have c6 := JJ.out.X.lt
    go_upto_region 3 with (first | (go_at_call 16; (with_reducible refine (CS.out _ JJ.out.B).mono ?_); rintro e w9 ⟨rfl, hb⟩; have JJ := Lib.hid (JJ.out.belowS hb); obtain ⟨c0, c1, c2, c3, c4, c5⟩ := mod_cells JJ.out.X; have c6 := JJ.out.X.lt; clear hb) | (go_at_call 23; (with_reducible refine (CK.out _ JJ.out.B).mono ?_); rintro e w9 ⟨rfl, hb⟩; have JJ := Lib.hid (JJ.out.belowS hb); obtain ⟨c0, c1, c2, c3, c4, c5⟩ := mod_cells JJ.out.X; have c6 := JJ.out.X.lt; clear hb))
    obtain ⟨W2, hW2⟩ : ∃ q, q = w9 := ⟨_, rfl⟩
    subst hW2
    go_wp2_with (at_make; refine wpList_make_full _ rfl _ _ 36 rfl W2.heap.size 46 i0 (.int .u32 0) 1 Try.underlying36 hi hz0 hz1 _ _ _ _ im rfl rfl (by omega) (by omega) (by rw [hz2]; exact hnb) hnm (Nat.le_refl _) ?_)
    intro w10 hown hgrow
    have hb : Below W2.heap.size W2 w10 := (Below.refl _ _).grown hgrow (Nat.le_refl _) (fun k hk => by cases hk)
    have JJ := Lib.hid (JJ.out.belowS hb)
    have hown : w10.ownsRow W2.heap.size 46 1 (.slice (some ⟨W2.heap.size, 0, none⟩) im im) im (u32s (List.replicate im 0)) := by
      rw [zeros_u32, ← toList_madeCells_one (Value.int IntKind.u32 0) im]
      exact hown
    have HSL : Hid (Slots w10 (.slice (some ⟨W2.heap.size, 0, none⟩) im im) (List.replicate im 0)) := Lib.hid ⟨reads_lt (Reads.of_owns hown)⟩
    clear hown hgrow hb c0 c1 c2 c3 c4 c5 c6
    obtain ⟨c0, c1, c2, c3, c4, c5⟩ := mod_cells JJ.out.X
    have c6 := JJ.out.X.lt
    go_upto_region 5 with (first | (go_at_call 25; (with_reducible refine (CO.out _ JJ.out.B).mono ?_); rintro e w11 ⟨rfl, hb⟩; have JJ := Lib.hid (JJ.out.belowS hb); have HSL := Lib.hid (HSL.out.below hb); clear hb) | (go_at_call 24; (with_reducible refine (CT1.out _).mono ?_); rintro e w12 ⟨rfl, hb⟩; have JJ := Lib.hid (JJ.out.belowS hb); have HSL := Lib.hid (HSL.out.below hb); clear hb))
    clear c0 c1 c2 c3 c4 c5 c6
    have hb := below_new w12 (.cells #[.int .u32 c, .int .u32 d] 48)
    have HPA := Lib.hid (Whole.new w12 48 #[.int .u32 c, .int .u32 d])
    have JJ := Lib.hid (JJ.out.belowS hb)
    have HSL := Lib.hid (HSL.out.below hb)
    clear hb
    generalize w12.alloc (.cells #[.int .u32 c, .int .u32 d] 48) = W3 at *
    obtain ⟨PA, hPA⟩ : ∃ q, w12.heap.size = q := ⟨_, rfl⟩
    rw [hPA] at HPA ⊢
    clear hPA
    obtain ⟨c0, c1, c2, c3, c4, c5⟩ := mod_cells JJ.out.X
    have c6 := JJ.out.X.lt
    go_upto_region 6 with (first | (go_at_call 25; (with_reducible refine (CO.out _ JJ.out.B).mono ?_); rintro e w13 ⟨rfl, hb⟩; have JJ := Lib.hid (JJ.out.belowS hb); have HSL := Lib.hid (HSL.out.below hb); have HPA := Lib.hid (HPA.out.belowS hb); clear hb) | (go_at_call 24; (with_reducible refine (CT2.out _).mono ?_); rintro e w14 ⟨rfl, hb⟩; have JJ := Lib.hid (JJ.out.belowS hb); have HSL := Lib.hid (HSL.out.below hb); have HPA := Lib.hid (HPA.out.belowS hb); clear hb))
    clear c0 c1 c2 c3 c4 c5 c6
    have hb := below_new w14 (.cells #[.int .u32 c', .int .u32 d'] 48)
    have HPB := Lib.hid (Whole.new w14 48 #[.int .u32 c', .int .u32 d'])
    have JJ := Lib.hid (JJ.out.belowS hb)
    have HSL := Lib.hid (HSL.out.below hb)
    have HPA := Lib.hid (HPA.out.belowS hb)
    clear hb
    generalize w14.alloc (.cells #[.int .u32 c', .int .u32 d'] 48) = W4 at *
    obtain ⟨PB, hPB⟩ : ∃ q, w14.heap.size = q := ⟨_, rfl⟩
    rw [hPB] at HPB ⊢
    clear hPB
    obtain ⟨c0, c1, c2, c3, c4, c5⟩ := mod_cells JJ.out.X
    have c6 := JJ.out.X.lt
    by_cases hpe : pe = 0
    · by_cases hpf : pf = 0
      · subst hpe hpf
        have HMV := Lib.hid (HM.out rfl rfl)
        clear HM
        obtain ⟨p0, p1⟩ := pl_cells HPA.out
        have p6 := HPA.out.lt
        go_upto_region 9 with (go_at_call 20; (with_reducible refine (CI1.out _ JJ.out.B _ HSL.out).mono ?_); rintro e w15 ⟨q, rfl, hi15, hb⟩; have JJ := Lib.hid (JJ.out.belowS hb); have HQ := hi15.yes HI1.out; rw [HNW.out] at HQ; have HQ := Lib.hid HQ; have HSL := Lib.hid (HSL.out.below hb); have HPA := Lib.hid (HPA.out.belowS hb); have HPB := Lib.hid (HPB.out.belowS hb); clear hi15 hb)
        clear c0 c1 c2 c3 c4 c5 c6 p0 p1 p6
        obtain ⟨ax, kx, rfl⟩ := owns_form HQ.out
        obtain ⟨c0, c1, c2, c3, c4, c5⟩ := mod_cells JJ.out.X
        have c6 := JJ.out.X.lt
        obtain ⟨p0, p1⟩ := pl_cells HPB.out
        have p6 := HPB.out.lt
        go_upto_region 10 with (go_at_call 20; (with_reducible refine (CI2.out _ JJ.out.B _ HSL.out).mono ?_); rintro e w16 ⟨q, rfl, hi16, hb⟩; have JJ := Lib.hid (JJ.out.belowS hb); have HQ2 := hi16.yes HI2.out; rw [HNW.out] at HQ2; have HQ2 := Lib.hid HQ2; have HQ := Lib.hid (owns_below HQ.out hb); have HPA := Lib.hid (HPA.out.belowS hb); have HPB := Lib.hid (HPB.out.belowS hb); clear hi16 hb)
        clear c0 c1 c2 c3 c4 c5 c6 p0 p1 p6
        obtain ⟨ay, ky, rfl⟩ := owns_form HQ2.out
        obtain ⟨p0, p1⟩ := pl_cells HPA.out
        have p6 := HPA.out.lt
        obtain ⟨o0, o1⟩ := pl_cells HPB.out
        have o6 := HPB.out.lt
        go_wp2_with fail
        clear p0 p1 p6 o0 o1 o6 HSL
        have JA := JJ
        clear JJ
        obtain ⟨BY, hBY⟩ : ∃ q, (c' - c) % 4294967296 = q := ⟨_, rfl⟩
        rw [hBY] at HMV ⊢
        go_loopw [17] (fun i wr => ∃ k2 : Nat, k2 ≤ n ∧ i = .int .i64 (k2 : Int) ∧ Below w16.heap.size w16 wr) (fun i _ => n - (intOf i).toNat)
        case atStart => exact ⟨0, by omega, rfl, Below.refl _ _⟩
        case round =>
          obtain ⟨k2, hk2, rfl, hb2⟩ := hrel
          have hJ2 := JA.out.belowS hb2
          obtain ⟨c0, c1, c2, c3, c4, c5⟩ := mod_cells hJ2.X
          have c6 := hJ2.X.lt
          have HJ2 := Lib.hid hJ2
          have HQX := Lib.hid (owns_below HQ.out hb2)
          have HQY := Lib.hid (owns_below HQ2.out hb2)
          have HB2' := Lib.hid hb2
          clear hJ2 hb2
          by_cases hlt2 : k2 < n
          · have hlt2' : (k2 : Int) < n := by omega
            obtain ⟨⟨cd, a, ok⟩, hsp⟩ : ∃ q, spV cn dn (k2 : Int) = q := ⟨_, rfl⟩
            have CPk := CP.out _ HJ2.out.B k2 (by omega)
            rw [hsp] at CPk
            simp only at CPk
            have CPk := Lib.hid CPk
            have HSP := Lib.hid (show spV m.code.length m.data.length (k2 : Int) = (cd, a, ok) by rw [HW.out.1, HW.out.2]; exact hsp)
            clear hsp
            go_wp2_with (go_at_call 27; (with_reducible refine CPk.out.mono ?_); rintro e w17 ⟨rfl, hb⟩; have JSP := Lib.hid (HJ2.out.belowS hb); have HQX := Lib.hid (owns_below HQX.out hb); have HQY := Lib.hid (owns_below HQY.out hb); have HB3 := Lib.hid (HB2'.out.trans (hb.mono HB2'.out.size)); clear hb)
            clear c0 c1 c2 c3 c4 c5 c6
            go_loopw [21, 22] (fun wn t wr3 => ∃ j : Nat, j ≤ rn ∧ t = .int .i64 (j : Int) ∧ wn = .int .u32 (if mvB m (k2 : Nat) j then BY else 0) ∧ Below w17.heap.size w17 wr3) (fun _ t _ => rn - (intOf t).toNat)
            case atStart => exact ⟨0, by omega, rfl, rfl, Below.refl _ _⟩
            case round =>
              obtain ⟨j, hj0, rfl, rfl, hb3⟩ := hrel
              have hJ3 := JSP.out.belowS hb3
              obtain ⟨c0, c1, c2, c3, c4, c5⟩ := mod_cells hJ3.X
              have c6 := hJ3.X.lt
              have HJ3 := Lib.hid hJ3
              have Hb3 := Lib.hid hb3
              by_cases hlt3 : j < rn
              · have hlt3' : (j : Int) < rn := by omega
                obtain ⟨g, off, rfl, q1, e0, e1, e2⟩ := HRL.out.at hJ3.B hlt3
                have hF := HF.out j hlt3
                change (rl m j).kind < 256 ∧ (rl m j).at_ < 65536 ∧ (rl m j).wh < 65536 at hF
                change wr.cell? _ = some (.int .u8 ((rl m j).kind : Int)) at e0
                change wr.cell? _ = some (.int .u16 ((rl m j).at_ : Int)) at e1
                change wr.cell? _ = some (.int .u16 ((rl m j).wh : Int)) at e2
                clear hJ3 hb3
                obtain ⟨⟨rk, rt, rw2⟩, hr⟩ : ∃ r, rl m j = r := ⟨_, rfl⟩
                have hA := mv_step HG.out (show j < m.rels.length by rw [HLR.out]; exact hlt3) hr HSP.out
                rw [hr] at e0 e1 e2 hF
                clear hr
                obtain ⟨hF0, hF1, hF2⟩ := hF
                simp only at e0 e1 e2 hF0 hF1 hF2
                have hwr : IntKind.i64.wrap (rt : Int) = (rt : Int) := by rw [IntKind.wrap_i64]; omega
                have hwr2 : wrap64 (rt : Int) = (rt : Int) := by unfold wrap64; omega
                have HB5 := Lib.hid (Hb3.out.alloc Hb3.out.size (.cells #[.int .u8 (rk : Int), .int .u16 (rt : Int), .int .u16 (rw2 : Int)] 76))
                rcases (show rk = 4 ∨ rk = 5 ∨ rk = 6 ∨ rk = 0 ∨ rk = 1 ∨ (rk ≠ 4 ∧ rk ≠ 5 ∧ rk ≠ 6 ∧ rk ≠ 0 ∧ rk ≠ 1) by omega) with rfl | rfl | rfl | rfl | rfl | hk3
                · have hdb : dtB 4 = true := by decide
                  have hib : imp ((4 : Nat) : Int) = true := by decide
                  rw [hdb, hib] at hA
                  go_upto_region 24 with fail
                  cases ok with
                  | false =>
                    simp only [Bool.false_and, Bool.or_false] at hA
                    have HA := Lib.hid hA
                    clear hA
                    go_wp2_with fail
                    go_roundw
                    case rel => exact ⟨j + 1, by omega, by go_num, by rw [HA.out], HB5.out⟩
                    case measure => simp [intOf]; omega
                  | true =>
                    by_cases h1 : (rt : Int) = a
                    · subst h1
                      cases cd with
                      | true =>
                        have hA : mvB m (k2 : Nat) (j + 1) = mvB m (k2 : Nat) j := by rw [hA]; simp
                        have HA := Lib.hid hA
                        clear hA
                        go_wp2_with fail
                        go_roundw
                        case rel => exact ⟨j + 1, by omega, by go_num, by rw [HA.out], HB5.out⟩
                        case measure => simp [intOf]; omega
                      | false =>
                        have hA : mvB m (k2 : Nat) (j + 1) = mvB m (k2 : Nat) j := by rw [hA]; simp
                        have HA := Lib.hid hA
                        clear hA
                        go_wp2_with fail
                        go_roundw
                        case rel => exact ⟨j + 1, by omega, by go_num, by rw [HA.out], HB5.out⟩
                        case measure => simp [intOf]; omega
                    · have h1t : decide ((rt : Int) = a) = false := decide_eq_false h1
                      rw [h1t] at hA
                      simp only [Bool.and_false, Bool.false_and, Bool.or_false] at hA
                      have h1b : ((rt : Int) == a) = false := by simpa using h1
                      have HA := Lib.hid hA
                      clear hA
                      go_wp2_with fail
                      go_roundw
                      case rel => exact ⟨j + 1, by omega, by go_num, by rw [HA.out], HB5.out⟩
                      case measure => simp [intOf]; omega
                · have hdb : dtB 5 = true := by decide
                  have hib : imp ((5 : Nat) : Int) = false := by decide
                  rw [hdb, hib] at hA
                  go_upto_region 24 with fail
                  cases ok with
                  | false =>
                    simp only [Bool.false_and, Bool.or_false] at hA
                    have HA := Lib.hid hA
                    clear hA
                    go_wp2_with fail
                    go_roundw
                    case rel => exact ⟨j + 1, by omega, by go_num, by rw [HA.out], HB5.out⟩
                    case measure => simp [intOf]; omega
                  | true =>
                    by_cases h1 : (rt : Int) = a
                    · subst h1
                      cases cd with
                      | true =>
                        have hA : mvB m (k2 : Nat) (j + 1) = mvB m (k2 : Nat) j := by rw [hA]; simp
                        have HA := Lib.hid hA
                        clear hA
                        go_wp2_with fail
                        go_roundw
                        case rel => exact ⟨j + 1, by omega, by go_num, by rw [HA.out], HB5.out⟩
                        case measure => simp [intOf]; omega
                      | false =>
                        have hA : mvB m (k2 : Nat) (j + 1) = true := by rw [hA]; simp
                        have HA := Lib.hid hA
                        clear hA
                        go_wp2_with fail
                        go_roundw
                        case rel => exact ⟨j + 1, by omega, by go_num, by rw [HA.out]; rfl, HB5.out⟩
                        case measure => simp [intOf]; omega
                    · have h1t : decide ((rt : Int) = a) = false := decide_eq_false h1
                      rw [h1t] at hA
                      simp only [Bool.and_false, Bool.false_and, Bool.or_false] at hA
                      have h1b : ((rt : Int) == a) = false := by simpa using h1
                      have HA := Lib.hid hA
                      clear hA
                      go_wp2_with fail
                      go_roundw
                      case rel => exact ⟨j + 1, by omega, by go_num, by rw [HA.out], HB5.out⟩
                      case measure => simp [intOf]; omega
                · have hdb : dtB 6 = true := by decide
                  have hib : imp ((6 : Nat) : Int) = false := by decide
                  rw [hdb, hib] at hA
                  go_upto_region 24 with fail
                  cases ok with
                  | false =>
                    simp only [Bool.false_and, Bool.or_false] at hA
                    have HA := Lib.hid hA
                    clear hA
                    go_wp2_with fail
                    go_roundw
                    case rel => exact ⟨j + 1, by omega, by go_num, by rw [HA.out], HB5.out⟩
                    case measure => simp [intOf]; omega
                  | true =>
                    by_cases h1 : (rt : Int) = a
                    · subst h1
                      cases cd with
                      | true =>
                        have hA : mvB m (k2 : Nat) (j + 1) = mvB m (k2 : Nat) j := by rw [hA]; simp
                        have HA := Lib.hid hA
                        clear hA
                        go_wp2_with fail
                        go_roundw
                        case rel => exact ⟨j + 1, by omega, by go_num, by rw [HA.out], HB5.out⟩
                        case measure => simp [intOf]; omega
                      | false =>
                        have hA : mvB m (k2 : Nat) (j + 1) = true := by rw [hA]; simp
                        have HA := Lib.hid hA
                        clear hA
                        go_wp2_with fail
                        go_roundw
                        case rel => exact ⟨j + 1, by omega, by go_num, by rw [HA.out]; rfl, HB5.out⟩
                        case measure => simp [intOf]; omega
                    · have h1t : decide ((rt : Int) = a) = false := decide_eq_false h1
                      rw [h1t] at hA
                      simp only [Bool.and_false, Bool.false_and, Bool.or_false] at hA
                      have h1b : ((rt : Int) == a) = false := by simpa using h1
                      have HA := Lib.hid hA
                      clear hA
                      go_wp2_with fail
                      go_roundw
                      case rel => exact ⟨j + 1, by omega, by go_num, by rw [HA.out], HB5.out⟩
                      case measure => simp [intOf]; omega
                · have hdb : dtB 0 = false := by decide
                  have hib : imp ((0 : Nat) : Int) = true := by decide
                  rw [hdb, hib] at hA
                  go_upto_region 24 with fail
                  cases ok with
                  | false =>
                    simp only [Bool.false_and, Bool.or_false] at hA
                    have HA := Lib.hid hA
                    clear hA
                    go_wp2_with fail
                    go_roundw
                    case rel => exact ⟨j + 1, by omega, by go_num, by rw [HA.out], HB5.out⟩
                    case measure => simp [intOf]; omega
                  | true =>
                    by_cases h1 : (rt : Int) = a
                    · subst h1
                      cases cd with
                      | true =>
                        have hA : mvB m (k2 : Nat) (j + 1) = mvB m (k2 : Nat) j := by rw [hA]; simp
                        have HA := Lib.hid hA
                        clear hA
                        go_wp2_with fail
                        go_roundw
                        case rel => exact ⟨j + 1, by omega, by go_num, by rw [HA.out], HB5.out⟩
                        case measure => simp [intOf]; omega
                      | false =>
                        have hA : mvB m (k2 : Nat) (j + 1) = mvB m (k2 : Nat) j := by rw [hA]; simp
                        have HA := Lib.hid hA
                        clear hA
                        go_wp2_with fail
                        go_roundw
                        case rel => exact ⟨j + 1, by omega, by go_num, by rw [HA.out], HB5.out⟩
                        case measure => simp [intOf]; omega
                    · have h1t : decide ((rt : Int) = a) = false := decide_eq_false h1
                      rw [h1t] at hA
                      simp only [Bool.and_false, Bool.false_and, Bool.or_false] at hA
                      have h1b : ((rt : Int) == a) = false := by simpa using h1
                      have HA := Lib.hid hA
                      clear hA
                      go_wp2_with fail
                      go_roundw
                      case rel => exact ⟨j + 1, by omega, by go_num, by rw [HA.out], HB5.out⟩
                      case measure => simp [intOf]; omega
                · have hdb : dtB 1 = false := by decide
                  have hib : imp ((1 : Nat) : Int) = true := by decide
                  rw [hdb, hib] at hA
                  go_upto_region 24 with fail
                  cases ok with
                  | false =>
                    simp only [Bool.false_and, Bool.or_false] at hA
                    have HA := Lib.hid hA
                    clear hA
                    go_wp2_with fail
                    go_roundw
                    case rel => exact ⟨j + 1, by omega, by go_num, by rw [HA.out], HB5.out⟩
                    case measure => simp [intOf]; omega
                  | true =>
                    by_cases h1 : (rt : Int) = a
                    · subst h1
                      cases cd with
                      | true =>
                        have hA : mvB m (k2 : Nat) (j + 1) = mvB m (k2 : Nat) j := by rw [hA]; simp
                        have HA := Lib.hid hA
                        clear hA
                        go_wp2_with fail
                        go_roundw
                        case rel => exact ⟨j + 1, by omega, by go_num, by rw [HA.out], HB5.out⟩
                        case measure => simp [intOf]; omega
                      | false =>
                        have hA : mvB m (k2 : Nat) (j + 1) = mvB m (k2 : Nat) j := by rw [hA]; simp
                        have HA := Lib.hid hA
                        clear hA
                        go_wp2_with fail
                        go_roundw
                        case rel => exact ⟨j + 1, by omega, by go_num, by rw [HA.out], HB5.out⟩
                        case measure => simp [intOf]; omega
                    · have h1t : decide ((rt : Int) = a) = false := decide_eq_false h1
                      rw [h1t] at hA
                      simp only [Bool.and_false, Bool.false_and, Bool.or_false] at hA
                      have h1b : ((rt : Int) == a) = false := by simpa using h1
                      have HA := Lib.hid hA
                      clear hA
                      go_wp2_with fail
                      go_roundw
                      case rel => exact ⟨j + 1, by omega, by go_num, by rw [HA.out], HB5.out⟩
                      case measure => simp [intOf]; omega
                · have hdb : dtB rk = false := decide_eq_false (by omega)
                  have hib : imp (rk : Int) = false := decide_eq_false (by omega)
                  have k4 : ((rk : Int) == 4) = false := by simp; omega
                  have k5 : ((rk : Int) == 5) = false := by simp; omega
                  have k6 : ((rk : Int) == 6) = false := by simp; omega
                  have k1 : ((rk : Int) == 1) = false := by simp; omega
                  have k0 : ((rk : Int) == 0) = false := by simp; omega
                  rw [hdb, hib] at hA
                  go_upto_region 24 with fail
                  cases ok with
                  | false =>
                    simp only [Bool.false_and, Bool.or_false] at hA
                    have HA := Lib.hid hA
                    clear hA
                    go_wp2_with fail
                    go_roundw
                    case rel => exact ⟨j + 1, by omega, by go_num, by rw [HA.out], HB5.out⟩
                    case measure => simp [intOf]; omega
                  | true =>
                    by_cases h1 : (rt : Int) = a
                    · subst h1
                      cases cd with
                      | true =>
                        have hA : mvB m (k2 : Nat) (j + 1) = true := by rw [hA]; simp
                        have HA := Lib.hid hA
                        clear hA
                        go_wp2_with fail
                        go_roundw
                        case rel => exact ⟨j + 1, by omega, by go_num, by rw [HA.out]; rfl, HB5.out⟩
                        case measure => simp [intOf]; omega
                      | false =>
                        have hA : mvB m (k2 : Nat) (j + 1) = mvB m (k2 : Nat) j := by rw [hA]; simp
                        have HA := Lib.hid hA
                        clear hA
                        go_wp2_with fail
                        go_roundw
                        case rel => exact ⟨j + 1, by omega, by go_num, by rw [HA.out], HB5.out⟩
                        case measure => simp [intOf]; omega
                    · have h1t : decide ((rt : Int) = a) = false := decide_eq_false h1
                      rw [h1t] at hA
                      simp only [Bool.and_false, Bool.false_and, Bool.or_false] at hA
                      have h1b : ((rt : Int) == a) = false := by simpa using h1
                      have HA := Lib.hid hA
                      clear hA
                      go_wp2_with fail
                      go_roundw
                      case rel => exact ⟨j + 1, by omega, by go_num, by rw [HA.out], HB5.out⟩
                      case measure => simp [intOf]; omega
              · obtain rfl : rn = j := by omega
                have hlt3' : ¬ (rn : Int) < rn := by omega
                have hqx := owns_below HQX.out hb3
                have hqy := owns_below HQY.out hb3
                obtain ⟨gx, rfl, ex, hkx, hgx⟩ := row_cell hqx HNW.out HB1.out hlt2
                obtain ⟨gy, rfl, ey, hky, hgy⟩ := row_cell hqy HNW.out HB2.out hlt2
                have hkx' : (n : Int) ≤ kx := by omega
                have hky' : (n : Int) ≤ ky := by omega
                have hm := HMV.out k2
                rw [HLR.out] at hm
                clear hJ3 hb3 hlt3 hqx hqy hkx hky
                generalize (if mvB m (k2 : Nat) rn = true then BY else 0) = WT at *
                generalize wrdW m c d (List.replicate im 0) (k2 : Nat) = X at *
                generalize wrdW m c' d' (List.replicate im 0) (k2 : Nat) = Y at *
                have hne : ((Y - X) % 4294967296 != WT) = false := by simpa using hm
                have hne2 : ((Y - X) % 4294967296 == WT) = true := by simpa using hm
                clear hm
                go_wp2_with fail
                go_quiet (fail)
                go_wp2_with fail
                go_roundw
                case rel => exact ⟨k2 + 1, by omega, by go_num, below_drewN (HB3.out.trans (Hb3.out.mono HB3.out.size)) _⟩
                case measure => simp [intOf]; omega
          · obtain rfl : n = k2 := by omega
            have hlt2' : ¬ (n : Int) < n := by omega
            go_wp2_with (first | (go_at_call 9; (with_reducible refine (AW.out.at _).mono ?_); rintro e w8 ⟨rfl, hb8⟩))
            go_ret
            exact ⟨rfl, HJ2.out.B.trans (hb8.mono HJ2.out.B.size)⟩
      · have hpf' : (pf != 0) = true := by simpa using hpf
        go_wp2_with (first | (go_at_call 9; (with_reducible refine (AW.out.at _).mono ?_); rintro e w8 ⟨rfl, hb8⟩))
        go_ret
        exact ⟨rfl, JJ.out.B.trans (hb8.mono JJ.out.B.size)⟩
    · have hpe' : (pe != 0) = true := by simpa using hpe
      go_wp2_with (first | (go_at_call 9; (with_reducible refine (AW.out.at _).mono ?_); rintro e w8 ⟨rfl, hb8⟩))
      go_ret
      exact ⟨rfl, JJ.out.B.trans (hb8.mono JJ.out.B.size)⟩
  · have hcase : Hid ((2000 : Int) < (szF en [im, cn, dn, rn] : Nat) ∨ ¬ (2000 : Int) < (szF en [im, cn, dn, rn] : Nat) ∧ (VR.chkV m != 0) = true) := Lib.hid (by
      by_cases h1 : szF en [im, cn, dn, rn] ≤ 2000
      · exact Or.inr ⟨by omega, by simpa using fun h2 => hall ⟨h1, h2⟩⟩
      · exact Or.inl (by omega))
    clear h hf l1 l2 l3 l4 l5 hall hfa hfb
    generalize ((szF en [im, cn, dn, rn] : Nat) : Int) = S at *
    generalize VR.chkV m = K at *
    generalize bs m.name = x at *
    rcases hcase.out with hs | ⟨hs, hk⟩
    all_goals
      clear hcase
      go_enter Try.func7, Try.ntmps7
      go_upto_region 1 with fail
      generalize w.alloc (.cells (mCs x ea en ec ia im ic ca cn cc da dn dc ra rn rc) 45) = W at *
      have JJ := J0
      clear J0
      obtain ⟨c0, c1, c2, c3, c4, c5⟩ := mod_cells JJ.out.X
      have c6 := JJ.out.X.lt
      go_wp2_with (first | (go_at_call 16; (with_reducible refine (CS.out _ JJ.out.B).mono ?_); rintro e w9 ⟨rfl, hb⟩; have JJ := Lib.hid (JJ.out.belowS hb); obtain ⟨c0, c1, c2, c3, c4, c5⟩ := mod_cells JJ.out.X; have c6 := JJ.out.X.lt; clear hb) | (go_at_call 23; (with_reducible refine (CK.out _ JJ.out.B).mono ?_); rintro e w9 ⟨rfl, hb⟩; have JJ := Lib.hid (JJ.out.belowS hb); obtain ⟨c0, c1, c2, c3, c4, c5⟩ := mod_cells JJ.out.X; have c6 := JJ.out.X.lt; clear hb) | (go_at_call 9; (with_reducible refine (AW.out.at _).mono ?_); rintro e w8 ⟨rfl, hb8⟩))
      go_ret
      exact ⟨rfl, JJ.out.B.trans (hb8.mono JJ.out.B.size)⟩
end
end Go.Proofs.Ytajidaicojekdaa.WK
