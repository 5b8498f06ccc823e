/-
  The reference of layer 14: Turn. Nothing here is a statement of the seed.
-/
import Derived.Test.YtijcojidfallkaaGraphRch2
set_option linter.unusedSimpArgs false
set_option linter.unusedVariables false
namespace Go.Proofs.Ytijcojidfallkaa.GF
open Go.RowKit WM NR OM OR GM GR
set_option maxHeartbeats 4000000
set_option maxRecDepth 10000
theorem out_len (g : List Nd) (n : List UInt8) : (outM g n).length ≤ g.length := List.length_filter_le _ _
theorem refTurn_any {w : World} {la : Option Addr} {ln lc : Nat} {l : List Nr} {G : Nat → Prop} (h0 : RdG G w la ln lc l) (hG : ∀ g, G g → g < w.heap.size) (hg : GM.Good (ndL l)) (hbd : ln ≤ 300) (s : List UInt8) {a : Option Addr} {n c : Nat} {ds : List (List UInt8)} (hd : Reads (· < w.heap.size) w (.slice a n c) (strs ds)) (hn : n ≤ 100000) :
    Calls Try.prog 26 #[gV la ln lc, .string (bs s), .slice a n c] w (IsGK G (turnM (ndL l) s ds).1 (turnM (ndL l) s ds).2 w) := by
  have h := h0.mono hG
  have b0 := below_new w (.cells (gC la ln lc) 29)
  have b1 := below_new (w.alloc (.cells (gC la ln lc) 29)) (.cells #[.slice none 0 0] 29)
  have hX := (Whole.new w 29 (gC la ln lc)).belowS b1
  have hB := b0.trans (b1.mono b0.size)
  have hY := Whole.new (w.alloc (.cells (gC la ln lc) 29)) 29 #[.slice none 0 0]
  have s0 : (w.alloc (.cells (gC la ln lc) 29)).heap.size = w.heap.size + 1 := by simp
  rw [s0] at hY
  have HX := Lib.hid hX
  have HY := Lib.hid hY
  have HB := Lib.hid hB
  have ll := h.len.1
  obtain ⟨n1, m1, m2⟩ := reads_len hd
  rw [strs_len] at n1
  have hnc : (n : Int) ≤ c := by omega
  have hnm : (n : Int) ≤ 100000 := by omega
  have HL := Lib.hid n1
  have HD := Lib.hid hd
  have hdu := fun (u : World) (hb : Below w.heap.size w u) => (hd.below hb).mono fun g hg => Nat.lt_of_lt_of_le hg hb.size
  have C1 := Lib.hid (fun (u : World) (hb : Below w.heap.size w u) => refHas_any (h.go hb hb.size) s)
  have C2 := Lib.hid (fun (u : World) (hb : Below w.heap.size w u) => refAll_any (h.go hb hb.size) (hdu u hb))
  have C3 := Lib.hid (fun (u : World) (hb : Below w.heap.size w u) (d : List UInt8) => refReaches_any (h.go hb hb.size) hg hbd d s)
  have C4 := Lib.hid (fun (u : World) (hb : Below w.heap.size w u) => refOut_any (w := u) (h0.keep fun g hg _ => hb.block g (hG g hg)) (fun g hg => Nat.lt_of_lt_of_le (hG g hg) hb.size) (by omega) s)
  have C5 := Lib.hid (fun (u : World) (hb : Below w.heap.size w u) => refSet_any (hdu u hb) hn)
  have HOL := Lib.hid (show (outM (ndL l) s).length ≤ 300 by have := out_len (ndL l) s; rw [List.length_map] at this; omega)
  have HS := Lib.hid (fun (u : World) (k : Int) (hb : Below w.heap.size w u) => isGK_same h0 hG (k := k) hb)
  have HG := Lib.hid hG
  have HF : Hid (∀ y : List UInt8, y ≠ s → ((bs y).toList == (bs s).toList) = false) := Lib.hid (fun y hy => by rw [bs_toList, bs_toList]; simpa using hy)
  have exx : ((bs s).toList == (bs s).toList) = true := by simp
  obtain ⟨g0, hg0⟩ : ∃ g, g = ndL l := ⟨_, rfl⟩
  rw [← hg0] at C1 C2 C3 C4 HOL HS ⊢
  clear s0 b0 b1 h h0 hG hX hY hB hdu hd hn n1 m1 m2 ll hg hg0 hbd
  have st8 : ∀ (h : hasM g0 s = false ∨ allM g0 ds = false), turnM g0 s ds = (g0, 8) := fun h => by unfold turnM; rw [if_pos h]
  cases hh : hasM g0 s with
  | false =>
    rw [st8 (Or.inl hh)]
    rw [hh] at C1
    simp only
    clear C2 C3 C4 C5 hh HF exx st8 HD
    generalize bs s = x at *
    go_enter Try.func26, Try.ntmps26
    go_upto_region 1 with fail
    generalize (w.alloc (.cells (gC la ln lc) 29)).alloc (.cells #[.slice none 0 0] 29) = W at *
    have c0 := HX.out.cell 0
    have c6 := HX.out.lt
    go_wp2_with (go_at_call 31; (with_reducible refine (C1.out _ HB.out).mono ?_); rintro e w1 ⟨rfl, hb⟩; have HX1 := Lib.hid (HX.out.belowS hb); have HY1 := Lib.hid (HY.out.belowS hb); have HB1 := Lib.hid (HB.out.trans (hb.mono HB.out.size)); clear c0 c6; have c0 := HX1.out.cell 0; have c6 := HX1.out.lt; have d0 := HY1.out.cell 0; have d6 := HY1.out.lt; have f0 := HY1.out.frozen 0; clear hb)
    have z0 := (HY1.out.set_ 0 (.slice la ln lc)).cell 0
    exact bodyPost_ret (v := .tuple #[gV la ln lc, .int .i64 8]) (by simp [results, Try.results26, go_sem, z0]) rfl (HS.out _ 8 (HB1.out.setCell (by simp) _))
  | true =>
    cases ha : allM g0 ds with
    | false =>
      rw [st8 (Or.inr ha)]
      rw [hh] at C1
      rw [ha] at C2
      simp only
      clear C3 C4 C5 hh ha HF exx st8 HD
      generalize bs s = x at *
      go_enter Try.func26, Try.ntmps26
      go_upto_region 1 with fail
      generalize (w.alloc (.cells (gC la ln lc) 29)).alloc (.cells #[.slice none 0 0] 29) = W at *
      have c0 := HX.out.cell 0
      have c6 := HX.out.lt
      go_wp2_with (first
        | (go_at_call 31; (with_reducible refine (C1.out _ HB.out).mono ?_); rintro e w0 ⟨rfl, hb⟩; have HX0 := Lib.hid (HX.out.belowS hb); have HY0 := Lib.hid (HY.out.belowS hb); have HB0 := Lib.hid (HB.out.trans (hb.mono HB.out.size)); clear c0 c6; have c0 := HX0.out.cell 0; have c6 := HX0.out.lt; clear hb)
        | (go_at_call 46; (with_reducible refine (C2.out _ HB0.out).mono ?_); rintro e w1 ⟨rfl, hb⟩; have HX1 := Lib.hid (HX0.out.belowS hb); have HY1 := Lib.hid (HY0.out.belowS hb); have HB1 := Lib.hid (HB0.out.trans (hb.mono HB0.out.size)); clear c0 c6; have c0 := HX1.out.cell 0; have c6 := HX1.out.lt; have d0 := HY1.out.cell 0; have d6 := HY1.out.lt; have f0 := HY1.out.frozen 0; clear hb))
      have z0 := (HY1.out.set_ 0 (.slice la ln lc)).cell 0
      exact bodyPost_ret (v := .tuple #[gV la ln lc, .int .i64 8]) (by simp [results, Try.results26, go_sem, z0]) rfl (HS.out _ 8 (HB1.out.setCell (by simp) _))
    | true =>
      have HTU := Lib.hid (show turnM g0 s ds = if ∃ d ∈ ds, d = s ∨ reachesM g0 d s = true then (g0, 24) else (withM (outM g0 s) ⟨s, setM ds⟩, 0) by unfold turnM; rw [if_neg (by simp [hh, ha])])
      obtain ⟨T, hT⟩ : ∃ T, T = turnM g0 s ds := ⟨_, rfl⟩
      rw [← hT] at HTU ⊢
      rw [hh] at C1
      rw [ha] at C2
      clear hT hh ha st8
      go_enter Try.func26, Try.ntmps26
      go_upto_region 1 with fail
      generalize (w.alloc (.cells (gC la ln lc) 29)).alloc (.cells #[.slice none 0 0] 29) = W at *
      have c0 := HX.out.cell 0
      have c6 := HX.out.lt
      go_upto_region 3 with (first
        | (go_at_call 31; (with_reducible refine (C1.out _ HB.out).mono ?_); rintro e w0 ⟨rfl, hb⟩; have HX0 := Lib.hid (HX.out.belowS hb); have HY0 := Lib.hid (HY.out.belowS hb); have HB0 := Lib.hid (HB.out.trans (hb.mono HB.out.size)); clear c0 c6; have c0 := HX0.out.cell 0; have c6 := HX0.out.lt; clear hb)
        | (go_at_call 46; (with_reducible refine (C2.out _ HB0.out).mono ?_); rintro e w1 ⟨rfl, hb⟩; have HX1 := Lib.hid (HX0.out.belowS hb); have HY1 := Lib.hid (HY0.out.belowS hb); have HB1 := Lib.hid (HB0.out.trans (hb.mono HB0.out.size)); clear c0 c6 hb))
      clear C1 C2 HX0 HY0 HB0 HX HY HB
      go_wp2_with fail
      go_loopw [8] (fun v8 wr => ∃ i : Nat, i ≤ n ∧ v8 = .int .i64 (i : Int) ∧ Hid (∀ d ∈ ds.take i, ¬ (d = s ∨ reachesM g0 d s = true)) ∧ Hid (Below w1.heap.size w1 wr)) (fun v8 _ => n - (intOf v8).toNat)
      case atStart => exact ⟨0, by omega, rfl, Lib.hid (by simp), Lib.hid (Below.refl _ _)⟩
      case round =>
        obtain ⟨i, hi, rfl, HN, HF2⟩ := hrel
        have HX2 := Lib.hid (HX1.out.belowS HF2.out)
        have HY2 := Lib.hid (HY1.out.belowS HF2.out)
        have HB2 := Lib.hid (HB1.out.trans (HF2.out.mono HB1.out.size))
        by_cases hli : i < n
        · have hli' : (i : Int) < n := by omega
          have i0 : (0 : Int) ≤ i := by omega
          have kl : i < ds.length := by rw [HL.out]; exact hli
          obtain ⟨g, off, rfl, _, e1⟩ := reads_at HD.out HB2.out hli
          rw [strs_at kl] at e1
          have HM := Lib.hid (getD_memT kl)
          have HTK := Lib.hid (fun x => mem_take_succ ds [] i kl x)
          have hW : Below wr.heap.size wr wr.drew := (Below.refl _ _).drew
          have HK := Lib.hid (fun (u : World) (hu : Below wr.heap.size wr u) => show u.cell? ⟨w.heap.size, 0, none⟩ = some (.slice la ln lc) ∧ u.cell? ⟨g, off + i, none⟩ = some (.string (bs (ds.getD i []))) from
            ⟨(HX2.out.belowS hu).cell 0, (hu.cell (p := ⟨g, off + i, none⟩) (World.block_lt_of_cell? _ _ e1)).trans e1⟩)
          have HBd := Lib.hid (HB2.out.trans (hW.mono HB2.out.size))
          have CR := Lib.hid (C3.out _ HBd.out (ds.getD i []))
          have HQ := Lib.hid (fun q => show Whole (wr.drewN q) w.heap.size 29 (gC la ln lc) ∧ Whole (wr.drewN q) (w.heap.size + 1) 29 #[.slice none 0 0] ∧ Below w.heap.size w (wr.drewN q) ∧ Below w1.heap.size w1 (wr.drewN q) from
            ⟨HX2.out.belowS ⟨rfl, rfl, rfl, Nat.le_refl _, fun _ _ => rfl⟩, HY2.out.belowS ⟨rfl, rfl, rfl, Nat.le_refl _, fun _ _ => rfl⟩, ⟨HB2.out.os, HB2.out.tape, HB2.out.output, HB2.out.size, HB2.out.block⟩, ⟨HF2.out.os, HF2.out.tape, HF2.out.output, HF2.out.size, HF2.out.block⟩⟩)
          by_cases hds : ds.getD i [] = s
          · have hT := Lib.hid (show T = (g0, 24) by rw [HTU.out, if_pos ⟨_, HM.out, Or.inl hds⟩])
            rw [hds] at e1
            clear HM HTK HK CR HN HTU hds kl C3 C4 C5 HF
            generalize bs s = x at *
            go_upto_region 6 with fail
            go_quiet (fail)
            obtain ⟨hx, hy, hb, _⟩ := HQ.out nq
            generalize wr.drewN nq = u0 at *
            clear e1
            have c0 := hx.cell 0
            have c6 := hx.lt
            have d0 := hy.cell 0
            have d6 := hy.lt
            have f0 := hy.frozen 0
            go_wp2_with fail
            have z0 := (hy.set_ 0 (.slice la ln lc)).cell 0
            rw [hT.out]
            exact bodyPost_ret (v := .tuple #[gV la ln lc, .int .i64 24]) (by simp [results, Try.results26, go_sem, z0]) rfl (HS.out _ 24 (hb.setCell (by simp) _))
          · have exy := HF.out _ hds
            have K0 := HK.out _ hW
            have HTU2 := Lib.hid (fun (hb : reachesM g0 (ds.getD i []) s = true) => show T = (g0, 24) by rw [HTU.out, if_pos ⟨_, HM.out, Or.inr hb⟩])
            have HN2 := Lib.hid (fun (hb : reachesM g0 (ds.getD i []) s = false) => show ∀ d ∈ ds.take (i + 1), ¬ (d = s ∨ reachesM g0 d s = true) from fun d hd => by
              rcases (HTK.out d).1 hd with h | h
              · exact HN.out d h
              · rw [h]
                rintro (h1 | h1)
                · exact hds h1
                · rw [hb] at h1; cases h1)
            obtain ⟨b, hb⟩ : ∃ b, b = reachesM g0 (ds.getD i []) s := ⟨_, rfl⟩
            rw [← hb] at CR HTU2 HN2
            clear hb HM HTK hds kl HF HN e1
            generalize bs (ds.getD i []) = Y at *
            generalize bs s = x at *
            cases b with
            | true =>
              have hT := Lib.hid (HTU2.out rfl)
              clear HTU2 HN2 HTU C3 C4 C5
              go_upto_region 6 with fail
              go_region_held3 (fun u => u.cell? ⟨w.heap.size, 0, none⟩ = some (.slice la ln lc) ∧ u.cell? ⟨g, off + i, none⟩ = some (.string Y))
                (first | with_reducible exact K0 | with_reducible exact K1)
                (first | (go_at_call 32; (with_reducible refine CR.out.mono ?_); rintro e w2 ⟨rfl, hb2⟩; have hB2 := below_of hW hb2; have K1 := HK.out _ hB2))
              rename_i hHeld
              clear hHeld K0 K1
              have hx := HX2.out.belowS hB2
              have hy := HY2.out.belowS hB2
              have hb := HB2.out.trans (hB2.mono HB2.out.size)
              have c0 := hx.cell 0
              have c6 := hx.lt
              have d0 := hy.cell 0
              have d6 := hy.lt
              have f0 := hy.frozen 0
              go_wp2_with fail
              have z0 := (hy.set_ 0 (.slice la ln lc)).cell 0
              rw [hT.out]
              exact bodyPost_ret (v := .tuple #[gV la ln lc, .int .i64 24]) (by simp [results, Try.results26, go_sem, z0]) rfl (HS.out _ 24 (hb.setCell (by simp) _))
            | false =>
              have HN3 := Lib.hid (HN2.out rfl)
              clear HTU2 HN2 HTU C3 C4 C5
              go_upto_region 6 with fail
              go_region_held3 (fun u => u.cell? ⟨w.heap.size, 0, none⟩ = some (.slice la ln lc) ∧ u.cell? ⟨g, off + i, none⟩ = some (.string Y))
                (first | with_reducible exact K0 | with_reducible exact K1)
                (first | (go_at_call 32; (with_reducible refine CR.out.mono ?_); rintro e w2 ⟨rfl, hb2⟩; have hB2 := below_of hW hb2; have K1 := HK.out _ hB2))
              rename_i hHeld
              clear hHeld K0 K1
              have HF3 := Lib.hid (HF2.out.trans (hB2.mono HF2.out.size))
              go_wp2_with fail
              go_roundw
              case rel => exact ⟨i + 1, by omega, by go_num, HN3, HF3⟩
              case measure => simp [intOf]; omega
        · obtain rfl : i = n := by omega
          have hT := Lib.hid (show T = (withM (outM g0 s) ⟨s, setM ds⟩, 0) by
            rw [HTU.out, if_neg]
            rintro ⟨d, hd, h⟩
            exact HN.out d (by rw [List.take_of_length_le (by rw [HL.out]; exact Nat.le_refl _)]; exact hd) h)
          have c0 := HX2.out.cell 0
          have c6 := HX2.out.lt
          have CO := Lib.hid (C4.out _ HB2.out)
          have C6 := Lib.hid (fun (u : World) (hb : Below w.heap.size w u) (la' : Option Addr) (ln' lc' : Nat) (l' : List Nr) (G' : Nat → Prop) (hR : RdG G' u la' ln' lc' l') (hG' : ∀ g, G' g → g < u.heap.size) (hl' : ndL l' = outM g0 s) (v : World) (hv : Below u.heap.size u v) (B : Nat) (a : Option Addr) (c : Nat) hr =>
            refWith_new (w := u) (u := v) (D := setM ds) (B := B) (a := a) (c := c) hR hG' (by have h1 := hR.len.1; have h2 := congrArg List.length hl'; rw [List.length_map] at h2; have := HOL.out; omega) s hv hr)
          clear HTU HN HF exx C3 C4 HD
          generalize setM ds = D at *
          generalize bs s = x at *
          have hpl := HY2.out.lt
          go_wp2_with (first
            | (go_at_call 45; (with_reducible refine CO.out.mono ?_); rintro e w2 ⟨la', ln', lc', l', rfl, hR, hg', hb2⟩; have HB3 := Lib.hid (HB2.out.trans (hb2.mono HB2.out.size)); have HX3 := Lib.hid (HX2.out.belowS hb2); have HY3 := Lib.hid (HY2.out.belowS hb2); have HR := Lib.hid (And.intro hR hg'); clear hR hg'; have hs2 := hb2.size; clear hb2)
            | (go_at_call 23; (with_reducible refine (C5.out _ HB3.out).mono ?_); rintro e w3 ⟨sa, sc, rfl, hr, hb3⟩; have HB4 := Lib.hid (HB3.out.trans (hb3.mono HB3.out.size)); have HY4 := Lib.hid (HY3.out.belowS hb3); have CW := Lib.hid (C6.out _ HB3.out _ _ _ _ _ HR.out.1 (fun g hg => hg.2) HR.out.2 _ hb3 _ _ _ hr); have hs3 := hb3.size; clear hr hb3)
            | (go_at_call 47; (with_reducible refine CW.out.mono ?_); rintro e w4 ⟨la2, ln2, lc2, l2, rfl, hR2, hg2, hb4⟩; have HR2 := Lib.hid (And.intro hR2 (And.intro hg2 hb4)); have HY5 := Lib.hid (HY4.out.belowS hb4); have d0 := HY5.out.cell 0; have d6 := HY5.out.lt; have f0 := HY5.out.frozen 0; clear hR2 hg2 hb4))
          have z0 := (HY5.out.set_ 0 (.slice la2 ln2 lc2)).cell 0
          have R := isGK_laid HB4.out HR2.out.1 (by rw [HR2.out.2.1, HR.out.2]) HR2.out.2.2 (p := w.heap.size + 1) (by omega) HY4.out.lt (fun h => by
            rcases h.1 with h | h
            · rcases h.1 with h | h
              · have := HG.out _ h; omega
              · omega
            · omega) (.slice la2 ln2 lc2) 0
          rw [hT.out]
          exact bodyPost_ret (v := .tuple #[gV la2 ln2 lc2, .int .i64 0]) (by simp [results, Try.results26, go_sem, z0]) rfl (R.mono fun b hb => by
            rcases hb.1 with h | h
            · exact h.1.imp id (fun h => by have := HB2.out.size; omega)
            · exact Or.inr (by have := HB2.out.size; omega))
end Go.Proofs.Ytijcojidfallkaa.GF
