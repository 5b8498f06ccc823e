/-
  Any bytes read by both: the walk of ObjectGets. Nothing here is a statement of the seed.
-/
import Derived.Test.YtdlinlkdielmkaaObjLoop
set_option linter.unusedSimpArgs false
set_option linter.unusedVariables false
namespace Go.Proofs.Ytdlinlkdielmkaa.WK
open Go.RowKit WM NR OM OR
set_option maxHeartbeats 4000000
set_option maxRecDepth 10000
section
variable {w : World} {v : Value} {raw : List UInt8}
theorem ObjectGets_walk (hr : Reads (· < w.heap.size) w v (u8s raw)) (hrl : raw.length * 1 ≤ 140737488351232) :
    Calls Try.prog 4 #[v] w fun e w' => e = .returned (.bool true) ∧ Below w.heap.size w w' := by
  have AW := Lib.hid (fun (u : World) => awake_any u)
  have CG := Lib.hid (fun (u : World) (v : Value) (h : Reads (· < u.heap.size) u v (u8s raw)) => objGet_any h)
  have CR := Lib.hid (fun (u : World) (hb : Below w.heap.size w u) => refGet_any ((hr.below hb).mono (fun g (hg : g < w.heap.size) => Nat.lt_of_lt_of_le hg hb.size)))
  have V0 := Lib.hid hr
  unfold IsGet at CG
  unfold IsGetR at CR
  obtain ⟨E, x5, hR⟩ : ∃ E x5, getF raw = (E, x5) := ⟨_, _, rfl⟩
  rw [hR] at CG CR
  simp only at CG CR
  clear hR
  have SA := Lib.hid (fun (u : World) (a1 : Option Addr) (a2 a3 : Nat) (b1 : Option Addr) (b2 b3 : Nat) (c1 : Option Addr) (c2 c3 : Nat) (d1 : Option Addr) (d2 d3 : Nat) (e1 : Option Addr) (e2 e3 : Nat) (f1 : Option Addr) (f2 f3 : Nat) (g1 : Option Addr) (g2 g3 : Nat) (h1 : Option Addr) (h2 h3 : Nat) (i1 : Option Addr) (i2 i3 : Nat) (j1 : Option Addr) (j2 j3 : Nat) (hr : RdM (· < u.heap.size) u a1 a2 a3 b1 b2 b3 c1 c2 c3 d1 d2 d3 e1 e2 e3 x5) (hr2 : RdM (· < u.heap.size) u f1 f2 f3 g1 g2 g3 h1 h2 h3 i1 i2 i3 j1 j2 j3 x5) => refSame_any hr hr2)
  simp only [decide_true] at SA
  have hcl := Lib.hid (gd32_u32s x5.code)
  generalize bs x5.name = x6 at *
  generalize (E : Int) = Ei at *
  obtain ⟨av, nv, cv, rfl⟩ := hr.form
  clear hr
  obtain ⟨i0, hi, hz0, hz1, hz2⟩ := info_parts infoByte
  have E8 := World.ownsRow_lit (e := 5) (base := w.heap.size) (size := 1) w #[] 0 (Nat.le_refl _) (by simp [maxLen]) rfl
  have hb8 := below_new w (.cells #[] 5)
  have V8 := Lib.hid ((V0.out.below hb8).mono (fun g (hg : g < w.heap.size) => Nat.lt_of_lt_of_le hg hb8.size))
  have B8 := Lib.hid hb8
  have E8' := Lib.hid E8
  clear E8 hb8
  have hnm : 0 + (u8s raw).length ≤ maxLen := by rw [u8s_len]; unfold maxLen; omega
  have hnb : (0 + (u8s raw).length) * 1 ≤ 140737488355328 := by rw [u8s_len]; omega
  have hs8 : w.heap.size ≤ (w.alloc (.cells #[] 5)).heap.size := by simp
  have u8l := Lib.hid (u8s_len raw)
  go_enter Try.func4, Try.ntmps4
  go_upto_region 2 with (at_builtin; refine wpList_append_reads _ rfl _ _ 30 rfl w.heap.size 5 i0 (.int .u8 0) 1 Try.underlying30 hi hz0 hz1 hz2 rfl _ _ _ rfl E8'.out _ _ (u8s raw) rfl V8.out (u8s_one _) hnm hnb hs8 ?_; intro v9 w9 hown9 hgrow9; have B9 : Hid (Below w.heap.size w w9) := Lib.hid (B8.out.grown hgrow9 hs8 (fun g hg => (E8'.out.lt g hg).1)); have V9 : Hid (Reads (· < w9.heap.size) w9 v9 (u8s raw)) := Lib.hid ((Reads.of_owns (show w9.ownsRow w.heap.size 5 1 v9 (0 + (u8s raw).length) (u8s raw) by simpa using hown9)).there.mono fun g hg => hg.2); obtain ⟨a9, n9, c9, rfl⟩ := V9.out.form; clear hown9 hgrow9)
  clear V8 B8 E8' hnm hnb hs8 u8l hi hz0 hz1 hz2
  go_upto_region 3 with (go_at_call 17; (with_reducible refine (CG.out _ _ V9.out).mono ?_); rintro e w10 ⟨ea, en, ec, ia, im, ic, ca, cn, cc, da, dn, dc, ra, rn, rc, rfl, hO, hb⟩; have O10 := Lib.hid hO; have B10 := Lib.hid hb; clear hO hb)
  have hb11 := below_new w10 (.cells (mCs x6 ea en ec ia im ic ca cn cc da dn dc ra rn rc) 26)
  have L11 : Hid (LJ w9 w10.heap.size (mCs x6 ea en ec ia im ic ca cn cc da dn dc ra rn rc) (w10.alloc (.cells (mCs x6 ea en ec ia im ic ca cn cc da dn dc ra rn rc) 26))) := Lib.hid ⟨B10.out.trans (hb11.mono B10.out.size), Whole.new _ _ _⟩
  have hcg : Hid (∀ g, ca = some ⟨g, 0, none⟩ → g < w10.heap.size) := Lib.hid (fun g hg => (O10.out.cd.lt g (by rw [hg]; rfl)).2)
  have R11 := Lib.hid (O10.out.reads.there.go hb11 hb11.size)
  have Q11 : Hid (RowK 43 1 w9.heap.size ca cn cc gd32 (w10.alloc (.cells (mCs x6 ea en ec ia im ic ca cn cc da dn dc ra rn rc) 26))) := Lib.hid (RowK.belowS ⟨_, hcl.out, O10.out.cd⟩ hb11)
  have hs11 : Hid (w10.heap.size + 1 ≤ (w10.alloc (.cells (mCs x6 ea en ec ia im ic ca cn cc da dn dc ra rn rc) 26)).heap.size) := Lib.hid (by simp)
  have hcnb : cn ≤ 9223372036854775807 := by
    obtain ⟨_, h1, h2⟩ := reads_len R11.out.cd
    unfold maxLen at h2
    omega
  clear hb11 O10 B10
  generalize w10.alloc (.cells (mCs x6 ea en ec ia im ic ca cn cc da dn dc ra rn rc) 26) = W11 at *
  generalize w10.heap.size = b4 at *
  go_upto_region 4 with (go_at_call 18; (with_reducible refine (CR.out _ (B9.out.trans (L11.out.B.mono B9.out.size))).mono ?_); rintro e w12 ⟨ea2, en2, ec2, ia2, im2, ic2, ca2, cn2, cc2, da2, dn2, dc2, ra2, rn2, rc2, rfl, hO, hb⟩; have K12 := Lib.hid hO; have B12 := Lib.hid hb; clear hO hb)
  have hb13 := below_new w12 (.cells (mCs x6 ea2 en2 ec2 ia2 im2 ic2 ca2 cn2 cc2 da2 dn2 dc2 ra2 rn2 rc2) 26)
  have hb13' := B12.out.trans (hb13.mono B12.out.size)
  have L13 := Lib.hid (L11.out.belowS hb13')
  have R13 := Lib.hid (R11.out.go hb13' hb13'.size)
  have Q13 := Lib.hid (Q11.out.belowS hb13')
  have Y13 := Lib.hid (Whole.new w12 26 (mCs x6 ea2 en2 ec2 ia2 im2 ic2 ca2 cn2 cc2 da2 dn2 dc2 ra2 rn2 rc2))
  have hb6 : Hid (b4 < w12.heap.size) := Lib.hid (by have h1 := hs11.out; have h2 := B12.out.size; omega)
  have K13 : Hid (RdM (fun q => b4 ≤ q) (w12.alloc (.cells (mCs x6 ea2 en2 ec2 ia2 im2 ic2 ca2 cn2 cc2 da2 dn2 dc2 ra2 rn2 rc2) 26)) ea2 en2 ec2 ia2 im2 ic2 ca2 cn2 cc2 da2 dn2 dc2 ra2 rn2 rc2 x5) := Lib.hid ((K12.out.keep2 fun g _ hg => hb13.block g hg).mono fun g hg => by have h1 := hs11.out; omega)
  clear hb13 hb13' L11 R11 Q11 K12 B12 hs11
  generalize w12.alloc (.cells (mCs x6 ea2 en2 ec2 ia2 im2 ic2 ca2 cn2 cc2 da2 dn2 dc2 ra2 rn2 rc2) 26) = W13 at *
  generalize w12.heap.size = b6 at *
  obtain ⟨c0, c1, c2, c3, c4, c5⟩ := mod_cells L13.out.X
  have c6 := L13.out.X.lt
  obtain ⟨d0, d1, d2, d3, d4, d5⟩ := mod_cells Y13.out
  have d6 := Y13.out.lt
  go_upto_region 6 with (go_at_call 16; (with_reducible refine (SA.out _ _ _ _ _ _ _ _ _ _ _ _ _ _ _ _ _ _ _ _ _ _ _ _ _ _ _ _ _ _ _ R13.out K13.out.there).mono ?_); rintro e w14 ⟨rfl, hb⟩; have L14 := Lib.hid (L13.out.belowS hb); have Q14 := Lib.hid (Q13.out.belowS hb); have Y14 := Lib.hid (Y13.out.belowS hb); have K14 := Lib.hid (K13.out.keep2 fun g _ hg => hb.block g hg); clear hb)
  clear c0 c1 c2 c3 c4 c5 c6 d0 d1 d2 d3 d4 d5 d6 L13 Q13 Y13 K13 R13 CR
  obtain ⟨xr, hxr'⟩ : ∃ xr, xr = bs raw := ⟨_, rfl⟩
  have hxr := Lib.hid hxr'
  clear hxr' hcl
  go_wp2_with fail
  go_loopw [8] (fun i wr => ∃ k : Nat, k ≤ cn ∧ i = .int .i64 (k : Int) ∧ Hid (LJ w9 b4 (mCs x6 ea en ec ia im ic ca cn cc da dn dc ra rn rc) wr) ∧ Hid (RowK 43 1 w9.heap.size ca cn cc gd32 wr) ∧ Hid (Whole wr b6 26 (mCs x6 ea2 en2 ec2 ia2 im2 ic2 ca2 cn2 cc2 da2 dn2 dc2 ra2 rn2 rc2)) ∧ Hid (RdM (fun q => b4 ≤ q) wr ea2 en2 ec2 ia2 im2 ic2 ca2 cn2 cc2 da2 dn2 dc2 ra2 rn2 rc2 x5)) (fun i _ => cn - (intOf i).toNat)
  case atStart => exact ⟨0, by omega, rfl, L14, Q14, Y14, K14⟩
  case round =>
    obtain ⟨k, hk, rfl, hL, hQ, hY, hK⟩ := hrel
    clear L14 Q14 Y14 K14
    by_cases hlt : k < cn
    · have hlt' : (k : Int) < cn := by omega
      obtain ⟨g, ys, rfl, hcc, hgd, hyl, hcell, hfr, hcg2, ⟨cur, hw⟩, hst⟩ := hQ.out.at_ (j := k) (by omega)
      obtain ⟨x, hx⟩ := hgd k _ (List.getElem?_eq_getElem (show k < ys.length by omega))
      rw [List.getElem?_eq_getElem (show k < ys.length by omega), hx] at hcell
      have hgb : Hid (g < b4) := Lib.hid (hcg.out g rfl)
      have HL := Lib.hid (fun y => hL.out.grow hw (by decide) (grown_set _ g k y) hcg2)
      have HQ := Lib.hid (fun z => hst _ (gd32_set hgd k z))
      have HY := Lib.hid (fun y => whole_turn hY.out (grown_set _ g k y) (by have h1 := hb6.out; have h2 := hgb.out; omega))
      have HK := Lib.hid (fun y => hK.out.keep2 fun q hq hl => (grown_set _ g k y).block q hl (by intro hh; cases hh; have h2 := hgb.out; omega))
      obtain ⟨c0, c1, c2, c3, c4, c5⟩ := mod_cells hL.out.X
      have c6 := hL.out.X.lt
      clear hw hst hgd hyl hx hL hQ hY hK
      go_wp2_with fail
      go_roundw
      case rel => exact ⟨k + 1, by omega, by go_num, Lib.hid (HL.out _), Lib.hid (HQ.out _), Lib.hid (HY.out _), Lib.hid (HK.out _)⟩
      case measure => simp [intOf]; omega
    · have hkn : ¬ (k : Int) < cn := by omega
      clear hlt hQ
      have V15 := Lib.hid ((V9.out.below hL.out.B).mono (fun g (hg : g < w9.heap.size) => Nat.lt_of_lt_of_le hg hL.out.B.size))
      obtain ⟨c0, c1, c2, c3, c4, c5⟩ := mod_cells hL.out.X
      have c6 := hL.out.X.lt
      go_upto_region 11 with (go_at_call 17; (with_reducible refine (CG.out _ _ V15.out).mono ?_); rintro e w16 ⟨ea3, en3, ec3, ia3, im3, ic3, ca3, cn3, cc3, da3, dn3, dc3, ra3, rn3, rc3, rfl, hO, hb⟩; have L16 := Lib.hid (hL.out.belowS hb); have Y16 := Lib.hid (hY.out.belowS hb); have K16 := Lib.hid (hK.out.keep2 fun g _ hg => hb.block g hg); have R16 := Lib.hid (hO.reads.there); clear hO hb)
      have hb17 := below_new w16 (.cells (mCs x6 ea3 en3 ec3 ia3 im3 ic3 ca3 cn3 cc3 da3 dn3 dc3 ra3 rn3 rc3) 26)
      have L17 := Lib.hid (L16.out.belowS hb17)
      have Y17 := Lib.hid (Y16.out.belowS hb17)
      have K17 := Lib.hid (K16.out.keep2 fun g _ hg => hb17.block g hg)
      have R17 := Lib.hid (R16.out.go hb17 hb17.size)
      have X17 := Lib.hid (Whole.new w16 26 (mCs x6 ea3 en3 ec3 ia3 im3 ic3 ca3 cn3 cc3 da3 dn3 dc3 ra3 rn3 rc3))
      clear c0 c1 c2 c3 c4 c5 c6 hb17 L16 Y16 K16 R16 V15 hL hY hK CG
      generalize w16.alloc (.cells (mCs x6 ea3 en3 ec3 ia3 im3 ic3 ca3 cn3 cc3 da3 dn3 dc3 ra3 rn3 rc3) 26) = W17 at *
      generalize w16.heap.size = b9 at *
      obtain ⟨c0, c1, c2, c3, c4, c5⟩ := mod_cells X17.out
      have c6 := X17.out.lt
      obtain ⟨d0, d1, d2, d3, d4, d5⟩ := mod_cells Y17.out
      have d6 := Y17.out.lt
      go_wp2_with (first | (go_at_call 16; (with_reducible refine (SA.out _ _ _ _ _ _ _ _ _ _ _ _ _ _ _ _ _ _ _ _ _ _ _ _ _ _ _ _ _ _ _ R17.out K17.out.there).mono ?_); rintro e w18 ⟨rfl, hb⟩; have B18 := Lib.hid (L17.out.B.trans (hb.mono L17.out.B.size)); have hp1 := text_run (V9.out.below B18.out); have hp2 := text_run (V0.out.below (B9.out.trans (B18.out.mono B9.out.size))); rw [← hxr.out] at hp1 hp2; clear hb) | (go_at_call 10; (with_reducible refine (AW.out _).mono ?_); rintro e w19 ⟨rfl, hb⟩; have B19 := Lib.hid (B18.out.trans (hb.mono B18.out.size)); clear hb))
      go_ret
      exact ⟨rfl, B9.out.trans (B19.out.mono B9.out.size)⟩
end
end Go.Proofs.Ytdlinlkdielmkaa.WK
