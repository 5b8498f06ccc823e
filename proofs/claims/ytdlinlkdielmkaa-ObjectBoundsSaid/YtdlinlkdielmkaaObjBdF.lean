/-
  Each bound: the walk of ObjectBounds. Nothing here is a statement of the seed.
-/
import Derived.Test.YtdlinlkdielmkaaObjBd
set_option linter.unusedSimpArgs false
set_option linter.unusedVariables false
namespace Go.Proofs.Ytdlinlkdielmkaa.WK
open Go.RowKit WM NR OM OR
set_option maxHeartbeats 4000000
set_option maxRecDepth 10000

theorem bounds_0_f {w : World} {y : Int} (hy : 0 ≤ y ∧ y ≤ 255) (hk : y % 6 = 0) :
    Calls Try.prog 7 #[.int .u8 y, .bool false] w fun e w' => e = .returned (.bool true) ∧ Below w.heap.size w w' := by
  have AW := Lib.hid (fun (u : World) => awake_any u)
  obtain ⟨i0, hi, hz0, hz1, hz2⟩ := info_parts infoStr
  obtain ⟨m, hm⟩ : ∃ m : Md, m = ⟨List.replicate 0 0, List.replicate 8 [], List.replicate 0 [], List.replicate 0 0, List.replicate 0 0, List.replicate 0 ⟨0, 0, 0⟩⟩ := ⟨_, rfl⟩
  have hch : Hid (chkM m = 0) := Lib.hid (by rw [hm]; exact chk_z (by decide))
  have hfi : Hid (FineM m) := Lib.hid (by rw [hm]; exact fine_z)
  have HM := Lib.hid hm
  have hnm : bs m.name = ⟨#[]⟩ := by rw [hm]; rfl
  clear hm
  have B1 := Lib.hid (below_new w (.cells zCs 26))
  have X1 := Lib.hid (Whole.new w 26 zCs)
  have hs1 : w.heap.size < (w.alloc (.cells zCs 26)).heap.size := by simp
  go_enter Try.func7, Try.ntmps7
  go_upto_region 5 with fail
  generalize w.alloc (.cells zCs 26) = W1 at *
  go_upto_region 17 with (at_make; refine wpList_make_full _ rfl _ _ 22 rfl W1.heap.size 9 i0 (Value.string ⟨#[]⟩) 1 Try.underlying22 hi hz0 hz1 _ _ _ _ 8 rfl rfl (by rfl) (by rfl) (by rw [hz2]; decide) (by unfold maxLen; omega) (Nat.le_refl _) ?_; intro w2 hown hgrow; have O2 := Lib.hid hown; have B2 : Hid (Below W1.heap.size W1 w2) := Lib.hid ((Below.refl W1.heap.size W1).grown hgrow (Nat.le_refl _) (fun k hk => by cases hk)); have X2 := Lib.hid (X1.out.belowS B2.out); obtain ⟨c0, c1, c2, c3, c4, c5⟩ := mod_cells X2.out; have c6 := X2.out.lt; have cf := X2.out.frozen 1; clear hown hgrow)
  have X3 : Hid (Whole (w2.setCell ⟨w.heap.size, 1, none⟩ (.slice (some ⟨W1.heap.size, 0, none⟩) 8 8)) w.heap.size 26 (mCs ⟨#[]⟩ (some ⟨W1.heap.size, 0, none⟩) 8 8 none 0 0 none 0 0 none 0 0 none 0 0)) := Lib.hid (X2.out.set_ 1 _)
  have R3 : Hid (RdM (· < (w2.setCell ⟨w.heap.size, 1, none⟩ (.slice (some ⟨W1.heap.size, 0, none⟩) 8 8)).heap.size) (w2.setCell ⟨w.heap.size, 1, none⟩ (.slice (some ⟨W1.heap.size, 0, none⟩) 8 8)) (some ⟨W1.heap.size, 0, none⟩) 8 8 none 0 0 none 0 0 none 0 0 none 0 0 m) := Lib.hid (by rw [HM.out]; exact rd_e (owns_set O2.out hs1 _))
  have B3 : Hid (Below w.heap.size w (w2.setCell ⟨w.heap.size, 1, none⟩ (.slice (some ⟨W1.heap.size, 0, none⟩) 8 8))) := Lib.hid ((B1.out.trans (B2.out.mono B1.out.size)).setCell (Nat.le_refl _) _)
  clear c0 c1 c2 c3 c4 c5 c6 cf O2 B2 X2 X1 B1 hi hz0 hz1 hz2 HM hs1
  generalize (w2.setCell ⟨w.heap.size, 1, none⟩ (.slice (some ⟨W1.heap.size, 0, none⟩) 8 8)) = W3 at *
  generalize W1.heap.size = b7 at *
  have PU := Lib.hid (put_yes_b R3.out hfi.out hch.out)
  have GU := Lib.hid (fun (u : World) (v : Value) (h : Reads (· < u.heap.size) u v (u8s (putL m))) => get_yes_b hfi.out hch.out h)
  have SA := Lib.hid (fun (u : World) (a1 : Option Addr) (a2 a3 : Nat) (b1 : Option Addr) (b2 b3 : Nat) (c1 : Option Addr) (c2 c3 : Nat) (d1 : Option Addr) (d2 d3 : Nat) (e1 : Option Addr) (e2 e3 : Nat) (hr : RdM (· < u.heap.size) u a1 a2 a3 b1 b2 b3 c1 c2 c3 d1 d2 d3 e1 e2 e3 m) (hb : Below W3.heap.size W3 u) => objSame_any hr (R3.out.go hb hb.size))
  simp only [decide_true] at SA
  rw [hnm] at PU
  simp only [hnm] at GU SA
  clear hnm hch hfi
  obtain ⟨c0, c1, c2, c3, c4, c5⟩ := mod_cells X3.out
  have c6 := X3.out.lt
  go_upto_region 18 with (go_at_call 12; (with_reducible refine PU.out.mono ?_); rintro e w4 ⟨va, vn, vc, rfl, hr, hb⟩; have V4 := Lib.hid hr; have B4 := Lib.hid hb; clear hr hb)
  clear PU
  go_upto_region 19 with (go_at_call 17; (with_reducible refine (GU.out _ _ V4.out).mono ?_); rintro e w5 ⟨ea, en, ec, ia, im, ic, ca, cn, cc, da, dn, dc, ra, rn, rc, rfl, hR, hb⟩; have B5 := Lib.hid (B4.out.trans (hb.mono B4.out.size)); have R5 := Lib.hid hR; clear hb hR)
  have hb6 := below_new w5 (.cells (mCs ⟨#[]⟩ ea en ec ia im ic ca cn cc da dn dc ra rn rc) 26)
  have B6 := Lib.hid (B5.out.trans (hb6.mono B5.out.size))
  have R6 := Lib.hid (R5.out.go hb6 hb6.size)
  have Y6 := Lib.hid (Whole.new w5 26 (mCs ⟨#[]⟩ ea en ec ia im ic ca cn cc da dn dc ra rn rc))
  have X6 := Lib.hid (X3.out.belowS B6.out)
  clear c0 c1 c2 c3 c4 c5 c6 GU B4 B5 V4 R5 hb6
  generalize w5.alloc (.cells (mCs ⟨#[]⟩ ea en ec ia im ic ca cn cc da dn dc ra rn rc) 26) = W6 at *
  generalize w5.heap.size = b9 at *
  obtain ⟨c0, c1, c2, c3, c4, c5⟩ := mod_cells X6.out
  have c6 := X6.out.lt
  obtain ⟨d0, d1, d2, d3, d4, d5⟩ := mod_cells Y6.out
  have d6 := Y6.out.lt
  go_wp2_with (first | (go_at_call 20; (with_reducible refine (SA.out _ _ _ _ _ _ _ _ _ _ _ _ _ _ _ _ R6.out B6.out).mono ?_); rintro e w7 ⟨rfl, hb⟩; have B7 := Lib.hid (B6.out.trans (hb.mono B6.out.size)); clear hb) | (go_at_call 10; (with_reducible refine (AW.out _).mono ?_); rintro e w8 ⟨rfl, hb⟩; have B8 := Lib.hid (B7.out.trans (hb.mono B7.out.size)); clear hb))
  go_ret
  exact ⟨rfl, B3.out.trans (B8.out.mono B3.out.size)⟩
theorem bounds_1_f {w : World} {y : Int} (hy : 0 ≤ y ∧ y ≤ 255) (hk : y % 6 = 1) :
    Calls Try.prog 7 #[.int .u8 y, .bool false] w fun e w' => e = .returned (.bool true) ∧ Below w.heap.size w w' := by
  have AW := Lib.hid (fun (u : World) => awake_any u)
  obtain ⟨i0, hi, hz0, hz1, hz2⟩ := info_parts infoStr
  obtain ⟨m, hm⟩ : ∃ m : Md, m = ⟨List.replicate 0 0, List.replicate 0 [], List.replicate 16 [], List.replicate 0 0, List.replicate 0 0, List.replicate 0 ⟨0, 0, 0⟩⟩ := ⟨_, rfl⟩
  have hch : Hid (chkM m = 0) := Lib.hid (by rw [hm]; exact chk_z (by decide))
  have hfi : Hid (FineM m) := Lib.hid (by rw [hm]; exact fine_z)
  have HM := Lib.hid hm
  have hnm : bs m.name = ⟨#[]⟩ := by rw [hm]; rfl
  clear hm
  have B1 := Lib.hid (below_new w (.cells zCs 26))
  have X1 := Lib.hid (Whole.new w 26 zCs)
  have hs1 : w.heap.size < (w.alloc (.cells zCs 26)).heap.size := by simp
  go_enter Try.func7, Try.ntmps7
  go_upto_region 5 with fail
  generalize w.alloc (.cells zCs 26) = W1 at *
  go_upto_region 17 with (at_make; refine wpList_make_full _ rfl _ _ 22 rfl W1.heap.size 9 i0 (Value.string ⟨#[]⟩) 1 Try.underlying22 hi hz0 hz1 _ _ _ _ 16 rfl rfl (by rfl) (by rfl) (by rw [hz2]; decide) (by unfold maxLen; omega) (Nat.le_refl _) ?_; intro w2 hown hgrow; have O2 := Lib.hid hown; have B2 : Hid (Below W1.heap.size W1 w2) := Lib.hid ((Below.refl W1.heap.size W1).grown hgrow (Nat.le_refl _) (fun k hk => by cases hk)); have X2 := Lib.hid (X1.out.belowS B2.out); obtain ⟨c0, c1, c2, c3, c4, c5⟩ := mod_cells X2.out; have c6 := X2.out.lt; have cf := X2.out.frozen 2; clear hown hgrow)
  have X3 : Hid (Whole (w2.setCell ⟨w.heap.size, 2, none⟩ (.slice (some ⟨W1.heap.size, 0, none⟩) 16 16)) w.heap.size 26 (mCs ⟨#[]⟩ none 0 0 (some ⟨W1.heap.size, 0, none⟩) 16 16 none 0 0 none 0 0 none 0 0)) := Lib.hid (X2.out.set_ 2 _)
  have R3 : Hid (RdM (· < (w2.setCell ⟨w.heap.size, 2, none⟩ (.slice (some ⟨W1.heap.size, 0, none⟩) 16 16)).heap.size) (w2.setCell ⟨w.heap.size, 2, none⟩ (.slice (some ⟨W1.heap.size, 0, none⟩) 16 16)) none 0 0 (some ⟨W1.heap.size, 0, none⟩) 16 16 none 0 0 none 0 0 none 0 0 m) := Lib.hid (by rw [HM.out]; exact rd_i (owns_set O2.out hs1 _))
  have B3 : Hid (Below w.heap.size w (w2.setCell ⟨w.heap.size, 2, none⟩ (.slice (some ⟨W1.heap.size, 0, none⟩) 16 16))) := Lib.hid ((B1.out.trans (B2.out.mono B1.out.size)).setCell (Nat.le_refl _) _)
  clear c0 c1 c2 c3 c4 c5 c6 cf O2 B2 X2 X1 B1 hi hz0 hz1 hz2 HM hs1
  generalize (w2.setCell ⟨w.heap.size, 2, none⟩ (.slice (some ⟨W1.heap.size, 0, none⟩) 16 16)) = W3 at *
  generalize W1.heap.size = b7 at *
  have PU := Lib.hid (put_yes_b R3.out hfi.out hch.out)
  have GU := Lib.hid (fun (u : World) (v : Value) (h : Reads (· < u.heap.size) u v (u8s (putL m))) => get_yes_b hfi.out hch.out h)
  have SA := Lib.hid (fun (u : World) (a1 : Option Addr) (a2 a3 : Nat) (b1 : Option Addr) (b2 b3 : Nat) (c1 : Option Addr) (c2 c3 : Nat) (d1 : Option Addr) (d2 d3 : Nat) (e1 : Option Addr) (e2 e3 : Nat) (hr : RdM (· < u.heap.size) u a1 a2 a3 b1 b2 b3 c1 c2 c3 d1 d2 d3 e1 e2 e3 m) (hb : Below W3.heap.size W3 u) => objSame_any hr (R3.out.go hb hb.size))
  simp only [decide_true] at SA
  rw [hnm] at PU
  simp only [hnm] at GU SA
  clear hnm hch hfi
  obtain ⟨c0, c1, c2, c3, c4, c5⟩ := mod_cells X3.out
  have c6 := X3.out.lt
  go_upto_region 18 with (go_at_call 12; (with_reducible refine PU.out.mono ?_); rintro e w4 ⟨va, vn, vc, rfl, hr, hb⟩; have V4 := Lib.hid hr; have B4 := Lib.hid hb; clear hr hb)
  clear PU
  go_upto_region 19 with (go_at_call 17; (with_reducible refine (GU.out _ _ V4.out).mono ?_); rintro e w5 ⟨ea, en, ec, ia, im, ic, ca, cn, cc, da, dn, dc, ra, rn, rc, rfl, hR, hb⟩; have B5 := Lib.hid (B4.out.trans (hb.mono B4.out.size)); have R5 := Lib.hid hR; clear hb hR)
  have hb6 := below_new w5 (.cells (mCs ⟨#[]⟩ ea en ec ia im ic ca cn cc da dn dc ra rn rc) 26)
  have B6 := Lib.hid (B5.out.trans (hb6.mono B5.out.size))
  have R6 := Lib.hid (R5.out.go hb6 hb6.size)
  have Y6 := Lib.hid (Whole.new w5 26 (mCs ⟨#[]⟩ ea en ec ia im ic ca cn cc da dn dc ra rn rc))
  have X6 := Lib.hid (X3.out.belowS B6.out)
  clear c0 c1 c2 c3 c4 c5 c6 GU B4 B5 V4 R5 hb6
  generalize w5.alloc (.cells (mCs ⟨#[]⟩ ea en ec ia im ic ca cn cc da dn dc ra rn rc) 26) = W6 at *
  generalize w5.heap.size = b9 at *
  obtain ⟨c0, c1, c2, c3, c4, c5⟩ := mod_cells X6.out
  have c6 := X6.out.lt
  obtain ⟨d0, d1, d2, d3, d4, d5⟩ := mod_cells Y6.out
  have d6 := Y6.out.lt
  go_wp2_with (first | (go_at_call 20; (with_reducible refine (SA.out _ _ _ _ _ _ _ _ _ _ _ _ _ _ _ _ R6.out B6.out).mono ?_); rintro e w7 ⟨rfl, hb⟩; have B7 := Lib.hid (B6.out.trans (hb.mono B6.out.size)); clear hb) | (go_at_call 10; (with_reducible refine (AW.out _).mono ?_); rintro e w8 ⟨rfl, hb⟩; have B8 := Lib.hid (B7.out.trans (hb.mono B7.out.size)); clear hb))
  go_ret
  exact ⟨rfl, B3.out.trans (B8.out.mono B3.out.size)⟩
theorem bounds_2_f {w : World} {y : Int} (hy : 0 ≤ y ∧ y ≤ 255) (hk : y % 6 = 2) :
    Calls Try.prog 7 #[.int .u8 y, .bool false] w fun e w' => e = .returned (.bool true) ∧ Below w.heap.size w w' := by
  have AW := Lib.hid (fun (u : World) => awake_any u)
  obtain ⟨i0, hi, hz0, hz1, hz2⟩ := info_parts infoWord
  obtain ⟨m, hm⟩ : ∃ m : Md, m = ⟨List.replicate 0 0, List.replicate 0 [], List.replicate 0 [], List.replicate 512 0, List.replicate 0 0, List.replicate 0 ⟨0, 0, 0⟩⟩ := ⟨_, rfl⟩
  have hch : Hid (chkM m = 0) := Lib.hid (by rw [hm]; exact chk_z (by decide))
  have hfi : Hid (FineM m) := Lib.hid (by rw [hm]; exact fine_z)
  have HM := Lib.hid hm
  have hnm : bs m.name = ⟨#[]⟩ := by rw [hm]; rfl
  clear hm
  have B1 := Lib.hid (below_new w (.cells zCs 26))
  have X1 := Lib.hid (Whole.new w 26 zCs)
  have hs1 : w.heap.size < (w.alloc (.cells zCs 26)).heap.size := by simp
  go_enter Try.func7, Try.ntmps7
  go_upto_region 5 with fail
  generalize w.alloc (.cells zCs 26) = W1 at *
  go_upto_region 17 with (at_make; refine wpList_make_full _ rfl _ _ 23 rfl W1.heap.size 43 i0 (Value.int .u32 0) 1 Try.underlying23 hi hz0 hz1 _ _ _ _ 512 rfl rfl (by rfl) (by rfl) (by rw [hz2]; decide) (by unfold maxLen; omega) (Nat.le_refl _) ?_; intro w2 hown hgrow; have O2 := Lib.hid hown; have B2 : Hid (Below W1.heap.size W1 w2) := Lib.hid ((Below.refl W1.heap.size W1).grown hgrow (Nat.le_refl _) (fun k hk => by cases hk)); have X2 := Lib.hid (X1.out.belowS B2.out); obtain ⟨c0, c1, c2, c3, c4, c5⟩ := mod_cells X2.out; have c6 := X2.out.lt; have cf := X2.out.frozen 3; clear hown hgrow)
  have X3 : Hid (Whole (w2.setCell ⟨w.heap.size, 3, none⟩ (.slice (some ⟨W1.heap.size, 0, none⟩) 512 512)) w.heap.size 26 (mCs ⟨#[]⟩ none 0 0 none 0 0 (some ⟨W1.heap.size, 0, none⟩) 512 512 none 0 0 none 0 0)) := Lib.hid (X2.out.set_ 3 _)
  have R3 : Hid (RdM (· < (w2.setCell ⟨w.heap.size, 3, none⟩ (.slice (some ⟨W1.heap.size, 0, none⟩) 512 512)).heap.size) (w2.setCell ⟨w.heap.size, 3, none⟩ (.slice (some ⟨W1.heap.size, 0, none⟩) 512 512)) none 0 0 none 0 0 (some ⟨W1.heap.size, 0, none⟩) 512 512 none 0 0 none 0 0 m) := Lib.hid (by rw [HM.out]; exact rd_c (owns_set O2.out hs1 _))
  have B3 : Hid (Below w.heap.size w (w2.setCell ⟨w.heap.size, 3, none⟩ (.slice (some ⟨W1.heap.size, 0, none⟩) 512 512))) := Lib.hid ((B1.out.trans (B2.out.mono B1.out.size)).setCell (Nat.le_refl _) _)
  clear c0 c1 c2 c3 c4 c5 c6 cf O2 B2 X2 X1 B1 hi hz0 hz1 hz2 HM hs1
  generalize (w2.setCell ⟨w.heap.size, 3, none⟩ (.slice (some ⟨W1.heap.size, 0, none⟩) 512 512)) = W3 at *
  generalize W1.heap.size = b7 at *
  have PU := Lib.hid (put_yes_b R3.out hfi.out hch.out)
  have GU := Lib.hid (fun (u : World) (v : Value) (h : Reads (· < u.heap.size) u v (u8s (putL m))) => get_yes_b hfi.out hch.out h)
  have SA := Lib.hid (fun (u : World) (a1 : Option Addr) (a2 a3 : Nat) (b1 : Option Addr) (b2 b3 : Nat) (c1 : Option Addr) (c2 c3 : Nat) (d1 : Option Addr) (d2 d3 : Nat) (e1 : Option Addr) (e2 e3 : Nat) (hr : RdM (· < u.heap.size) u a1 a2 a3 b1 b2 b3 c1 c2 c3 d1 d2 d3 e1 e2 e3 m) (hb : Below W3.heap.size W3 u) => objSame_any hr (R3.out.go hb hb.size))
  simp only [decide_true] at SA
  rw [hnm] at PU
  simp only [hnm] at GU SA
  clear hnm hch hfi
  obtain ⟨c0, c1, c2, c3, c4, c5⟩ := mod_cells X3.out
  have c6 := X3.out.lt
  go_upto_region 18 with (go_at_call 12; (with_reducible refine PU.out.mono ?_); rintro e w4 ⟨va, vn, vc, rfl, hr, hb⟩; have V4 := Lib.hid hr; have B4 := Lib.hid hb; clear hr hb)
  clear PU
  go_upto_region 19 with (go_at_call 17; (with_reducible refine (GU.out _ _ V4.out).mono ?_); rintro e w5 ⟨ea, en, ec, ia, im, ic, ca, cn, cc, da, dn, dc, ra, rn, rc, rfl, hR, hb⟩; have B5 := Lib.hid (B4.out.trans (hb.mono B4.out.size)); have R5 := Lib.hid hR; clear hb hR)
  have hb6 := below_new w5 (.cells (mCs ⟨#[]⟩ ea en ec ia im ic ca cn cc da dn dc ra rn rc) 26)
  have B6 := Lib.hid (B5.out.trans (hb6.mono B5.out.size))
  have R6 := Lib.hid (R5.out.go hb6 hb6.size)
  have Y6 := Lib.hid (Whole.new w5 26 (mCs ⟨#[]⟩ ea en ec ia im ic ca cn cc da dn dc ra rn rc))
  have X6 := Lib.hid (X3.out.belowS B6.out)
  clear c0 c1 c2 c3 c4 c5 c6 GU B4 B5 V4 R5 hb6
  generalize w5.alloc (.cells (mCs ⟨#[]⟩ ea en ec ia im ic ca cn cc da dn dc ra rn rc) 26) = W6 at *
  generalize w5.heap.size = b9 at *
  obtain ⟨c0, c1, c2, c3, c4, c5⟩ := mod_cells X6.out
  have c6 := X6.out.lt
  obtain ⟨d0, d1, d2, d3, d4, d5⟩ := mod_cells Y6.out
  have d6 := Y6.out.lt
  go_wp2_with (first | (go_at_call 20; (with_reducible refine (SA.out _ _ _ _ _ _ _ _ _ _ _ _ _ _ _ _ R6.out B6.out).mono ?_); rintro e w7 ⟨rfl, hb⟩; have B7 := Lib.hid (B6.out.trans (hb.mono B6.out.size)); clear hb) | (go_at_call 10; (with_reducible refine (AW.out _).mono ?_); rintro e w8 ⟨rfl, hb⟩; have B8 := Lib.hid (B7.out.trans (hb.mono B7.out.size)); clear hb))
  go_ret
  exact ⟨rfl, B3.out.trans (B8.out.mono B3.out.size)⟩
theorem bounds_3_f {w : World} {y : Int} (hy : 0 ≤ y ∧ y ≤ 255) (hk : y % 6 = 3) :
    Calls Try.prog 7 #[.int .u8 y, .bool false] w fun e w' => e = .returned (.bool true) ∧ Below w.heap.size w w' := by
  have AW := Lib.hid (fun (u : World) => awake_any u)
  obtain ⟨i0, hi, hz0, hz1, hz2⟩ := info_parts infoWord
  obtain ⟨m, hm⟩ : ∃ m : Md, m = ⟨List.replicate 0 0, List.replicate 0 [], List.replicate 0 [], List.replicate 0 0, List.replicate 128 0, List.replicate 0 ⟨0, 0, 0⟩⟩ := ⟨_, rfl⟩
  have hch : Hid (chkM m = 0) := Lib.hid (by rw [hm]; exact chk_z (by decide))
  have hfi : Hid (FineM m) := Lib.hid (by rw [hm]; exact fine_z)
  have HM := Lib.hid hm
  have hnm : bs m.name = ⟨#[]⟩ := by rw [hm]; rfl
  clear hm
  have B1 := Lib.hid (below_new w (.cells zCs 26))
  have X1 := Lib.hid (Whole.new w 26 zCs)
  have hs1 : w.heap.size < (w.alloc (.cells zCs 26)).heap.size := by simp
  go_enter Try.func7, Try.ntmps7
  go_upto_region 5 with fail
  generalize w.alloc (.cells zCs 26) = W1 at *
  go_upto_region 17 with (at_make; refine wpList_make_full _ rfl _ _ 23 rfl W1.heap.size 43 i0 (Value.int .u32 0) 1 Try.underlying23 hi hz0 hz1 _ _ _ _ 128 rfl rfl (by rfl) (by rfl) (by rw [hz2]; decide) (by unfold maxLen; omega) (Nat.le_refl _) ?_; intro w2 hown hgrow; have O2 := Lib.hid hown; have B2 : Hid (Below W1.heap.size W1 w2) := Lib.hid ((Below.refl W1.heap.size W1).grown hgrow (Nat.le_refl _) (fun k hk => by cases hk)); have X2 := Lib.hid (X1.out.belowS B2.out); obtain ⟨c0, c1, c2, c3, c4, c5⟩ := mod_cells X2.out; have c6 := X2.out.lt; have cf := X2.out.frozen 4; clear hown hgrow)
  have X3 : Hid (Whole (w2.setCell ⟨w.heap.size, 4, none⟩ (.slice (some ⟨W1.heap.size, 0, none⟩) 128 128)) w.heap.size 26 (mCs ⟨#[]⟩ none 0 0 none 0 0 none 0 0 (some ⟨W1.heap.size, 0, none⟩) 128 128 none 0 0)) := Lib.hid (X2.out.set_ 4 _)
  have R3 : Hid (RdM (· < (w2.setCell ⟨w.heap.size, 4, none⟩ (.slice (some ⟨W1.heap.size, 0, none⟩) 128 128)).heap.size) (w2.setCell ⟨w.heap.size, 4, none⟩ (.slice (some ⟨W1.heap.size, 0, none⟩) 128 128)) none 0 0 none 0 0 none 0 0 (some ⟨W1.heap.size, 0, none⟩) 128 128 none 0 0 m) := Lib.hid (by rw [HM.out]; exact rd_d (owns_set O2.out hs1 _))
  have B3 : Hid (Below w.heap.size w (w2.setCell ⟨w.heap.size, 4, none⟩ (.slice (some ⟨W1.heap.size, 0, none⟩) 128 128))) := Lib.hid ((B1.out.trans (B2.out.mono B1.out.size)).setCell (Nat.le_refl _) _)
  clear c0 c1 c2 c3 c4 c5 c6 cf O2 B2 X2 X1 B1 hi hz0 hz1 hz2 HM hs1
  generalize (w2.setCell ⟨w.heap.size, 4, none⟩ (.slice (some ⟨W1.heap.size, 0, none⟩) 128 128)) = W3 at *
  generalize W1.heap.size = b7 at *
  have PU := Lib.hid (put_yes_b R3.out hfi.out hch.out)
  have GU := Lib.hid (fun (u : World) (v : Value) (h : Reads (· < u.heap.size) u v (u8s (putL m))) => get_yes_b hfi.out hch.out h)
  have SA := Lib.hid (fun (u : World) (a1 : Option Addr) (a2 a3 : Nat) (b1 : Option Addr) (b2 b3 : Nat) (c1 : Option Addr) (c2 c3 : Nat) (d1 : Option Addr) (d2 d3 : Nat) (e1 : Option Addr) (e2 e3 : Nat) (hr : RdM (· < u.heap.size) u a1 a2 a3 b1 b2 b3 c1 c2 c3 d1 d2 d3 e1 e2 e3 m) (hb : Below W3.heap.size W3 u) => objSame_any hr (R3.out.go hb hb.size))
  simp only [decide_true] at SA
  rw [hnm] at PU
  simp only [hnm] at GU SA
  clear hnm hch hfi
  obtain ⟨c0, c1, c2, c3, c4, c5⟩ := mod_cells X3.out
  have c6 := X3.out.lt
  go_upto_region 18 with (go_at_call 12; (with_reducible refine PU.out.mono ?_); rintro e w4 ⟨va, vn, vc, rfl, hr, hb⟩; have V4 := Lib.hid hr; have B4 := Lib.hid hb; clear hr hb)
  clear PU
  go_upto_region 19 with (go_at_call 17; (with_reducible refine (GU.out _ _ V4.out).mono ?_); rintro e w5 ⟨ea, en, ec, ia, im, ic, ca, cn, cc, da, dn, dc, ra, rn, rc, rfl, hR, hb⟩; have B5 := Lib.hid (B4.out.trans (hb.mono B4.out.size)); have R5 := Lib.hid hR; clear hb hR)
  have hb6 := below_new w5 (.cells (mCs ⟨#[]⟩ ea en ec ia im ic ca cn cc da dn dc ra rn rc) 26)
  have B6 := Lib.hid (B5.out.trans (hb6.mono B5.out.size))
  have R6 := Lib.hid (R5.out.go hb6 hb6.size)
  have Y6 := Lib.hid (Whole.new w5 26 (mCs ⟨#[]⟩ ea en ec ia im ic ca cn cc da dn dc ra rn rc))
  have X6 := Lib.hid (X3.out.belowS B6.out)
  clear c0 c1 c2 c3 c4 c5 c6 GU B4 B5 V4 R5 hb6
  generalize w5.alloc (.cells (mCs ⟨#[]⟩ ea en ec ia im ic ca cn cc da dn dc ra rn rc) 26) = W6 at *
  generalize w5.heap.size = b9 at *
  obtain ⟨c0, c1, c2, c3, c4, c5⟩ := mod_cells X6.out
  have c6 := X6.out.lt
  obtain ⟨d0, d1, d2, d3, d4, d5⟩ := mod_cells Y6.out
  have d6 := Y6.out.lt
  go_wp2_with (first | (go_at_call 20; (with_reducible refine (SA.out _ _ _ _ _ _ _ _ _ _ _ _ _ _ _ _ R6.out B6.out).mono ?_); rintro e w7 ⟨rfl, hb⟩; have B7 := Lib.hid (B6.out.trans (hb.mono B6.out.size)); clear hb) | (go_at_call 10; (with_reducible refine (AW.out _).mono ?_); rintro e w8 ⟨rfl, hb⟩; have B8 := Lib.hid (B7.out.trans (hb.mono B7.out.size)); clear hb))
  go_ret
  exact ⟨rfl, B3.out.trans (B8.out.mono B3.out.size)⟩
theorem bounds_4_f {w : World} {y : Int} (hy : 0 ≤ y ∧ y ≤ 255) (hk : y % 6 = 4) :
    Calls Try.prog 7 #[.int .u8 y, .bool false] w fun e w' => e = .returned (.bool true) ∧ Below w.heap.size w w' := by
  have AW := Lib.hid (fun (u : World) => awake_any u)
  obtain ⟨i0, hi, hz0, hz1, hz2⟩ := info_parts infoRel
  obtain ⟨m, hm⟩ : ∃ m : Md, m = ⟨List.replicate 0 0, List.replicate 0 [], List.replicate 0 [], List.replicate 0 0, List.replicate 0 0, List.replicate 256 ⟨0, 0, 0⟩⟩ := ⟨_, rfl⟩
  have hch : Hid (chkM m = 0) := Lib.hid (by rw [hm]; exact chk_z (by decide))
  have hfi : Hid (FineM m) := Lib.hid (by rw [hm]; exact fine_z)
  have HM := Lib.hid hm
  have hnm : bs m.name = ⟨#[]⟩ := by rw [hm]; rfl
  clear hm
  have B1 := Lib.hid (below_new w (.cells zCs 26))
  have X1 := Lib.hid (Whole.new w 26 zCs)
  have hs1 : w.heap.size < (w.alloc (.cells zCs 26)).heap.size := by simp
  go_enter Try.func7, Try.ntmps7
  go_upto_region 5 with fail
  generalize w.alloc (.cells zCs 26) = W1 at *
  go_upto_region 17 with (at_make; refine wpList_make_full _ rfl _ _ 24 rfl W1.heap.size 48 i0 (Value.agg #[.int .u8 0, .int .u16 0, .int .u16 0]) 3 Try.underlying24 hi hz0 hz1 _ _ _ _ 256 rfl rfl (by rfl) (by rfl) (by rw [hz2]; decide) (by unfold maxLen; omega) (Nat.le_refl _) ?_; intro w2 hown hgrow; have O2 := Lib.hid hown; have B2 : Hid (Below W1.heap.size W1 w2) := Lib.hid ((Below.refl W1.heap.size W1).grown hgrow (Nat.le_refl _) (fun k hk => by cases hk)); have X2 := Lib.hid (X1.out.belowS B2.out); obtain ⟨c0, c1, c2, c3, c4, c5⟩ := mod_cells X2.out; have c6 := X2.out.lt; have cf := X2.out.frozen 5; clear hown hgrow)
  have X3 : Hid (Whole (w2.setCell ⟨w.heap.size, 5, none⟩ (.slice (some ⟨W1.heap.size, 0, none⟩) 256 256)) w.heap.size 26 (mCs ⟨#[]⟩ none 0 0 none 0 0 none 0 0 none 0 0 (some ⟨W1.heap.size, 0, none⟩) 256 256)) := Lib.hid (X2.out.set_ 5 _)
  have R3 : Hid (RdM (· < (w2.setCell ⟨w.heap.size, 5, none⟩ (.slice (some ⟨W1.heap.size, 0, none⟩) 256 256)).heap.size) (w2.setCell ⟨w.heap.size, 5, none⟩ (.slice (some ⟨W1.heap.size, 0, none⟩) 256 256)) none 0 0 none 0 0 none 0 0 none 0 0 (some ⟨W1.heap.size, 0, none⟩) 256 256 m) := Lib.hid (by rw [HM.out]; exact rd_r (owns_set O2.out hs1 _))
  have B3 : Hid (Below w.heap.size w (w2.setCell ⟨w.heap.size, 5, none⟩ (.slice (some ⟨W1.heap.size, 0, none⟩) 256 256))) := Lib.hid ((B1.out.trans (B2.out.mono B1.out.size)).setCell (Nat.le_refl _) _)
  clear c0 c1 c2 c3 c4 c5 c6 cf O2 B2 X2 X1 B1 hi hz0 hz1 hz2 HM hs1
  generalize (w2.setCell ⟨w.heap.size, 5, none⟩ (.slice (some ⟨W1.heap.size, 0, none⟩) 256 256)) = W3 at *
  generalize W1.heap.size = b7 at *
  have PU := Lib.hid (put_yes_b R3.out hfi.out hch.out)
  have GU := Lib.hid (fun (u : World) (v : Value) (h : Reads (· < u.heap.size) u v (u8s (putL m))) => get_yes_b hfi.out hch.out h)
  have SA := Lib.hid (fun (u : World) (a1 : Option Addr) (a2 a3 : Nat) (b1 : Option Addr) (b2 b3 : Nat) (c1 : Option Addr) (c2 c3 : Nat) (d1 : Option Addr) (d2 d3 : Nat) (e1 : Option Addr) (e2 e3 : Nat) (hr : RdM (· < u.heap.size) u a1 a2 a3 b1 b2 b3 c1 c2 c3 d1 d2 d3 e1 e2 e3 m) (hb : Below W3.heap.size W3 u) => objSame_any hr (R3.out.go hb hb.size))
  simp only [decide_true] at SA
  rw [hnm] at PU
  simp only [hnm] at GU SA
  clear hnm hch hfi
  obtain ⟨c0, c1, c2, c3, c4, c5⟩ := mod_cells X3.out
  have c6 := X3.out.lt
  go_upto_region 18 with (go_at_call 12; (with_reducible refine PU.out.mono ?_); rintro e w4 ⟨va, vn, vc, rfl, hr, hb⟩; have V4 := Lib.hid hr; have B4 := Lib.hid hb; clear hr hb)
  clear PU
  go_upto_region 19 with (go_at_call 17; (with_reducible refine (GU.out _ _ V4.out).mono ?_); rintro e w5 ⟨ea, en, ec, ia, im, ic, ca, cn, cc, da, dn, dc, ra, rn, rc, rfl, hR, hb⟩; have B5 := Lib.hid (B4.out.trans (hb.mono B4.out.size)); have R5 := Lib.hid hR; clear hb hR)
  have hb6 := below_new w5 (.cells (mCs ⟨#[]⟩ ea en ec ia im ic ca cn cc da dn dc ra rn rc) 26)
  have B6 := Lib.hid (B5.out.trans (hb6.mono B5.out.size))
  have R6 := Lib.hid (R5.out.go hb6 hb6.size)
  have Y6 := Lib.hid (Whole.new w5 26 (mCs ⟨#[]⟩ ea en ec ia im ic ca cn cc da dn dc ra rn rc))
  have X6 := Lib.hid (X3.out.belowS B6.out)
  clear c0 c1 c2 c3 c4 c5 c6 GU B4 B5 V4 R5 hb6
  generalize w5.alloc (.cells (mCs ⟨#[]⟩ ea en ec ia im ic ca cn cc da dn dc ra rn rc) 26) = W6 at *
  generalize w5.heap.size = b9 at *
  obtain ⟨c0, c1, c2, c3, c4, c5⟩ := mod_cells X6.out
  have c6 := X6.out.lt
  obtain ⟨d0, d1, d2, d3, d4, d5⟩ := mod_cells Y6.out
  have d6 := Y6.out.lt
  go_wp2_with (first | (go_at_call 20; (with_reducible refine (SA.out _ _ _ _ _ _ _ _ _ _ _ _ _ _ _ _ R6.out B6.out).mono ?_); rintro e w7 ⟨rfl, hb⟩; have B7 := Lib.hid (B6.out.trans (hb.mono B6.out.size)); clear hb) | (go_at_call 10; (with_reducible refine (AW.out _).mono ?_); rintro e w8 ⟨rfl, hb⟩; have B8 := Lib.hid (B7.out.trans (hb.mono B7.out.size)); clear hb))
  go_ret
  exact ⟨rfl, B3.out.trans (B8.out.mono B3.out.size)⟩
theorem bounds_5_f {w : World} {y : Int} (hy : 0 ≤ y ∧ y ≤ 255) (hk : y % 6 = 5) :
    Calls Try.prog 7 #[.int .u8 y, .bool false] w fun e w' => e = .returned (.bool true) ∧ Below w.heap.size w w' := by
  have AW := Lib.hid (fun (u : World) => awake_any u)
  obtain ⟨i0, hi, hz0, hz1, hz2⟩ := info_parts infoByte
  obtain ⟨m, hm⟩ : ∃ m : Md, m = ⟨List.replicate 96 0, List.replicate 0 [], List.replicate 0 [], List.replicate 0 0, List.replicate 0 0, List.replicate 0 ⟨0, 0, 0⟩⟩ := ⟨_, rfl⟩
  have hch : Hid (chkM m = 0) := Lib.hid (by rw [hm]; exact chk_z (by decide))
  have hfi : Hid (FineM m) := Lib.hid (by rw [hm]; exact fine_z)
  have HM := Lib.hid hm
  have hnm : bs m.name = bs (List.replicate 96 0) := by rw [hm]
  clear hm
  have B1 := Lib.hid (below_new w (.cells zCs 26))
  have X1 := Lib.hid (Whole.new w 26 zCs)
  have hs1 : w.heap.size < (w.alloc (.cells zCs 26)).heap.size := by simp
  go_enter Try.func7, Try.ntmps7
  go_upto_region 5 with fail
  generalize w.alloc (.cells zCs 26) = W1 at *
  obtain ⟨x, hx⟩ : ∃ x, x = bs m.name := ⟨_, rfl⟩
  have hx' := Lib.hid hx
  clear hx
  go_upto_region 17 with (at_make; refine wpList_make_full _ rfl _ _ 30 rfl W1.heap.size 5 i0 (Value.int .u8 0) 1 Try.underlying30 hi hz0 hz1 _ _ _ _ 96 rfl rfl (by rfl) (by rfl) (by rw [hz2]; decide) (by unfold maxLen; omega) (Nat.le_refl _) ?_; intro w2 hown hgrow; have O2 := Lib.hid hown; have B2 : Hid (Below W1.heap.size W1 w2) := Lib.hid ((Below.refl W1.heap.size W1).grown hgrow (Nat.le_refl _) (fun k hk => by cases hk)); have X2 := Lib.hid (X1.out.belowS B2.out); obtain ⟨c0, c1, c2, c3, c4, c5⟩ := mod_cells X2.out; have c6 := X2.out.lt; have cf := X2.out.frozen 0; have htx := text_zero O2.out; rw [← hnm, ← hx'.out] at htx; clear hown hgrow)
  have hx := hx'.out
  have X3 : Hid (Whole (w2.setCell ⟨w.heap.size, 0, none⟩ (.string x)) w.heap.size 26 (mCs x none 0 0 none 0 0 none 0 0 none 0 0 none 0 0)) := Lib.hid (X2.out.set_ 0 _)
  have R3 : Hid (RdM (· < (w2.setCell ⟨w.heap.size, 0, none⟩ (.string x)).heap.size) (w2.setCell ⟨w.heap.size, 0, none⟩ (.string x)) none 0 0 none 0 0 none 0 0 none 0 0 none 0 0 m) := Lib.hid (by rw [HM.out]; exact rd_n _ _)
  have B3 : Hid (Below w.heap.size w (w2.setCell ⟨w.heap.size, 0, none⟩ (.string x))) := Lib.hid ((B1.out.trans (B2.out.mono B1.out.size)).setCell (Nat.le_refl _) _)
  clear c0 c1 c2 c3 c4 c5 c6 cf O2 B2 X2 X1 B1 hi hz0 hz1 hz2 HM hs1 htx
  generalize (w2.setCell ⟨w.heap.size, 0, none⟩ (.string x)) = W3 at *
  generalize W1.heap.size = b7 at *
  have PU := Lib.hid (put_yes_b R3.out hfi.out hch.out)
  have GU := Lib.hid (fun (u : World) (v : Value) (h : Reads (· < u.heap.size) u v (u8s (putL m))) => get_yes_b hfi.out hch.out h)
  have SA := Lib.hid (fun (u : World) (a1 : Option Addr) (a2 a3 : Nat) (b1 : Option Addr) (b2 b3 : Nat) (c1 : Option Addr) (c2 c3 : Nat) (d1 : Option Addr) (d2 d3 : Nat) (e1 : Option Addr) (e2 e3 : Nat) (hr : RdM (· < u.heap.size) u a1 a2 a3 b1 b2 b3 c1 c2 c3 d1 d2 d3 e1 e2 e3 m) (hb : Below W3.heap.size W3 u) => objSame_any hr (R3.out.go hb hb.size))
  simp only [decide_true] at SA
  rw [← hx] at PU
  simp only [← hx] at GU SA
  clear hnm hch hfi hx hx'
  obtain ⟨c0, c1, c2, c3, c4, c5⟩ := mod_cells X3.out
  have c6 := X3.out.lt
  go_upto_region 18 with (go_at_call 12; (with_reducible refine PU.out.mono ?_); rintro e w4 ⟨va, vn, vc, rfl, hr, hb⟩; have V4 := Lib.hid hr; have B4 := Lib.hid hb; clear hr hb)
  clear PU
  go_upto_region 19 with (go_at_call 17; (with_reducible refine (GU.out _ _ V4.out).mono ?_); rintro e w5 ⟨ea, en, ec, ia, im, ic, ca, cn, cc, da, dn, dc, ra, rn, rc, rfl, hR, hb⟩; have B5 := Lib.hid (B4.out.trans (hb.mono B4.out.size)); have R5 := Lib.hid hR; clear hb hR)
  have hb6 := below_new w5 (.cells (mCs x ea en ec ia im ic ca cn cc da dn dc ra rn rc) 26)
  have B6 := Lib.hid (B5.out.trans (hb6.mono B5.out.size))
  have R6 := Lib.hid (R5.out.go hb6 hb6.size)
  have Y6 := Lib.hid (Whole.new w5 26 (mCs x ea en ec ia im ic ca cn cc da dn dc ra rn rc))
  have X6 := Lib.hid (X3.out.belowS B6.out)
  clear c0 c1 c2 c3 c4 c5 c6 GU B4 B5 V4 R5 hb6
  generalize w5.alloc (.cells (mCs x ea en ec ia im ic ca cn cc da dn dc ra rn rc) 26) = W6 at *
  generalize w5.heap.size = b9 at *
  obtain ⟨c0, c1, c2, c3, c4, c5⟩ := mod_cells X6.out
  have c6 := X6.out.lt
  obtain ⟨d0, d1, d2, d3, d4, d5⟩ := mod_cells Y6.out
  have d6 := Y6.out.lt
  go_wp2_with (first | (go_at_call 20; (with_reducible refine (SA.out _ _ _ _ _ _ _ _ _ _ _ _ _ _ _ _ R6.out B6.out).mono ?_); rintro e w7 ⟨rfl, hb⟩; have B7 := Lib.hid (B6.out.trans (hb.mono B6.out.size)); clear hb) | (go_at_call 10; (with_reducible refine (AW.out _).mono ?_); rintro e w8 ⟨rfl, hb⟩; have B8 := Lib.hid (B7.out.trans (hb.mono B7.out.size)); clear hb))
  go_ret
  exact ⟨rfl, B3.out.trans (B8.out.mono B3.out.size)⟩
end Go.Proofs.Ytdlinlkdielmkaa.WK
