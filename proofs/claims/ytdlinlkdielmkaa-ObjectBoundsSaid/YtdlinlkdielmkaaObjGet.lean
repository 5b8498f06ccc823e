/-
  Bytes as a module, as the program tells them. Nothing here is a statement of the seed.
-/
import Derived.Test.YtdlinlkdielmkaaObjGetN
import Derived.Test.YtdlinlkdielmkaaObjCut
set_option linter.unusedSimpArgs false
set_option linter.unusedVariables false
namespace Go.Proofs.Ytdlinlkdielmkaa.OR
open Go.RowKit WM NR OM
set_option maxHeartbeats 4000000
set_option maxRecDepth 10000
theorem rleft_st (w : World) (p : Nat) (l : List UInt8) (e : Nat) (h : Rd w p l e) : Calls Try.prog 43 #[.pointer (some ⟨p, 0, none⟩)] w fun en w' => en = .returned (.int .i64 (if e = 0 then (l.length : Int) else 0)) ∧ Below w.heap.size w w' := by
  by_cases he : e = 0
  · subst he
    rw [if_pos rfl]
    exact rleft_good w p l h
  · rw [if_neg he]
    exact rleft_dead w _ e (dead_of h he)
/-- what Get tells -/
def IsGet (B : Nat) (b : List UInt8) (w : World) (en : Ending) (w' : World) : Prop :=
  ∃ ea en_ ec ia im ic ca cn cc da dn dc ra rn rc, en = .returned (.tuple #[mV (bs (getF b).2.name) ea en_ ec ia im ic ca cn cc da dn dc ra rn rc, .int .i64 ((getF b).1 : Nat)]) ∧ Own5 B (getF b).2 w' ea en_ ec ia im ic ca cn cc da dn dc ra rn rc ∧ Below w.heap.size w w'
theorem own5_zero (B : Nat) (w : World) : Own5 B zeroM w none 0 0 none 0 0 none 0 0 none 0 0 none 0 0 := ⟨World.ownsRow_nil _ _ _ _, World.ownsRow_nil _ _ _ _, World.ownsRow_nil _ _ _ _, World.ownsRow_nil _ _ _ _, World.ownsRow_nil _ _ _ _⟩
abbrev budK : Array Value := #[.int .u8 66, .int .u8 85, .int .u8 68, .int .u8 49]
theorem zero_set {u : World} {g : Nat} (h : Whole u g 26 zCs) : Whole ((((((u.setCell ⟨g, 0, none⟩ (.string ⟨#[]⟩)).setCell ⟨g, 1, none⟩ (.slice none 0 0)).setCell ⟨g, 2, none⟩ (.slice none 0 0)).setCell ⟨g, 3, none⟩ (.slice none 0 0)).setCell ⟨g, 4, none⟩ (.slice none 0 0)).setCell ⟨g, 5, none⟩ (.slice none 0 0)) g 26 zCs :=
  (((((h.set_ 0 (.string ⟨#[]⟩)).set_ 1 (.slice none 0 0)).set_ 2 (.slice none 0 0)).set_ 3 (.slice none 0 0)).set_ 4 (.slice none 0 0)).set_ 5 (.slice none 0 0)
theorem below_six {B : Nat} {w u : World} (h : Below B w u) {g : Nat} (hg : B ≤ g) (v0 v1 v2 v3 v4 v5 : Value) : Below B w ((((((u.setCell ⟨g, 0, none⟩ v0).setCell ⟨g, 1, none⟩ v1).setCell ⟨g, 2, none⟩ v2).setCell ⟨g, 3, none⟩ v3).setCell ⟨g, 4, none⟩ v4).setCell ⟨g, 5, none⟩ v5) :=
  (((((h.setCell (p := ⟨g, 0, none⟩) hg v0).setCell (p := ⟨g, 1, none⟩) hg v1).setCell (p := ⟨g, 2, none⟩) hg v2).setCell (p := ⟨g, 3, none⟩) hg v3).setCell (p := ⟨g, 4, none⟩) hg v4).setCell (p := ⟨g, 5, none⟩) hg v5
section
variable {w : World} {v : Value} {b : List UInt8}
theorem get_long (h : Reads (· < w.heap.size) w v (u8s b)) (hl : 16384 < b.length) :
    Calls Try.prog 17 #[v] w (IsGet w.heap.size b w) := by
  obtain ⟨a1, c1, rfl, _, _⟩ := h.shape
  simp only [u8s_len] at *
  have hl' : (16384 : Int) < b.length := by omega
  have X0 := Lib.hid (Whole.new w 26 zCs)
  have HB0 := Lib.hid (below_new w (.cells zCs 26))
  unfold IsGet
  rw [getF_long hl]
  clear h hl
  generalize b.length = n at *
  go_enter Try.func17, Try.ntmps17
  go_upto_region 1 with fail
  generalize w.alloc (.cells zCs 26) = W0 at *
  have t0 := X0.out.cell 0
  have t1 := X0.out.cell 1
  have t2 := X0.out.cell 2
  have t3 := X0.out.cell 3
  have t4 := X0.out.cell 4
  have t5 := X0.out.cell 5
  simp at t0 t1 t2 t3 t4 t5
  have r0 := X0.out.frozen 0
  have r1 := X0.out.frozen 1
  have r2 := X0.out.frozen 2
  have r3 := X0.out.frozen 3
  have r4 := X0.out.frozen 4
  have r5 := X0.out.frozen 5
  have rlt := X0.out.lt
  have FY := Lib.hid (zero_set X0.out)
  have FB := Lib.hid (below_six HB0.out (Nat.le_refl _) (.string ⟨#[]⟩) (.slice none 0 0) (.slice none 0 0) (.slice none 0 0) (.slice none 0 0) (.slice none 0 0))
  clear X0
  go_wp2_with fail
  generalize (((((W0.setCell ⟨w.heap.size, 0, none⟩ (.string ⟨#[]⟩)).setCell ⟨w.heap.size, 1, none⟩ (.slice none 0 0)).setCell ⟨w.heap.size, 2, none⟩ (.slice none 0 0)).setCell ⟨w.heap.size, 3, none⟩ (.slice none 0 0)).setCell ⟨w.heap.size, 4, none⟩ (.slice none 0 0)).setCell ⟨w.heap.size, 5, none⟩ (.slice none 0 0) = WF at *
  obtain ⟨g0, g1, g2, g3, g4, g5⟩ := mod_cells FY.out
  exact bodyPost_ret (v := .tuple #[mV ⟨#[]⟩ none 0 0 none 0 0 none 0 0 none 0 0 none 0 0, .int .i64 5]) (by simp [results, Try.results17, go_sem, g0, g1, g2, g3, g4, g5]) rfl ⟨_, _, _, _, _, _, _, _, _, _, _, _, _, _, _, rfl, own5_zero _ _, FB.out⟩
theorem get_mark (h : Reads (· < w.heap.size) w v (u8s b)) (hl : b.length ≤ 16384) (hm : b.take 4 ≠ bud1) :
    Calls Try.prog 17 #[v] w (IsGet w.heap.size b w) := by
  have X0 := Lib.hid (Whole.new w 26 zCs)
  have HB0 := Lib.hid (below_new w (.cells zCs 26))
  have hv0 := h.below HB0.out
  unfold IsGet
  rw [getF_mark hl hm]
  have hcv := conv_bytes
  have CC := Lib.hid (fun (u : World) (h1 : Reads (· < w.heap.size) u v (u8s b)) (v2 : Value) (G' : Nat → Prop) (h2 : Reads G' u v2 (u8s bud1)) => cutPrefix_no h1 h2 (by omega) (by decide) hm)
  obtain ⟨a1, c1, rfl, _, _⟩ := h.shape
  simp only [u8s_len] at *
  have hl' : (b.length : Int) ≤ 16384 := by omega
  have hvh := Lib.hid hv0
  clear h hl hm hv0
  generalize b.length = n at *
  go_enter Try.func17, Try.ntmps17
  go_upto_region 1 with fail
  generalize w.alloc (.cells zCs 26) = W0 at *
  have hs0 := HB0.out.size
  have hcw := hcv W0
  have B1 := Lib.hid (HB0.out.alloc hs0 (.cells budK 5 (4, 5)))
  have hvr := Lib.hid (hvh.out.alloc (.cells budK 5 (4, 5)))
  have hbr : Hid (Reads (fun _ => True) (W0.alloc (.cells budK 5 (4, 5))) (.slice (some ⟨W0.heap.size, 0, none⟩) 4 4) (u8s bud1)) := ⟨some ⟨W0.heap.size, 0, none⟩, 4, rfl, by decide, by simp [maxLen], (fun h => by cases h), Or.inr ⟨W0.heap.size, 0, rfl, trivial, fun j hj => by have hc := bud_cells W0 j _ (List.getElem?_eq_getElem hj); rw [Addr.add_lit] at hc; rw [hc]; exact (List.getElem?_eq_getElem hj).symm⟩⟩
  have XA := Lib.hid (X0.out.alloc (.cells budK 5 (4, 5)))
  clear X0 hcv hvh
  go_upto_region 4 with (go_at_call 39; (with_reducible refine (CC.out _ hvr.out _ _ hbr.out).mono ?_); rintro e w1 ⟨rfl, rfl⟩)
  clear CC hvr hbr hcw
  generalize W0.alloc (.cells budK 5 (4, 5)) = W1 at *
  have t0 := XA.out.cell 0
  have t1 := XA.out.cell 1
  have t2 := XA.out.cell 2
  have t3 := XA.out.cell 3
  have t4 := XA.out.cell 4
  have t5 := XA.out.cell 5
  simp at t0 t1 t2 t3 t4 t5
  have r0 := XA.out.frozen 0
  have r1 := XA.out.frozen 1
  have r2 := XA.out.frozen 2
  have r3 := XA.out.frozen 3
  have r4 := XA.out.frozen 4
  have r5 := XA.out.frozen 5
  have rlt := XA.out.lt
  have FY := Lib.hid (zero_set XA.out)
  have FB := Lib.hid (below_six B1.out (Nat.le_refl _) (.string ⟨#[]⟩) (.slice none 0 0) (.slice none 0 0) (.slice none 0 0) (.slice none 0 0) (.slice none 0 0))
  clear XA B1
  go_wp2_with fail
  generalize (((((W1.setCell ⟨w.heap.size, 0, none⟩ (.string ⟨#[]⟩)).setCell ⟨w.heap.size, 1, none⟩ (.slice none 0 0)).setCell ⟨w.heap.size, 2, none⟩ (.slice none 0 0)).setCell ⟨w.heap.size, 3, none⟩ (.slice none 0 0)).setCell ⟨w.heap.size, 4, none⟩ (.slice none 0 0)).setCell ⟨w.heap.size, 5, none⟩ (.slice none 0 0) = WF at *
  obtain ⟨g0, g1, g2, g3, g4, g5⟩ := mod_cells FY.out
  exact bodyPost_ret (v := .tuple #[mV ⟨#[]⟩ none 0 0 none 0 0 none 0 0 none 0 0 none 0 0, .int .i64 4]) (by simp [results, Try.results17, go_sem, g0, g1, g2, g3, g4, g5]) rfl ⟨_, _, _, _, _, _, _, _, _, _, _, _, _, _, _, rfl, own5_zero _ _, FB.out⟩
theorem get_body (h : Reads (· < w.heap.size) w v (u8s b)) (hl : b.length ≤ 16384) (hm : b.take 4 = bud1) :
    Calls Try.prog 17 #[v] w (IsGet w.heap.size b w) := by
  have X0 := Lib.hid (Whole.new w 26 zCs)
  have HB0 := Lib.hid (below_new w (.cells zCs 26))
  have hv0 := h.below HB0.out
  have hbd : bud1 ++ b.drop 4 = b := by rw [← hm]; exact List.take_append_drop 4 b
  have hF := getF_pg (l := b.drop 4) (by rw [hbd]; exact hl)
  rw [hbd] at hF
  have hdl : (b.drop 4).length ≤ 16384 := by rw [List.length_drop]; omega
  unfold IsGet
  obtain ⟨F, hFF⟩ : ∃ F, F = getF b := ⟨_, rfl⟩
  rw [← hFF]
  rw [hF] at hFF
  have hcv := conv_bytes
  have CC := Lib.hid (fun (u : World) (h1 : Reads (· < w.heap.size) u v (u8s b)) (v2 : Value) (G' : Nat → Prop) (h2 : Reads G' u v2 (u8s bud1)) => cutPrefix_yes h1 h2 (by omega) (by decide) hm)
  simp only [show bud1.length = 4 from rfl] at CC
  have CN := Lib.hid (fun (u : World) (v3 : Value) (h1 : Reads (· < u.heap.size) u v3 (u8s (b.drop 4))) => new_any (b.drop 4) v3 u h1 (by omega))
  have CM := Lib.hid (fun (u : World) (p : Nat) (hr : Rd u p (b.drop 4) 0) => getModule_any hr hdl)
  obtain ⟨a1, c1, rfl, _, _⟩ := h.shape
  simp only [u8s_len] at *
  have hl' : (b.length : Int) ≤ 16384 := by omega
  have hvh := Lib.hid hv0
  clear h hl hm hv0 hbd hF hdl
  generalize b.length = n at *
  generalize b.drop 4 = bb at *
  generalize pgBody bb = R at *
  obtain ⟨E, m, LL⟩ := R
  simp only at *
  have HFF := Lib.hid hFF
  clear hFF
  go_enter Try.func17, Try.ntmps17
  go_upto_region 1 with fail
  generalize w.alloc (.cells zCs 26) = W0 at *
  have hs0 := HB0.out.size
  have hcw := hcv W0
  have B1 := Lib.hid (HB0.out.alloc hs0 (.cells budK 5 (4, 5)))
  have hvr := Lib.hid (hvh.out.alloc (.cells budK 5 (4, 5)))
  have hbr : Hid (Reads (fun _ => True) (W0.alloc (.cells budK 5 (4, 5))) (.slice (some ⟨W0.heap.size, 0, none⟩) 4 4) (u8s bud1)) := ⟨some ⟨W0.heap.size, 0, none⟩, 4, rfl, by decide, by simp [maxLen], (fun h => by cases h), Or.inr ⟨W0.heap.size, 0, rfl, trivial, fun j hj => by have hc := bud_cells W0 j _ (List.getElem?_eq_getElem hj); rw [Addr.add_lit] at hc; rw [hc]; exact (List.getElem?_eq_getElem hj).symm⟩⟩
  have XA := Lib.hid (X0.out.alloc (.cells budK 5 (4, 5)))
  clear X0 hcv hvh
  go_upto_region 4 with (go_at_call 39; (with_reducible refine (CC.out _ hvr.out _ _ hbr.out).mono ?_); rintro e w1 ⟨⟨v3, rfl, hr3⟩, rfl⟩; obtain ⟨a3, n3, c3, rfl⟩ := hr3.form; have HR3 := Lib.hid hr3)
  clear CC hvr hbr hcw hr3
  generalize W0.alloc (.cells budK 5 (4, 5)) = W1 at *
  have hs1 := B1.out.size
  have HR4 := Lib.hid (HR3.out.mono fun g hg => Nat.lt_of_lt_of_le hg hs1)
  go_upto_region 7 with (go_at_call 40; (with_reducible refine (CN.out _ _ HR4.out).mono ?_); rintro e w2 ⟨p, rfl, hp, hrd, hb2⟩; have B2 := Lib.hid (B1.out.trans (hb2.mono hs1)); have X2 := Lib.hid (XA.out.belowS hb2); have HRD := Lib.hid hrd; have P1 := Lib.hid (And.intro hp hrd.lt); clear hb2 hrd hp)
  have hx1 := XA.out.lt
  clear CN HR3 HR4 XA
  have hs2 := B2.out.size
  go_upto_region 8 with (go_at_call 41; (with_reducible refine (CM.out _ _ HRD.out).mono ?_); rintro e w3 ⟨ea, en, ec, ia, im, ic, ca, cn, cc, da, dn, dc, ra, rn, rc, rfl, hO, hG, hR⟩; have O3 := Lib.hid hO; have G3 := Lib.hid hG; have R3 := Lib.hid hR; clear hO hG hR)
  have hwp : p ≠ w.heap.size := by have h1 := P1.out.1; omega
  have hX3 := whole_turn X2.out G3.out hwp
  have hB3 : Below w.heap.size w w3 := below_then B2.out G3.out (by have h1 := P1.out.1; omega) hs2
  have hb4 := below_new w3 (.cells (mCs (bs m.name) ea en ec ia im ic ca cn cc da dn dc ra rn rc) 26)
  have X4 := Lib.hid (hX3.belowS hb4)
  have B4 := Lib.hid (hB3.trans (hb4.mono hB3.size))
  have O4 := Lib.hid (O3.out.belowS hb4)
  have R4 := Lib.hid (R3.out.keep hb4)
  have XM := Lib.hid (Whole.new w3 26 (mCs (bs m.name) ea en ec ia im ic ca cn cc da dn dc ra rn rc))
  clear X2 B2 O3 G3 R3 hX3 hB3 hb4 CM HRD
  generalize hx : bs m.name = x at *
  have Hx := Lib.hid hx
  clear hx
  generalize w3.alloc (.cells (mCs x ea en ec ia im ic ca cn cc da dn dc ra rn rc) 26) = W4 at *
  have CE := Lib.hid (fun (u : World) (hr : Rd u p LL E) => err_any u p LL E hr)
  by_cases hE : E = 0
  case neg =>
    have hF4 := Lib.hid (show F = (4, zeroM) by rw [HFF.out, if_neg (fun h => hE h.1)])
    have hE' : ((E : Int) != 0) = true := by simpa using hE
    clear hE HFF
    generalize (E : Int) = Ei at *
    have t0 := X4.out.cell 0
    have t1 := X4.out.cell 1
    have t2 := X4.out.cell 2
    have t3 := X4.out.cell 3
    have t4 := X4.out.cell 4
    have t5 := X4.out.cell 5
    simp at t0 t1 t2 t3 t4 t5
    have r0 := X4.out.frozen 0
    have r1 := X4.out.frozen 1
    have r2 := X4.out.frozen 2
    have r3 := X4.out.frozen 3
    have r4 := X4.out.frozen 4
    have r5 := X4.out.frozen 5
    have rlt := X4.out.lt
    have FY := Lib.hid (zero_set X4.out)
    have FB := Lib.hid (below_six B4.out (Nat.le_refl _) (.string ⟨#[]⟩) (.slice none 0 0) (.slice none 0 0) (.slice none 0 0) (.slice none 0 0) (.slice none 0 0))
    clear X4 B4 O4
    go_wp2_with (go_at_call 42; (with_reducible refine (CE.out _ R4.out).mono ?_); rintro e w5 ⟨rfl, rfl⟩)
    generalize (((((W4.setCell ⟨w.heap.size, 0, none⟩ (.string ⟨#[]⟩)).setCell ⟨w.heap.size, 1, none⟩ (.slice none 0 0)).setCell ⟨w.heap.size, 2, none⟩ (.slice none 0 0)).setCell ⟨w.heap.size, 3, none⟩ (.slice none 0 0)).setCell ⟨w.heap.size, 4, none⟩ (.slice none 0 0)).setCell ⟨w.heap.size, 5, none⟩ (.slice none 0 0) = WF at *
    obtain ⟨g0, g1, g2, g3, g4, g5⟩ := mod_cells FY.out
    exact bodyPost_ret (v := .tuple #[mV ⟨#[]⟩ none 0 0 none 0 0 none 0 0 none 0 0 none 0 0, .int .i64 4]) (by simp [results, Try.results17, go_sem, g0, g1, g2, g3, g4, g5]) rfl (by rw [hF4.out]; exact ⟨_, _, _, _, _, _, _, _, _, _, _, _, _, _, _, rfl, own5_zero _ _, FB.out⟩)
  subst hE
  have CL := Lib.hid (fun (u : World) (hr : Rd u p LL 0) => rleft_good u p LL hr)
  by_cases hL : LL = []
  case neg =>
    have hF4 := Lib.hid (show F = (4, zeroM) by rw [HFF.out, if_neg (fun h => hL h.2)])
    have hL' : (0 : Int) < (LL.length : Int) := by have := List.length_pos_iff.2 hL; omega
    clear hL HFF
    generalize (LL.length : Int) = Li at *
    go_upto_region 9 with (first | (go_at_call 42; (with_reducible refine (CE.out _ R4.out).mono ?_); rintro e w5 ⟨rfl, rfl⟩) | (go_at_call 43; (with_reducible refine (CL.out _ R4.out).mono ?_); rintro e w6 ⟨rfl, hb6⟩; have X6 := Lib.hid (X4.out.belowS hb6); have B6 := Lib.hid (B4.out.trans (hb6.mono B4.out.size))))
    have t0 := X6.out.cell 0
    have t1 := X6.out.cell 1
    have t2 := X6.out.cell 2
    have t3 := X6.out.cell 3
    have t4 := X6.out.cell 4
    have t5 := X6.out.cell 5
    simp at t0 t1 t2 t3 t4 t5
    have r0 := X6.out.frozen 0
    have r1 := X6.out.frozen 1
    have r2 := X6.out.frozen 2
    have r3 := X6.out.frozen 3
    have r4 := X6.out.frozen 4
    have r5 := X6.out.frozen 5
    have rlt := X6.out.lt
    have FY := Lib.hid (zero_set X6.out)
    have FB := Lib.hid (below_six B6.out (Nat.le_refl _) (.string ⟨#[]⟩) (.slice none 0 0) (.slice none 0 0) (.slice none 0 0) (.slice none 0 0) (.slice none 0 0))
    clear X4 B4 O4 X6 B6
    go_wp2_with fail
    generalize (((((w6.setCell ⟨w.heap.size, 0, none⟩ (.string ⟨#[]⟩)).setCell ⟨w.heap.size, 1, none⟩ (.slice none 0 0)).setCell ⟨w.heap.size, 2, none⟩ (.slice none 0 0)).setCell ⟨w.heap.size, 3, none⟩ (.slice none 0 0)).setCell ⟨w.heap.size, 4, none⟩ (.slice none 0 0)).setCell ⟨w.heap.size, 5, none⟩ (.slice none 0 0) = WF at *
    obtain ⟨g0, g1, g2, g3, g4, g5⟩ := mod_cells FY.out
    exact bodyPost_ret (v := .tuple #[mV ⟨#[]⟩ none 0 0 none 0 0 none 0 0 none 0 0 none 0 0, .int .i64 4]) (by simp [results, Try.results17, go_sem, g0, g1, g2, g3, g4, g5]) rfl (by rw [hF4.out]; exact ⟨_, _, _, _, _, _, _, _, _, _, _, _, _, _, _, rfl, own5_zero _ _, FB.out⟩)
  subst hL
  have hF0 := Lib.hid (show F = (0, m) by rw [HFF.out, if_pos ⟨rfl, rfl⟩])
  clear HFF
  go_upto_region 10 with (first | (go_at_call 42; (with_reducible refine (CE.out _ R4.out).mono ?_); rintro e w5 ⟨rfl, rfl⟩) | (go_at_call 43; (with_reducible refine (CL.out _ R4.out).mono ?_); rintro e w6 ⟨rfl, hb6⟩; have X6 := Lib.hid (X4.out.belowS hb6); have B6 := Lib.hid (B4.out.trans (hb6.mono B4.out.size)); have O6 := Lib.hid (O4.out.belowS hb6); have M6 := Lib.hid (XM.out.belowS hb6)))
  have t0 := X6.out.cell 0
  have t1 := X6.out.cell 1
  have t2 := X6.out.cell 2
  have t3 := X6.out.cell 3
  have t4 := X6.out.cell 4
  have t5 := X6.out.cell 5
  simp at t0 t1 t2 t3 t4 t5
  have r0 := X6.out.frozen 0
  have r1 := X6.out.frozen 1
  have r2 := X6.out.frozen 2
  have r3 := X6.out.frozen 3
  have r4 := X6.out.frozen 4
  have r5 := X6.out.frozen 5
  have rlt := X6.out.lt
  obtain ⟨z0, z1, z2, z3, z4, z5⟩ := mod_cells M6.out
  have zlt := M6.out.lt
  have hs2' : w.heap.size < w2.heap.size := by have h1 := P1.out.2; have h2 := P1.out.1; omega
  have FY := Lib.hid (show Whole ((((((w6.setCell ⟨w.heap.size, 0, none⟩ (.string x)).setCell ⟨w.heap.size, 1, none⟩ (.slice ea en ec)).setCell ⟨w.heap.size, 2, none⟩ (.slice ia im ic)).setCell ⟨w.heap.size, 3, none⟩ (.slice ca cn cc)).setCell ⟨w.heap.size, 4, none⟩ (.slice da dn dc)).setCell ⟨w.heap.size, 5, none⟩ (.slice ra rn rc)) w.heap.size 26 (mCs x ea en ec ia im ic ca cn cc da dn dc ra rn rc) from ((((((X6.out.set_ 0 (.string x)).set_ 1 (.slice ea en ec)).set_ 2 (.slice ia im ic)).set_ 3 (.slice ca cn cc)).set_ 4 (.slice da dn dc)).set_ 5 (.slice ra rn rc)))
  have FB := Lib.hid ((((((B6.out.setCell (p := ⟨w.heap.size, 0, none⟩) (by simp) (.string x)).setCell (p := ⟨w.heap.size, 1, none⟩) (by simp) (.slice ea en ec)).setCell (p := ⟨w.heap.size, 2, none⟩) (by simp) (.slice ia im ic)).setCell (p := ⟨w.heap.size, 3, none⟩) (by simp) (.slice ca cn cc)).setCell (p := ⟨w.heap.size, 4, none⟩) (by simp) (.slice da dn dc)).setCell (p := ⟨w.heap.size, 5, none⟩) (by simp) (.slice ra rn rc))
  have FO : Hid (Own5 w2.heap.size m ((((((w6.setCell ⟨w.heap.size, 0, none⟩ (.string x)).setCell ⟨w.heap.size, 1, none⟩ (.slice ea en ec)).setCell ⟨w.heap.size, 2, none⟩ (.slice ia im ic)).setCell ⟨w.heap.size, 3, none⟩ (.slice ca cn cc)).setCell ⟨w.heap.size, 4, none⟩ (.slice da dn dc)).setCell ⟨w.heap.size, 5, none⟩ (.slice ra rn rc)) ea en ec ia im ic ca cn cc da dn dc ra rn rc) := ⟨(owns_set (owns_set (owns_set (owns_set (owns_set (owns_set O6.out.ex (p := w.heap.size) (i := 0) hs2' (.string x)) (p := w.heap.size) (i := 1) hs2' (.slice ea en ec)) (p := w.heap.size) (i := 2) hs2' (.slice ia im ic)) (p := w.heap.size) (i := 3) hs2' (.slice ca cn cc)) (p := w.heap.size) (i := 4) hs2' (.slice da dn dc)) (p := w.heap.size) (i := 5) hs2' (.slice ra rn rc)), (owns_set (owns_set (owns_set (owns_set (owns_set (owns_set O6.out.im (p := w.heap.size) (i := 0) hs2' (.string x)) (p := w.heap.size) (i := 1) hs2' (.slice ea en ec)) (p := w.heap.size) (i := 2) hs2' (.slice ia im ic)) (p := w.heap.size) (i := 3) hs2' (.slice ca cn cc)) (p := w.heap.size) (i := 4) hs2' (.slice da dn dc)) (p := w.heap.size) (i := 5) hs2' (.slice ra rn rc)), (owns_set (owns_set (owns_set (owns_set (owns_set (owns_set O6.out.cd (p := w.heap.size) (i := 0) hs2' (.string x)) (p := w.heap.size) (i := 1) hs2' (.slice ea en ec)) (p := w.heap.size) (i := 2) hs2' (.slice ia im ic)) (p := w.heap.size) (i := 3) hs2' (.slice ca cn cc)) (p := w.heap.size) (i := 4) hs2' (.slice da dn dc)) (p := w.heap.size) (i := 5) hs2' (.slice ra rn rc)), (owns_set (owns_set (owns_set (owns_set (owns_set (owns_set O6.out.dt (p := w.heap.size) (i := 0) hs2' (.string x)) (p := w.heap.size) (i := 1) hs2' (.slice ea en ec)) (p := w.heap.size) (i := 2) hs2' (.slice ia im ic)) (p := w.heap.size) (i := 3) hs2' (.slice ca cn cc)) (p := w.heap.size) (i := 4) hs2' (.slice da dn dc)) (p := w.heap.size) (i := 5) hs2' (.slice ra rn rc)), (owns_set (owns_set (owns_set (owns_set (owns_set (owns_set O6.out.rl (p := w.heap.size) (i := 0) hs2' (.string x)) (p := w.heap.size) (i := 1) hs2' (.slice ea en ec)) (p := w.heap.size) (i := 2) hs2' (.slice ia im ic)) (p := w.heap.size) (i := 3) hs2' (.slice ca cn cc)) (p := w.heap.size) (i := 4) hs2' (.slice da dn dc)) (p := w.heap.size) (i := 5) hs2' (.slice ra rn rc))⟩
  clear X4 B4 O4 X6 B6 O6 M6
  go_wp2_with fail
  generalize ((((((w6.setCell ⟨w.heap.size, 0, none⟩ (.string x)).setCell ⟨w.heap.size, 1, none⟩ (.slice ea en ec)).setCell ⟨w.heap.size, 2, none⟩ (.slice ia im ic)).setCell ⟨w.heap.size, 3, none⟩ (.slice ca cn cc)).setCell ⟨w.heap.size, 4, none⟩ (.slice da dn dc)).setCell ⟨w.heap.size, 5, none⟩ (.slice ra rn rc)) = WF at *
  obtain ⟨g0, g1, g2, g3, g4, g5⟩ := mod_cells FY.out
  have O := FO.out
  exact bodyPost_ret (v := .tuple #[mV x ea en ec ia im ic ca cn cc da dn dc ra rn rc, .int .i64 0]) (by simp [results, Try.results17, go_sem, g0, g1, g2, g3, g4, g5]) rfl (by rw [hF0.out, ← Hx.out]; exact ⟨_, _, _, _, _, _, _, _, _, _, _, _, _, _, _, by rw [Hx.out]; rfl, ⟨owns_base O.ex (by omega), owns_base O.im (by omega), owns_base O.cd (by omega), owns_base O.dt (by omega), owns_base O.rl (by omega)⟩, FB.out⟩)
theorem objGet_any (h : Reads (· < w.heap.size) w v (u8s b)) :
    Calls Try.prog 17 #[v] w (IsGet w.heap.size b w) := by
  by_cases hl : b.length ≤ 16384
  · by_cases hm : b.take 4 = bud1
    · exact get_body h hl hm
    · exact get_mark h hl hm
  · exact get_long h (by omega)
end
end Go.Proofs.Ytdlinlkdielmkaa.OR
