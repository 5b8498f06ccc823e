/-
  A module laid and read again: the walk of ObjectBack. Nothing here is a statement of the seed.
-/
import Derived.Test.YtdlinlkdielmkaaObjWPuts
set_option linter.unusedSimpArgs false
set_option linter.unusedVariables false
namespace Go.Proofs.Ytdlinlkdielmkaa.OR
open Go.RowKit WM NR OM
theorem putL_short {m : Md} (hc : chkM m = 0) (hf : FineM m) : (putL m).length ≤ 16000 := by
  obtain ⟨⟨k1, k2, k3, k4, k5⟩, k6, k7, k8, k9⟩ := chk_ok hc
  have te := textsL_len k7 (by omega)
  have ti := textsL_len k8 (by omega)
  have tc := wordsL_len k3
  have td := wordsL_len (l := m.data) (by omega)
  have tn := textL_len k6
  have tr := relsB_len m.rels hf.rels
  have tv := varL_five (m.rels.length % 4294967296) (by omega)
  unfold putL bodyL bud1 relsL
  simp only [List.length_append, List.length_cons, List.length_nil]
  omega
theorem is_put {m : Md} (hc : chkM m = 0) (hf : FineM m) : Is (putL m) m := ⟨hc, hf, rfl⟩
theorem getF_put {m : Md} (hc : chkM m = 0) (hf : FineM m) : getF (putL m) = (0, m) := getF_yes (by have := putL_short hc hf; omega) (is_put hc hf)
theorem getF_more {m : Md} (hc : chkM m = 0) (hf : FineM m) (c : UInt8) : getF (putL m ++ [c]) = (4, zeroM) := getF_no (by have := putL_short hc hf; rw [List.length_append]; simp; omega) ((is_put hc hf).more c)
theorem getF_less {m : Md} (hc : chkM m = 0) (hf : FineM m) : getF ((putL m).take ((putL m).length - 1)) = (4, zeroM) := by
  rw [← List.dropLast_eq_take]
  exact getF_no (by have := putL_short hc hf; rw [List.length_dropLast]; omega) (is_put hc hf).less
theorem own5_len {B : Nat} {w : World} {ea : Option Addr} {en ec : Nat} {ia : Option Addr} {im ic : Nat} {ca : Option Addr} {cn cc : Nat} {da : Option Addr} {dn dc : Nat} {ra : Option Addr} {rn rc : Nat} {m : Md} (h : Own5 B m w ea en ec ia im ic ca cn cc da dn dc ra rn rc) : RdM (· < w.heap.size) w ea en ec ia im ic ca cn cc da dn dc ra rn rc m := h.reads.there
end Go.Proofs.Ytdlinlkdielmkaa.OR
namespace Go.Proofs.Ytdlinlkdielmkaa.WK
open Go.RowKit WM NR OM OR
set_option maxHeartbeats 4000000
set_option maxRecDepth 10000
section
variable {w : World} {ea : Option Addr} {en ec : Nat} {ia : Option Addr} {im ic : Nat} {ca : Option Addr} {cn cc : Nat} {da : Option Addr} {dn dc : Nat} {ra : Option Addr} {rn rc : Nat} {m : Md} {v : Value} {raw : List UInt8}
theorem ObjectBack_walk (h : RdM (· < w.heap.size) w ea en ec ia im ic ca cn cc da dn dc ra rn rc m) (hf : FineM m) (hr : Reads (· < w.heap.size) w v (u8s raw)) (hrl : raw.length * 1 ≤ 140737488351232) :
    Calls Try.prog 6 #[mV (bs m.name) ea en ec ia im ic ca cn cc da dn dc ra rn rc, v] w fun e w' => e = .returned (.bool true) ∧ Below w.heap.size w w' := by
  have J0 := Lib.hid (OJ.new w (mCs (bs m.name) ea en ec ia im ic ca cn cc da dn dc ra rn rc))
  have S1 := Lib.hid (fun (u : World) (hb : Below w.heap.size w u) => size_any (h.go hb hb.size))
  have PU := Lib.hid (fun (u : World) (hb : Below w.heap.size w u) => objPut_u (h.go hb hb.size) hf)
  have KU := Lib.hid (fun (u : World) (hb : Below w.heap.size w u) => objCheck_any (h.go hb hb.size))
  have AW := Lib.hid (fun (u : World) => awake_any u)
  have CG := Lib.hid (fun (u : World) (hb : Below w.heap.size w u) => objGet_any ((hr.below hb).mono (fun g (hg : g < w.heap.size) => Nat.lt_of_lt_of_le hg hb.size)))
  have TR := Lib.hid (fun (u : World) (hb : Below w.heap.size w u) => text_run (hr.below hb))
  have SA := Lib.hid (fun (u : World) (a1 : Option Addr) (a2 a3 : Nat) (b1 : Option Addr) (b2 b3 : Nat) (c1 : Option Addr) (c2 c3 : Nat) (d1 : Option Addr) (d2 d3 : Nat) (e1 : Option Addr) (e2 e3 : Nat) (hr : RdM (· < u.heap.size) u a1 a2 a3 b1 b2 b3 c1 c2 c3 d1 d2 d3 e1 e2 e3 m) (hb : Below w.heap.size w u) => objSame_any hr (h.go hb hb.size))
  simp only [decide_true] at SA
  have G0 := Lib.hid (fun (hc : chkM m = 0) (u : World) (v : Value) (h : Reads (· < u.heap.size) u v (u8s (putL m))) => (show Calls Try.prog 17 #[v] u (fun en w' => ∃ ea en_ ec ia im ic ca cn cc da dn dc ra rn rc, en = .returned (.tuple #[mV (bs m.name) ea en_ ec ia im ic ca cn cc da dn dc ra rn rc, .int .i64 0]) ∧ Own5 u.heap.size m w' ea en_ ec ia im ic ca cn cc da dn dc ra rn rc ∧ Below u.heap.size u w') by have := objGet_any h; unfold IsGet at this; rw [getF_put hc hf] at this; exact this))
  have G1 := Lib.hid (fun (hc : chkM m = 0) (u : World) (v : Value) (h : Reads (· < u.heap.size) u v (u8s (putL m ++ [0]))) => (show Calls Try.prog 17 #[v] u (fun en w' => ∃ ea en_ ec ia im ic ca cn cc da dn dc ra rn rc, en = .returned (.tuple #[mV (bs []) ea en_ ec ia im ic ca cn cc da dn dc ra rn rc, .int .i64 4]) ∧ Below u.heap.size u w') by have := objGet_any h; unfold IsGet at this; rw [getF_more hc hf 0] at this; exact this.mono fun e w' ⟨a, b, c, d, e, f, g, h, i, j, k, l, m, n, o, hh, _, hb⟩ => ⟨a, b, c, d, e, f, g, h, i, j, k, l, m, n, o, hh, hb⟩))
  have G2 := Lib.hid (fun (hc : chkM m = 0) (u : World) (v : Value) (h : Reads (· < u.heap.size) u v (u8s ((putL m).take ((putL m).length - 1)))) => (show Calls Try.prog 17 #[v] u (fun en w' => ∃ ea en_ ec ia im ic ca cn cc da dn dc ra rn rc, en = .returned (.tuple #[mV (bs []) ea en_ ec ia im ic ca cn cc da dn dc ra rn rc, .int .i64 4]) ∧ Below u.heap.size u w') by have := objGet_any h; unfold IsGet at this; rw [getF_less hc hf] at this; exact this.mono fun e w' ⟨a, b, c, d, e, f, g, h, i, j, k, l, m, n, o, hh, _, hb⟩ => ⟨a, b, c, d, e, f, g, h, i, j, k, l, m, n, o, hh, hb⟩))
  have HLEN := Lib.hid (fun (hc : chkM m = 0) => And.intro (putL_short hc hf) (put_len (m := m)))
  have HPL := Lib.hid (fun (hc : chkM m = 0) => show plM m = putL m by unfold plM; rw [if_pos hc])
  have HPN := Lib.hid (fun (hc : chkM m ≠ 0) => show plM m = [] by unfold plM; rw [if_neg hc])
  obtain ⟨av, nv, cv, rfl⟩ := hr.form
  unfold IsPutU at PU
  unfold IsGet at CG
  have HIS := Lib.hid (getF_iff raw)
  obtain ⟨E, x5, hR⟩ : ∃ E x5, getF raw = (E, x5) := ⟨_, _, rfl⟩
  rw [hR] at CG HIS
  simp only at CG
  have P5 := Lib.hid (fun (he : E = 0) (u : World) (a1 : Option Addr) (a2 a3 : Nat) (b1 : Option Addr) (b2 b3 : Nat) (c1 : Option Addr) (c2 c3 : Nat) (d1 : Option Addr) (d2 d3 : Nat) (e1 : Option Addr) (e2 e3 : Nat) (hr : RdM (· < u.heap.size) u a1 a2 a3 b1 b2 b3 c1 c2 c3 d1 d2 d3 e1 e2 e3 x5) => (show Calls Try.prog 12 #[mV (bs x5.name) a1 a2 a3 b1 b2 b3 c1 c2 c3 d1 d2 d3 e1 e2 e3] u (fun e w' => ∃ a n c, e = .returned (.tuple #[.slice a n c, .int .i64 0]) ∧ Reads (fun g => u.heap.size ≤ g) w' (.slice a n c) (u8s raw) ∧ Below u.heap.size u w') by
    have hI := ((HIS.out x5).1 (by rw [he])).2
    have := objPut_u hr hI.2.1
    unfold IsPutU plM at this
    rw [hI.1, if_pos rfl, hI.2.2] at this
    exact this))
  clear h hf hr hrl hR HIS
  generalize hx : bs m.name = x at *
  clear hx
  generalize bs x5.name = x6 at *
  by_cases z1 : szF en [im, cn, dn, rn] ≤ 2000
  case neg =>
    have z1' : (2000 : Int) < (szF en [im, cn, dn, rn] : Nat) := by omega
    clear z1 PU KU SA G0 G1 G2 HLEN HPL HPN
    generalize ((szF en [im, cn, dn, rn] : Nat) : Int) = s1 at *
    go_enter Try.func6, Try.ntmps6
    go_upto_region 1 with fail
    generalize w.alloc (.cells (mCs x ea en ec ia im ic ca cn cc da dn dc ra rn rc) 26) = W0 at *
    go_upto_region 2 with (go_at_call 17; (with_reducible refine (CG.out _ J0.out.B).mono ?_); rintro e w1 ⟨ea5, en5, ec5, ia5, im5, ic5, ca5, cn5, cc5, da5, dn5, dc5, ra5, rn5, rc5, rfl, hO, hb⟩; have J1 := Lib.hid (J0.out.belowS hb); have O1 := Lib.hid (own5_len hO); clear hO hb)
    have hb2 := below_new w1 (.cells (mCs x6 ea5 en5 ec5 ia5 im5 ic5 ca5 cn5 cc5 da5 dn5 dc5 ra5 rn5 rc5) 26)
    have J2 := Lib.hid (J1.out.belowS hb2)
    have Y2 := Lib.hid (Whole.new w1 26 (mCs x6 ea5 en5 ec5 ia5 im5 ic5 ca5 cn5 cc5 da5 dn5 dc5 ra5 rn5 rc5))
    have R2 := Lib.hid (O1.out.go hb2 hb2.size)
    clear J1 O1 hb2 J0 CG
    generalize w1.alloc (.cells (mCs x6 ea5 en5 ec5 ia5 im5 ic5 ca5 cn5 cc5 da5 dn5 dc5 ra5 rn5 rc5) 26) = W2 at *
    generalize w1.heap.size = b2 at *
    by_cases he : E = 0
    · subst he
      have hhe : ((0 : Nat) : Int) = 0 := rfl
      obtain ⟨c0, c1, c2, c3, c4, c5⟩ := mod_cells Y2.out
      have c6 := Y2.out.lt
      have P6 := Lib.hid (P5.out rfl)
      rw [hhe]
      go_upto_region 4 with (go_at_call 12; (with_reducible refine (P6.out _ _ _ _ _ _ _ _ _ _ _ _ _ _ _ _ R2.out).mono ?_); rintro e w3 ⟨va, vn, vc, rfl, hr3, hb⟩; have JJ := Lib.hid (J2.out.belowS hb); have V3 := Lib.hid hr3; clear hb hr3)
      have hp1 := text_run V3.out
      have hp2 := TR.out _ JJ.out.B
      clear c0 c1 c2 c3 c4 c5 c6 J2 Y2 R2 P5 P6 V3 TR hhe
      generalize bs raw = xr at *
      go_upto_region 6 with fail
      clear hp1 hp2
      obtain ⟨c0, c1, c2, c3, c4, c5⟩ := mod_cells JJ.out.X
      have c6 := JJ.out.X.lt
      go_wp2_with (first | (go_at_call 9; (with_reducible refine (S1.out _ JJ.out.B).mono ?_); rintro e w4 ⟨rfl, hb⟩; have K4 := Lib.hid (JJ.out.belowS hb); clear hb) | (go_at_call 10; (with_reducible refine (AW.out _).mono ?_); rintro e w5 ⟨rfl, hb⟩; have K5 := Lib.hid (K4.out.belowS hb); clear hb))
      go_ret
      exact ⟨rfl, K5.out.B⟩
    · have he' : ((E : Int) == 0) = false := beq_eq_false_iff_ne.2 (by omega)
      have JJ := J2
      clear J2 Y2 R2 P5 TR he
      generalize (E : Int) = Ei at *
      go_upto_region 6 with fail
      obtain ⟨c0, c1, c2, c3, c4, c5⟩ := mod_cells JJ.out.X
      have c6 := JJ.out.X.lt
      go_wp2_with (first | (go_at_call 9; (with_reducible refine (S1.out _ JJ.out.B).mono ?_); rintro e w4 ⟨rfl, hb⟩; have K4 := Lib.hid (JJ.out.belowS hb); clear hb) | (go_at_call 10; (with_reducible refine (AW.out _).mono ?_); rintro e w5 ⟨rfl, hb⟩; have K5 := Lib.hid (K4.out.belowS hb); clear hb))
      go_ret
      exact ⟨rfl, K5.out.B⟩
  have z1' : ((szF en [im, cn, dn, rn] : Nat) : Int) ≤ 2000 := by omega
  clear z1
  generalize ((szF en [im, cn, dn, rn] : Nat) : Int) = s1 at *
  by_cases hm : chkM m = 0
  case neg =>
    have hm' : ((chkM m : Int) != 0) = true := by simpa using hm
    clear SA
    go_enter Try.func6, Try.ntmps6
    go_upto_region 1 with fail
    generalize w.alloc (.cells (mCs x ea en ec ia im ic ca cn cc da dn dc ra rn rc) 26) = W0 at *
    go_upto_region 2 with (go_at_call 17; (with_reducible refine (CG.out _ J0.out.B).mono ?_); rintro e w1 ⟨ea5, en5, ec5, ia5, im5, ic5, ca5, cn5, cc5, da5, dn5, dc5, ra5, rn5, rc5, rfl, hO, hb⟩; have J1 := Lib.hid (J0.out.belowS hb); have O1 := Lib.hid (own5_len hO); clear hO hb)
    have hb2 := below_new w1 (.cells (mCs x6 ea5 en5 ec5 ia5 im5 ic5 ca5 cn5 cc5 da5 dn5 dc5 ra5 rn5 rc5) 26)
    have J2 := Lib.hid (J1.out.belowS hb2)
    have Y2 := Lib.hid (Whole.new w1 26 (mCs x6 ea5 en5 ec5 ia5 im5 ic5 ca5 cn5 cc5 da5 dn5 dc5 ra5 rn5 rc5))
    have R2 := Lib.hid (O1.out.go hb2 hb2.size)
    clear J1 O1 hb2 J0 CG
    generalize w1.alloc (.cells (mCs x6 ea5 en5 ec5 ia5 im5 ic5 ca5 cn5 cc5 da5 dn5 dc5 ra5 rn5 rc5) 26) = W2 at *
    generalize w1.heap.size = b2 at *
    by_cases he : E = 0
    · subst he
      have hhe : ((0 : Nat) : Int) = 0 := rfl
      obtain ⟨c0, c1, c2, c3, c4, c5⟩ := mod_cells Y2.out
      have c6 := Y2.out.lt
      have P6 := Lib.hid (P5.out rfl)
      rw [hhe]
      go_upto_region 4 with (go_at_call 12; (with_reducible refine (P6.out _ _ _ _ _ _ _ _ _ _ _ _ _ _ _ _ R2.out).mono ?_); rintro e w3 ⟨va, vn, vc, rfl, hr3, hb⟩; have JJ := Lib.hid (J2.out.belowS hb); have V3 := Lib.hid hr3; clear hb hr3)
      have hp1 := text_run V3.out
      have hp2 := TR.out _ JJ.out.B
      clear c0 c1 c2 c3 c4 c5 c6 J2 Y2 R2 P5 P6 V3 TR hhe
      generalize bs raw = xr at *
      go_upto_region 6 with fail
      clear hp1 hp2
      obtain ⟨c0, c1, c2, c3, c4, c5⟩ := mod_cells JJ.out.X
      have c6 := JJ.out.X.lt
      go_upto_region 8 with (go_at_call 9; (with_reducible refine (S1.out _ JJ.out.B).mono ?_); rintro e w4 ⟨rfl, hb⟩; have K4 := Lib.hid (JJ.out.belowS hb); clear hb)
      clear c0 c1 c2 c3 c4 c5 c6 JJ S1 z1'
      obtain ⟨c0, c1, c2, c3, c4, c5⟩ := mod_cells K4.out.X
      have c6 := K4.out.X.lt
      go_upto_region 9 with (go_at_call 12; (with_reducible refine (PU.out _ K4.out.B).mono ?_); rintro e w5 ⟨ua, un, uc, rfl, hr5, hb⟩; have K5 := Lib.hid (K4.out.belowS hb); have V5 := Lib.hid hr5; clear hb hr5)
      clear c0 c1 c2 c3 c4 c5 c6 K4 PU
      have hun : un = 0 := by
        have := (reads_len V5.out).1
        rw [HPN.out hm, u8s_len] at this
        exact this.symm
      subst hun
      clear V5 HPN HPL hm G0 G1 G2 HLEN
      generalize ((chkM m : Nat) : Int) = ki at *
      obtain ⟨c0, c1, c2, c3, c4, c5⟩ := mod_cells K5.out.X
      have c6 := K5.out.X.lt
      go_wp2_with (first | (go_at_call 14; (with_reducible refine (KU.out _ K5.out.B).mono ?_); rintro e w6 ⟨rfl, hb⟩; have K6 := Lib.hid (K5.out.belowS hb); clear hb) | (go_at_call 10; (with_reducible refine (AW.out _).mono ?_); rintro e w7 ⟨rfl, hb⟩; have K7 := Lib.hid (K6.out.belowS hb); clear hb))
      go_ret
      exact ⟨rfl, K7.out.B⟩
    · have he' : ((E : Int) == 0) = false := beq_eq_false_iff_ne.2 (by omega)
      have JJ := J2
      clear J2 Y2 R2 P5 TR he
      generalize (E : Int) = Ei at *
      go_upto_region 6 with fail
      obtain ⟨c0, c1, c2, c3, c4, c5⟩ := mod_cells JJ.out.X
      have c6 := JJ.out.X.lt
      go_upto_region 8 with (go_at_call 9; (with_reducible refine (S1.out _ JJ.out.B).mono ?_); rintro e w4 ⟨rfl, hb⟩; have K4 := Lib.hid (JJ.out.belowS hb); clear hb)
      clear c0 c1 c2 c3 c4 c5 c6 JJ S1 z1'
      obtain ⟨c0, c1, c2, c3, c4, c5⟩ := mod_cells K4.out.X
      have c6 := K4.out.X.lt
      go_upto_region 9 with (go_at_call 12; (with_reducible refine (PU.out _ K4.out.B).mono ?_); rintro e w5 ⟨ua, un, uc, rfl, hr5, hb⟩; have K5 := Lib.hid (K4.out.belowS hb); have V5 := Lib.hid hr5; clear hb hr5)
      clear c0 c1 c2 c3 c4 c5 c6 K4 PU
      have hun : un = 0 := by
        have := (reads_len V5.out).1
        rw [HPN.out hm, u8s_len] at this
        exact this.symm
      subst hun
      clear V5 HPN HPL hm G0 G1 G2 HLEN
      generalize ((chkM m : Nat) : Int) = ki at *
      obtain ⟨c0, c1, c2, c3, c4, c5⟩ := mod_cells K5.out.X
      have c6 := K5.out.X.lt
      go_wp2_with (first | (go_at_call 14; (with_reducible refine (KU.out _ K5.out.B).mono ?_); rintro e w6 ⟨rfl, hb⟩; have K6 := Lib.hid (K5.out.belowS hb); clear hb) | (go_at_call 10; (with_reducible refine (AW.out _).mono ?_); rintro e w7 ⟨rfl, hb⟩; have K7 := Lib.hid (K6.out.belowS hb); clear hb))
      go_ret
      exact ⟨rfl, K7.out.B⟩
  go_enter Try.func6, Try.ntmps6
  go_upto_region 1 with fail
  generalize w.alloc (.cells (mCs x ea en ec ia im ic ca cn cc da dn dc ra rn rc) 26) = W0 at *
  go_upto_region 2 with (go_at_call 17; (with_reducible refine (CG.out _ J0.out.B).mono ?_); rintro e w1 ⟨ea5, en5, ec5, ia5, im5, ic5, ca5, cn5, cc5, da5, dn5, dc5, ra5, rn5, rc5, rfl, hO, hb⟩; have J1 := Lib.hid (J0.out.belowS hb); have O1 := Lib.hid (own5_len hO); clear hO hb)
  have hb2 := below_new w1 (.cells (mCs x6 ea5 en5 ec5 ia5 im5 ic5 ca5 cn5 cc5 da5 dn5 dc5 ra5 rn5 rc5) 26)
  have J2 := Lib.hid (J1.out.belowS hb2)
  have Y2 := Lib.hid (Whole.new w1 26 (mCs x6 ea5 en5 ec5 ia5 im5 ic5 ca5 cn5 cc5 da5 dn5 dc5 ra5 rn5 rc5))
  have R2 := Lib.hid (O1.out.go hb2 hb2.size)
  clear J1 O1 hb2 J0 CG
  generalize w1.alloc (.cells (mCs x6 ea5 en5 ec5 ia5 im5 ic5 ca5 cn5 cc5 da5 dn5 dc5 ra5 rn5 rc5) 26) = W2 at *
  generalize w1.heap.size = b2 at *
  by_cases he : E = 0
  · subst he
    have hhe : ((0 : Nat) : Int) = 0 := rfl
    obtain ⟨c0, c1, c2, c3, c4, c5⟩ := mod_cells Y2.out
    have c6 := Y2.out.lt
    have P6 := Lib.hid (P5.out rfl)
    rw [hhe]
    go_upto_region 4 with (go_at_call 12; (with_reducible refine (P6.out _ _ _ _ _ _ _ _ _ _ _ _ _ _ _ _ R2.out).mono ?_); rintro e w3 ⟨va, vn, vc, rfl, hr3, hb⟩; have JJ := Lib.hid (J2.out.belowS hb); have V3 := Lib.hid hr3; clear hb hr3)
    have hp1 := text_run V3.out
    have hp2 := TR.out _ JJ.out.B
    clear c0 c1 c2 c3 c4 c5 c6 J2 Y2 R2 P5 P6 V3 TR hhe
    generalize bs raw = xr at *
    go_upto_region 6 with fail
    clear hp1 hp2
    obtain ⟨c0, c1, c2, c3, c4, c5⟩ := mod_cells JJ.out.X
    have c6 := JJ.out.X.lt
    go_upto_region 8 with (go_at_call 9; (with_reducible refine (S1.out _ JJ.out.B).mono ?_); rintro e w4 ⟨rfl, hb⟩; have K4 := Lib.hid (JJ.out.belowS hb); clear hb)
    clear c0 c1 c2 c3 c4 c5 c6 JJ S1 z1'
    obtain ⟨c0, c1, c2, c3, c4, c5⟩ := mod_cells K4.out.X
    have c6 := K4.out.X.lt
    go_upto_region 9 with (go_at_call 12; (with_reducible refine (PU.out _ K4.out.B).mono ?_); rintro e w5 ⟨ua, un, uc, rfl, hr5, hb⟩; have K5 := Lib.hid (K4.out.belowS hb); have V5 := Lib.hid hr5; clear hb hr5)
    clear c0 c1 c2 c3 c4 c5 c6 K4 PU
    rw [HPL.out hm] at V5
    have hl1 := (HLEN.out hm).1
    have hl2 := (HLEN.out hm).2
    have hun : Hid (un = (putL m).length) := Lib.hid (by
      have := (reads_len V5.out).1
      rw [u8s_len] at this
      exact this.symm)
    have hH0 := Lib.hid (G0.out hm)
    have hH1 := Lib.hid (G1.out hm)
    have hH2 := Lib.hid (G2.out hm)
    obtain ⟨P, hP⟩ : ∃ P, P = putL m := ⟨_, rfl⟩
    rw [← hP] at V5 hl1 hl2 hun hH0 hH1 hH2
    clear hP HPN HPL HLEN G0 G1 G2 hm KU
    have V5' := Lib.hid (V5.out.there.mono fun g hg => hg.2)
    go_upto_region 12 with (go_at_call 17; (with_reducible refine (hH0.out _ _ V5'.out).mono ?_); rintro e w6 ⟨ea6, en6, ec6, ia6, im6, ic6, ca6, cn6, cc6, da6, dn6, dc6, ra6, rn6, rc6, rfl, hO, hb⟩; have K6 := Lib.hid (K5.out.belowS hb); have O6 := Lib.hid (own5_len hO); have V6 := Lib.hid (V5'.out.below hb); have hv6 := hb.size; clear hO hb)
    have hb7 := below_new w6 (.cells (mCs x ea6 en6 ec6 ia6 im6 ic6 ca6 cn6 cc6 da6 dn6 dc6 ra6 rn6 rc6) 26)
    have K7 := Lib.hid (K6.out.belowS hb7)
    have Y7 := Lib.hid (Whole.new w6 26 (mCs x ea6 en6 ec6 ia6 im6 ic6 ca6 cn6 cc6 da6 dn6 dc6 ra6 rn6 rc6))
    have R7 := Lib.hid (O6.out.go hb7 hb7.size)
    have V7 := Lib.hid ((V6.out.keep fun g hg _ => hb7.block g (Nat.lt_of_lt_of_le hg hv6)).there.mono fun g hg => hg.2)
    clear K5 K6 O6 hb7 V5 V5' V6 hH0 hv6
    generalize w6.alloc (.cells (mCs x ea6 en6 ec6 ia6 im6 ic6 ca6 cn6 cc6 da6 dn6 dc6 ra6 rn6 rc6) 26) = W7 at *
    generalize w6.heap.size = b7 at *
    have hunI : (un : Int) ≤ 16000 := by have := hun.out; omega
    have hun10 : (10 : Int) ≤ un := by have := hun.out; omega
    obtain ⟨i0, hi, hz0, hz1, hz2⟩ := info_parts infoByte
    go_upto_region 14 with fail
    have E8 := World.ownsRow_lit (e := 5) (base := W7.heap.size) (size := 1) W7 #[] 0 (Nat.le_refl _) (by simp [maxLen]) rfl
    have hb8 := below_new W7 (.cells #[] 5)
    have V8 := Lib.hid ((V7.out.below hb8).mono (fun g (hg : g < W7.heap.size) => Nat.lt_of_lt_of_le hg hb8.size))
    have B8 := Lib.hid hb8
    have E8' := Lib.hid E8
    clear E8 hb8
    have hnm : 0 + (u8s P).length ≤ maxLen := by rw [u8s_len]; unfold maxLen; omega
    have hnb : (0 + (u8s P).length) * 1 ≤ 140737488355328 := by rw [u8s_len]; omega
    have hs8 : W7.heap.size ≤ (W7.alloc (.cells #[] 5)).heap.size := by simp
    have oneC := fun (W : World) => oneAt W (.int .u8 0) 5
    have h1 : (u8s [(0 : UInt8)]) = [.int .u8 0] := rfl
    have u8l := Lib.hid (u8s_len P)
    have h1m : P.length + 1 ≤ 1000000 := by omega
    go_upto_region 15 with (first | (go_at_call 17; (with_reducible refine (hH1.out _ _ V10.out).mono ?_); rintro e w11 ⟨ga, gb, gc, gd, ge, gf, gg, gh, gi, gj, gk, gl, gm, gn, go_, rfl, hb⟩; have B11 := Lib.hid (B10.out.trans (hb.mono B10.out.size)); clear hb) | (at_builtin; refine wpList_append_reads _ rfl _ _ 30 rfl W7.heap.size 5 i0 (.int .u8 0) 1 Try.underlying30 hi hz0 hz1 hz2 rfl _ _ _ rfl E8'.out _ _ (u8s P) rfl V8.out (u8s_one _) hnm hnb hs8 ?_; intro v9 w9 hown9 hgrow9; have J9 : PJ W7 v9 P w9 := ⟨(by rw [Nat.zero_add, u8l.out] at hown9; simpa using hown9), B8.out.grown hgrow9 hs8 (fun g hg => (E8'.out.lt g hg).1)⟩; have J9h := Lib.hid (J9.belowS (below_new w9 (.cells #[.int .u8 0] 5))); have ce9 := oneC w9; clear J9 hown9 hgrow9) | (at_builtin; refine wl_app (ys := [(0 : UInt8)]) rfl rfl rfl rfl J9h.out rfl ce9 h1m (fun v10 w10 J10 => ?_); have B10 := Lib.hid J10.B; have V10 := Lib.hid ((Reads.of_owns J10.own).there.mono (G' := (· < w10.heap.size)) fun g hg => hg.2); obtain ⟨a10, n10, c10, rfl⟩ := V10.out.form; clear J10))
    have K11 := Lib.hid (K7.out.belowS B11.out)
    have Y11 := Lib.hid (Y7.out.belowS B11.out)
    have R11 := Lib.hid (R7.out.go B11.out B11.out.size)
    have V11 := Lib.hid ((V7.out.below B11.out).mono (fun g (hg : g < W7.heap.size) => Nat.lt_of_lt_of_le hg B11.out.size))
    clear K7 Y7 R7 V7 V8 V10 B8 B10 B11 E8' J9h ce9 oneC h1 u8l hnm hnb hs8 hi hz0 hz1 hz2 hH1
    have hb12 := below_new w11 (.cells (mCs (bs []) ga gb gc gd ge gf gg gh gi gj gk gl gm gn go_) 26)
    have K12 := Lib.hid (K11.out.belowS hb12)
    have Y12 := Lib.hid (Y11.out.belowS hb12)
    have R12 := Lib.hid (R11.out.go hb12 hb12.size)
    have V12 := Lib.hid ((V11.out.below hb12).mono (fun g (hg : g < w11.heap.size) => Nat.lt_of_lt_of_le hg hb12.size))
    clear K11 Y11 R11 V11 hb12
    generalize w11.alloc (.cells (mCs (bs []) ga gb gc gd ge gf gg gh gi gj gk gl gm gn go_) 26) = W12 at *
    generalize w11.heap.size = b12 at *
    obtain ⟨v13, hs13, hr13⟩ := V12.out.take (t := 30) (P := Try.prog) rfl (fun _ => rfl) (P.length - 1) (by rw [u8s_len]; omega)
    rw [← u8s_take] at hr13
    have V13 := Lib.hid hr13
    have hmx : max (0 : Int) ((un : Int) - 1) = (un : Int) - 1 := by omega
    have hs13' : ∀ u, (Instr.slice 30 (.slice ua un uc) none (some (.int .i64 ((un : Int) - 1))) none).run Try.prog u = .ok v13 u := by
      intro u
      have := hs13 .i64 u
      rw [show ((P.length - 1 : Nat) : Int) = (un : Int) - 1 by have := hun.out; omega] at this
      exact this
    clear hs13 hr13
    go_upto_region 16 with (go_at_call 17; (with_reducible refine (hH2.out _ _ V13.out).mono ?_); rintro e w14 ⟨ka, kb, kc, kd, ke, kf, kg, kh, ki, kj, kk, kl, km, kn, ko, rfl, hb⟩; have B14 := Lib.hid hb; clear hb)
    have hb15 := B14.out.trans ((below_new w14 (.cells (mCs (bs []) ka kb kc kd ke kf kg kh ki kj kk kl km kn ko) 26)).mono B14.out.size)
    have K15 := Lib.hid (K12.out.belowS hb15)
    have Y15 := Lib.hid (Y12.out.belowS hb15)
    have R15 := Lib.hid (R12.out.go hb15 hb15.size)
    clear K12 Y12 R12 V12 V13 hs13' hmx hb15 B14 hH2
    generalize w14.alloc (.cells (mCs (bs []) ka kb kc kd ke kf kg kh ki kj kk kl km kn ko) 26) = W15 at *
    obtain ⟨c0, c1, c2, c3, c4, c5⟩ := mod_cells K15.out.X
    have c6 := K15.out.X.lt
    obtain ⟨d0, d1, d2, d3, d4, d5⟩ := mod_cells Y15.out
    have d6 := Y15.out.lt
    go_wp2_with (first | (go_at_call 20; (with_reducible refine (SA.out _ _ _ _ _ _ _ _ _ _ _ _ _ _ _ _ R15.out K15.out.B).mono ?_); rintro e w16 ⟨rfl, hb⟩; have K16 := Lib.hid (K15.out.belowS hb); clear hb) | (go_at_call 10; (with_reducible refine (AW.out _).mono ?_); rintro e w17 ⟨rfl, hb⟩; have K17 := Lib.hid (K16.out.belowS hb); clear hb))
    go_ret
    exact ⟨rfl, K17.out.B⟩
  · have he' : ((E : Int) == 0) = false := beq_eq_false_iff_ne.2 (by omega)
    have JJ := J2
    clear J2 Y2 R2 P5 TR he
    generalize (E : Int) = Ei at *
    go_upto_region 6 with fail
    obtain ⟨c0, c1, c2, c3, c4, c5⟩ := mod_cells JJ.out.X
    have c6 := JJ.out.X.lt
    go_upto_region 8 with (go_at_call 9; (with_reducible refine (S1.out _ JJ.out.B).mono ?_); rintro e w4 ⟨rfl, hb⟩; have K4 := Lib.hid (JJ.out.belowS hb); clear hb)
    clear c0 c1 c2 c3 c4 c5 c6 JJ S1 z1'
    obtain ⟨c0, c1, c2, c3, c4, c5⟩ := mod_cells K4.out.X
    have c6 := K4.out.X.lt
    go_upto_region 9 with (go_at_call 12; (with_reducible refine (PU.out _ K4.out.B).mono ?_); rintro e w5 ⟨ua, un, uc, rfl, hr5, hb⟩; have K5 := Lib.hid (K4.out.belowS hb); have V5 := Lib.hid hr5; clear hb hr5)
    clear c0 c1 c2 c3 c4 c5 c6 K4 PU
    rw [HPL.out hm] at V5
    have hl1 := (HLEN.out hm).1
    have hl2 := (HLEN.out hm).2
    have hun : Hid (un = (putL m).length) := Lib.hid (by
      have := (reads_len V5.out).1
      rw [u8s_len] at this
      exact this.symm)
    have hH0 := Lib.hid (G0.out hm)
    have hH1 := Lib.hid (G1.out hm)
    have hH2 := Lib.hid (G2.out hm)
    obtain ⟨P, hP⟩ : ∃ P, P = putL m := ⟨_, rfl⟩
    rw [← hP] at V5 hl1 hl2 hun hH0 hH1 hH2
    clear hP HPN HPL HLEN G0 G1 G2 hm KU
    have V5' := Lib.hid (V5.out.there.mono fun g hg => hg.2)
    go_upto_region 12 with (go_at_call 17; (with_reducible refine (hH0.out _ _ V5'.out).mono ?_); rintro e w6 ⟨ea6, en6, ec6, ia6, im6, ic6, ca6, cn6, cc6, da6, dn6, dc6, ra6, rn6, rc6, rfl, hO, hb⟩; have K6 := Lib.hid (K5.out.belowS hb); have O6 := Lib.hid (own5_len hO); have V6 := Lib.hid (V5'.out.below hb); have hv6 := hb.size; clear hO hb)
    have hb7 := below_new w6 (.cells (mCs x ea6 en6 ec6 ia6 im6 ic6 ca6 cn6 cc6 da6 dn6 dc6 ra6 rn6 rc6) 26)
    have K7 := Lib.hid (K6.out.belowS hb7)
    have Y7 := Lib.hid (Whole.new w6 26 (mCs x ea6 en6 ec6 ia6 im6 ic6 ca6 cn6 cc6 da6 dn6 dc6 ra6 rn6 rc6))
    have R7 := Lib.hid (O6.out.go hb7 hb7.size)
    have V7 := Lib.hid ((V6.out.keep fun g hg _ => hb7.block g (Nat.lt_of_lt_of_le hg hv6)).there.mono fun g hg => hg.2)
    clear K5 K6 O6 hb7 V5 V5' V6 hH0 hv6
    generalize w6.alloc (.cells (mCs x ea6 en6 ec6 ia6 im6 ic6 ca6 cn6 cc6 da6 dn6 dc6 ra6 rn6 rc6) 26) = W7 at *
    generalize w6.heap.size = b7 at *
    have hunI : (un : Int) ≤ 16000 := by have := hun.out; omega
    have hun10 : (10 : Int) ≤ un := by have := hun.out; omega
    obtain ⟨i0, hi, hz0, hz1, hz2⟩ := info_parts infoByte
    go_upto_region 14 with fail
    have E8 := World.ownsRow_lit (e := 5) (base := W7.heap.size) (size := 1) W7 #[] 0 (Nat.le_refl _) (by simp [maxLen]) rfl
    have hb8 := below_new W7 (.cells #[] 5)
    have V8 := Lib.hid ((V7.out.below hb8).mono (fun g (hg : g < W7.heap.size) => Nat.lt_of_lt_of_le hg hb8.size))
    have B8 := Lib.hid hb8
    have E8' := Lib.hid E8
    clear E8 hb8
    have hnm : 0 + (u8s P).length ≤ maxLen := by rw [u8s_len]; unfold maxLen; omega
    have hnb : (0 + (u8s P).length) * 1 ≤ 140737488355328 := by rw [u8s_len]; omega
    have hs8 : W7.heap.size ≤ (W7.alloc (.cells #[] 5)).heap.size := by simp
    have oneC := fun (W : World) => oneAt W (.int .u8 0) 5
    have h1 : (u8s [(0 : UInt8)]) = [.int .u8 0] := rfl
    have u8l := Lib.hid (u8s_len P)
    have h1m : P.length + 1 ≤ 1000000 := by omega
    go_upto_region 15 with (first | (go_at_call 17; (with_reducible refine (hH1.out _ _ V10.out).mono ?_); rintro e w11 ⟨ga, gb, gc, gd, ge, gf, gg, gh, gi, gj, gk, gl, gm, gn, go_, rfl, hb⟩; have B11 := Lib.hid (B10.out.trans (hb.mono B10.out.size)); clear hb) | (at_builtin; refine wpList_append_reads _ rfl _ _ 30 rfl W7.heap.size 5 i0 (.int .u8 0) 1 Try.underlying30 hi hz0 hz1 hz2 rfl _ _ _ rfl E8'.out _ _ (u8s P) rfl V8.out (u8s_one _) hnm hnb hs8 ?_; intro v9 w9 hown9 hgrow9; have J9 : PJ W7 v9 P w9 := ⟨(by rw [Nat.zero_add, u8l.out] at hown9; simpa using hown9), B8.out.grown hgrow9 hs8 (fun g hg => (E8'.out.lt g hg).1)⟩; have J9h := Lib.hid (J9.belowS (below_new w9 (.cells #[.int .u8 0] 5))); have ce9 := oneC w9; clear J9 hown9 hgrow9) | (at_builtin; refine wl_app (ys := [(0 : UInt8)]) rfl rfl rfl rfl J9h.out rfl ce9 h1m (fun v10 w10 J10 => ?_); have B10 := Lib.hid J10.B; have V10 := Lib.hid ((Reads.of_owns J10.own).there.mono (G' := (· < w10.heap.size)) fun g hg => hg.2); obtain ⟨a10, n10, c10, rfl⟩ := V10.out.form; clear J10))
    have K11 := Lib.hid (K7.out.belowS B11.out)
    have Y11 := Lib.hid (Y7.out.belowS B11.out)
    have R11 := Lib.hid (R7.out.go B11.out B11.out.size)
    have V11 := Lib.hid ((V7.out.below B11.out).mono (fun g (hg : g < W7.heap.size) => Nat.lt_of_lt_of_le hg B11.out.size))
    clear K7 Y7 R7 V7 V8 V10 B8 B10 B11 E8' J9h ce9 oneC h1 u8l hnm hnb hs8 hi hz0 hz1 hz2 hH1
    have hb12 := below_new w11 (.cells (mCs (bs []) ga gb gc gd ge gf gg gh gi gj gk gl gm gn go_) 26)
    have K12 := Lib.hid (K11.out.belowS hb12)
    have Y12 := Lib.hid (Y11.out.belowS hb12)
    have R12 := Lib.hid (R11.out.go hb12 hb12.size)
    have V12 := Lib.hid ((V11.out.below hb12).mono (fun g (hg : g < w11.heap.size) => Nat.lt_of_lt_of_le hg hb12.size))
    clear K11 Y11 R11 V11 hb12
    generalize w11.alloc (.cells (mCs (bs []) ga gb gc gd ge gf gg gh gi gj gk gl gm gn go_) 26) = W12 at *
    generalize w11.heap.size = b12 at *
    obtain ⟨v13, hs13, hr13⟩ := V12.out.take (t := 30) (P := Try.prog) rfl (fun _ => rfl) (P.length - 1) (by rw [u8s_len]; omega)
    rw [← u8s_take] at hr13
    have V13 := Lib.hid hr13
    have hmx : max (0 : Int) ((un : Int) - 1) = (un : Int) - 1 := by omega
    have hs13' : ∀ u, (Instr.slice 30 (.slice ua un uc) none (some (.int .i64 ((un : Int) - 1))) none).run Try.prog u = .ok v13 u := by
      intro u
      have := hs13 .i64 u
      rw [show ((P.length - 1 : Nat) : Int) = (un : Int) - 1 by have := hun.out; omega] at this
      exact this
    clear hs13 hr13
    go_upto_region 16 with (go_at_call 17; (with_reducible refine (hH2.out _ _ V13.out).mono ?_); rintro e w14 ⟨ka, kb, kc, kd, ke, kf, kg, kh, ki, kj, kk, kl, km, kn, ko, rfl, hb⟩; have B14 := Lib.hid hb; clear hb)
    have hb15 := B14.out.trans ((below_new w14 (.cells (mCs (bs []) ka kb kc kd ke kf kg kh ki kj kk kl km kn ko) 26)).mono B14.out.size)
    have K15 := Lib.hid (K12.out.belowS hb15)
    have Y15 := Lib.hid (Y12.out.belowS hb15)
    have R15 := Lib.hid (R12.out.go hb15 hb15.size)
    clear K12 Y12 R12 V12 V13 hs13' hmx hb15 B14 hH2
    generalize w14.alloc (.cells (mCs (bs []) ka kb kc kd ke kf kg kh ki kj kk kl km kn ko) 26) = W15 at *
    obtain ⟨c0, c1, c2, c3, c4, c5⟩ := mod_cells K15.out.X
    have c6 := K15.out.X.lt
    obtain ⟨d0, d1, d2, d3, d4, d5⟩ := mod_cells Y15.out
    have d6 := Y15.out.lt
    go_wp2_with (first | (go_at_call 20; (with_reducible refine (SA.out _ _ _ _ _ _ _ _ _ _ _ _ _ _ _ _ R15.out K15.out.B).mono ?_); rintro e w16 ⟨rfl, hb⟩; have K16 := Lib.hid (K15.out.belowS hb); clear hb) | (go_at_call 10; (with_reducible refine (AW.out _).mono ?_); rintro e w17 ⟨rfl, hb⟩; have K17 := Lib.hid (K16.out.belowS hb); clear hb))
    go_ret
    exact ⟨rfl, K17.out.B⟩
end
end Go.Proofs.Ytdlinlkdielmkaa.WK

