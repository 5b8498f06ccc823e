/-
  What the reference of layer 11 tells: names, texts that are there twice, words. Nothing here is a statement of the seed.
-/
import Derived.Test.YtdfafllldanfiaaGreatValTop
import Derived.Test.YtdfafllldanfiaaGreatNameRef3
import Derived.BigQuiet
import Derived.Deep.QuietTactic
set_option linter.unusedSimpArgs false
set_option linter.unusedVariables false
namespace Go.Proofs.YtdfafllldanfiaaGreat.VR
open Go.RowKit WM NR OM OR VM
set_option maxHeartbeats 4000000
set_option maxRecDepth 10000
theorem inCode_any (k : Nat) (w : World) : Calls Tryz.prog 41 #[.int .u8 (k : Int)] w fun e w' => e = .returned (.bool (inC k)) ∧ w = w' := by
  have e : inC k = ((((((k : Int) == 0) || ((k : Int) == 1)) || ((k : Int) == 2)) || ((k : Int) == 3)) || ((k : Int) == 7)) := by
    unfold inC
    rw [Bool.eq_iff_iff]
    simp only [decide_eq_true_eq, Bool.or_eq_true, beq_iff_eq]
    omega
  rw [e]
  clear e
  generalize (k : Int) = y
  by_cases h0 : y = 0
  · subst h0
    go_enter Tryz.func41, Tryz.ntmps41
    go_wp2_with fail
    go_ret
    exact ⟨rfl, rfl⟩
  by_cases h1 : y = 1
  · subst h1
    go_enter Tryz.func41, Tryz.ntmps41
    go_wp2_with fail
    go_ret
    exact ⟨rfl, rfl⟩
  by_cases h2 : y = 2
  · subst h2
    go_enter Tryz.func41, Tryz.ntmps41
    go_wp2_with fail
    go_ret
    exact ⟨rfl, rfl⟩
  by_cases h3 : y = 3
  · subst h3
    go_enter Tryz.func41, Tryz.ntmps41
    go_wp2_with fail
    go_ret
    exact ⟨rfl, rfl⟩
  by_cases h7 : y = 7
  · subst h7
    go_enter Tryz.func41, Tryz.ntmps41
    go_wp2_with fail
    go_ret
    exact ⟨rfl, rfl⟩
  go_enter Tryz.func41, Tryz.ntmps41
  go_wp2_with fail
  go_ret
  exact ⟨ret_bool (by first | rfl | (rw [Bool.eq_iff_iff]; simp [h0, h1, h2, h3, h7])), rfl⟩
theorem again_any {a : Option Addr} {n c : Nat} {l : List (List UInt8)} {w : World} (h1 : Reads (· < w.heap.size) w (.slice a n c) (strs l)) :
    Calls Tryz.prog 39 #[.slice a n c] w fun e w' => e = .returned (.int .i64 (ff (dupB l) n)) ∧ Below w.heap.size w w' := by
  obtain ⟨n1, m1, m2⟩ := reads_len h1
  rw [strs_len] at n1
  unfold maxLen at m2
  have hn : (n : Int) ≤ 9223372036854775807 := by omega
  have HA := Lib.hid h1
  have HL := Lib.hid n1
  clear h1 n1 m1 m2
  obtain ⟨E, hE⟩ : ∃ E, E = ff (dupB l) n := ⟨_, rfl⟩
  rw [← hE]
  have HE := Lib.hid hE
  clear hE
  go_enter Tryz.func39, Tryz.ntmps39
  go_wp2_with fail
  go_loopw [3] (fun i wr => ∃ k : Nat, k ≤ n ∧ i = .int .i64 (k : Int) ∧ Hid (∀ j, j < k → dupB l j = false) ∧ Below w.heap.size w wr) (fun i _ => n - (intOf i).toNat)
  case atStart => exact ⟨0, by omega, rfl, Lib.hid (fun j hj => by omega), Below.refl _ _⟩
  case round =>
    obtain ⟨k, hk, rfl, hp, hbl⟩ := hrel
    by_cases hlt : k < n
    · have hlt' : (k : Int) < n := by omega
      go_wp2_with fail
      go_loopw [4] (fun i wr2 => ∃ t : Nat, t ≤ k ∧ i = .int .i64 (t : Int) ∧ Hid (∀ j, j < t → l.getD k [] ≠ l.getD j []) ∧ Below w.heap.size w wr2) (fun i _ => k - (intOf i).toNat)
      case atStart => exact ⟨0, by omega, rfl, Lib.hid (fun j hj => by omega), hbl⟩
      case round =>
        obtain ⟨t, ht, rfl, hq, hbl2⟩ := hrel
        by_cases hlt2 : t < k
        · have hlt2' : (t : Int) < k := by omega
          have hlt3 : (t : Int) < n := by omega
          obtain ⟨g, off, hga, q1, c1⟩ := reads_at HA.out hbl2 hlt
          obtain ⟨g2, off2, hgb, q2, c2⟩ := reads_at HA.out hbl2 (show t < n by omega)
          have k1 : k < l.length := by rw [HL.out]; exact hlt
          have t1 : t < l.length := by omega
          rw [strs_at k1] at c1
          rw [strs_at t1] at c2
          obtain ⟨rfl, rfl⟩ : g2 = g ∧ off2 = off := by rw [hga] at hgb; simp at hgb; exact ⟨hgb.1.symm, hgb.2.symm⟩
          subst hga
          clear hgb
          by_cases e : l.getD k [] = l.getD t []
          · have hd : dupB l k = true := by
              unfold dupB
              rw [List.any_eq_true]
              exact ⟨t, by simpa using hlt2, decide_eq_true e⟩
            have hh := Lib.hid (HE.out.trans (ff_yes hlt hd hp.out))
            rw [← e] at c2
            have exx : ((bs (l.getD k [])).toList == (bs (l.getD k [])).toList) = true := by simp
            clear hp hq e hd k1 t1
            generalize bs (l.getD k []) = x at *
            go_wp2_with fail
            go_quiet (fail)
            go_wp2_with fail
            go_ret
            exact ⟨ret_int hh.out.symm, below_drewN hbl2 _⟩
          · have hq2 := Lib.hid (fun j (hj : j < t + 1) => if h : j < t then hq.out j h else by rw [show j = t by omega]; exact e)
            have exy : ((bs (l.getD k [])).toList == (bs (l.getD t [])).toList) = false := by rw [bs_toList, bs_toList]; simpa using e
            clear hq e k1 t1
            generalize bs (l.getD k []) = x at *
            generalize bs (l.getD t []) = y at *
            go_wp2_with fail
            go_quiet (fail)
            go_wp2_with fail
            go_roundw
            case rel => exact ⟨t + 1, by omega, by go_num, hq2, below_drewN hbl2 _⟩
            case measure => simp [intOf]; omega
        · obtain rfl : t = k := by omega
          have hp2 := Lib.hid (fun j (hj : j < t + 1) => if h : j < t then hp.out j h else by rw [show j = t by omega]; exact dupB_no.2 hq.out)
          clear hp hq
          go_wp2_with fail
          go_roundw
          case rel => exact ⟨t + 1, by omega, by go_num, hp2, hbl2⟩
          case measure => simp [intOf]; omega
    · obtain rfl : k = n := by omega
      have hh := Lib.hid (HE.out.trans (ff_no hp.out))
      clear hp
      go_wp2_with fail
      go_ret
      exact ⟨ret_int hh.out.symm, hbl⟩
section
variable {w : World} {ea : Option Addr} {en ec : Nat} {ia : Option Addr} {im ic : Nat} {ca : Option Addr} {cn cc : Nat} {da : Option Addr} {dn dc : Nat} {ra : Option Addr} {rn rc : Nat} {m : Md}
theorem refTwice_any (h : RdM (· < w.heap.size) w ea en ec ia im ic ca cn cc da dn dc ra rn rc m) (hc : chkM m = 0) :
    Calls Tryz.prog 15 #[mV (bs m.name) ea en ec ia im ic ca cn cc da dn dc ra rn rc] w fun e w' => e = .returned (.int .i64 (twiceF m)) ∧ Below w.heap.size w w' := by
  obtain ⟨l1, l2, l3, l4, l5⟩ := h.lens
  have b0 := below_new w (.cells (mCs (bs m.name) ea en ec ia im ic ca cn cc da dn dc ra rn rc) 26)
  have HB := Lib.hid b0
  have HX := Lib.hid (Whole.new w 26 (mCs (bs m.name) ea en ec ia im ic ca cn cc da dn dc ra rn rc))
  obtain ⟨⟨k1, k2, _, _, _⟩, _, _, _, _⟩ := chk_ok hc
  have C1 := Lib.hid (fun (u : World) (hb : Below w.heap.size w u) => again_any (h.go hb hb.size).ex)
  have C2 := Lib.hid (fun (u : World) (hb : Below w.heap.size w u) => again_any (h.go hb hb.size).im)
  obtain ⟨E, hE⟩ : ∃ E, E = twiceF m := ⟨_, rfl⟩
  rw [← hE]
  have e1 := ff_bd (dupB m.exps) en
  have e2 := ff_bd (dupB m.imps) im
  have hE2 : E = if 0 ≤ ff (dupB m.exps) en then ff (dupB m.exps) en else if 0 ≤ ff (dupB m.imps) im then 8 + ff (dupB m.imps) im else -1 := by
    rw [hE]
    unfold twiceF
    rw [l1, l2]
  have r2 : ff (dupB m.imps) im ≤ 16 := by omega
  have HE := Lib.hid hE2
  clear hE hE2 h hc l1 l2 l3 l4 l5 k1 k2 b0 e1 e2
  generalize ff (dupB m.exps) en = r at *
  generalize ff (dupB m.imps) im = s at *
  generalize bs m.name = x at *
  by_cases hr : 0 ≤ r
  · have hh := Lib.hid (show E = r by rw [HE.out, if_pos hr])
    clear HE
    go_enter Tryz.func15, Tryz.ntmps15
    obtain ⟨c0, c1, c2, c3, c4, c5⟩ := mod_cells HX.out
    go_wp2_with (go_at_call 39; (with_reducible refine (C1.out _ HB.out).mono ?_); rintro e w1 ⟨rfl, hb1⟩; have hB1 := HB.out.trans (hb1.mono HB.out.size))
    go_ret
    exact ⟨ret_int hh.out.symm, hB1⟩
  by_cases hs : 0 ≤ s
  · have hh := Lib.hid (show E = 8 + s by rw [HE.out, if_neg hr, if_pos hs])
    have hw : IntKind.i64.wrap (8 + s) = 8 + s := by rw [IntKind.wrap_i64]; omega
    clear HE
    go_enter Tryz.func15, Tryz.ntmps15
    obtain ⟨c0, c1, c2, c3, c4, c5⟩ := mod_cells HX.out
    go_wp2_with (first | (go_at_call 39; (with_reducible refine (C1.out _ HB.out).mono ?_); rintro e w1 ⟨rfl, hb1⟩; have hB1 := HB.out.trans (hb1.mono HB.out.size); obtain ⟨d0, d1, d2, d3, d4, d5⟩ := mod_cells (HX.out.belowS hb1)) | (go_at_call 39; (with_reducible refine (C2.out _ hB1).mono ?_); rintro e w2 ⟨rfl, hb2⟩; have hB2 := hB1.trans (hb2.mono hB1.size)))
    go_ret
    exact ⟨ret_int hh.out.symm, hB2⟩
  · have hh := Lib.hid (show E = -1 by rw [HE.out, if_neg hr, if_neg hs])
    clear HE
    go_enter Tryz.func15, Tryz.ntmps15
    obtain ⟨c0, c1, c2, c3, c4, c5⟩ := mod_cells HX.out
    go_wp2_with (first | (go_at_call 39; (with_reducible refine (C1.out _ HB.out).mono ?_); rintro e w1 ⟨rfl, hb1⟩; have hB1 := HB.out.trans (hb1.mono HB.out.size); obtain ⟨d0, d1, d2, d3, d4, d5⟩ := mod_cells (HX.out.belowS hb1)) | (go_at_call 39; (with_reducible refine (C2.out _ hB1).mono ?_); rintro e w2 ⟨rfl, hb2⟩; have hB2 := hB1.trans (hb2.mono hB1.size)))
    go_ret
    exact ⟨ret_int hh.out.symm, hB2⟩
theorem below_of0 {w0 a b : World} (h : Below w0.heap.size w0 a) (k : Below a.heap.size a b) : Below w0.heap.size w0 b := h.trans (k.mono h.size)
theorem refNames_any (h : RdM (· < w.heap.size) w ea en ec ia im ic ca cn cc da dn dc ra rn rc m) (hc : chkM m = 0) :
    Calls Tryz.prog 14 #[mV (bs m.name) ea en ec ia im ic ca cn cc da dn dc ra rn rc] w fun e w' => e = .returned (.int .i64 (nameF m)) ∧ Below w.heap.size w w' := by
  obtain ⟨l1, l2, l3, l4, l5⟩ := h.lens
  have b0 := below_new w (.cells (mCs (bs m.name) ea en ec ia im ic ca cn cc da dn dc ra rn rc) 26)
  have HB := Lib.hid b0
  have HX := Lib.hid (Whole.new w 26 (mCs (bs m.name) ea en ec ia im ic ca cn cc da dn dc ra rn rc))
  obtain ⟨⟨k1, k2, _, _, _⟩, k3, k4, k5, _⟩ := chk_ok hc
  have CN := Lib.hid (fun (l : List UInt8) (hl : l.length ≤ 2097152) => NF.refCheckS (bs l) (by rw [bs_size]; exact hl) (NM.chk l) rfl)
  have HT := Lib.hid (And.intro k3 (And.intro k4 k5))
  have HI1 := Lib.hid h.ex
  have HI2 := Lib.hid h.im
  have HL := Lib.hid (And.intro l1 l2)
  have hen : (en : Int) ≤ 8 := by omega
  have him : (im : Int) ≤ 16 := by omega
  have hec : (en : Int) ≤ ec := by have := (reads_len h.ex).2.1; omega
  have hic : (im : Int) ≤ ic := by have := (reads_len h.im).2.1; omega
  obtain ⟨E, hE⟩ : ∃ E, E = nameF m := ⟨_, rfl⟩
  rw [← hE]
  have HE := Lib.hid hE
  have HNm := Lib.hid (show NM.chk m.name ≠ 0 → E = 0 from fun hh => by rw [HE.out]; unfold nameF; rw [if_pos hh])
  have HN1 := Lib.hid (show NM.chk m.name = 0 → ∀ k, k < en → badN m.exps k = true → (∀ j, j < k → badN m.exps j = false) → E = 1 + (k : Int) from fun h0 k hk hb hp => by
    rw [HE.out]
    unfold nameF
    rw [if_neg (by rw [h0]; simp), l1, ff_yes hk hb hp, if_pos (by omega)])
  have HN2 := Lib.hid (show NM.chk m.name = 0 → (∀ j, j < en → badN m.exps j = false) → ∀ k, k < im → badN m.imps k = true → (∀ j, j < k → badN m.imps j = false) → E = 9 + (k : Int) from fun h0 h1 k hk hb hp => by
    rw [HE.out]
    unfold nameF
    rw [if_neg (by rw [h0]; simp), l1, ff_no h1, if_neg (by omega), l2, ff_yes hk hb hp, if_pos (by omega)])
  have HN3 := Lib.hid (show NM.chk m.name = 0 → (∀ j, j < en → badN m.exps j = false) → (∀ j, j < im → badN m.imps j = false) → E = -1 from fun h0 h1 hp => by
    rw [HE.out]
    unfold nameF
    rw [if_neg (by rw [h0]; simp), l1, ff_no h1, if_neg (by omega), l2, ff_no hp, if_neg (by omega)])
  have C0 := Lib.hid (CN.out m.name (by omega))
  obtain ⟨v0, hv0⟩ : ∃ v : Int, v = NM.chk m.name := ⟨_, rfl⟩
  rw [← hv0] at C0 HNm HN1 HN2 HN3
  clear hE h hc l1 l2 l3 l4 l5 k1 k2 k3 k4 k5 b0 hv0 HE
  generalize bs m.name = x at *
  by_cases hz : v0 = 0
  case neg =>
    have hh := Lib.hid (HNm.out hz)
    clear HNm HN1 HN2 HN3 CN
    go_enter Tryz.func14, Tryz.ntmps14
    obtain ⟨c0, c1, c2, c3, c4, c5⟩ := mod_cells HX.out
    go_wp2_with (go_at_call 38; (with_reducible refine (C0.out.at _).mono ?_); rintro e w1 ⟨rfl, hb1⟩)
    go_ret
    exact ⟨ret_int hh.out.symm, below_of0 HB.out hb1⟩
  subst hz
  have HM1 := Lib.hid (HN1.out rfl)
  have HM2 := Lib.hid (HN2.out rfl)
  have HM3 := Lib.hid (HN3.out rfl)
  clear HN1 HN2 HN3
  go_enter Tryz.func14, Tryz.ntmps14
  obtain ⟨c0, c1, c2, c3, c4, c5⟩ := mod_cells HX.out
  go_upto_region 3 with (go_at_call 38; (with_reducible refine (C0.out.at _).mono ?_); rintro e W ⟨rfl, hb1⟩; have HX1 := Lib.hid (HX.out.belowS hb1); have HB1 := Lib.hid (below_of0 HB.out hb1); clear hb1)
  clear c0 c1 c2 c3 c4 c5 HB HX C0 HNm
  have HX := HX1
  have HB := HB1
  clear HX1 HB1
  go_wp2_with fail
  go_loopw [3] (fun i wr => ∃ k : Nat, k ≤ en ∧ i = .int .i64 (k : Int) ∧ Hid (∀ j, j < k → badN m.exps j = false) ∧ Below W.heap.size W wr) (fun i _ => en - (intOf i).toNat)
  case atStart => exact ⟨0, by omega, rfl, Lib.hid (fun j hj => by omega), Below.refl _ _⟩
  case round =>
    obtain ⟨k, hk, rfl, hp, hbl⟩ := hrel
    obtain ⟨c0, c1, c2, c3, c4, c5⟩ := mod_cells (HX.out.belowS hbl)
    have c6 := (HX.out.belowS hbl).lt
    have hbw := HB.out.trans (hbl.mono HB.out.size)
    by_cases hlt : k < en
    · have hlt' : (k : Int) < en := by omega
      obtain ⟨g, off, rfl, q1, e1⟩ := reads_at HI1.out hbw hlt
      have k1 : k < m.exps.length := by have := HL.out; omega
      rw [strs_at k1] at e1
      have CK := Lib.hid (CN.out (m.exps.getD k []) (by have := HT.out.2.1 _ (mem_getD (l := m.exps) (d := []) k1); omega))
      have hbd : badN m.exps k = decide (NM.chk (m.exps.getD k []) ≠ 0) := rfl
      obtain ⟨v, hv⟩ : ∃ v : Int, v = NM.chk (m.exps.getD k []) := ⟨_, rfl⟩
      rw [← hv] at CK hbd
      clear hv
      by_cases hv0 : v = 0
      · subst hv0
        have hp2 := Lib.hid (fun j (hj : j < k + 1) => if h : j < k then hp.out j h else by rw [show j = k by omega, hbd]; rfl)
        clear hp hbd k1
        generalize bs (m.exps.getD k []) = y at *
        go_wp2_with (go_at_call 38; (with_reducible refine (CK.out.at _).mono ?_); rintro e w2 ⟨rfl, hb2⟩)
        go_roundw
        case rel => exact ⟨k + 1, by omega, by go_num, hp2, below_of hbl hb2⟩
        case measure => simp [intOf]; omega
      · have hh := Lib.hid (HM1.out k hlt (by rw [hbd]; exact decide_eq_true hv0) hp.out)
        have hwr : IntKind.i64.wrap (1 + (k : Int)) = 1 + (k : Int) := by rw [IntKind.wrap_i64]; omega
        clear hp hbd k1
        generalize bs (m.exps.getD k []) = y at *
        go_wp2_with (go_at_call 38; (with_reducible refine (CK.out.at _).mono ?_); rintro e w2 ⟨rfl, hb2⟩)
        go_ret
        exact ⟨ret_int hh.out.symm, below_of0 hbw hb2⟩
    · obtain rfl : k = en := by omega
      have HX0 := Lib.hid (HX.out.belowS hbl)
      have HB0 := Lib.hid hbw
      have hp1 := hp
      clear c0 c1 c2 c3 c4 c5 c6 hp hbw hbl HM1
      obtain ⟨c0, c1, c2, c3, c4, c5⟩ := mod_cells HX0.out
      generalize wr = wr0 at *
      go_wp2_with fail
      go_loopw [4] (fun i wr => ∃ k : Nat, k ≤ im ∧ i = .int .i64 (k : Int) ∧ Hid (∀ j, j < k → badN m.imps j = false) ∧ Below wr0.heap.size wr0 wr) (fun i _ => im - (intOf i).toNat)
      case atStart => exact ⟨0, by omega, rfl, Lib.hid (fun j hj => by omega), Below.refl _ _⟩
      case round =>
        obtain ⟨k, hk, rfl, hp, hbl⟩ := hrel
        obtain ⟨c0, c1, c2, c3, c4, c5⟩ := mod_cells (HX0.out.belowS hbl)
        have c6 := (HX0.out.belowS hbl).lt
        have hbw := HB0.out.trans (hbl.mono HB0.out.size)
        by_cases hlt : k < im
        · have hlt' : (k : Int) < im := by omega
          obtain ⟨g, off, rfl, q1, e1⟩ := reads_at HI2.out hbw hlt
          have k1 : k < m.imps.length := by have := HL.out; omega
          rw [strs_at k1] at e1
          have CK := Lib.hid (CN.out (m.imps.getD k []) (by have := HT.out.2.2 _ (mem_getD (l := m.imps) (d := []) k1); omega))
          have hbd : badN m.imps k = decide (NM.chk (m.imps.getD k []) ≠ 0) := rfl
          obtain ⟨v, hv⟩ : ∃ v : Int, v = NM.chk (m.imps.getD k []) := ⟨_, rfl⟩
          rw [← hv] at CK hbd
          clear hv
          by_cases hv0 : v = 0
          · subst hv0
            have hp2 := Lib.hid (fun j (hj : j < k + 1) => if h : j < k then hp.out j h else by rw [show j = k by omega, hbd]; rfl)
            clear hp hbd k1
            generalize bs (m.imps.getD k []) = y at *
            go_wp2_with (go_at_call 38; (with_reducible refine (CK.out.at _).mono ?_); rintro e w2 ⟨rfl, hb2⟩)
            go_roundw
            case rel => exact ⟨k + 1, by omega, by go_num, hp2, below_of hbl hb2⟩
            case measure => simp [intOf]; omega
          · have hh := Lib.hid (HM2.out hp1.out k hlt (by rw [hbd]; exact decide_eq_true hv0) hp.out)
            have hwr : IntKind.i64.wrap (9 + (k : Int)) = 9 + (k : Int) := by rw [IntKind.wrap_i64]; omega
            clear hp hbd k1
            generalize bs (m.imps.getD k []) = y at *
            go_wp2_with (go_at_call 38; (with_reducible refine (CK.out.at _).mono ?_); rintro e w2 ⟨rfl, hb2⟩)
            go_ret
            exact ⟨ret_int hh.out.symm, below_of0 hbw hb2⟩
        · obtain rfl : k = im := by omega
          have hh := Lib.hid (HM3.out hp1.out hp.out)
          clear hp
          go_wp2_with fail
          go_ret
          exact ⟨ret_int hh.out.symm, hbw⟩
theorem ref_parts (x : Int) (hx : 0 ≤ x ∧ x ≤ 4294967295) : ∃ o d a b m e : Int, IF.Says Tryz.prog 40 #[.int .u32 x] (.tuple #[IF.insV o d a b m, .int .i64 e]) ∧ o = opW x ∧ m = immW x ∧ (e = 0 ∧ IM.hasB x = true ∨ e = 10 ∧ IM.hasB x = false) := by
  have C := IF.refDecode_any x hx
  unfold IF.decV at C
  unfold opW immW
  cases h : IM.hasB x
  · rw [h] at C
    exact ⟨0, 0, 0, 0, 0, 10, C, rfl, rfl, Or.inr ⟨rfl, rfl⟩⟩
  · rw [h] at C
    exact ⟨_, _, _, _, _, 0, C, rfl, rfl, Or.inl ⟨rfl, rfl⟩⟩
theorem refWords_any (h : RdM (· < w.heap.size) w ea en ec ia im ic ca cn cc da dn dc ra rn rc m) (hc : chkM m = 0) (hf : FineM m) :
    Calls Tryz.prog 16 #[mV (bs m.name) ea en ec ia im ic ca cn cc da dn dc ra rn rc] w fun e w' => e = .returned (.int .i64 (ff (wordB m) cn)) ∧ Below w.heap.size w w' := by
  obtain ⟨l1, l2, l3, l4, l5⟩ := h.lens
  have b0 := below_new w (.cells (mCs (bs m.name) ea en ec ia im ic ca cn cc da dn dc ra rn rc) 26)
  have HB := Lib.hid b0
  have HX := Lib.hid (Whole.new w 26 (mCs (bs m.name) ea en ec ia im ic ca cn cc da dn dc ra rn rc))
  obtain ⟨⟨_, _, k3, _, _⟩, _⟩ := chk_ok hc
  have HI1 := Lib.hid h.cd
  have HL := Lib.hid l3
  have HF := Lib.hid (fun (k : Nat) (hk : k < cn) => hf.code _ (mem_getD (l := m.code) (d := 0) (i := k) (by omega)))
  have hcn : (cn : Int) ≤ 512 := by omega
  have hcc : (cn : Int) ≤ cc := by have := (reads_len h.cd).2.1; omega
  obtain ⟨E, hE⟩ : ∃ E, E = ff (wordB m) cn := ⟨_, rfl⟩
  rw [← hE]
  have HE := Lib.hid hE
  clear hE h hc hf l1 l2 l3 l4 l5 k3 b0
  generalize bs m.name = x at *
  go_enter Tryz.func16, Tryz.ntmps16
  go_wp2_with fail
  generalize w.alloc (.cells (mCs x ea en ec ia im ic ca cn cc da dn dc ra rn rc) 26) = W at *
  go_loopw [3] (fun i wr => ∃ k : Nat, k ≤ cn ∧ i = .int .i64 (k : Int) ∧ Hid (∀ j, j < k → wordB m j = false) ∧ Below W.heap.size W wr) (fun i _ => cn - (intOf i).toNat)
  case atStart => exact ⟨0, by omega, rfl, Lib.hid (fun j hj => by omega), Below.refl _ _⟩
  case round =>
    obtain ⟨k, hk, rfl, hp, hbl⟩ := hrel
    obtain ⟨c0, c1, c2, c3, c4, c5⟩ := mod_cells (HX.out.belowS hbl)
    have c6 := (HX.out.belowS hbl).lt
    have hbw := HB.out.trans (hbl.mono HB.out.size)
    by_cases hlt : k < cn
    · have hlt' : (k : Int) < cn := by omega
      obtain ⟨g, off, rfl, q1, e1⟩ := reads_at HI1.out hbw hlt
      have k1 : k < m.code.length := by rw [HL.out]; exact hlt
      rw [words_at k1] at e1
      obtain ⟨o, xd, xa, xb, xm, xe, C0, ho, hxm, he⟩ := ref_parts ((m.code.getD k 0 : Nat) : Int) (by have := HF.out k hlt; omega)
      have CD := Lib.hid C0
      have hB : wordB m k = (!IM.hasB ((m.code.getD k 0 : Nat) : Int) || decide (o = 21)) := by rw [ho]; rfl
      clear C0 ho hxm k1
      rcases he with ⟨rfl, hh0⟩ | ⟨rfl, hh0⟩
      · rw [hh0] at hB
        clear hh0
        by_cases h21 : o = 21
        · have hh := Lib.hid (HE.out.trans (ff_yes hlt (by rw [hB, decide_eq_true h21]; rfl) hp.out))
          subst h21
          clear hB hp
          generalize ((m.code.getD k 0 : Nat) : Int) = y at *
          go_wp2_with (go_at_call 40; (with_reducible refine (CD.out.at _).mono ?_); rintro e w2 ⟨rfl, hb2⟩)
          go_ret
          exact ⟨ret_int hh.out.symm, below_of0 hbw (hb2.alloc hb2.size _)⟩
        · have hp2 := Lib.hid (fun j (hj : j < k + 1) => if h : j < k then hp.out j h else by rw [show j = k by omega, hB, decide_eq_false h21]; rfl)
          clear hB hp
          generalize ((m.code.getD k 0 : Nat) : Int) = y at *
          go_wp2_with (go_at_call 40; (with_reducible refine (CD.out.at _).mono ?_); rintro e w2 ⟨rfl, hb2⟩)
          go_roundw
          case rel => exact ⟨k + 1, by omega, by go_num, hp2, below_of hbl (hb2.alloc hb2.size _)⟩
          case measure => simp [intOf]; omega
      · have hh := Lib.hid (HE.out.trans (ff_yes hlt (by rw [hB, hh0]; rfl) hp.out))
        clear hB hp hh0
        generalize ((m.code.getD k 0 : Nat) : Int) = y at *
        go_wp2_with (go_at_call 40; (with_reducible refine (CD.out.at _).mono ?_); rintro e w2 ⟨rfl, hb2⟩)
        go_ret
        exact ⟨ret_int hh.out.symm, below_of0 hbw (hb2.alloc hb2.size _)⟩
    · obtain rfl : k = cn := by omega
      have hh := Lib.hid (HE.out.trans (ff_no hp.out))
      clear hp
      go_wp2_with fail
      go_ret
      exact ⟨ret_int hh.out.symm, hbw⟩
end
end Go.Proofs.YtdfafllldanfiaaGreat.VR
