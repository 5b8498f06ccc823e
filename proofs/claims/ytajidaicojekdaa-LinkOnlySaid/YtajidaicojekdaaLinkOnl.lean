/-
  The law LinkOnly, walked. Nothing here is a statement of the seed.
-/
import Derived.Test.YtajidaicojekdaaLinkIms
import Derived.Test.YtajidaicojekdaaLinkB
import Derived.Test.YtajidaicojekdaaLayP
import Derived.Test.YtajidaicojekdaaValTop
import Derived.Deep.RegionHeld3
set_option linter.unusedSimpArgs false
set_option linter.unusedVariables false
namespace Go.Proofs.Ytajidaicojekdaa.KF
open Go.RowKit WM NR OM OR VM YM YR RM RF KM
/-- a module's box, on the way -/
structure MJ1 (w : World) (cs : Array Value) (u : World) : Prop where
  X : Whole u w.heap.size 45 cs
  B : Below w.heap.size w u
  sz : w.heap.size + 1 ≤ u.heap.size
theorem MJ1.belowS {w u u' : World} {cs : Array Value} (h : MJ1 w cs u) (hb : Below u.heap.size u u') : MJ1 w cs u' := ⟨h.X.belowS hb, h.B.trans (hb.mono h.B.size), Nat.le_trans h.sz hb.size⟩
theorem MJ1.new (w : World) (cs : Array Value) : MJ1 w cs (w.alloc (.cells cs 45)) := ⟨Whole.new w _ _, below_new w _, by simp⟩
/-- the first k slots -/
def slt (z : List Nat) (k : Nat) : List Nat := (z.take k).map (· % 64)
theorem slt_len {z : List Nat} {k : Nat} (h : k ≤ z.length) : (slt z k).length = k := by simp [slt]; omega
theorem slt_lt {z : List Nat} {k : Nat} : ∀ x ∈ slt z k, x ≤ 65535 := by
  intro x hx
  obtain ⟨y, _, rfl⟩ := List.mem_map.1 hx
  omega
theorem slt_snoc {z : List Nat} {k : Nat} (h : k < z.length) : u32s (slt z k) ++ [Value.int .u32 (((z.getD k 0 : Nat) : Int) % 64)] = u32s (slt z (k + 1)) := by
  unfold slt u32s
  rw [List.take_add_one, List.getElem?_eq_getElem h, List.map_append, List.map_append, List.getD_eq_getElem?_getD, List.getElem?_eq_getElem h]
  simp
end Go.Proofs.Ytajidaicojekdaa.KF
namespace Go.Proofs.Ytajidaicojekdaa.WK
open Go.RowKit WM NR OM OR VM YM YR RM RF KM KF
set_option maxHeartbeats 4000000
set_option maxRecDepth 10000
section
variable {w : World} {ea : Option Addr} {en ec : Nat} {ia : Option Addr} {im ic : Nat} {ca : Option Addr} {cn cc : Nat} {da : Option Addr} {dn dc : Nat} {ra : Option Addr} {rn rc : Nat} {m : Md}
theorem LinkOnly_walk (h : RdM (· < w.heap.size) w ea en ec ia im ic ca cn cc da dn dc ra rn rc m) (hf : FineM m) (f : Int) (hff : 0 ≤ f ∧ f ≤ 255) (z : List Nat) (v : Value) (R : Reads (· < w.heap.size) w v (u16s z)) (hz : ∀ x ∈ z, x < 65536) :
    Calls Try.prog 6 #[mV (bs m.name) ea en ec ia im ic ca cn cc da dn dc ra rn rc, .int .u8 f, v] w fun e w' => e = .returned (.bool true) ∧ Below w.heap.size w w' := by
  obtain ⟨l1, l2, l3, l4, l5⟩ := h.lens
  have J0 := Lib.hid (MJ1.new w (mCs (bs m.name) ea en ec ia im ic ca cn cc da dn dc ra rn rc))
  have CS := Lib.hid (fun (u : World) (hb : Below w.heap.size w u) => size_any (h.go hb hb.size))
  have CK := Lib.hid (fun (u : World) (hb : Below w.heap.size w u) => VR.vcheck_any (h.go hb hb.size) hf)
  have AW := Lib.hid awk16
  obtain ⟨av, cv, rfl, hv1, hv2⟩ := R.shape
  rw [u16s_len] at hv1 R ⊢
  by_cases hall : szF en [im, cn, dn, rn] ≤ 2000 ∧ VR.chkV m = 0 ∧ im ≤ z.length
  · obtain ⟨hs, hk, hzl⟩ := hall
    obtain ⟨z1, z2, z3, z4, z5⟩ := szF_five hs
    have hG : VM.Good m := good_of (by unfold VR.chkV at hk; split at hk <;> omega)
    have hl0 : cn * 4 ≤ 140737488355328 ∧ dn * 4 ≤ 140737488355328 := by omega
    have CO := Lib.hid (fun (u : World) (hb : Below w.heap.size w u) => of_any (h.go hb hb.size) hl0)
    have b1 : pgs cn ≤ 125 := pgs_le (by omega)
    have b2 : pgs dn ≤ 125 := pgs_le (by omega)
    have CT := Lib.hid (at_any ((pgs cn : Nat) : Int) ((pgs dn : Nat) : Int) f (by omega) (by omega) (by omega))
    have CQ := Lib.hid (words_any ((pgs cn : Nat) : Int) ((pgs dn : Nat) : Int) (by omega) (by omega))
    obtain ⟨hq1, hq2⟩ := nW_pages (good_lng hG)
    rw [l3, l4] at hq1
    rw [hq1] at CQ
    obtain ⟨a1, a2, a3, a4⟩ := atP_bd ((pgs cn : Nat) : Int) ((pgs dn : Nat) : Int) f
    unfold resAt at CT
    obtain ⟨⟨c, d, pe⟩, hat⟩ : ∃ q, atP ((pgs cn : Nat) : Int) ((pgs dn : Nat) : Int) f = q := ⟨_, rfl⟩
    rw [hat] at CT a1 a2 a3 a4
    simp only at CT a1 a2 a3 a4
    have CI := Lib.hid (fun (u : World) (hb : Below w.heap.size w u) (q : Value) (hR : Slots u q (slt z im)) => by
      have := KP.image_any (h.go hb hb.size) hf hl0 c d (by omega) (by omega) (slt z im) q hR (fun x hx => by have := slt_lt x hx; omega)
      rw [good_img hG (l := slt z im) (by rw [slt_len hzl]; omega) slt_lt (by omega) (by omega)] at this
      exact this)
    have HI := Lib.hid (good_img hG (l := slt z im) (by rw [slt_len hzl]; omega) slt_lt (c := c) (d := d) (by omega) (by omega))
    have CP := Lib.hid (fun (u : World) (hb : Below w.heap.size w u) (k : Nat) (hk : k ≤ 640) => spot_any (h.go hb hb.size) hl0 (k : Int) (by omega))
    have CR := Lib.hid (fun (u : World) (hb : Below w.heap.size w u) (k : Nat) (hk : k ≤ 640) => raw_any (h.go hb hb.size) hl0 (k : Int) (by omega))
    have HN := Lib.hid (fun (i : Nat) hh => none_wrd (m := m) (i := (i : Int)) hh (c := c) (d := d) (l := slt z im))
    have HA := Lib.hid (fun (i : Nat) (hi : i < nW m) => imgL_at (m := m) (c := c) (d := d) (l := slt z im) hi)
    have HLn := Lib.hid (imgL_len m c d (slt z im))
    have hs' : ¬ (2000 : Int) < (szF en [im, cn, dn, rn] : Nat) := by omega
    have hzl' : ¬ (z.length : Int) < (im : Int) := by omega
    have HF := Lib.hid (fun (k : Nat) (hk : k < rn) => hf.rels _ (mem_getD (l := m.rels) (d := ⟨0, 0, 0⟩) (i := k) (by omega)))
    have HG := Lib.hid hG
    have HRL := Lib.hid h.rl
    have HLR := Lib.hid l5
    have hrc : (rn : Int) ≤ rc := by have := h.rl.len.2.1; omega
    have HW := Lib.hid (And.intro l3 l4)
    have HZ := Lib.hid (fun (k : Nat) (hk : k < im) => slt_snoc (z := z) (k := k) (by omega))
    have HZL := Lib.hid (slt_len hzl)
    have HZ0 : Hid (u32s (slt z 0) = []) := Lib.hid rfl
    have HRV := Lib.hid R
    have HZA := Lib.hid (fun (k : Nat) (hk : k < im) => (reads_at R (Below.refl _ _) (show k < z.length by omega)))
    have HZB := Lib.hid (fun (k : Nat) (hk : k < im) => u16s_at z k (by omega))
    rw [hk] at CK
    obtain ⟨i0, hi, hz0, hz1, hz2⟩ := info_parts infoWord
    clear h hf hs hk hG hl0 l1 l2 l3 l4 l5 z1 z3 z4 hq1 b1 b2 hat hz R
    generalize ((szF en [im, cn, dn, rn] : Nat) : Int) = S at *
    obtain ⟨n, hnw⟩ : ∃ n, nW m = n := ⟨_, rfl⟩
    rw [hnw] at CQ hq2 HA HLn
    have HNW := Lib.hid hnw
    clear hnw
    generalize pgs cn = p at *
    generalize pgs dn = pq at *
    generalize bs m.name = x at *
    have hsd : decide ((2000 : Int) < S) = false := decide_eq_false hs'
    have hzd : decide (z.length < im) = false := decide_eq_false (by omega)
    have hzd' : decide ((z.length : Int) < (im : Int)) = false := decide_eq_false (by omega)
    go_enter Try.func6, Try.ntmps6
    go_upto_region 1 with fail
    generalize w.alloc (.cells (mCs x ea en ec ia im ic ca cn cc da dn dc ra rn rc) 45) = W at *
    have JJ := J0
    clear J0
    obtain ⟨c0, c1, c2, c3, c4, c5⟩ := mod_cells JJ.out.X
    have c6 := JJ.out.X.lt
    go_wp2_with (first | (go_at_call 16; (with_reducible refine (CS.out _ JJ.out.B).mono ?_); rintro e w9 ⟨rfl, hb⟩; have JJ := Lib.hid (JJ.out.belowS hb); obtain ⟨c0, c1, c2, c3, c4, c5⟩ := mod_cells JJ.out.X; have c6 := JJ.out.X.lt; clear hb) | (go_at_call 23; (with_reducible refine (CK.out _ JJ.out.B).mono ?_); rintro e w9 ⟨rfl, hb⟩; have JJ := Lib.hid (JJ.out.belowS hb); obtain ⟨c0, c1, c2, c3, c4, c5⟩ := mod_cells JJ.out.X; have c6 := JJ.out.X.lt; clear hb))
    have J1 := JJ
    clear c0 c1 c2 c3 c4 c5 c6
    go_loopw [7, 8] (fun o i wr => ∃ (k : Nat) (q : Value), k ≤ im ∧ i = .int .i64 (k : Int) ∧ o = q ∧ wr.ownsRow w9.heap.size 46 1 q k (u32s (slt z k)) ∧ Below w9.heap.size w9 wr) (fun o i _ => im - (intOf i).toNat)
    case atStart => exact ⟨0, _, by omega, rfl, rfl, by rw [HZ0.out]; exact World.ownsRow_nil _ _ _ _, Below.refl _ _⟩
    case round =>
      obtain ⟨k, q, hk, rfl, rfl, hown, hbl⟩ := hrel
      have hj := J1.out.belowS hbl
      obtain ⟨c0, c1, c2, c3, c4, c5⟩ := mod_cells hj.X
      have c6 := hj.X.lt
      have HJ := Lib.hid hj
      by_cases hlt : k < im
      · have hlt' : (k : Int) < im := by omega
        have hkz : k < z.length := by omega
        obtain ⟨g, off, rfl, _, e0⟩ := reads_at HRV.out hj.B hkz
        rw [u16s_at z k hkz] at e0
        have hsn := Lib.hid (HZ.out k hlt)
        have hkz' : (k : Int) < (z.length : Int) := by omega
        have hzc : (z.length : Int) ≤ cv := by omega
        have hnb : (k + 1) * 4 ≤ 140737488355328 := by omega
        have hnm : k + 1 ≤ maxLen := by unfold maxLen; omega
        clear hj hkz
        generalize z.getD k 0 = y at *
        have hy1 : ((y : Nat) : Int).tmod 64 = (y : Int) % 64 := Int.tmod_eq_emod_of_nonneg (by omega)
        have hy2 : (y : Int) % 64 % 65536 = (y : Int) % 64 := by omega
        have hy3 : (y : Int) % 64 % 4294967296 = (y : Int) % 64 := by omega
        go_wp2_with (first | (at_builtin; refine wpList_append_own _ rfl _ _ 36 rfl w9.heap.size 46 i0 (.int .u32 0) 1 4 Try.underlying36 hi hz0 hz1 hz2 rfl (by decide) _ _ _ rfl (hown.alloc _) ⟨wr.heap.size, 0, none⟩ 1 1 [.int .u32 ((y : Int) % 64)] rfl rfl ?c1 ?c2 hnm hnb ?c5 ?_))
        case c1 => exact oneC _ _ _
        case c2 => intro u hu; simp at hu; subst hu; rfl
        case c5 => simp; have := hbl.size; omega
        intro v' w4 hown4 hgrow _
        have hB4 := (hbl.alloc hbl.size (.cells #[.int .u32 ((y : Int) % 64)] 46)).grown hgrow (Nat.le_trans hbl.size (by simp)) (fun g hg => (hown.lt g hg).1)
        rw [hsn.out] at hown4
        go_wp2_with fail
        go_roundw
        case rel => exact ⟨k + 1, v', by omega, by go_num, rfl, hown4, hB4⟩
        case measure => simp [intOf]; omega
      · obtain rfl : im = k := by omega
        have hlt' : ¬ (im : Int) < im := by omega
        obtain ⟨a7, k7, rfl⟩ := owns_form hown
        have HOL := Lib.hid hown
        have HSL : Hid (Slots wr (.slice a7 im k7) (slt z im)) := Lib.hid ⟨reads_lt (Reads.of_owns hown)⟩
        clear hj hown HZ HRV hlt
        by_cases hpe : pe = 0
        · subst hpe
          have JJ := HJ
          obtain ⟨c0, c1, c2, c3, c4, c5⟩ := mod_cells JJ.out.X
          have c6 := JJ.out.X.lt
          go_upto_region 9 with (first | (go_at_call 25; (with_reducible refine (CO.out _ JJ.out.B).mono ?_); rintro e w11 ⟨rfl, hb⟩; have JJ := Lib.hid (JJ.out.belowS hb); have HSL := Lib.hid (HSL.out.below hb); clear hb) | (go_at_call 24; (with_reducible refine (CT.out _).mono ?_); rintro e w12 ⟨rfl, hb⟩; have JJ := Lib.hid (JJ.out.belowS hb); have HSL := Lib.hid (HSL.out.below hb); clear hb))
          clear c0 c1 c2 c3 c4 c5 c6
          have hb := below_new w12 (.cells #[.int .u32 c, .int .u32 d] 48)
          have HPl := Lib.hid (Whole.new w12 48 #[.int .u32 c, .int .u32 d])
          have JJ := Lib.hid (JJ.out.belowS hb)
          have HSL := Lib.hid (HSL.out.below hb)
          clear hb
          generalize w12.alloc (.cells #[.int .u32 c, .int .u32 d] 48) = W3 at *
          obtain ⟨c0, c1, c2, c3, c4, c5⟩ := mod_cells JJ.out.X
          have c6 := JJ.out.X.lt
          obtain ⟨p0, p1⟩ := pl_cells HPl.out
          have p6 := HPl.out.lt
          go_upto_region 12 with (go_at_call 20; (with_reducible refine (CI.out _ JJ.out.B _ HSL.out).mono ?_); rintro e w13 ⟨q, rfl, hi13, hb⟩; have JJ := Lib.hid (JJ.out.belowS hb); have HQ := hi13.yes HI.out; rw [HNW.out] at HQ; have HQ := Lib.hid HQ; clear hi13 hb)
          clear c0 c1 c2 c3 c4 c5 c6 p0 p1 p6
          obtain ⟨a8, k8, rfl⟩ := owns_form HQ.out
          obtain ⟨c0, c1, c2, c3, c4, c5⟩ := mod_cells JJ.out.X
          have c6 := JJ.out.X.lt
          go_wp2_with (first | (go_at_call 25; (with_reducible refine (CO.out _ JJ.out.B).mono ?_); rintro e w14 ⟨rfl, hb⟩; have JJ := Lib.hid (JJ.out.belowS hb); have HQ := Lib.hid (owns_below HQ.out hb); obtain ⟨c0, c1, c2, c3, c4, c5⟩ := mod_cells JJ.out.X; have c6 := JJ.out.X.lt; clear hb) | (go_at_call 26; (with_reducible refine (CQ.out _).mono ?_); rintro e w15 ⟨rfl, hb⟩; have JJ := Lib.hid (JJ.out.belowS hb); have HQ := Lib.hid (owns_below HQ.out hb); obtain ⟨c0, c1, c2, c3, c4, c5⟩ := mod_cells JJ.out.X; have c6 := JJ.out.X.lt; clear hb))
          clear c0 c1 c2 c3 c4 c5 c6
          have JA := JJ
          clear JJ
          go_loopw [13] (fun i wr => ∃ k2 : Nat, k2 ≤ n ∧ i = .int .i64 (k2 : Int) ∧ Below w15.heap.size w15 wr) (fun i _ => n - (intOf i).toNat)
          case atStart => exact ⟨0, by omega, rfl, Below.refl _ _⟩
          case round =>
            obtain ⟨k2, hk2, rfl, hb2⟩ := hrel
            have hJ2 := JA.out.belowS hb2
            obtain ⟨c0, c1, c2, c3, c4, c5⟩ := mod_cells hJ2.X
            have c6 := hJ2.X.lt
            have HJ2 := Lib.hid hJ2
            have HQ2 := Lib.hid (owns_below HQ.out hb2)
            have HB2 := Lib.hid hb2
            clear hJ2 hb2
            by_cases hlt2 : k2 < n
            · have hlt2' : (k2 : Int) < n := by omega
              obtain ⟨⟨cd, a, ok⟩, hsp⟩ : ∃ q, spV cn dn (k2 : Int) = q := ⟨_, rfl⟩
              have CPk := CP.out _ HJ2.out.B k2 (by omega)
              rw [hsp] at CPk
              simp only at CPk
              have CPk := Lib.hid CPk
              have HSP := Lib.hid (show spV m.code.length m.data.length (k2 : Int) = (cd, a, ok) by rw [HW.out.1, HW.out.2]; exact hsp)
              clear hsp
              go_wp2_with (go_at_call 27; (with_reducible refine CPk.out.mono ?_); rintro e w16 ⟨rfl, hb⟩; have JSP := Lib.hid (HJ2.out.belowS hb); have HQ3 := Lib.hid (owns_below HQ2.out hb); have HB3 := Lib.hid (HB2.out.trans (hb.mono HB2.out.size)); clear hb)
              clear c0 c1 c2 c3 c4 c5 c6
              go_loopw [17, 18] (fun nm t wr3 => ∃ j : Nat, j ≤ rn ∧ t = .int .i64 (j : Int) ∧ nm = .bool (anyB m (k2 : Nat) j) ∧ Below w16.heap.size w16 wr3) (fun _ t _ => rn - (intOf t).toNat)
              case atStart => exact ⟨0, by omega, rfl, rfl, Below.refl _ _⟩
              case round =>
                obtain ⟨j, hj0, rfl, rfl, hb3⟩ := hrel
                have hJ3 := JSP.out.belowS hb3
                obtain ⟨c0, c1, c2, c3, c4, c5⟩ := mod_cells hJ3.X
                have c6 := hJ3.X.lt
                have HJ3 := Lib.hid hJ3
                have Hb3 := Lib.hid hb3
                by_cases hlt3 : j < rn
                · have hlt3' : (j : Int) < rn := by omega
                  obtain ⟨g, off, rfl, q1, e0, e1, e2⟩ := HRL.out.at hJ3.B hlt3
                  have hF := HF.out j hlt3
                  change (rl m j).kind < 256 ∧ (rl m j).at_ < 65536 ∧ (rl m j).wh < 65536 at hF
                  change wr.cell? _ = some (.int .u8 ((rl m j).kind : Int)) at e0
                  change wr.cell? _ = some (.int .u16 ((rl m j).at_ : Int)) at e1
                  change wr.cell? _ = some (.int .u16 ((rl m j).wh : Int)) at e2
                  clear hJ3 hb3
                  obtain ⟨⟨rk, rt, rw2⟩, hr⟩ : ∃ r, rl m j = r := ⟨_, rfl⟩
                  have hA := any_step HG.out (show j < m.rels.length by rw [HLR.out]; exact hlt3) hr HSP.out
                  rw [hr] at e0 e1 e2 hF
                  clear hr
                  obtain ⟨hF0, hF1, hF2⟩ := hF
                  simp only at e0 e1 e2 hF0 hF1 hF2
                  have hwr : IntKind.i64.wrap (rt : Int) = (rt : Int) := by rw [IntKind.wrap_i64]; omega
                  have hwr2 : wrap64 (rt : Int) = (rt : Int) := by unfold wrap64; omega
                  generalize anyB m (k2 : Nat) j = nb at *
                  rcases (show rk = 4 ∨ rk = 5 ∨ rk = 6 ∨ (rk ≠ 4 ∧ rk ≠ 5 ∧ rk ≠ 6) by omega) with rfl | rfl | rfl | hk3
                  · have hdb : dtB 4 = true := by decide
                    rw [hdb] at hA
                    cases nb with
                    | true =>
                      simp only [Bool.true_or] at hA
                      have HA := Lib.hid hA
                      clear hA
                      go_wp2_with fail
                      go_roundw
                      case rel => exact ⟨j + 1, by omega, by go_num, by rw [HA.out], Hb3.out⟩
                      case measure => simp [intOf]; omega
                    | false =>
                      cases ok with
                      | false =>
                        simp only [Bool.false_and, Bool.or_false] at hA
                        have HA := Lib.hid hA
                        clear hA
                        go_wp2_with fail
                        go_roundw
                        case rel => exact ⟨j + 1, by omega, by go_num, by rw [HA.out], Hb3.out⟩
                        case measure => simp [intOf]; omega
                      | true =>
                        by_cases h1 : (rt : Int) = a
                        · subst h1
                          cases cd with
                          | true =>
                            simp at hA
                            have HA := Lib.hid hA
                            clear hA
                            go_wp2_with fail
                            go_roundw
                            case rel => exact ⟨j + 1, by omega, by go_num, by rw [HA.out], Hb3.out⟩
                            case measure => simp [intOf]; omega
                          | false =>
                            simp at hA
                            have HA := Lib.hid hA
                            clear hA
                            go_wp2_with fail
                            go_roundw
                            case rel => exact ⟨j + 1, by omega, by go_num, by rw [HA.out], Hb3.out⟩
                            case measure => simp [intOf]; omega
                        · have h1t : decide ((rt : Int) = a) = false := decide_eq_false h1
                          rw [h1t] at hA
                          simp only [Bool.and_false, Bool.false_and, Bool.or_false] at hA
                          have h1b : ((rt : Int) == a) = false := by simpa using h1
                          have HA := Lib.hid hA
                          clear hA
                          go_wp2_with fail
                          go_roundw
                          case rel => exact ⟨j + 1, by omega, by go_num, by rw [HA.out], Hb3.out⟩
                          case measure => simp [intOf]; omega
                  · have hdb : dtB 5 = true := by decide
                    rw [hdb] at hA
                    cases nb with
                    | true =>
                      simp only [Bool.true_or] at hA
                      have HA := Lib.hid hA
                      clear hA
                      go_wp2_with fail
                      go_roundw
                      case rel => exact ⟨j + 1, by omega, by go_num, by rw [HA.out], Hb3.out⟩
                      case measure => simp [intOf]; omega
                    | false =>
                      cases ok with
                      | false =>
                        simp only [Bool.false_and, Bool.or_false] at hA
                        have HA := Lib.hid hA
                        clear hA
                        go_wp2_with fail
                        go_roundw
                        case rel => exact ⟨j + 1, by omega, by go_num, by rw [HA.out], Hb3.out⟩
                        case measure => simp [intOf]; omega
                      | true =>
                        by_cases h1 : (rt : Int) = a
                        · subst h1
                          cases cd with
                          | true =>
                            simp at hA
                            have HA := Lib.hid hA
                            clear hA
                            go_wp2_with fail
                            go_roundw
                            case rel => exact ⟨j + 1, by omega, by go_num, by rw [HA.out], Hb3.out⟩
                            case measure => simp [intOf]; omega
                          | false =>
                            simp at hA
                            have HA := Lib.hid hA
                            clear hA
                            go_wp2_with fail
                            go_roundw
                            case rel => exact ⟨j + 1, by omega, by go_num, by rw [HA.out], Hb3.out⟩
                            case measure => simp [intOf]; omega
                        · have h1t : decide ((rt : Int) = a) = false := decide_eq_false h1
                          rw [h1t] at hA
                          simp only [Bool.and_false, Bool.false_and, Bool.or_false] at hA
                          have h1b : ((rt : Int) == a) = false := by simpa using h1
                          have HA := Lib.hid hA
                          clear hA
                          go_wp2_with fail
                          go_roundw
                          case rel => exact ⟨j + 1, by omega, by go_num, by rw [HA.out], Hb3.out⟩
                          case measure => simp [intOf]; omega
                  · have hdb : dtB 6 = true := by decide
                    rw [hdb] at hA
                    cases nb with
                    | true =>
                      simp only [Bool.true_or] at hA
                      have HA := Lib.hid hA
                      clear hA
                      go_wp2_with fail
                      go_roundw
                      case rel => exact ⟨j + 1, by omega, by go_num, by rw [HA.out], Hb3.out⟩
                      case measure => simp [intOf]; omega
                    | false =>
                      cases ok with
                      | false =>
                        simp only [Bool.false_and, Bool.or_false] at hA
                        have HA := Lib.hid hA
                        clear hA
                        go_wp2_with fail
                        go_roundw
                        case rel => exact ⟨j + 1, by omega, by go_num, by rw [HA.out], Hb3.out⟩
                        case measure => simp [intOf]; omega
                      | true =>
                        by_cases h1 : (rt : Int) = a
                        · subst h1
                          cases cd with
                          | true =>
                            simp at hA
                            have HA := Lib.hid hA
                            clear hA
                            go_wp2_with fail
                            go_roundw
                            case rel => exact ⟨j + 1, by omega, by go_num, by rw [HA.out], Hb3.out⟩
                            case measure => simp [intOf]; omega
                          | false =>
                            simp at hA
                            have HA := Lib.hid hA
                            clear hA
                            go_wp2_with fail
                            go_roundw
                            case rel => exact ⟨j + 1, by omega, by go_num, by rw [HA.out], Hb3.out⟩
                            case measure => simp [intOf]; omega
                        · have h1t : decide ((rt : Int) = a) = false := decide_eq_false h1
                          rw [h1t] at hA
                          simp only [Bool.and_false, Bool.false_and, Bool.or_false] at hA
                          have h1b : ((rt : Int) == a) = false := by simpa using h1
                          have HA := Lib.hid hA
                          clear hA
                          go_wp2_with fail
                          go_roundw
                          case rel => exact ⟨j + 1, by omega, by go_num, by rw [HA.out], Hb3.out⟩
                          case measure => simp [intOf]; omega
                  · have hdb : dtB rk = false := decide_eq_false (by omega)
                    rw [hdb] at hA
                    have k4 : ((rk : Int) == 4) = false := by simp; omega
                    have k5 : ((rk : Int) == 5) = false := by simp; omega
                    have k6 : ((rk : Int) == 6) = false := by simp; omega
                    cases nb with
                    | true =>
                      simp only [Bool.true_or] at hA
                      have HA := Lib.hid hA
                      clear hA
                      go_wp2_with fail
                      go_roundw
                      case rel => exact ⟨j + 1, by omega, by go_num, by rw [HA.out], Hb3.out⟩
                      case measure => simp [intOf]; omega
                    | false =>
                      cases ok with
                      | false =>
                        simp only [Bool.false_and, Bool.or_false] at hA
                        have HA := Lib.hid hA
                        clear hA
                        go_wp2_with fail
                        go_roundw
                        case rel => exact ⟨j + 1, by omega, by go_num, by rw [HA.out], Hb3.out⟩
                        case measure => simp [intOf]; omega
                      | true =>
                        by_cases h1 : (rt : Int) = a
                        · subst h1
                          cases cd with
                          | true =>
                            simp at hA
                            have HA := Lib.hid hA
                            clear hA
                            go_wp2_with fail
                            go_roundw
                            case rel => exact ⟨j + 1, by omega, by go_num, by rw [HA.out], Hb3.out⟩
                            case measure => simp [intOf]; omega
                          | false =>
                            simp at hA
                            have HA := Lib.hid hA
                            clear hA
                            go_wp2_with fail
                            go_roundw
                            case rel => exact ⟨j + 1, by omega, by go_num, by rw [HA.out], Hb3.out⟩
                            case measure => simp [intOf]; omega
                        · have h1t : decide ((rt : Int) = a) = false := decide_eq_false h1
                          rw [h1t] at hA
                          simp only [Bool.and_false, Bool.false_and, Bool.or_false] at hA
                          have h1b : ((rt : Int) == a) = false := by simpa using h1
                          have HA := Lib.hid hA
                          clear hA
                          go_wp2_with fail
                          go_roundw
                          case rel => exact ⟨j + 1, by omega, by go_num, by rw [HA.out], Hb3.out⟩
                          case measure => simp [intOf]; omega
                · obtain rfl : rn = j := by omega
                  have hlt3' : ¬ (rn : Int) < rn := by omega
                  have hQ4 := owns_below HQ3.out hb3
                  clear hJ3 hb3 hlt3
                  generalize hnb : anyB m (k2 : Nat) rn = nb
                  cases nb with
                  | true =>
                    clear hnb hQ4
                    go_wp2_with fail
                    go_quiet (fail)
                    go_wp2_with fail
                    go_roundw
                    case rel => exact ⟨k2 + 1, by omega, by go_num, below_drewN (HB3.out.trans (Hb3.out.mono HB3.out.size)) _⟩
                    case measure => simp [intOf]; omega
                  | false =>
                    have hX := HN.out k2 (fun t ht => any_off.1 hnb t (by rw [HLR.out] at ht; exact ht))
                    have CRk := fun (u : World) (hb : Below w.heap.size w u) => CR.out u hb k2 (by omega)
                    have hY := HA.out k2 hlt2
                    rw [hX, Int.toNat_natCast] at hY
                    have hlen : k2 < (imgL m c d (slt z im)).length := by rw [HLn.out]; exact hlt2
                    obtain ⟨hxl, hform⟩ := hQ4
                    rcases hform with ⟨_, hN0⟩ | ⟨g8, cap, cur, hsl, hbg, hrow, hnc, hcm, hcs, htk⟩
                    · exfalso; omega
                    simp only [Value.slice.injEq, true_and] at hsl
                    obtain ⟨rfl, rfl⟩ := hsl
                    have hown : wr.ownsRow _ 46 1 (.slice (some ⟨g8, 0, none⟩) n k8) n _ := ⟨hxl, Or.inr ⟨g8, k8, cur, rfl, hbg, hrow, hnc, hcm, hcs, htk⟩⟩
                    have e8 := hown.cellAt k2 (by omega)
                    rw [words_at hlen, hY] at e8
                    have hgl := (Array.getElem?_eq_some_iff.1 hrow).1
                    have hnc' : (n : Int) ≤ k8 := by omega
                    have E8 := Lib.hid e8
                    have HGL := Lib.hid hgl
                    clear hnb hX hY hlen hxl hbg hrow hnc hcm hcs htk hown hgl e8
                    generalize rawV m.code m.data (k2 : Int) = y at *
                    have CRk := Lib.hid CRk
                    have b1 := HB3.out.trans (Hb3.out.mono HB3.out.size)
                    have BD := Lib.hid b1.drew
                    have HJ4 := Lib.hid (HJ3.out.belowS (Below.refl _ _).drew)
                    have E9 := Lib.hid (((Below.refl wr.heap.size wr).drew.cell (p := ⟨g8, k2, none⟩) HGL.out).trans E8.out)
                    have KK := And.intro (mod_cells HJ4.out.X) E9.out
                    have HGD : Hid (g8 < wr.drew.heap.size) := Lib.hid HGL.out
                    clear b1
                    go_wp2_with fail
                    clear c0 c1 c2 c3 c4 c5 c6
                    go_region_held3 (fun u => MC w.heap.size x ea en ec ia im ic ca cn cc da dn dc ra rn rc u ∧ u.cell? ⟨g8, k2, none⟩ = some (.int .u32 (y : Int)))
                      (first | with_reducible exact KK)
                      (first | (go_at_call 28; (with_reducible refine (CRk.out _ HJ4.out.B).mono ?_); rintro e w17 ⟨rfl, hb⟩; have KK := And.intro (mod_cells (HJ4.out.belowS hb).X) ((hb.cell (p := ⟨g8, k2, none⟩) HGD.out).trans E9.out); have B17 := Lib.hid hb; clear hb))
                    all_goals
                      rename_i hHeld
                      clear hHeld
                      go_wp2_with fail
                      go_roundw
                      case rel => exact ⟨k2 + 1, by omega, by go_num, BD.out.trans (B17.out.mono BD.out.size)⟩
                      case measure => simp [intOf]; omega
            · obtain rfl : n = k2 := by omega
              have hlt2' : ¬ (n : Int) < n := by omega
              go_wp2_with (first | (go_at_call 9; (with_reducible refine (AW.out.at _).mono ?_); rintro e w8 ⟨rfl, hb8⟩))
              go_ret
              exact ⟨rfl, HJ2.out.B.trans (hb8.mono HJ2.out.B.size)⟩
        · have hpe' : (pe != 0) = true := by simpa using hpe
          have JJ := HJ
          obtain ⟨c0, c1, c2, c3, c4, c5⟩ := mod_cells JJ.out.X
          have c6 := JJ.out.X.lt
          go_upto_region 9 with (first | (go_at_call 25; (with_reducible refine (CO.out _ JJ.out.B).mono ?_); rintro e w11 ⟨rfl, hb⟩; have JJ := Lib.hid (JJ.out.belowS hb); clear hb) | (go_at_call 24; (with_reducible refine (CT.out _).mono ?_); rintro e w12 ⟨rfl, hb⟩; have JJ := Lib.hid (JJ.out.belowS hb); clear hb))
          have JJ := Lib.hid (JJ.out.belowS (below_new w12 (.cells #[.int .u32 c, .int .u32 d] 48)))
          go_wp2_with (first | (go_at_call 9; (with_reducible refine (AW.out.at _).mono ?_); rintro e w8 ⟨rfl, hb8⟩))
          go_ret
          exact ⟨rfl, JJ.out.B.trans (hb8.mono JJ.out.B.size)⟩
  · have hcase : Hid ((2000 : Int) < (szF en [im, cn, dn, rn] : Nat) ∨ ¬ (2000 : Int) < (szF en [im, cn, dn, rn] : Nat) ∧ (VR.chkV m != 0) = true ∨ ¬ (2000 : Int) < (szF en [im, cn, dn, rn] : Nat) ∧ VR.chkV m = 0 ∧ (z.length : Int) < (im : Int)) := Lib.hid (by
      by_cases h1 : szF en [im, cn, dn, rn] ≤ 2000
      · by_cases h2 : VR.chkV m = 0
        · exact Or.inr (Or.inr ⟨by omega, h2, by omega⟩)
        · exact Or.inr (Or.inl ⟨by omega, by simpa using h2⟩)
      · exact Or.inl (by omega))
    clear h hf R hz l1 l2 l3 l4 l5 hall hff
    generalize ((szF en [im, cn, dn, rn] : Nat) : Int) = S at *
    generalize VR.chkV m = K at *
    generalize z.length = zn at *
    generalize bs m.name = x at *
    rcases hcase.out with hs | ⟨hs, hk⟩ | ⟨hs, rfl, hk⟩
    all_goals
      clear hcase
      go_enter Try.func6, Try.ntmps6
      go_upto_region 1 with fail
      generalize w.alloc (.cells (mCs x ea en ec ia im ic ca cn cc da dn dc ra rn rc) 45) = W at *
      have JJ := J0
      clear J0
      obtain ⟨c0, c1, c2, c3, c4, c5⟩ := mod_cells JJ.out.X
      have c6 := JJ.out.X.lt
      go_wp2_with (first | (go_at_call 16; (with_reducible refine (CS.out _ JJ.out.B).mono ?_); rintro e w9 ⟨rfl, hb⟩; have JJ := Lib.hid (JJ.out.belowS hb); obtain ⟨c0, c1, c2, c3, c4, c5⟩ := mod_cells JJ.out.X; have c6 := JJ.out.X.lt; clear hb) | (go_at_call 23; (with_reducible refine (CK.out _ JJ.out.B).mono ?_); rintro e w9 ⟨rfl, hb⟩; have JJ := Lib.hid (JJ.out.belowS hb); obtain ⟨c0, c1, c2, c3, c4, c5⟩ := mod_cells JJ.out.X; have c6 := JJ.out.X.lt; clear hb) | (go_at_call 9; (with_reducible refine (AW.out.at _).mono ?_); rintro e w8 ⟨rfl, hb8⟩))
      go_ret
      exact ⟨rfl, JJ.out.B.trans (hb8.mono JJ.out.B.size)⟩
end
end Go.Proofs.Ytajidaicojekdaa.WK
