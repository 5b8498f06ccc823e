/-
  Every call of a module that may be loaded is named: the walk of ValidCalls. Nothing here is a statement of the seed.
-/
import Derived.Test.YtdfafllldanfiaaValOne
set_option linter.unusedSimpArgs false
set_option linter.unusedVariables false
namespace Go.Proofs.Ytdfafllldanfiaa.WK
open Go.RowKit WM NR OM OR VM VR
set_option maxHeartbeats 4000000
set_option maxRecDepth 10000
section
variable {w : World} {ea : Option Addr} {en ec : Nat} {ia : Option Addr} {im ic : Nat} {ca : Option Addr} {cn cc : Nat} {da : Option Addr} {dn dc : Nat} {ra : Option Addr} {rn rc : Nat} {m : Md}
theorem ValidCalls_walk (h : RdM (· < w.heap.size) w ea en ec ia im ic ca cn cc da dn dc ra rn rc m) (hf : FineM m) :
    Calls Try.prog 4 #[mV (bs m.name) ea en ec ia im ic ca cn cc da dn dc ra rn rc] w fun e w' => e = .returned (.bool true) ∧ Below w.heap.size w w' := by
  have J0 := Lib.hid (BJ.new w (mCs (bs m.name) ea en ec ia im ic ca cn cc da dn dc ra rn rc))
  have S1 := Lib.hid (fun (u : World) (hb : Below w.heap.size w u) => size_any (h.go hb hb.size))
  have K1 := Lib.hid (fun (u : World) (hb : Below w.heap.size w u) => vcheck_any (h.go hb hb.size) hf)
  have AW := Lib.hid (fun (u : World) => awake_any u)
  by_cases z1 : szF en [im, cn, dn, rn] ≤ 2000
  case neg =>
    have z1' : (2000 : Int) < (szF en [im, cn, dn, rn] : Nat) := by omega
    clear z1 K1 h hf
    generalize bs m.name = x at *
    generalize ((szF en [im, cn, dn, rn] : Nat) : Int) = s1 at *
    go_enter Try.func4, Try.ntmps4
    go_upto_region 1 with fail
    generalize w.alloc (.cells (mCs x ea en ec ia im ic ca cn cc da dn dc ra rn rc) 26) = W0 at *
    obtain ⟨c0, c1, c2, c3, c4, c5⟩ := mod_cells J0.out.X
    have c6 := J0.out.X.lt
    go_wp2_with (first | (go_at_call 8; (with_reducible refine (S1.out _ J0.out.B).mono ?_); rintro e w1 ⟨rfl, hb⟩; have J1 := Lib.hid (J0.out.belowS hb); clear hb) | (go_at_call 9; (with_reducible refine (AW.out _).mono ?_); rintro e w2 ⟨rfl, hb⟩; have J2 := Lib.hid (J1.out.belowS hb); clear hb))
    go_ret
    exact ⟨rfl, J2.out.B⟩
  have z1' : ((szF en [im, cn, dn, rn] : Nat) : Int) ≤ 2000 := by omega
  clear z1
  by_cases hk : chkV m = 0
  case neg =>
    have hk2 : (chkV m != 0) = true := by simpa using hk
    clear h hf
    generalize chkV m = q at *
    generalize bs m.name = x at *
    generalize ((szF en [im, cn, dn, rn] : Nat) : Int) = s1 at *
    go_enter Try.func4, Try.ntmps4
    go_upto_region 1 with fail
    generalize w.alloc (.cells (mCs x ea en ec ia im ic ca cn cc da dn dc ra rn rc) 26) = W0 at *
    obtain ⟨c0, c1, c2, c3, c4, c5⟩ := mod_cells J0.out.X
    have c6 := J0.out.X.lt
    go_wp2_with (first | (go_at_call 8; (with_reducible refine (S1.out _ J0.out.B).mono ?_); rintro e w1 ⟨rfl, hb⟩; have J1 := Lib.hid (J0.out.belowS hb); obtain ⟨d0, d1, d2, d3, d4, d5⟩ := mod_cells J1.out.X; have d6 := J1.out.X.lt; clear hb) | (go_at_call 12; (with_reducible refine (K1.out _ J1.out.B).mono ?_); rintro e w2 ⟨rfl, hb⟩; have J2 := Lib.hid (J1.out.belowS hb); clear hb) | (go_at_call 9; (with_reducible refine (AW.out _).mono ?_); rintro e w3 ⟨rfl, hb⟩; have J3 := Lib.hid (J2.out.belowS hb); clear hb))
    go_ret
    exact ⟨rfl, J3.out.B⟩
  have hg := chk_good hk
  rw [hk] at K1
  clear hk
  obtain ⟨l1, l2, l3, l4, l5⟩ := h.lens
  obtain ⟨⟨y1, _, y3, y4, y5⟩, _, _, _, _⟩ := chk_ok hg.ck
  have HR := Lib.hid h.rl
  have HCD := Lib.hid h.cd
  have HDT := Lib.hid h.dt
  have HF := Lib.hid (fun (k : Nat) (hk : k < rn) => hf.rels _ (mem_getD (l := m.rels) (d := ⟨0, 0, 0⟩) (i := k) (by omega)))
  have HX := Lib.hid (fun (k : Nat) (hk : k < cn) => hf.code _ (mem_getD (l := m.code) (d := 0) (i := k) (by omega)))
  have HG := Lib.hid hg
  have hrn : (rn : Int) ≤ 256 := by omega
  have hcn : (cn : Int) ≤ 512 := by omega
  have hdn : (dn : Int) ≤ 128 := by omega
  have hen : (en : Int) ≤ cn := by have := hg.cx; omega
  have hc0 : (0 : Int) < cn := by have := hg.c0; omega
  have hrc : (rn : Int) ≤ rc := by have := h.rl.len.2.1; omega
  have hcc : (cn : Int) ≤ cc := by have := (reads_len h.cd).2.1; omega
  have hdc : (dn : Int) ≤ dc := by have := (reads_len h.dt).2.1; omega
  have HL := Lib.hid (And.intro l3 (And.intro l4 l5))
  have hmm := @run_makeMap Try.prog
  have hrnM := Lib.hid (show rn ≤ maxLen by unfold maxLen; omega)
  clear h hf hg l1 l2 l3 l4 l5 y1 y3 y4 y5
  generalize bs m.name = x at *
  generalize ((szF en [im, cn, dn, rn] : Nat) : Int) = s1 at *
  go_enter Try.func4, Try.ntmps4
  go_upto_region 1 with fail
  generalize w.alloc (.cells (mCs x ea en ec ia im ic ca cn cc da dn dc ra rn rc) 26) = W0 at *
  obtain ⟨c0, c1, c2, c3, c4, c5⟩ := mod_cells J0.out.X
  have c6 := J0.out.X.lt
  go_upto_region 4 with (first | (go_at_call 8; (with_reducible refine (S1.out _ J0.out.B).mono ?_); rintro e w1 ⟨rfl, hb⟩; have J1 := Lib.hid (J0.out.belowS hb); obtain ⟨d0, d1, d2, d3, d4, d5⟩ := mod_cells J1.out.X; have d6 := J1.out.X.lt; clear hb) | (go_at_call 12; (with_reducible refine (K1.out _ J1.out.B).mono ?_); rintro e w2 ⟨rfl, hb⟩; have J2 := Lib.hid (J1.out.belowS hb); clear hb))
  clear c0 c1 c2 c3 c4 c5 c6 d0 d1 d2 d3 d4 d5 d6 J0 J1 S1 K1 hmm
  go_wp2_with fail
  go_loopw [4] (fun i wr => ∃ k : Nat, k ≤ rn ∧ i = .int .i64 (k : Int) ∧ Hid (MapB wr w2.heap.size k (fB m k)) ∧ Below w2.heap.size w2 wr) (fun i _ => rn - (intOf i).toNat)
  case atStart => exact ⟨0, by omega, rfl, Lib.hid (MapB.made w2), below_new w2 _⟩
  case round =>
    obtain ⟨k, hk, rfl, hm, hbl⟩ := hrel
    have Jr := Lib.hid (J2.out.belowS hbl)
    obtain ⟨c0, c1, c2, c3, c4, c5⟩ := mod_cells Jr.out.X
    have c6 := Jr.out.X.lt
    by_cases hlt : k < rn
    · have hlt' : (k : Int) < rn := by omega
      have hkl : k < m.rels.length := by rw [HL.out.2.2]; exact hlt
      obtain ⟨g, off, rfl, q1, e0, e1, e2⟩ := HR.out.at Jr.out.B hlt
      have hF := HF.out k hlt
      have h7 := kinds_7 HG.out.ck hkl
      have hP := (placeB_no.1 (HG.out.pl k hkl)).1
      have hK := kindB_no.1 (HG.out.kd k hkl)
      have hS := Lib.hid (fun h => fB_skip (m := m) (k := k) h)
      have hU := Lib.hid (fun h => fB_put (m := m) (k := k) h)
      have hN := Lib.hid (fun h => fB_new HG.out hkl h)
      change _ ∧ (rl m k).at_ < 65536 ∧ (rl m k).wh < 65536 at hF
      change wr.cell? _ = some (.int .u8 ((rl m k).kind : Int)) at e0
      change wr.cell? _ = some (.int .u16 ((rl m k).at_ : Int)) at e1
      change wr.cell? _ = some (.int .u16 ((rl m k).wh : Int)) at e2
      rw [HL.out.1, HL.out.2.1] at hP
      obtain ⟨_, hF1, hF2⟩ := hF
      generalize rl m k = r at *
      obtain ⟨rk, rt, rw2⟩ := r
      simp only at e0 e1 e2 hP hK hF1 hF2 h7 hS hU hN
      have hwr : IntKind.i64.wrap (rt : Int) = rt := by rw [IntKind.wrap_i64]; omega
      by_cases hi : inC rk = true
      case pos =>
        rw [if_pos hi] at hP hK
        have a4 : (rk : Int) ≠ 4 := fun e => by have : rk = 4 := by omega
                                                subst this; simp [inC] at hi
        have a5 : (rk : Int) ≠ 5 := fun e => by have : rk = 5 := by omega
                                                subst this; simp [inC] at hi
        have a6 : (rk : Int) ≠ 6 := fun e => by have : rk = 6 := by omega
                                                subst this; simp [inC] at hi
        have hP' : ¬ (cn : Int) ≤ (rt : Int) := by omega
        have hrt : -9223372036854775808 ≤ (rt : Int) ∧ (rt : Int) ≤ 9223372036854775807 := by omega
        have hm0 := Lib.hid (hm.out.belowS (below_new wr (.cells #[.int .u8 (rk : Int), .int .u16 (rt : Int), .int .u16 (rw2 : Int)] 38)))
        have L := hm0.out.look (rt : Int) hrt
        rw [hN.out hi] at L
        obtain ⟨w3, R3, hm3, hg3⟩ := hm0.out.put (by have := hrnM.out; omega) (rt : Int) hrt true
        have HM3 := Lib.hid (hm3.as (hU.out hi))
        have hB0 := hbl.alloc hbl.size (.cells #[.int .u8 (rk : Int), .int .u16 (rt : Int), .int .u16 (rw2 : Int)] 38)
        have hB3 := Lib.hid (below_then hB0 hg3 (Nat.le_refl _) hB0.size)
        clear hm3 hg3 hB0 hS hU hN hP hK hF1 hF2 h7 hi hrt hkl
        generalize (rk : Int) = y0 at *
        generalize (rt : Int) = y1 at *
        generalize (rw2 : Int) = y2 at *
        go_wp2_with fail
        go_roundw
        case rel => exact ⟨k + 1, by omega, by go_num, HM3, hB3.out⟩
        case measure => simp [intOf]; omega
      case neg =>
        rw [if_neg hi] at hP hK
        have hi2 : inC rk = false := by simpa using hi
        have hP' : (rt : Int) < dn := by omega
        have hP'' : ¬ (dn : Int) ≤ (rt : Int) := by omega
        have hrt0 : (0 : Int) ≤ rt := by omega
        obtain ⟨g2, off2, rfl, q2, f1⟩ := reads_at HDT.out Jr.out.B hP
        rw [words_at (by rw [HL.out.2.1]; exact hP), hK] at f1
        have HM3 := Lib.hid ((hm.out.mono (Nat.le_succ k)).as (hS.out hi2))
        have hk456 : rk = 4 ∨ rk = 5 ∨ rk = 6 := by
          have := hi2
          unfold inC at this
          rw [decide_eq_false_iff_not] at this
          omega
        have hgz : g2 < wr.heap.size := World.block_lt_of_cell? wr _ f1
        have hgne : g2 ≠ wr.heap.size := by omega
        have hgz2 : g2 < wr.heap.size + 1 := by omega
        have hm4 := Lib.hid (HM3.out.belowS (below_new wr (.cells #[.int .u8 (rk : Int), .int .u16 (rt : Int), .int .u16 (rw2 : Int)] 38)))
        have hB0 := Lib.hid (hbl.alloc hbl.size (.cells #[.int .u8 (rk : Int), .int .u16 (rt : Int), .int .u16 (rw2 : Int)] 38))
        clear hS hU hN hP hK hF1 hF2 h7 hi hi2 hkl HM3
        rcases hk456 with rfl | rfl | rfl
        all_goals
          generalize (rw2 : Int) = y2 at *
          go_wp2_with fail
          go_roundw
          case rel => exact ⟨k + 1, by omega, by go_num, hm4, hB0.out⟩
          case measure => simp [intOf]; omega
    · obtain rfl : k = rn := by omega
      clear HR
      go_wp2_with fail
      go_loopw [6] (fun i wr2 => ∃ j : Nat, j ≤ cn ∧ i = .int .i64 (j : Int) ∧ Below wr.heap.size wr wr2) (fun i _ => cn - (intOf i).toNat)
      case atStart => exact ⟨0, by omega, rfl, Below.refl _ _⟩
      case round =>
        clear c0 c1 c2 c3 c4 c5 c6
        obtain ⟨j, hj, rfl, hbl2⟩ := hrel
        have Js := Lib.hid (Jr.out.belowS hbl2)
        obtain ⟨c0, c1, c2, c3, c4, c5⟩ := mod_cells Js.out.X
        have c6 := Js.out.X.lt
        by_cases hlt : j < cn
        · have hlt' : (j : Int) < cn := by omega
          have hjl : j < m.code.length := by rw [HL.out.1]; exact hlt
          obtain ⟨g, off, rfl, q1, e1⟩ := reads_at HCD.out Js.out.B hlt
          rw [words_at hjl] at e1
          obtain ⟨o, xd, xa, xb, xm, xe, C0, ho, hxm, he⟩ := dec_parts ((m.code.getD j 0 : Nat) : Int) (by have := HX.out j hlt; omega)
          have hw := wordB_no.1 (HG.out.wd j hjl)
          have he0 : xe = 0 := by
            rcases he with he | he
            · exact he.1
            · rw [hw.1] at he
              exact absurd he.2 (by simp)
          subst he0
          have h21 : o ≠ 21 := by rw [ho]; exact hw.2
          have CD := Lib.hid C0
          have L := (hm.out.belowS hbl2).look (j : Int) (by omega)
          have h17 : o = 17 → fB m k (j : Int) = true := fun h => by
            have := fB_call HG.out hjl (by rw [← ho]; exact h)
            rwa [HL.out.2.2] at this
          clear C0 he hw ho hxm
          generalize ((m.code.getD j 0 : Nat) : Int) = y at *
          by_cases h1 : o = 17
          · rw [h17 h1] at L
            subst h1
            have HJ := Lib.hid (h17 rfl)
            clear h17 h21 hjl L
            go_wp2_with (go_at_call 13; (with_reducible refine (CD.out.at _).mono ?_); rintro e w4 ⟨rfl, hb4⟩; have L4 := ((hm.out.belowS hbl2).belowS (hb4.alloc hb4.size (.cells #[.int .u8 17, .int .u8 xd, .int .u8 xa, .int .u8 xb, .int .i32 xm] 42))).look (j : Int) (by omega); rw [HJ.out] at L4)
            go_roundw
            case rel => exact ⟨j + 1, by omega, by go_num, hbl2.trans ((hb4.alloc hb4.size _).mono hbl2.size)⟩
            case measure => simp [intOf]; omega
          · clear h17 hjl L
            go_wp2_with (go_at_call 13; (with_reducible refine (CD.out.at _).mono ?_); rintro e w4 ⟨rfl, hb4⟩)
            go_roundw
            case rel => exact ⟨j + 1, by omega, by go_num, hbl2.trans ((hb4.alloc hb4.size _).mono hbl2.size)⟩
            case measure => simp [intOf]; omega
        · obtain rfl : j = cn := by omega
          go_wp2_with (go_at_call 9; (with_reducible refine (AW.out _).mono ?_); rintro e w5 ⟨rfl, hb5⟩; have J5 := Lib.hid (Js.out.belowS hb5); clear hb5)
          go_ret
          exact ⟨rfl, J5.out.B⟩
end
end Go.Proofs.Ytdfafllldanfiaa.WK
