/-
  The walk of MemoryPlays. Nothing here is a statement of the seed.
-/
import Derived.Test.YtkmjacpcpchjoaaMemAct
import Derived.Deep.CutRange
set_option linter.unusedSimpArgs false
set_option linter.unusedVariables false
namespace Go.Proofs.Ytkmjacpcpchjoaa.WK
open Go.RowKit PM PR PF MM MR MF

/-- the variable's cells, and two of a call's -/
abbrev LS (R ga o : Nat) (xa xe : Int) (G : Nat → Int) (gr n c gw m d : Nat) (w : World) : Prop := RT R G gr n c gw m d w ∧ w.cell? ⟨ga, o + 1, none⟩ = some (.int .u32 xa) ∧ w.cell? ⟨ga, o + 6, none⟩ = some (.int .u64 xe)
theorem ls_go {w u : World} {R ga o : Nat} {xa xe : Int} {G : Nat → Int} {gr n c gw m d : Nat} (h : LS R ga o xa xe G gr n c gw m d w) (h1 : R < w.heap.size) (h2 : ga < w.heap.size) (hb : Below w.heap.size w u) : LS R ga o xa xe G gr n c gw m d u :=
  ⟨rt_go h.1 h1 hb, (hb.cell (p := ⟨ga, o + 1, none⟩) h2).trans h.2.1, (hb.cell (p := ⟨ga, o + 6, none⟩) h2).trans h.2.2⟩
set_option maxHeartbeats 4000000 in
set_option maxRecDepth 10000 in
theorem MemoryPlays_walk (n : Int) (hn : 0 ≤ n ∧ n ≤ 255) (v : Value) (m : Nat) (w : World) (hv : Acts w.heap.size w v m) : Calls Try.prog 3 #[.int .u8 n, v] w fun e w' => e = .returned (.bool true) ∧ Below w.heap.size w w' := by
  obtain ⟨a, cap, rfl, hmc, hcm, hacts⟩ := hv
  unfold maxLen at hcm
  obtain ⟨hn0, hn1⟩ := hn
  by_cases h100 : 40 < m
  · have h100' : (40 : Int) < m := by omega
    have CA := Lib.hid (awake_any w)
    clear hacts
    go_enter Try.func3, Try.ntmps3
    go_wp2_with (go_at_call 9; (with_reducible refine CA.out.mono ?_); rintro e w1 ⟨rfl, hb⟩)
    go_ret
    exact ⟨rfl, hb⟩
  · have h100' : (m : Int) ≤ 40 := by omega
    have CN := Lib.hid (newP_any (n % 41) w)
    have CM := Lib.hid (fun w => newR_any (n % 41) w)
    generalize newM (min (max (n % 41) 0) 256).toNat = M0 at *
    have HA := Lib.hid hacts
    clear hacts
    go_enter Try.func3, Try.ntmps3
    go_wp2_with fail
    (go_at_call 10; (with_reducible refine CN.out.mono ?_); rintro e w1 ⟨p, t, g, gwp, rfl, hP, hp, ht, hg, hgwp, hb⟩; have HP := Lib.hid hP; have B1 := Lib.hid hb; clear hP hb)
    go_wp2_with fail
    (go_at_call 11; (with_reducible refine (CM.out _).mono ?_); rintro e w2 ⟨gr, c, gw, d, rfl, hR, h1, h2, hb2⟩; have D1 := Lib.hid (duo_new HP.out hp ht hg hgwp B1.out hR h1 h2 hb2); clear hR h1 h2 hb2)
    have CS := Lib.hid (duo_same D1.out)
    obtain ⟨c0, c1, c2, c3, c4, c5, c6, c7, c8, c9⟩ := box_cells D1.out.box
    generalize hn9 : M0.pg.length = n9 at *
    generalize hm9 : M0.ws.length = m9 at *
    generalize hG9 : M0.gt = G9 at *
    go_wp2_with (go_at_call 12; (with_reducible refine CS.out.mono ?_); rintro e w3 ⟨rfl, hb3⟩)
    have D3 : Hid (Duo w p t g gwp w2.heap.size w3) := Lib.hid ⟨M0, gr, c, gw, d, by subst hn9 hm9 hG9; exact D1.out.belowS hb3⟩
    clear D1 CS c0 c1 c2 c3 c4 c5 c6 c7 c8 c9 hn9 hm9 hG9 hb3 CN CM HP B1
    generalize w2.heap.size = R at *
    go_loopw [8] (fun i wr => ∃ k : Nat, k ≤ m ∧ i = .int .i64 (k : Int) ∧ Hid (Duo w p t g gwp R wr)) (fun i _ => m - (intOf i).toNat)
    case atStart => exact ⟨0, by omega, rfl, D3⟩
    case round =>
      obtain ⟨k, hk, rfl, hD⟩ := hrel
      obtain ⟨M, gr, c, gw, d, hO⟩ := hD.out
      have HO := Lib.hid hO
      have hk0 : (0 : Int) ≤ k := by omega
      by_cases hlt : k < m
      · have hlt' : (k : Int) < m := by omega
        rcases HA.out with h0 | ⟨ga, off, rfl, hga, hall⟩
        · omega
        · obtain ⟨x, hx, hat⟩ := hall k hlt
          have HX := Lib.hid hx
          have HT := Lib.hid hat
          have hat1 := hat.below hO.low hga
          unfold ActAt at hat1
          obtain ⟨a0, a1, a2, a3, a4, a5, a6⟩ := hat1
          obtain ⟨c0, c1, c2, c3, c4, c5, c6, c7, c8, c9⟩ := box_cells hO.box
          have CD := Lib.hid (duo_do hO x hx)
          clear hall hat hx hO
          generalize actM M x = M' at *
          generalize M.pg.length = n1 at *
          generalize M.ws.length = m1 at *
          generalize M.gt = G1 at *
          generalize hn2 : M'.pg.length = n2 at *
          generalize hm2 : M'.ws.length = m2 at *
          generalize hG2 : M'.gt = G2 at *
          have HN2 := Lib.hid hn2
          have HM2 := Lib.hid hm2
          have HG2 := Lib.hid hG2
          clear hn2 hm2 hG2
          go_upto_region 10 with fail
          go_cut [7] from 29 to 73 (fun s7 wx => s7 = .bool true ∧ Hid (Duo w p t g gwp R wx))
          case first =>
            go_region_with (go_at_call 13; (with_reducible refine CD.out.mono ?_); rintro en w4 ⟨gr', c', gw', d', rfl, hM⟩; obtain ⟨⟨v0, v1, v2, v3, v4, v5, v6, v7, v8, v9, e0, e1, e2, e3, e4, e5, e6, e7, e8, e9⟩, f0, f1, f2, f3, f4, f5, f6, f7, f8, f9⟩ := hM.open_; have HM := Lib.hid hM; clear hM)
            all_goals
              rw [putB_eq]
              have N5 : Hid (Duo w p t g gwp R (putB w4 R G2 gr' n2 c' gw' m2 d')) := by
                have e1 := HG2.out
                have e2 := HN2.out
                have e3 := HM2.out
                subst e1 e2 e3
                exact Lib.hid ⟨M', gr', c', gw', d', (duo_next HM.out).1⟩
              clear e0 e1 e2 e3 e4 e5 e6 e7 e8 e9 f0 f1 f2 f3 f4 f5 f6 f7 f8 f9 a0 a1 a2 a3 a4 a5 a6 c0 c1 c2 c3 c4 c5 c6 c7 c8 c9
              generalize putB w4 R G2 gr' n2 c' gw' m2 d' = w5 at *
              go_wp2_with fail
              go_meet
              exact ⟨rfl, N5⟩
          case rest =>
          obtain ⟨rfl, HD5⟩ := hcut
          clear c0 c1 c2 c3 c4 c5 c6 c7 c8 c9 a0 a1 a2 a3 a4 a5 a6 CD HN2 HM2 HG2 HO hD
          obtain ⟨M5, gr5, c5, gw5, d5, hO5⟩ := HD5.out
          have HO5 := Lib.hid hO5
          have CL1 := Lib.hid (fun u hb => duo_looks (hO5.belowS (w' := u) hb) x.a x.e HX.out.a)
          have CL2 := Lib.hid (fun u hb => duo_looks (hO5.belowS (w' := u) hb) x.a 0 HX.out.a)
          have hat1 := HT.out.below hO5.low hga
          unfold ActAt at hat1
          have B5 := hO5.box
          have hRl := B5.lt
          have hgal : ga < wc.heap.size := Nat.lt_of_lt_of_le hga hO5.low.size
          obtain ⟨a0, a1, a2, a3, a4, a5, a6⟩ := hat1
          have K5 : LS R ga (off + k * 7) x.a x.e M5.gt gr5 M5.pg.length c5 gw5 M5.ws.length d5 wc := ⟨box_cells B5, a1, a6⟩
          clear hO5 a0 a1 a2 a3 a4 a5 a6 B5
          generalize M5.pg.length = n5 at *
          generalize M5.ws.length = m5 at *
          generalize M5.gt = G5 at *
          generalize x.a = xa at *
          generalize x.e = xe at *
          go_wp2_with fail
          have K5d : LS R ga (off + k * 7) xa xe G5 gr5 n5 c5 gw5 m5 d5 wc.drew := K5
          have hbd : Below wc.heap.size wc wc.drew := (Below.refl _ _).drew
          go_region_held3 (fun u => LS R ga (off + k * 7) xa xe G5 gr5 n5 c5 gw5 m5 d5 u)
            (first | with_reducible exact K5d | with_reducible exact K6 | with_reducible exact K7)
            (first | (go_at_call 14; (with_reducible refine (CL1.out _ hbd).mono ?_); rintro e w6 ⟨rfl, hb6⟩; have hB6 := below_of hbd hb6; have K6 := ls_go K5 hRl hgal hB6) | (go_at_call 14; (with_reducible refine (CL2.out _ hB6).mono ?_); rintro e w7 ⟨rfl, hb7⟩; have hB7 := below_of hB6 hb7; have K7 := ls_go K5 hRl hgal hB7))
          rename_i hHeld
          clear hHeld
          go_wp2_with fail
          go_roundw
          case rel => exact ⟨k + 1, by omega, by go_num, Lib.hid ⟨M5, gr5, c5, gw5, d5, HO5.out.belowS hB7⟩⟩
          case measure => simp [intOf]; omega
      · obtain rfl : k = m := by omega
        have CS := Lib.hid (duo_same hO)
        have CA := Lib.hid (fun u => awake_any u)
        obtain ⟨c0, c1, c2, c3, c4, c5, c6, c7, c8, c9⟩ := box_cells hO.box
        clear hO
        go_wp2_with (first | (go_at_call 12; (with_reducible refine CS.out.mono ?_); rintro e w6 ⟨rfl, hb6⟩) | (go_at_call 9; (with_reducible refine (CA.out _).mono ?_); rintro e w7 ⟨rfl, hb7⟩))
        go_ret
        exact ⟨rfl, below_of (below_of HO.out.low hb6) hb7⟩
end Go.Proofs.Ytkmjacpcpchjoaa.WK
