/-
  The walk of MemorySlots. Nothing here is a statement of the seed.
-/
import Derived.Test.YtkmjacpcpchjoaaMemAct
import Derived.Deep.CutRange
set_option linter.unusedSimpArgs false
set_option linter.unusedVariables false
namespace Go.Proofs.Ytkmjacpcpchjoaa.WK
open Go.RowKit PM PR PF MM MR MF

theorem slot_math (M : Mm) (a ep : Int) (h : 0 ≤ a ∧ a < 64) : fetchW M a ep = slotW a ∧ fetchO M a ep = 0 ∧ fetchB M a ep = true ∧ loadW M a ep = slotW a ∧ loadB M a ep = true ∧ peek M a = slotW a ∧ putE M a = 11 ∧ putM M a 1 = M ∧ stoB M a ep 1 = false ∧ stoM M a 1 ep 1 = M := by
  have h1 : a < 64 := h.2
  have h2 : a < 80 := by omega
  have ht : thereB M a = false := by unfold thereB; rw [decide_eq_false_iff_not]; omega
  have hp : peek M a = slotW a := by unfold peek; rw [if_pos h1]
  have hf : fetchB M a ep = true := by simp [fetchB, h1]
  have hl : loadB M a ep = true := by simp [loadB, h2]
  have he : putE M a = 11 := by unfold putE; rw [ht]; rfl
  have hs : stoB M a ep 1 = false := by unfold stoB; rw [ht]; rfl
  refine ⟨by unfold fetchW; rw [hf, if_pos rfl, hp], by unfold fetchO; rw [if_pos h1], hf, by unfold loadW; rw [hl, if_pos rfl, hp], hl, hp, he, by unfold putM; rw [he, if_neg (by omega)], hs, by unfold stoM; rw [hs]; rfl⟩
set_option maxHeartbeats 1500000 in
set_option maxRecDepth 10000 in
theorem MemorySlots_walk (v : Value) (m : Nat) (k8 : Int) (hk8 : 0 ≤ k8 ∧ k8 ≤ 255) (ep : Int) (w : World) (hv : Acts w.heap.size w v m) : Calls Try.prog 6 #[v, .int .u8 k8, .int .u64 ep] w fun e w' => e = .returned (.bool true) ∧ Below w.heap.size w w' := by
  obtain ⟨a, cap, rfl, hmc, hcm, hacts⟩ := hv
  unfold maxLen at hcm
  have CA := Lib.hid (fun u => awake_any u)
  obtain ⟨hk80, hk81⟩ := hk8
  by_cases h100 : 40 < m
  · have h100' : (40 : Int) < m := by omega
    clear hacts
    go_enter Try.func6, Try.ntmps6
    go_wp2_with (go_at_call 9; (with_reducible refine (CA.out _).mono ?_); rintro e w1 ⟨rfl, hb⟩)
    go_ret
    exact ⟨rfl, hb⟩
  · have h100' : (m : Int) ≤ 40 := by omega
    have CN := Lib.hid (newP_any 8 w)
    have CM := Lib.hid (fun w => newR_any 8 w)
    rw [show (min (max (8 : Int) 0) 256).toNat = 8 from rfl] at CN CM
    generalize newM 8 = M0 at *
    have HA := Lib.hid hacts
    clear hacts
    go_enter Try.func6, Try.ntmps6
    go_wp2_with fail
    (go_at_call 10; (with_reducible refine CN.out.mono ?_); rintro e w1 ⟨p, t, g, gwp, rfl, hP, hp, ht, hg, hgwp, hb⟩; have HP := Lib.hid hP; have B1 := Lib.hid hb; clear hP hb)
    go_wp2_with fail
    (go_at_call 11; (with_reducible refine (CM.out _).mono ?_); rintro e w2 ⟨gr0, c0, gw0, d0, rfl, hR, h1, h2, hb2⟩; have D1 : Hid (Duo w p t g gwp w2.heap.size (w2.alloc (.cells (rCs M0.gt gr0 M0.pg.length c0 gw0 M0.ws.length d0) 33))) := Lib.hid ⟨_, _, _, _, _, duo_new HP.out hp ht hg hgwp B1.out hR h1 h2 hb2⟩; clear hR h1 h2 hb2)
    generalize M0.pg.length = n9 at *
    generalize M0.ws.length = m9 at *
    generalize M0.gt = G9 at *
    go_wp2_with fail
    generalize w2.alloc (.cells (rCs G9 gr0 n9 c0 gw0 m9 d0) 33) = w3 at *
    generalize w2.heap.size = R at *
    clear CN CM HP B1
    go_loopw [9] (fun i wr => ∃ k : Nat, k ≤ m ∧ i = .int .i64 (k : Int) ∧ Hid (Duo w p t g gwp R wr)) (fun i _ => m - (intOf i).toNat)
    case atStart => exact ⟨0, by omega, rfl, D1⟩
    case round =>
      obtain ⟨k, hk, rfl, hD⟩ := hrel
      obtain ⟨M, gr, c, gw, d, hO⟩ := hD.out
      have hk0 : (0 : Int) ≤ k := by omega
      by_cases hlt : k < m
      · have hlt' : (k : Int) < m := by omega
        rcases HA.out with h0 | ⟨ga, off, rfl, hga, hall⟩
        · omega
        · obtain ⟨x, hx, hat⟩ := hall k hlt
          have hat1 := hat.below hO.low hga
          unfold ActAt at hat1
          obtain ⟨x0, x1, x2, x3, x4, x5, x6⟩ := hat1
          obtain ⟨c0, c1, c2, c3, c4, c5, c6, c7, c8, c9⟩ := box_cells hO.box
          have CD := Lib.hid (duo_do hO x hx)
          clear hall hat hx hO
          generalize actM M x = M' at *
          generalize M.pg.length = n1 at *
          generalize M.ws.length = q1 at *
          generalize M.gt = G1 at *
          generalize hn2 : M'.pg.length = n2 at *
          generalize hm2 : M'.ws.length = q2 at *
          generalize hG2 : M'.gt = G2 at *
          have HN2 := Lib.hid hn2
          have HM2 := Lib.hid hm2
          have HG2 := Lib.hid hG2
          clear hn2 hm2 hG2
          go_upto_region 7 with fail
          go_region_with (go_at_call 13; (with_reducible refine CD.out.mono ?_); rintro en w4 ⟨gr', c', gw', d', rfl, hM⟩; obtain ⟨⟨v0, v1, v2, v3, v4, v5, v6, v7, v8, v9, e0, e1, e2, e3, e4, e5, e6, e7, e8, e9⟩, f0, f1, f2, f3, f4, f5, f6, f7, f8, f9⟩ := hM.open_; have HM := Lib.hid hM; clear hM)
          all_goals
            rw [putB_eq]
            have N5 : Hid (Duo w p t g gwp R (putB w4 R G2 gr' n2 c' gw' q2 d')) := by
              have e1 := HG2.out
              have e2 := HN2.out
              have e3 := HM2.out
              subst e1 e2 e3
              exact Lib.hid ⟨M', gr', c', gw', d', (duo_next HM.out).1⟩
            clear e0 e1 e2 e3 e4 e5 e6 e7 e8 e9 f0 f1 f2 f3 f4 f5 f6 f7 f8 f9 x0 x1 x2 x3 x4 x5 x6 c0 c1 c2 c3 c4 c5 c6 c7 c8 c9
            generalize putB w4 R G2 gr' n2 c' gw' q2 d' = w5 at *
            go_wp2_with fail
            go_roundw
            case rel => exact ⟨k + 1, by omega, by go_num, N5⟩
            case measure => simp [intOf]; omega
      · obtain rfl : k = m := by omega
        have ha : 0 ≤ k8 % 64 ∧ k8 % 64 < 64 := by omega
        have ha2 : 0 ≤ k8 % 64 ∧ k8 % 64 ≤ 4294967295 := by omega
        obtain ⟨z1, z2, z3, z4, z5, z6, z7, z8, z9, z10⟩ := slot_math M (k8 % 64) ep ha
        have CE := Lib.hid (refEnc_says (k8 % 64) ha)
        have F1 := Lib.hid (fun u hb => fetch_any (hO.pm.belowS (w' := u) hb) (k8 % 64) ep ha2)
        have L1 := Lib.hid (fun u hb => load_any (hO.pm.belowS (w' := u) hb) (k8 % 64) ep ha2)
        have P1 := Lib.hid (fun u hb => peek_any (hO.pm.belowS (w' := u) hb) (k8 % 64) ha2)
        have U1 := Lib.hid (fun u hb => put_any (hO.pm.belowS (w' := u) hb) (k8 % 64) 1 ha2)
        have S1 := Lib.hid (fun u hu => store_any (w := u) (M := M) (p := p) (t := t) (g := g) (gw := gwp) hu (k8 % 64) 1 ep 1 ha2)
        rw [z1, z2, z3] at F1
        rw [z4, z5] at L1
        rw [z6] at P1
        rw [z7, z8] at U1
        rw [z9, z10] at S1
        have HLow := Lib.hid hO.low
        have hbs := Lib.hid (And.intro hO.b1 (And.intro hO.b3 hO.b4))
        have hbr : Below wr.heap.size wr wr := Below.refl _ _
        clear hO hD z1 z2 z3 z4 z5 z6 z7 z8 z9 z10 ha2
        obtain ⟨ha0, ha1⟩ := ha
        have hq0 : k8 % 256 % 64 = k8 % 64 := by omega
        generalize slotW (k8 % 64) = s at *
        go_wp2_with (first | (go_at_call 29; (with_reducible refine (CE.out.at _).mono ?_); rintro e w4 ⟨rfl, hb4⟩) | (go_at_call 22; (with_reducible refine (F1.out _ hb4).mono ?_); rintro e w5 ⟨rfl, hb5⟩; have hB5 := below_of hb4 hb5) | (go_at_call 23; (with_reducible refine (L1.out _ hB5).mono ?_); rintro e w6 ⟨rfl, hb6⟩; have hB6 := below_of hB5 hb6) | (go_at_call 24; (with_reducible refine (P1.out _ hB6).mono ?_); rintro e w7 ⟨rfl, hb7⟩; have hB7 := below_of hB6 hb7) | (go_at_call 27; (with_reducible refine (U1.out _ hB7).mono ?_); rintro e w8 ⟨rfl, hF8, hP8⟩; have HP8 := Lib.hid hP8; clear hP8) | (go_at_call 26; (with_reducible refine (S1.out _ HP8.out).mono ?_); rintro e w9 ⟨rfl, hF9, hP9⟩; clear hP9) | (go_at_call 9; (with_reducible refine (CA.out _).mono ?_); rintro e w10 ⟨rfl, hb10⟩))
        go_ret
        obtain ⟨b1, b3, b4⟩ := hbs.out
        have L7 := below_of HLow.out hB7
        have L8 := PR.Below.fr L7 hF8 L7.size (by rintro i (rfl | rfl | rfl) <;> assumption)
        have L9 := PR.Below.fr L8 hF9 L8.size (by rintro i (rfl | rfl | rfl) <;> assumption)
        exact ⟨rfl, below_of L9 hb10⟩
end Go.Proofs.Ytkmjacpcpchjoaa.WK
