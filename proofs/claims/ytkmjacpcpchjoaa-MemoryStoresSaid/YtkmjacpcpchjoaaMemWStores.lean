/-
  The walk of MemoryStores. Nothing here is a statement of the seed.
-/
import Derived.Test.YtkmjacpcpchjoaaMemAct
import Derived.Test.YtkmjacpcpchjoaaMemMath
set_option linter.unusedSimpArgs false
set_option linter.unusedVariables false
namespace Go.Proofs.Ytkmjacpcpchjoaa.WK
open Go.RowKit PM PR PF MM MR MF

/-- two cells of a call, three of a page -/
abbrev PS (b P : Nat) (yw ow : Int) (u : World) : Prop := u.cell? ⟨b, 2, none⟩ = some (.int .u32 yw) ∧ u.cell? ⟨b, 5, none⟩ = some (.int .u16 ow) ∧ u.cell? ⟨P, 1, none⟩ = some (.bool false) ∧ u.cell? ⟨P, 2, none⟩ = some (.bool true) ∧ u.cell? ⟨P, 3, none⟩ = some (.int .u16 ow)
theorem ps_of {u : World} {b P : Nat} {k a yw pg nn ow ep st epp : Int} (h : Whole u b 41 (aCs k a yw pg nn ow ep)) (q : Whole u P 69 #[.int .u8 st, .bool false, .bool true, .int .u16 ow, .int .u64 epp]) : PS b P yw ow u := ⟨h.cell 2, h.cell 5, q.cell 1, q.cell 2, q.cell 3⟩
theorem ps_go {w u : World} {b P : Nat} {yw ow : Int} (h : PS b P yw ow w) (h1 : b < w.heap.size) (h2 : P < w.heap.size) (hb : Below w.heap.size w u) : PS b P yw ow u := by
  have c := fun i => hb.cell (p := ⟨b, i, none⟩) h1
  have d := fun i => hb.cell (p := ⟨P, i, none⟩) h2
  obtain ⟨x1, x2, x3, x4, x5⟩ := h
  exact ⟨(c _).trans x1, (c _).trans x2, (d _).trans x3, (d _).trans x4, (d _).trans x5⟩
set_option maxHeartbeats 4000000 in
set_option maxRecDepth 10000 in
theorem MemoryStores_walk (v : Value) (m : Nat) (y : MM.Ac) (hy : AOk y) (w : World) (hv : Acts w.heap.size w v m) : Calls Try.prog 7 #[v, .agg (aCs y.k y.a y.w y.p y.n y.o y.e)] w fun e w' => e = .returned (.bool true) ∧ Below w.heap.size w w' := by
  obtain ⟨a, cap, rfl, hmc, hcm, hacts⟩ := hv
  unfold maxLen at hcm
  have CA := Lib.hid (fun u => awake_any u)
  have hbw := below_new w (.cells (aCs y.k y.a y.w y.p y.n y.o y.e) 41)
  have BA := Whole.new w 41 (aCs y.k y.a y.w y.p y.n y.o y.e)
  by_cases h100 : 30 < m
  · have h100' : (30 : Int) < m := by omega
    clear hacts
    go_enter Try.func7, Try.ntmps7
    go_wp2_with (go_at_call 9; (with_reducible refine (CA.out _).mono ?_); rintro e w1 ⟨rfl, hb⟩)
    go_ret
    exact ⟨rfl, below_of hbw hb⟩
  · have h100' : (m : Int) ≤ 30 := by omega
    have CN := Lib.hid (fun w => newP_any 8 w)
    have CM := Lib.hid (fun w => newR_any 8 w)
    rw [show (min (max (8 : Int) 0) 256).toNat = 8 from rfl] at CN CM
    generalize newM 8 = M0 at *
    have HA := Lib.hid hacts
    clear hacts
    go_enter Try.func7, Try.ntmps7
    go_wp2_with fail
    generalize w.alloc (.cells (aCs y.k y.a y.w y.p y.n y.o y.e) 41) = W at *
    have hws : w.heap.size < W.heap.size := BA.lt
    have HBA := Lib.hid BA
    (go_at_call 10; (with_reducible refine (CN.out _).mono ?_); rintro e w1 ⟨p, t, g, gwp, rfl, hP, hp, ht, hg, hgwp, hb⟩; have HP := Lib.hid hP; have B1 := Lib.hid hb; clear hP hb)
    go_wp2_with fail
    (go_at_call 11; (with_reducible refine (CM.out _).mono ?_); rintro e w2 ⟨gr0, c0, gw0, d0, rfl, hR, h1, h2, hb2⟩; have D1 : Hid (Duo W p t g gwp w2.heap.size (w2.alloc (.cells (rCs M0.gt gr0 M0.pg.length c0 gw0 M0.ws.length d0) 33))) := Lib.hid ⟨_, _, _, _, _, duo_new HP.out hp ht hg hgwp B1.out hR h1 h2 hb2⟩; clear hR h1 h2 hb2)
    generalize M0.pg.length = n9 at *
    generalize M0.ws.length = m9 at *
    generalize M0.gt = G9 at *
    go_wp2_with fail
    generalize w2.alloc (.cells (rCs G9 gr0 n9 c0 gw0 m9 d0) 33) = w3 at *
    generalize w2.heap.size = R at *
    clear CN CM HP B1
    go_loopw [7] (fun i wr => ∃ k : Nat, k ≤ m ∧ i = .int .i64 (k : Int) ∧ Hid (Duo W p t g gwp R wr)) (fun i _ => m - (intOf i).toNat)
    case atStart => exact ⟨0, by omega, rfl, D1⟩
    case round =>
      obtain ⟨k, hk, rfl, hD⟩ := hrel
      obtain ⟨M, gr, c, gw, d, hO⟩ := hD.out
      have hk0 : (0 : Int) ≤ k := by omega
      by_cases hlt : k < m
      · have hlt' : (k : Int) < m := by omega
        rcases HA.out with h0 | ⟨ga, off, rfl, hga, hall⟩
        · omega
        · obtain ⟨x, hx, hat⟩ := hall k hlt
          have hat1 := (hat.below hbw hga).below hO.low (Nat.lt_trans hga hws)
          unfold ActAt at hat1
          obtain ⟨x0, x1, x2, x3, x4, x5, x6⟩ := hat1
          obtain ⟨c0, c1, c2, c3, c4, c5, c6, c7, c8, c9⟩ := box_cells hO.box
          have CD := Lib.hid (duo_do hO x hx)
          clear hall hat hx hO
          generalize actM M x = M' at *
          generalize M.pg.length = n1 at *
          generalize M.ws.length = q1 at *
          generalize M.gt = G1 at *
          generalize hn2 : M'.pg.length = n2 at *
          generalize hm2 : M'.ws.length = q2 at *
          generalize hG2 : M'.gt = G2 at *
          have HN2 := Lib.hid hn2
          have HM2 := Lib.hid hm2
          have HG2 := Lib.hid hG2
          clear hn2 hm2 hG2
          go_upto_region 7 with fail
          go_region_with (go_at_call 13; (with_reducible refine CD.out.mono ?_); rintro en w4 ⟨gr', c', gw', d', rfl, hM⟩; obtain ⟨⟨v0, v1, v2, v3, v4, v5, v6, v7, v8, v9, e0, e1, e2, e3, e4, e5, e6, e7, e8, e9⟩, f0, f1, f2, f3, f4, f5, f6, f7, f8, f9⟩ := hM.open_; have HM := Lib.hid hM; clear hM)
          all_goals
            rw [putB_eq]
            have N5 : Hid (Duo W p t g gwp R (putB w4 R G2 gr' n2 c' gw' q2 d')) := by
              have e1 := HG2.out
              have e2 := HN2.out
              have e3 := HM2.out
              subst e1 e2 e3
              exact Lib.hid ⟨M', gr', c', gw', d', (duo_next HM.out).1⟩
            clear e0 e1 e2 e3 e4 e5 e6 e7 e8 e9 f0 f1 f2 f3 f4 f5 f6 f7 f8 f9 x0 x1 x2 x3 x4 x5 x6 c0 c1 c2 c3 c4 c5 c6 c7 c8 c9
            generalize putB w4 R G2 gr' n2 c' gw' q2 d' = w5 at *
            go_wp2_with fail
            go_roundw
            case rel => exact ⟨k + 1, by omega, by go_num, N5⟩
            case measure => simp [intOf]; omega
      · obtain rfl : k = m := by omega
        have CF := Lib.hid (mfork_any hO.pm)
        have CS := Lib.hid (fun u hb => store_any (hO.pm.belowS (w' := u) hb) y.a y.w y.e y.o hy.a)
        have HO := Lib.hid hO
        have BAr := HBA.out.belowS hO.low
        have HBr := Lib.hid BAr
        clear hO hD BA
        go_wp2_with (go_at_call 21; (with_reducible refine CF.out.mono ?_); rintro e w5 ⟨pf, tf, gf, gwf, rfl, hPf, s1, s2, s3, s4, hb5⟩; have HPf := Lib.hid hPf; clear hPf; obtain ⟨x0, x1, x2, x3, x4, x5, x6⟩ := act_cells (HBr.out.belowS hb5))
        (go_at_call 26; (with_reducible refine (CS.out _ hb5).mono ?_); rintro e w6 ⟨rfl, hF6, hP6⟩)
        have hlt := HO.out.pm.lt
        have hpf : wr.heap.size ≤ pf ∧ wr.heap.size ≤ tf ∧ wr.heap.size ≤ gf ∧ wr.heap.size ≤ gwf := ⟨s1, s2, s3, s4⟩
        have HL6 := Lib.hid (PR.Below.fr (below_of HO.out.low hb5) hF6 (below_of HO.out.low hb5).size (by have := HO.out.b1; have := HO.out.b3; have := HO.out.b4; rintro i (rfl | rfl | rfl) <;> assumption))
        have hPf6 := HPf.out.fr hF6 (by rintro (h | h | h) <;> omega) (by rintro (h | h | h) <;> omega) (by rintro (h | h | h) <;> omega) (by rintro (h | h | h) <;> omega)
        have hD5 := HO.out.belowS hb5
        have hR6 := Rm.ms hD5.rm hD5.pm hD5.hgr hD5.hgw hF6
        have hn := hD5.ne
        have hX6 := hD5.box.fr hF6 (by rintro (h | h | h) <;> omega)
        have hwp := HO.out.b1
        have hwg := HO.out.b3
        have hwgp := HO.out.b4
        have hA6 := (HBr.out.belowS hb5).fr hF6 (by rintro (h | h | h) <;> omega)
        have ok := HO.out.pm.ok
        have e12 := stoM_pg M y.a y.w y.e y.o
        have SZ := Lib.hid (fun u hb => size_any (hP6.belowS (w' := u) hb))
        rw [e12.2] at SZ
        have PK1 := Lib.hid (fun u hb k hk => peek_any (hP6.belowS (w' := u) hb) k hk)
        have PK2 := Lib.hid (fun u hb k hk => peek_any (hPf6.belowS (w' := u) hb) k hk)
        have RS := Lib.hid (fun u hb => refStore_any (hR6.belowS (w' := u) hb) ok y.a y.w y.e y.o hy.a)
        have PG := Lib.hid (fun u hb => pages_any (hP6.belowS (w' := u) hb))
        have PO := Lib.hid (fun u => pageOf_any y.a hy.a u)
        have GT := Lib.hid (fun u hb => get_tb (hP6.belowS (w' := u) hb).tb (pageOf y.a))
        rw [show gP (stoM M y.a y.w y.e y.o).pg (pageOf y.a) = pageAt M y.a by rw [e12.1]; rfl] at GT
        have hRl := hX6.lt
        have hAl := hA6.lt
        have KR : RT R M.gt gr M.pg.length c gw M.ws.length d w6 := box_cells hX6
        have HA6 := Lib.hid hA6
        have hm6 : M.ws.length ≤ 4096 := by (have := ok.w16; have := ok.p256; omega)
        have hm7 : (M.ws.length : Int) ≤ 4096 := by omega
        have hm8 : (0 : Int) ≤ M.ws.length := by omega
        have HSP := Lib.hid (fun h => sto_page ok (a := y.a) (e := y.e) (o := y.o) h)
        have HS1 := Lib.hid (fun h ht => sto_at (M := M) (a := y.a) (e := y.e) (o := y.o) y.w h ht)
        have HS2 := Lib.hid (fun (k : Int) hne hk => sto_other (M := M) (a := y.a) (e := y.e) (o := y.o) (k := k) y.w hne hk hy.a.1)
        have HS3 := Lib.hid (fun (h : stoB M y.a y.e y.o = false) => congrArg peek (sto_no (M := M) (a := y.a) (e := y.e) (o := y.o) y.w h))
        have hya := hy.a
        unfold RTurn at RS
        clear hP6 hPf6 hD5 hR6 hX6 hA6 e12 hn hwp hwg hwgp hpf hlt hb5 hF6 CF CS HBr BAr HPf HO ok x0 x1 x2 x3 x4 x5 x6 hy s1 s2 s3 s4 HBA hp ht hg hgwp
        obtain ⟨hya0, hya1⟩ := hya
        generalize stoM M y.a y.w y.e y.o = M' at *
        generalize hsb : stoB M y.a y.e y.o = B at *
        generalize peek M = pk at *
        generalize peek M' = pk' at *
        generalize pageAt M y.a = q at *
        generalize thereB M y.a = bt at *
        generalize pageOf y.a = pa at *
        generalize y.k = yk at *
        generalize y.a = A at *
        generalize y.w = yw at *
        generalize y.p = yp at *
        generalize y.n = yn at *
        generalize y.o = yo at *
        generalize y.e = ye at *
        generalize M.pg.length = n1 at *
        generalize M.ws.length = q1 at *
        generalize M'.gt = G2 at *
        generalize M'.ws = ws2 at *
        generalize M.gt = G1 at *
        clear hsb
        cases B
        · have hM : pk' = pk := HS3.out rfl
          subst hM
          go_wp2_with fail
          go_loopw [10] (fun i wx => ∃ k : Nat, k ≤ 80 + q1 ∧ i = .int .i64 (k : Int) ∧ Below w6.heap.size w6 wx) (fun i _ => 80 + q1 - (intOf i).toNat)
          case atStart => exact ⟨0, by omega, rfl, Below.refl _ _⟩
          case round =>
            obtain ⟨k2, hk2, rfl, hbx⟩ := hrel
            have hk20 : (0 : Int) ≤ k2 := by omega
            by_cases hlt2 : k2 < 80 + q1
            · have hlt2' : (k2 : Int) < 80 + q1 := by omega
              have hw1 : IntKind.u32.wrap (k2 : Int) = k2 := wrap32_small _ hk20 (by omega)
              have P1k := Lib.hid (fun u hb => PK1.out u hb (k2 : Int) (by omega))
              have P2k := Lib.hid (fun u hb => PK2.out u hb (k2 : Int) (by omega))
              generalize pk' (k2 : Int) = z at *
              go_wp2_with (first | (go_at_call 17; (with_reducible refine (SZ.out _ hbx).mono ?_); rintro e w7 ⟨rfl, rfl⟩) | (go_at_call 24; (with_reducible refine (P1k.out _ hbx).mono ?_); rintro e w8 ⟨rfl, hb8⟩; have hB8 := below_of hbx hb8) | (go_at_call 24; (with_reducible refine (P2k.out _ hB8).mono ?_); rintro e w9 ⟨rfl, hb9⟩; have hB9 := below_of hB8 hb9))
              go_roundw
              case rel => exact ⟨k2 + 1, by omega, by go_num, hB9⟩
              case measure => simp [intOf]; omega
            · obtain rfl : k2 = 80 + q1 := by omega
              obtain ⟨c0, c1, c2, c3, c4, c5, c6, c7, c8, c9⟩ := rt_go KR hRl hbx
              obtain ⟨x0, x1, x2, x3, x4, x5, x6⟩ := act_cells (HA6.out.belowS hbx)
              go_wp2_with (first | (go_at_call 17; (with_reducible refine (SZ.out _ hbx).mono ?_); rintro e w7 ⟨rfl, rfl⟩) | (go_at_call 31; (with_reducible refine (RS.out _ hbx).mono ?_); rintro e w8 ⟨gw', d', rfl, hw8, hgw8, hd8, hd9, hb8⟩; have hB8 := below_of hbx hb8; clear hw8) | (go_at_call 9; (with_reducible refine (CA.out _).mono ?_); rintro e w9 ⟨rfl, hb9⟩))
              go_ret
              exact ⟨rfl, hbw.trans ((below_of (below_of (below_of HL6.out hB8) (below_new _ _)) hb9).mono hbw.size)⟩
        · obtain ⟨z1, z2, z3, z4⟩ := HSP.out rfl
          have hpA := HS1.out rfl z4
          obtain ⟨st, ex, wr9, ow, epp⟩ := q
          simp only at z1 z2 z3
          subst z1 z2 z3
          change Hid (∀ u, Below w6.heap.size w6 u → Calls _ _ _ u fun e w' => e = .returned (pgV st false true ow epp) ∧ _) at GT
          go_wp2_with fail
          go_loopw [10] (fun i wx => ∃ k : Nat, k ≤ 80 + q1 ∧ i = .int .i64 (k : Int) ∧ Below w6.heap.size w6 wx) (fun i _ => 80 + q1 - (intOf i).toNat)
          case atStart => exact ⟨0, by omega, rfl, Below.refl _ _⟩
          case round =>
            obtain ⟨k2, hk2, rfl, hbx⟩ := hrel
            have hk20 : (0 : Int) ≤ k2 := by omega
            by_cases hlt2 : k2 < 80 + q1
            · have hlt2' : (k2 : Int) < 80 + q1 := by omega
              have hw1 : IntKind.u32.wrap (k2 : Int) = k2 := wrap32_small _ hk20 (by omega)
              have P1k := Lib.hid (fun u hb => PK1.out u hb (k2 : Int) (by omega))
              have P2k := Lib.hid (fun u hb => PK2.out u hb (k2 : Int) (by omega))
              by_cases hA : (k2 : Int) = A
              · subst hA
                rw [hpA] at P1k
                obtain ⟨x0, x1, x2, x3, x4, x5, x6⟩ := act_cells (HA6.out.belowS hbx)
                go_upto_region 16 with (first | (go_at_call 17; (with_reducible refine (SZ.out _ hbx).mono ?_); rintro e w7 ⟨rfl, rfl⟩) | (go_at_call 19; (with_reducible refine (PG.out _ hbx).mono ?_); rintro e w7 ⟨rfl, rfl⟩) | (go_at_call 15; (with_reducible refine (PO.out _).mono ?_); rintro e w7 ⟨rfl, rfl⟩) | (go_at_call 30; (with_reducible refine (GT.out _ hbx).mono ?_); rintro e w8 ⟨rfl, hb8⟩; have hB8 := below_of hbx hb8))
                have KQ : PS w.heap.size w8.heap.size yw ow (w8.alloc (.cells #[.int .u8 st, .bool false, .bool true, .int .u16 ow, .int .u64 epp] 69)) := ps_of ((HA6.out.belowS hB8).alloc _) (Whole.new _ _ _)
                have hl9 : w.heap.size < (w8.alloc (.cells #[.int .u8 st, .bool false, .bool true, .int .u16 ow, .int .u64 epp] 69)).heap.size := ((HA6.out.belowS hB8).alloc (.cells #[.int .u8 st, .bool false, .bool true, .int .u16 ow, .int .u64 epp] 69)).lt
                have hl8 : w8.heap.size < (w8.alloc (.cells #[.int .u8 st, .bool false, .bool true, .int .u16 ow, .int .u64 epp] 69)).heap.size := by simp
                have hB9 := below_of hB8 (below_new w8 (.cells #[.int .u8 st, .bool false, .bool true, .int .u16 ow, .int .u64 epp] 69))
                clear x0 x1 x2 x3 x4 x5 x6
                have HL9 := Lib.hid hl9
                have HL8 := Lib.hid hl8
                clear hl9 hl8
                generalize w8.alloc (.cells #[.int .u8 st, .bool false, .bool true, .int .u16 ow, .int .u64 epp] 69) = W9 at *
                generalize w8.heap.size = P at *
                have hl9 := HL9.out
                have hl8 := HL8.out
                have KQd : PS w.heap.size P yw ow W9.drew := KQ
                have hB9d := hB9.drew
                go_region_held3 (fun u => PS w.heap.size P yw ow u)
                  (first | with_reducible exact KQd | with_reducible exact KQ2)
                  (first | (go_at_call 24; (with_reducible refine (P1k.out _ hB9d).mono ?_); rintro e w10 ⟨rfl, hb10⟩; have hB10 := below_of hB9d hb10; have KQ2 := ps_go KQ hl9 hl8 (below_drew_next hb10)))
                rename_i hHeld
                clear hHeld
                go_wp2_with fail
                go_roundw
                case rel => exact ⟨k2 + 1, by omega, by go_num, hB10⟩
                case measure => simp [intOf]; omega
              · have hA' : ((k2 : Int) == A) = false := by simpa using hA
                have hne := HS2.out (k2 : Int) hA hk20
                rw [hne] at P1k
                generalize pk (k2 : Int) = z at *
                obtain ⟨x0, x1, x2, x3, x4, x5, x6⟩ := act_cells (HA6.out.belowS hbx)
                clear hA
                go_wp2_with (first | (go_at_call 17; (with_reducible refine (SZ.out _ hbx).mono ?_); rintro e w7 ⟨rfl, rfl⟩) | (go_at_call 24; (with_reducible refine (P1k.out _ hbx).mono ?_); rintro e w8 ⟨rfl, hb8⟩; have hB8 := below_of hbx hb8) | (go_at_call 24; (with_reducible refine (P2k.out _ hB8).mono ?_); rintro e w9 ⟨rfl, hb9⟩; have hB9 := below_of hB8 hb9))
                go_roundw
                case rel => exact ⟨k2 + 1, by omega, by go_num, hB9⟩
                case measure => simp [intOf]; omega
            · obtain rfl : k2 = 80 + q1 := by omega
              obtain ⟨c0, c1, c2, c3, c4, c5, c6, c7, c8, c9⟩ := rt_go KR hRl hbx
              obtain ⟨x0, x1, x2, x3, x4, x5, x6⟩ := act_cells (HA6.out.belowS hbx)
              go_wp2_with (first | (go_at_call 17; (with_reducible refine (SZ.out _ hbx).mono ?_); rintro e w7 ⟨rfl, rfl⟩) | (go_at_call 31; (with_reducible refine (RS.out _ hbx).mono ?_); rintro e w8 ⟨gw', d', rfl, hw8, hgw8, hd8, hd9, hb8⟩; have hB8 := below_of hbx hb8; clear hw8) | (go_at_call 9; (with_reducible refine (CA.out _).mono ?_); rintro e w9 ⟨rfl, hb9⟩))
              go_ret
              exact ⟨rfl, hbw.trans ((below_of (below_of (below_of HL6.out hB8) (below_new _ _)) hb9).mono hbw.size)⟩
end Go.Proofs.Ytkmjacpcpchjoaa.WK
