/-
  The two memories of a trial, laid and turned by the law's own hand. Nothing here is a statement of the seed.
-/
import Derived.Test.YtihcellcdkhadaaGreatHartDB
import Derived.Deep.CutRange
import Derived.Deep.RegionWith
import Derived.BigRegion
set_option linter.unusedSimpArgs false
set_option linter.unusedVariables false
namespace Go.Proofs.YtihcellcdkhadaaGreat.HF
open Go.RowKit PM PR PF MM MR MF HM HR
set_option maxHeartbeats 16000000
set_option maxRecDepth 10000
theorem made_any {w : World} {ca : Option Addr} {cn cc : Nat} {code : List Int} {da : Option Addr} {dn dc : Nat} {data : List Int} (hc : Rs w.heap.size w ca cn cc code) (hd : Rs w.heap.size w da dn dc data) (gate : Int) (ret : Bool) :
    Calls Tryz.prog 6 #[.agg (ldCs ca cn cc da dn dc gate ret)] w (Made (landM code data gate ret) w) := by
  obtain ⟨hb0, hs0, LX0, ZX0⟩ := mdW_facts w (ldCs ca cn cc da dn dc gate ret)
  have LX := Lib.hid LX0
  have ZX := Lib.hid ZX0
  have BW := Lib.hid hb0
  have HS0 := Lib.hid hs0
  have RX0 := Lib.hid hc
  have RX64 := Lib.hid hd
  have hcm := hc.len
  have hdm := hd.len
  unfold maxLen at hcm hdm
  have hcm1 : (cn : Int) ≤ 9223372036854775807 := by omega
  have hdm1 : (dn : Int) ≤ 9223372036854775807 := by omega
  have CN := Lib.hid (fun u => newP8 u)
  have CM := Lib.hid (fun u => newR8 u)
  have DN := Lib.hid (fun (w1 w2 : World) (p t g gwp gr c gw d : Nat) => @db_new w w1 w2 (ldCs ca cn cc da dn dc gate ret) p t g gwp gr c gw d)
  have hw0 : (List.replicate 128 (0 : Int)).length = 128 := rfl
  have hF0 : lay (List.replicate 128 0) (0 + 0) ((code.take 64).drop 0) = lay (List.replicate 128 0) 0 (code.take 64) := rfl
  have hF64 : landW code data = lay (lay (List.replicate 128 0) 0 (code.take 64)) 64 (data.take 32) := rfl
  have hM : landM code data gate ret = ⟨landG gate, if ret then bL3 else bL2, landW code data⟩ := rfl
  rw [hM]
  generalize hLz : (if ret = true then bL3 else bL2) = Lz
  have HLZ := Lib.hid hLz
  generalize lay (List.replicate 128 0) 0 (code.take 64) = F0 at *
  generalize List.replicate 128 (0 : Int) = ws0 at *
  have F0W := Lib.hid hF0
  generalize landW code data = F64 at *
  have F64W := Lib.hid hF64
  have HW0 := Lib.hid hw0
  clear hb0 hs0 LX0 ZX0 hc hd hcm hdm hw0 hF0 hF64 hM hLz
  have PG := Lib.hid (fun (u : World) (p t g gw : Nat) (M : Mm) (h : Pm u p t g gw M) => pages_any h)
  have S1 := Lib.hid (fun (u : World) (p t g gw : Nat) (G : Nat → Int) (ws : List Int) (h : Pm u p t g gw ⟨G, zeros 8, ws⟩) => show Calls Tryz.prog 17 #[.pointer (some ⟨t, 0, none⟩), .int .i64 0, .int .i64 6, .int .u16 1] u (Turns g 0 bL1 u) from stage_tb h.tb 0 6 1 (by omega))
  go_enter Tryz.func6, Tryz.ntmps6
  go_wp2_with fail
  (go_at_call 14; (with_reducible refine (CN.out _).mono ?_); rintro e w1 ⟨p, t, g, gwp, rfl, hP, hp, ht, hg, hgwp, hb⟩; simp only [World.size_alloc] at hp ht hg hgwp hb; have HP := Lib.hid hP; have B1 := Lib.hid hb; clear hP hb)
  go_wp2_with fail
  (go_at_call 15; (with_reducible refine (CM.out _).mono ?_); rintro e w2 ⟨gr, c, gw, d, rfl, hR, h1, h2, hb2⟩; have D1 := Lib.hid (DN.out _ _ _ _ _ _ _ _ _ _ HP.out hp ht hg hgwp B1.out hR h1 h2 hb2); clear hR h1 h2 hb2 DN)
  go_wp2_with fail
  clear CN CM HP B1
  generalize w2.alloc (.cells (rCs g0 gr 8 c gw 128 d) 36) = u1 at *
  generalize w2.heap.size = R at *
  (go_at_call 16; (with_reducible refine (PG.out _ _ _ _ _ _ D1.out.duo.pm).mono ?_); rintro e wq ⟨rfl, rfl⟩)
  go_wp2_with fail
  (go_at_call 17; (with_reducible refine (S1.out _ _ _ _ _ _ _ D1.out.duo.pm).mono ?_); rintro e w3 ⟨rfl, hf, hr⟩; have D3 := Lib.hid (show DB w (ldCs ca cn cc da dn dc gate ret) p t g gwp R ⟨g0, bL1, ws0⟩ ⟨g0, zeros 8, ws0⟩ gr c gw d w3 from D1.out.pages hf hr rfl bL1_fine); clear hf hr)
  have b8 := (D3.out.duo.box8 rfl HW0.out).cell 8
  simp only [List.getElem?_toArray, List.getElem?_cons_zero, List.getElem?_cons_succ] at b8
  have CS := Lib.hid (duo_stage D3.out.duo)
  go_upto_region 3 with fail
  go_cut [4, 5] from 8 to 19 (fun s4 s5 wx => s4 = .pointer (some ⟨p, 0, none⟩) ∧ s5 = .pointer (some ⟨R, 0, none⟩) ∧ Hid (MdSt w (ldCs ca cn cc da dn dc gate ret) p t g gwp R (code.take 64) F0 0 0 wx))
  case first =>
    go_wp2_with fail
    (go_at_call 18; (with_reducible refine CS.out.mono ?_); rintro e w4 ⟨gr2, c2, rfl, hr2, hl2, hc1, hc2, hb2, hwh⟩; have D4 := Lib.hid (show DB w (ldCs ca cn cc da dn dc gate ret) p t g gwp R ⟨g0, bL1, ws0⟩ ⟨g0, bL1, ws0⟩ gr2 c2 gw d (w4.setCell ⟨R, 8, none⟩ (.slice (some ⟨gr2, 0, none⟩) 8 c2)) from D3.out.pageR rfl bL1_len bL1_fine hr2 hc1 hc2 hb2 hwh); have X4 := (D3.out.duo.box8 rfl HW0.out).belowS hb2; have q8 := X4.cell 8; have f8 := X4.frozen 8; have q4 := X4.lt; simp only [List.getElem?_toArray, List.getElem?_cons_zero, List.getElem?_cons_succ] at q8; clear hr2 hl2 hc1 hc2 hb2 hwh X4)
    simp only [bL1_len]
    go_wp2_with fail
    go_meet
    exact ⟨rfl, rfl, Lib.hid ⟨ws0, gr2, c2, gw, d, D4.out, HW0.out, F0W.out⟩⟩
  case rest =>
  obtain ⟨rfl, rfl, ST0⟩ := hcut
  clear b8 CS D3 D1
  go_wp2_with fail
  go_loopw [6] (fun i wr => ∃ k : Nat, k ≤ min cn 64 ∧ i = .int .i64 (k : Int) ∧ Hid (MdSt w (ldCs ca cn cc da dn dc gate ret) p t g gwp R (code.take 64) F0 0 k wr)) (fun i _ => min cn 64 - (intOf i).toNat)
  case atStart => exact ⟨0, Nat.zero_le _, rfl, ST0⟩
  case round =>
    obtain ⟨k, hk, rfl, hS⟩ := hrel
    obtain ⟨ws, gr, c, gw, d, hD, hwl, hlay⟩ := hS.out
    have HD := Lib.hid hD
    have HL := Lib.hid (And.intro hwl hlay)
    have XL := LX.out.below hD.low (by omega)
    have l0 := XL.cell 0
    have l1 := XL.cell 1
    simp only [List.getElem?_toArray, List.getElem?_cons_zero, List.getElem?_cons_succ] at l0 l1
    have hk0 : (0 : Int) ≤ k := by omega
    clear hD hwl hlay XL hS
    by_cases hlt : k < min cn 64
    · have hlt1 : (k : Int) < cn := by omega
      have hlt2 : (k : Int) < 64 := by omega
      have hw1 : IntKind.u32.wrap (k : Int) = k := by rw [IntKind.wrap_u32]; omega
      have hw2 : IntKind.u32.wrap (80 + (k : Int)) = 80 + k := by rw [IntKind.wrap_u32]; omega
      obtain ⟨gc, off, hca, hcn, hcell, hgc⟩ := read_at RX0.out (BW.out.trans (HD.out.low.mono (by omega))) (k := k) (by omega)
      rw [hca] at l0
      have HCA := Lib.hid hca
      clear hca
      have CP := Lib.hid (duo_putP HD.out.duo HL.out.1 (k := 0 + k) (by omega) (A := 80 + k) (by omega) (code.getD k 0))
      have CQ := Lib.hid (fun (v : World) (hv : DB w (ldCs ca cn cc da dn dc gate ret) p t g gwp R ⟨g0, bL1, ws.set (0 + k) (code.getD k 0)⟩ ⟨g0, bL1, ws⟩ gr c gw d v) => duo_put hv.duo HL.out.1 (k := 0 + k) (by omega) (A := 80 + k) (by omega) (code.getD k 0))
      have LS : lay (ws.set (0 + k) (code.getD k 0)) (0 + (k + 1)) ((code.take 64).drop (k + 1)) = F0 := by
        have h1 : k < (code.take 64).length := by rw [List.length_take]; have := RX0.out.len.1; omega
        have h2 := lay_step ws (code.take 64) k 0 h1
        rw [HL.out.2] at h2
        rw [h2]
        congr 2
        simp [List.getD_eq_getElem?_getD, List.getElem?_take_of_lt (show k < 64 by omega)]
      have HS2 := Lib.hid (And.intro (show (ws.set (0 + k) (code.getD k 0)).length = 128 by rw [List.length_set]; exact HL.out.1) LS)
      have HO := Lib.hid (m1_ok HS2.out.1 g0)
      clear LS
      generalize code.getD k 0 = x at *
      generalize ws.set (0 + k) x = ws' at *
      go_upto_region 8 with (go_at_call 19; (with_reducible refine CP.out.mono ?_); rintro e wp ⟨rfl, hf, hP⟩; have HD2 := Lib.hid (HD.out.prog hf hP); clear hf hP)
      have HD3 := Lib.hid (HD2.out.belowS (Below.refl _ _).drew)
      have BX3 := HD3.out.duo.box8 rfl HL.out.1
      have XL3 := LX.out.below HD3.out.low (by omega)
      have l3 := XL3.cell 0
      simp only [List.getElem?_toArray, List.getElem?_cons_zero, List.getElem?_cons_succ] at l3
      have hcell3 := (HD3.out.low.cell (p := ⟨gc, off + k, none⟩) (by show gc < _; omega)).trans ((HD.out.low.cell (p := ⟨gc, off + k, none⟩) (by show gc < _; omega)).symm.trans hcell)
      rw [HCA.out] at l3
      obtain ⟨c0, c1, c2, c3, c4, c5, c6, c7, c8, c9⟩ := box_cells BX3
      have K0 : LC2 w.heap.size 0 gc (off + k) (.slice (some ⟨gc, off, none⟩) cn cc) (.int .u32 x) wp.drew := ⟨l3, hcell3⟩
      have K1 : Hid (∀ v, Below wp.drew.heap.size wp.drew v → LC2 w.heap.size 0 gc (off + k) (.slice (some ⟨gc, off, none⟩) cn cc) (.int .u32 x) v) := Lib.hid fun v hv => lc_fr (Fr.of_below (S := fun _ => False) hv) K0 (fun h => h) (fun h => h)
      have hR5 := HD3.out.duo.b5
      clear l3 hcell3
      refine wp_region_held_drew (S := fun u => LC2 w.heap.size 0 gc (off + k) (.slice (some ⟨gc, off, none⟩) cn cc) (.int .u32 x) u) (by kernel_rfl) K0 (fun hHeld => ?_)
      refine wpAnyH_take (i := 1) (v := ?z0vv1) rfl (by kernel_rfl) (by kernel_rfl) (by kernel_rfl) (fun _ _ _ h => h) (Or.inl ⟨by rfl, ?z0hy1⟩) (by assumption) ?z0rest1
      case z0hy1 =>
        intro u hSu
        obtain ⟨s0, s1⟩ := hSu
        go_simp
        try with_reducible rfl
      try simp only [Act.put, List.getElem_toArray, List.getElem_cons_succ, List.getElem_cons_zero, List.setIfInBounds_toArray, List.set_cons_zero, List.set_cons_succ]
      refine wpAnyH_take (i := 2) (v := ?z0vv2) rfl (by kernel_rfl) (by kernel_rfl) (by kernel_rfl) (fun _ _ _ h => h) (Or.inl ⟨by rfl, ?z0hy2⟩) (by assumption) ?z0rest2
      case z0hy2 =>
        intro u hSu
        obtain ⟨s0, s1⟩ := hSu
        go_simp
        try with_reducible rfl
      try simp only [Act.put, List.getElem_toArray, List.getElem_cons_succ, List.getElem_cons_zero, List.setIfInBounds_toArray, List.set_cons_zero, List.set_cons_succ]
      refine wpAnyH_take (i := 3) (v := ?z0vv3) rfl (by kernel_rfl) (by kernel_rfl) (by kernel_rfl) (fun _ _ _ h => h) (Or.inl ⟨by rfl, ?z0hy3⟩) (by assumption) ?z0rest3
      case z0hy3 =>
        intro u hSu
        obtain ⟨s0, s1⟩ := hSu
        go_simp
        try with_reducible rfl
      try simp only [Act.put, List.getElem_toArray, List.getElem_cons_succ, List.getElem_cons_zero, List.setIfInBounds_toArray, List.set_cons_zero, List.set_cons_succ]
      refine wpAnyH_take (i := 4) (v := ?z0vv4) rfl (by kernel_rfl) (by kernel_rfl) (by kernel_rfl) (fun _ _ _ h => h) (Or.inl ⟨by rfl, ?z0hy4⟩) (by assumption) ?z0rest4
      case z0hy4 =>
        intro u hSu
        obtain ⟨s0, s1⟩ := hSu
        go_simp
        try with_reducible rfl
      try simp only [Act.put, List.getElem_toArray, List.getElem_cons_succ, List.getElem_cons_zero, List.setIfInBounds_toArray, List.set_cons_zero, List.set_cons_succ]
      refine wpAnyH_take (i := 5) (v := ?z0vv5) rfl (by kernel_rfl) (by kernel_rfl) (by kernel_rfl) (fun _ _ _ h => h) (Or.inl ⟨by rfl, ?z0hy5⟩) (by assumption) ?z0rest5
      case z0hy5 =>
        intro u hSu
        obtain ⟨s0, s1⟩ := hSu
        go_simp
        try with_reducible rfl
      try simp only [Act.put, List.getElem_toArray, List.getElem_cons_succ, List.getElem_cons_zero, List.setIfInBounds_toArray, List.set_cons_zero, List.set_cons_succ]
      refine wpAnyH_take (i := 6) (v := ?z0vv6) rfl (by kernel_rfl) (by kernel_rfl) (by kernel_rfl) (fun _ _ _ h => h) (Or.inl ⟨by rfl, ?z0hy6⟩) (by assumption) ?z0rest6
      case z0hy6 =>
        intro u hSu
        obtain ⟨s0, s1⟩ := hSu
        go_simp
        try with_reducible rfl
      try simp only [Act.put, List.getElem_toArray, List.getElem_cons_succ, List.getElem_cons_zero, List.setIfInBounds_toArray, List.set_cons_zero, List.set_cons_succ]
      refine wpAnyH_take (i := 7) (v := ?z0vv7) rfl (by kernel_rfl) (by kernel_rfl) (by kernel_rfl) (fun _ _ _ h => h) (Or.inl ⟨by rfl, ?z0hy7⟩) (by assumption) ?z0rest7
      case z0hy7 =>
        intro u hSu
        obtain ⟨s0, s1⟩ := hSu
        go_simp
        try with_reducible rfl
      try simp only [Act.put, List.getElem_toArray, List.getElem_cons_succ, List.getElem_cons_zero, List.setIfInBounds_toArray, List.set_cons_zero, List.set_cons_succ]
      refine wpAnyH_take (i := 8) (v := ?z0vv8) rfl (by kernel_rfl) (by kernel_rfl) (by kernel_rfl) (fun _ _ _ h => h) (Or.inl ⟨by rfl, ?z0hy8⟩) (by assumption) ?z0rest8
      case z0hy8 =>
        intro u hSu
        obtain ⟨s0, s1⟩ := hSu
        go_simp
        try with_reducible rfl
      try simp only [Act.put, List.getElem_toArray, List.getElem_cons_succ, List.getElem_cons_zero, List.setIfInBounds_toArray, List.set_cons_zero, List.set_cons_succ]
      refine wpAnyH_ready (rs := [0]) (by kernel_rfl) (by simp) ?_
      refine AllReadyH.cons rfl (fun K hK => ?_) AllReadyH.nil
      go_simp
      refine hK.out _ _ ?z0hS0 (fun hHeld => ?z0rest0)
      case z0hS0 => first | with_reducible exact K0 | with_reducible exact K4 | (rw [putB_eq]; exact lc_fr (putB_fr ..) K4 (by show ¬ w.heap.size = R; omega) (by show ¬ gc = R; omega))
      clear hK K
      try simp only [Act.put, List.getElem_toArray, List.getElem_cons_succ, List.getElem_cons_zero, List.setIfInBounds_toArray, List.set_cons_zero, List.set_cons_succ]
      refine wpAnyH_ready (rs := [9]) (by kernel_rfl) (by simp) ?_
      refine AllReadyH.cons rfl (fun K hK => ?_) AllReadyH.nil
      (go_simp; go_at_call 20; (with_reducible refine (CQ.out _ HD3.out).mono ?_); rintro e w4 ⟨gw', d', rfl, hw4, h41, h42, h43, hb4⟩; have N5 : Hid (MdSt w (ldCs ca cn cc da dn dc gate ret) p t g gwp R (code.take 64) F0 0 (k + 1) (putB w4 R g0 gr 8 c gw' 128 d')) := Lib.hid ⟨ws', gr, c, gw', d', HD3.out.word rfl HL.out.1 rfl (by show ws'.length = ws.length; rw [HS2.out.1, HL.out.1]) HO.out hw4 h41 h42 h43 hb4, HS2.out.1, HS2.out.2⟩; have K4 := K1.out _ hb4; have BX4 := BX3.belowS hb4; have q4 := BX4.lt; obtain ⟨⟨v0, v1, v2, v3, v4, v5, v6, v7, v8, v9, e0, e1, e2, e3, e4, e5, e6, e7, e8, e9⟩, f0, f1, f2, f3, f4, f5, f6, f7, f8, f9⟩ := box_open BX4 rfl; clear hw4 h41 h42 h43 hb4 BX4)
      refine hK.out _ _ ?z0hS9 (fun hHeld => ?z0rest9)
      case z0hS9 => first | with_reducible exact K0 | with_reducible exact K4 | (rw [putB_eq]; exact lc_fr (putB_fr ..) K4 (by show ¬ w.heap.size = R; omega) (by show ¬ gc = R; omega))
      clear hK K
      try simp only [Act.put, List.getElem_toArray, List.getElem_cons_succ, List.getElem_cons_zero, List.setIfInBounds_toArray, List.set_cons_zero, List.set_cons_succ]
      refine wpAnyH_take (i := 10) (v := ?z0vv10) rfl (by kernel_rfl) (by kernel_rfl) (by kernel_rfl) (fun _ _ _ h => h) (Or.inl ⟨by rfl, ?z0hy10⟩) (by assumption) ?z0rest10
      case z0hy10 =>
        intro u hSu
        obtain ⟨s0, s1⟩ := hSu
        go_simp
        try with_reducible rfl
      try simp only [Act.put, List.getElem_toArray, List.getElem_cons_succ, List.getElem_cons_zero, List.setIfInBounds_toArray, List.set_cons_zero, List.set_cons_succ]
      refine wpAnyH_take (i := 11) (v := ?z0vv11) rfl (by kernel_rfl) (by kernel_rfl) (by kernel_rfl) (fun _ _ _ h => h) (Or.inl ⟨by rfl, ?z0hy11⟩) (by assumption) ?z0rest11
      case z0hy11 =>
        intro u hSu
        obtain ⟨s0, s1⟩ := hSu
        go_simp
        try with_reducible rfl
      try simp only [Act.put, List.getElem_toArray, List.getElem_cons_succ, List.getElem_cons_zero, List.setIfInBounds_toArray, List.set_cons_zero, List.set_cons_succ]
      refine wpAnyH_take (i := 12) (v := ?z0vv12) rfl (by kernel_rfl) (by kernel_rfl) (by kernel_rfl) (fun _ _ _ h => h) (Or.inl ⟨by rfl, ?z0hy12⟩) (by assumption) ?z0rest12
      case z0hy12 =>
        intro u hSu
        obtain ⟨s0, s1⟩ := hSu
        go_simp
        try with_reducible rfl
      try simp only [Act.put, List.getElem_toArray, List.getElem_cons_succ, List.getElem_cons_zero, List.setIfInBounds_toArray, List.set_cons_zero, List.set_cons_succ]
      refine wpAnyH_ready (rs := [13]) (by kernel_rfl) (by simp) ?_
      refine AllReadyH.cons rfl (fun K hK => ?_) AllReadyH.nil
      go_simp
      refine hK.out _ _ ?z0hS13 (fun hHeld => ?z0rest13)
      case z0hS13 => first | with_reducible exact K0 | with_reducible exact K4 | (rw [putB_eq]; exact lc_fr (putB_fr ..) K4 (by show ¬ w.heap.size = R; omega) (by show ¬ gc = R; omega))
      clear hK K
      try simp only [Act.put, List.getElem_toArray, List.getElem_cons_succ, List.getElem_cons_zero, List.setIfInBounds_toArray, List.set_cons_zero, List.set_cons_succ]
      refine wpAnyH_done (by kernel_rfl) ?_ _
      rw [putB_eq]
      clear c0 c1 c2 c3 c4 c5 c6 c7 c8 c9
      clear e0 e1 e2 e3 e4 e5 e6 e7 e8 e9 f0 f1 f2 f3 f4 f5 f6 f7 f8 f9
      generalize putB w4 R g0 gr 8 c gw' 128 d' = w5 at *
      go_wp2_with fail
      go_roundw
      case rel => exact ⟨k + 1, by omega, by go_num, N5⟩
      case measure => simp [intOf]; omega
    · have hle : (code.take 64).length ≤ k := by rw [List.length_take]; have := RX0.out.len.1; omega
      have e := lay_end ws (code.take 64) k 0 hle
      rw [HL.out.2] at e
      subst e
      go_upto_region 5 with fail
      go_cut [28] from 20 to 53 (fun s wx => s = .bool false ∧ Hid (DB w (ldCs ca cn cc da dn dc gate ret) p t g gwp R ⟨g0, bL1, F0⟩ ⟨g0, bL1, F0⟩ gr c gw d wx))
      case first =>
        by_cases hcc : (k : Int) < cn
        · have h64 : ¬ (k : Int) < 64 := by omega
          go_wp2_with fail
          go_meet
          exact ⟨rfl, HD⟩
        · go_wp2_with fail
          go_meet
          exact ⟨rfl, HD⟩
      case rest =>
      obtain ⟨rfl, HD5⟩ := hcut
      clear HD l0 l1
      have HD := HD5
      clear HD5
      have ST64 : Hid (MdSt w (ldCs ca cn cc da dn dc gate ret) p t g gwp R (data.take 32) F64 64 0 wc) := Lib.hid ⟨_, gr, c, gw, d, HD.out, HL.out.1, F64W.out.symm⟩
      clear HD HL hk hk0 hlt hle
      go_wp2_with fail
      go_loopw [7] (fun i wr => ∃ k : Nat, k ≤ min dn 32 ∧ i = .int .i64 (k : Int) ∧ Hid (MdSt w (ldCs ca cn cc da dn dc gate ret) p t g gwp R (data.take 32) F64 64 k wr)) (fun i _ => min dn 32 - (intOf i).toNat)
      case atStart => exact ⟨0, Nat.zero_le _, rfl, ST64⟩
      case round =>
        obtain ⟨k, hk, rfl, hS⟩ := hrel
        obtain ⟨ws, gr, c, gw, d, hD, hwl, hlay⟩ := hS.out
        have HD := Lib.hid hD
        have HL := Lib.hid (And.intro hwl hlay)
        have XL := LX.out.below hD.low (by omega)
        have l0 := XL.cell 0
        have l1 := XL.cell 1
        simp only [List.getElem?_toArray, List.getElem?_cons_zero, List.getElem?_cons_succ] at l0 l1
        have hk0 : (0 : Int) ≤ k := by omega
        clear hD hwl hlay XL hS
        by_cases hlt : k < min dn 32
        · have hlt1 : (k : Int) < dn := by omega
          have hlt2 : (k : Int) < 32 := by omega
          have hw1 : IntKind.u32.wrap (k : Int) = k := by rw [IntKind.wrap_u32]; omega
          have hw2 : IntKind.u32.wrap (144 + (k : Int)) = 144 + k := by rw [IntKind.wrap_u32]; omega
          obtain ⟨gc, off, hca, hcn, hcell, hgc⟩ := read_at RX64.out (BW.out.trans (HD.out.low.mono (by omega))) (k := k) (by omega)
          rw [hca] at l1
          have HCA := Lib.hid hca
          clear hca
          have CP := Lib.hid (duo_putP HD.out.duo HL.out.1 (k := 64 + k) (by omega) (A := 144 + k) (by omega) (data.getD k 0))
          have CQ := Lib.hid (fun (v : World) (hv : DB w (ldCs ca cn cc da dn dc gate ret) p t g gwp R ⟨g0, bL1, ws.set (64 + k) (data.getD k 0)⟩ ⟨g0, bL1, ws⟩ gr c gw d v) => duo_put hv.duo HL.out.1 (k := 64 + k) (by omega) (A := 144 + k) (by omega) (data.getD k 0))
          have LS : lay (ws.set (64 + k) (data.getD k 0)) (64 + (k + 1)) ((data.take 32).drop (k + 1)) = F64 := by
            have h1 : k < (data.take 32).length := by rw [List.length_take]; have := RX64.out.len.1; omega
            have h2 := lay_step ws (data.take 32) k 64 h1
            rw [HL.out.2] at h2
            rw [h2]
            congr 2
            simp [List.getD_eq_getElem?_getD, List.getElem?_take_of_lt (show k < 32 by omega)]
          have HS2 := Lib.hid (And.intro (show (ws.set (64 + k) (data.getD k 0)).length = 128 by rw [List.length_set]; exact HL.out.1) LS)
          have HO := Lib.hid (m1_ok HS2.out.1 g0)
          clear LS
          generalize data.getD k 0 = x at *
          generalize ws.set (64 + k) x = ws' at *
          go_upto_region 13 with (go_at_call 19; (with_reducible refine CP.out.mono ?_); rintro e wp ⟨rfl, hf, hP⟩; have HD2 := Lib.hid (HD.out.prog hf hP); clear hf hP)
          have HD3 := Lib.hid (HD2.out.belowS (Below.refl _ _).drew)
          have BX3 := HD3.out.duo.box8 rfl HL.out.1
          have XL3 := LX.out.below HD3.out.low (by omega)
          have l3 := XL3.cell 1
          simp only [List.getElem?_toArray, List.getElem?_cons_zero, List.getElem?_cons_succ] at l3
          have hcell3 := (HD3.out.low.cell (p := ⟨gc, off + k, none⟩) (by show gc < _; omega)).trans ((HD.out.low.cell (p := ⟨gc, off + k, none⟩) (by show gc < _; omega)).symm.trans hcell)
          rw [HCA.out] at l3
          obtain ⟨c0, c1, c2, c3, c4, c5, c6, c7, c8, c9⟩ := box_cells BX3
          have K0 : LC2 w.heap.size 1 gc (off + k) (.slice (some ⟨gc, off, none⟩) dn dc) (.int .u32 x) wp.drew := ⟨l3, hcell3⟩
          have K1 : Hid (∀ v, Below wp.drew.heap.size wp.drew v → LC2 w.heap.size 1 gc (off + k) (.slice (some ⟨gc, off, none⟩) dn dc) (.int .u32 x) v) := Lib.hid fun v hv => lc_fr (Fr.of_below (S := fun _ => False) hv) K0 (fun h => h) (fun h => h)
          have hR5 := HD3.out.duo.b5
          clear l3 hcell3
          refine wp_region_held_drew (S := fun u => LC2 w.heap.size 1 gc (off + k) (.slice (some ⟨gc, off, none⟩) dn dc) (.int .u32 x) u) (by kernel_rfl) K0 (fun hHeld => ?_)
          refine wpAnyH_take (i := 1) (v := ?z64vv1) rfl (by kernel_rfl) (by kernel_rfl) (by kernel_rfl) (fun _ _ _ h => h) (Or.inl ⟨by rfl, ?z64hy1⟩) (by assumption) ?z64rest1
          case z64hy1 =>
            intro u hSu
            obtain ⟨s0, s1⟩ := hSu
            go_simp
            try with_reducible rfl
          try simp only [Act.put, List.getElem_toArray, List.getElem_cons_succ, List.getElem_cons_zero, List.setIfInBounds_toArray, List.set_cons_zero, List.set_cons_succ]
          refine wpAnyH_take (i := 2) (v := ?z64vv2) rfl (by kernel_rfl) (by kernel_rfl) (by kernel_rfl) (fun _ _ _ h => h) (Or.inl ⟨by rfl, ?z64hy2⟩) (by assumption) ?z64rest2
          case z64hy2 =>
            intro u hSu
            obtain ⟨s0, s1⟩ := hSu
            go_simp
            try with_reducible rfl
          try simp only [Act.put, List.getElem_toArray, List.getElem_cons_succ, List.getElem_cons_zero, List.setIfInBounds_toArray, List.set_cons_zero, List.set_cons_succ]
          refine wpAnyH_take (i := 3) (v := ?z64vv3) rfl (by kernel_rfl) (by kernel_rfl) (by kernel_rfl) (fun _ _ _ h => h) (Or.inl ⟨by rfl, ?z64hy3⟩) (by assumption) ?z64rest3
          case z64hy3 =>
            intro u hSu
            obtain ⟨s0, s1⟩ := hSu
            go_simp
            try with_reducible rfl
          try simp only [Act.put, List.getElem_toArray, List.getElem_cons_succ, List.getElem_cons_zero, List.setIfInBounds_toArray, List.set_cons_zero, List.set_cons_succ]
          refine wpAnyH_take (i := 4) (v := ?z64vv4) rfl (by kernel_rfl) (by kernel_rfl) (by kernel_rfl) (fun _ _ _ h => h) (Or.inl ⟨by rfl, ?z64hy4⟩) (by assumption) ?z64rest4
          case z64hy4 =>
            intro u hSu
            obtain ⟨s0, s1⟩ := hSu
            go_simp
            try with_reducible rfl
          try simp only [Act.put, List.getElem_toArray, List.getElem_cons_succ, List.getElem_cons_zero, List.setIfInBounds_toArray, List.set_cons_zero, List.set_cons_succ]
          refine wpAnyH_take (i := 5) (v := ?z64vv5) rfl (by kernel_rfl) (by kernel_rfl) (by kernel_rfl) (fun _ _ _ h => h) (Or.inl ⟨by rfl, ?z64hy5⟩) (by assumption) ?z64rest5
          case z64hy5 =>
            intro u hSu
            obtain ⟨s0, s1⟩ := hSu
            go_simp
            try with_reducible rfl
          try simp only [Act.put, List.getElem_toArray, List.getElem_cons_succ, List.getElem_cons_zero, List.setIfInBounds_toArray, List.set_cons_zero, List.set_cons_succ]
          refine wpAnyH_take (i := 6) (v := ?z64vv6) rfl (by kernel_rfl) (by kernel_rfl) (by kernel_rfl) (fun _ _ _ h => h) (Or.inl ⟨by rfl, ?z64hy6⟩) (by assumption) ?z64rest6
          case z64hy6 =>
            intro u hSu
            obtain ⟨s0, s1⟩ := hSu
            go_simp
            try with_reducible rfl
          try simp only [Act.put, List.getElem_toArray, List.getElem_cons_succ, List.getElem_cons_zero, List.setIfInBounds_toArray, List.set_cons_zero, List.set_cons_succ]
          refine wpAnyH_take (i := 7) (v := ?z64vv7) rfl (by kernel_rfl) (by kernel_rfl) (by kernel_rfl) (fun _ _ _ h => h) (Or.inl ⟨by rfl, ?z64hy7⟩) (by assumption) ?z64rest7
          case z64hy7 =>
            intro u hSu
            obtain ⟨s0, s1⟩ := hSu
            go_simp
            try with_reducible rfl
          try simp only [Act.put, List.getElem_toArray, List.getElem_cons_succ, List.getElem_cons_zero, List.setIfInBounds_toArray, List.set_cons_zero, List.set_cons_succ]
          refine wpAnyH_take (i := 8) (v := ?z64vv8) rfl (by kernel_rfl) (by kernel_rfl) (by kernel_rfl) (fun _ _ _ h => h) (Or.inl ⟨by rfl, ?z64hy8⟩) (by assumption) ?z64rest8
          case z64hy8 =>
            intro u hSu
            obtain ⟨s0, s1⟩ := hSu
            go_simp
            try with_reducible rfl
          try simp only [Act.put, List.getElem_toArray, List.getElem_cons_succ, List.getElem_cons_zero, List.setIfInBounds_toArray, List.set_cons_zero, List.set_cons_succ]
          refine wpAnyH_ready (rs := [0]) (by kernel_rfl) (by simp) ?_
          refine AllReadyH.cons rfl (fun K hK => ?_) AllReadyH.nil
          go_simp
          refine hK.out _ _ ?z64hS0 (fun hHeld => ?z64rest0)
          case z64hS0 => first | with_reducible exact K0 | with_reducible exact K4 | (rw [putB_eq]; exact lc_fr (putB_fr ..) K4 (by show ¬ w.heap.size = R; omega) (by show ¬ gc = R; omega))
          clear hK K
          try simp only [Act.put, List.getElem_toArray, List.getElem_cons_succ, List.getElem_cons_zero, List.setIfInBounds_toArray, List.set_cons_zero, List.set_cons_succ]
          refine wpAnyH_ready (rs := [9]) (by kernel_rfl) (by simp) ?_
          refine AllReadyH.cons rfl (fun K hK => ?_) AllReadyH.nil
          (go_simp; go_at_call 20; (with_reducible refine (CQ.out _ HD3.out).mono ?_); rintro e w4 ⟨gw', d', rfl, hw4, h41, h42, h43, hb4⟩; have N5 : Hid (MdSt w (ldCs ca cn cc da dn dc gate ret) p t g gwp R (data.take 32) F64 64 (k + 1) (putB w4 R g0 gr 8 c gw' 128 d')) := Lib.hid ⟨ws', gr, c, gw', d', HD3.out.word rfl HL.out.1 rfl (by show ws'.length = ws.length; rw [HS2.out.1, HL.out.1]) HO.out hw4 h41 h42 h43 hb4, HS2.out.1, HS2.out.2⟩; have K4 := K1.out _ hb4; have BX4 := BX3.belowS hb4; have q4 := BX4.lt; obtain ⟨⟨v0, v1, v2, v3, v4, v5, v6, v7, v8, v9, e0, e1, e2, e3, e4, e5, e6, e7, e8, e9⟩, f0, f1, f2, f3, f4, f5, f6, f7, f8, f9⟩ := box_open BX4 rfl; clear hw4 h41 h42 h43 hb4 BX4)
          refine hK.out _ _ ?z64hS9 (fun hHeld => ?z64rest9)
          case z64hS9 => first | with_reducible exact K0 | with_reducible exact K4 | (rw [putB_eq]; exact lc_fr (putB_fr ..) K4 (by show ¬ w.heap.size = R; omega) (by show ¬ gc = R; omega))
          clear hK K
          try simp only [Act.put, List.getElem_toArray, List.getElem_cons_succ, List.getElem_cons_zero, List.setIfInBounds_toArray, List.set_cons_zero, List.set_cons_succ]
          refine wpAnyH_take (i := 10) (v := ?z64vv10) rfl (by kernel_rfl) (by kernel_rfl) (by kernel_rfl) (fun _ _ _ h => h) (Or.inl ⟨by rfl, ?z64hy10⟩) (by assumption) ?z64rest10
          case z64hy10 =>
            intro u hSu
            obtain ⟨s0, s1⟩ := hSu
            go_simp
            try with_reducible rfl
          try simp only [Act.put, List.getElem_toArray, List.getElem_cons_succ, List.getElem_cons_zero, List.setIfInBounds_toArray, List.set_cons_zero, List.set_cons_succ]
          refine wpAnyH_take (i := 11) (v := ?z64vv11) rfl (by kernel_rfl) (by kernel_rfl) (by kernel_rfl) (fun _ _ _ h => h) (Or.inl ⟨by rfl, ?z64hy11⟩) (by assumption) ?z64rest11
          case z64hy11 =>
            intro u hSu
            obtain ⟨s0, s1⟩ := hSu
            go_simp
            try with_reducible rfl
          try simp only [Act.put, List.getElem_toArray, List.getElem_cons_succ, List.getElem_cons_zero, List.setIfInBounds_toArray, List.set_cons_zero, List.set_cons_succ]
          refine wpAnyH_take (i := 12) (v := ?z64vv12) rfl (by kernel_rfl) (by kernel_rfl) (by kernel_rfl) (fun _ _ _ h => h) (Or.inl ⟨by rfl, ?z64hy12⟩) (by assumption) ?z64rest12
          case z64hy12 =>
            intro u hSu
            obtain ⟨s0, s1⟩ := hSu
            go_simp
            try with_reducible rfl
          try simp only [Act.put, List.getElem_toArray, List.getElem_cons_succ, List.getElem_cons_zero, List.setIfInBounds_toArray, List.set_cons_zero, List.set_cons_succ]
          refine wpAnyH_ready (rs := [13]) (by kernel_rfl) (by simp) ?_
          refine AllReadyH.cons rfl (fun K hK => ?_) AllReadyH.nil
          go_simp
          refine hK.out _ _ ?z64hS13 (fun hHeld => ?z64rest13)
          case z64hS13 => first | with_reducible exact K0 | with_reducible exact K4 | (rw [putB_eq]; exact lc_fr (putB_fr ..) K4 (by show ¬ w.heap.size = R; omega) (by show ¬ gc = R; omega))
          clear hK K
          try simp only [Act.put, List.getElem_toArray, List.getElem_cons_succ, List.getElem_cons_zero, List.setIfInBounds_toArray, List.set_cons_zero, List.set_cons_succ]
          refine wpAnyH_done (by kernel_rfl) ?_ _
          rw [putB_eq]
          clear c0 c1 c2 c3 c4 c5 c6 c7 c8 c9
          clear e0 e1 e2 e3 e4 e5 e6 e7 e8 e9 f0 f1 f2 f3 f4 f5 f6 f7 f8 f9
          generalize putB w4 R g0 gr 8 c gw' 128 d' = w5 at *
          go_wp2_with fail
          go_roundw
          case rel => exact ⟨k + 1, by omega, by go_num, N5⟩
          case measure => simp [intOf]; omega
        · have hle : (data.take 32).length ≤ k := by rw [List.length_take]; have := RX64.out.len.1; omega
          have e := lay_end ws (data.take 32) k 64 hle
          rw [HL.out.2] at e
          subst e
          go_upto_region 10 with fail
          go_cut [62] from 54 to 87 (fun s wx => s = .bool false ∧ Hid (DB w (ldCs ca cn cc da dn dc gate ret) p t g gwp R ⟨g0, bL1, F64⟩ ⟨g0, bL1, F64⟩ gr c gw d wx))
          case first =>
            by_cases hcc : (k : Int) < dn
            · have h64 : ¬ (k : Int) < 32 := by omega
              go_wp2_with fail
              go_meet
              exact ⟨rfl, HD⟩
            · go_wp2_with fail
              go_meet
              exact ⟨rfl, HD⟩
          case rest =>
          obtain ⟨rfl, HD5⟩ := hcut
          clear HD l0 l1
          have HD := HD5
          clear HD5
          have hL := HL.out.1
          clear hk hlt hle HL
          have S2 := Lib.hid (fun (u : World) (p t g gw : Nat) (G : Nat → Int) (ws : List Int) (h : Pm u p t g gw ⟨G, bL1, ws⟩) => show Calls Tryz.prog 21 #[.pointer (some ⟨t, 0, none⟩), .int .u16 1, .int .i64 4] u (Turns g 0 bL2 u) from publish_tb h.tb 1 4)
          have S3 := Lib.hid (fun (u : World) (p t g gw : Nat) (G : Nat → Int) (ws : List Int) (h : Pm u p t g gw ⟨G, bL2, ws⟩) => show Calls Tryz.prog 25 #[.pointer (some ⟨t, 0, none⟩), .int .u16 1, .int .u64 2] u (Turns g 0 bL3 u) from retire_tb h.tb 1 2)
          go_wp2_with fail
          (go_at_call 16; (with_reducible refine (PG.out _ _ _ _ _ _ HD.out.duo.pm).mono ?_); rintro e wq ⟨rfl, rfl⟩)
          go_wp2_with fail
          (go_at_call 21; (with_reducible refine (S2.out _ _ _ _ _ _ _ HD.out.duo.pm).mono ?_); rintro e w5 ⟨rfl, hf, hr⟩; have D5 := Lib.hid (show DB w (ldCs ca cn cc da dn dc gate ret) p t g gwp R ⟨g0, bL2, F64⟩ ⟨g0, bL1, F64⟩ gr c gw d w5 from HD.out.pages hf hr rfl bL2_fine); clear hf hr)
          have b8 := (D5.out.duo.box8 rfl hL).cell 8
          simp only [List.getElem?_toArray, List.getElem?_cons_zero, List.getElem?_cons_succ] at b8
          have CS := Lib.hid (duo_publish D5.out.duo)
          go_wp2_with fail
          (go_at_call 22; (with_reducible refine CS.out.mono ?_); rintro e w6 ⟨gq, cq, rfl, hr2, hl2, hc1, hc2, hb2, hwh⟩; have D6 := Lib.hid (show DB w (ldCs ca cn cc da dn dc gate ret) p t g gwp R ⟨g0, bL2, F64⟩ ⟨g0, bL2, F64⟩ gq cq gw d (w6.setCell ⟨R, 8, none⟩ (.slice (some ⟨gq, 0, none⟩) 8 cq)) from D5.out.pageR rfl bL2_len bL2_fine hr2 hc1 hc2 hb2 hwh); have X6 := (D5.out.duo.box8 rfl hL).belowS hb2; have q8 := X6.cell 8; have f8 := X6.frozen 8; have q4 := X6.lt; simp only [List.getElem?_toArray, List.getElem?_cons_zero, List.getElem?_cons_succ] at q8; clear hr2 hl2 hc1 hc2 hb2 hwh X6)
          simp only [bL2_len]
          go_wp2_with fail
          clear q8 f8 q4 b8 CS D5 HD
          generalize w6.setCell ⟨R, 8, none⟩ (.slice (some ⟨gq, 0, none⟩) 8 cq) = u6 at *
          have C7 := Lib.hid (duo_gateP D6.out.duo 0 80 (Or.inl rfl))
          (go_at_call 23; (with_reducible refine C7.out.mono ?_); rintro e w7 ⟨rfl, hf, hP⟩; have D7 := Lib.hid (D6.out.prog hf hP); clear hf hP)
          generalize hG1 : setG g0 (Int.toNat 0) 80 = G1 at *
          have HG1 := Lib.hid hG1
          clear hG1
          have l2 := (LX.out.below D7.out.low (by omega)).cell 2
          simp only [List.getElem?_toArray, List.getElem?_cons_zero, List.getElem?_cons_succ] at l2
          have C8 := Lib.hid (duo_gateP D7.out.duo 1 gate (Or.inr rfl))
          go_wp2_with fail
          (go_at_call 23; (with_reducible refine C8.out.mono ?_); rintro e w8 ⟨rfl, hf, hP⟩; have D8 := Lib.hid (D7.out.prog hf hP); clear hf hP)
          generalize hG2 : setG G1 (Int.toNat 1) gate = G2 at *
          have HG2 := Lib.hid hG2
          clear hG2
          have X8 := D8.out.duo.box8 rfl hL
          obtain ⟨c0, c1, c2, c3, c4, c5, c6, c7, c8, c9⟩ := box_cells X8
          have C9 := duo_gate D8.out.duo bL2_len hL 0 80 (Or.inl rfl)
          rw [HG1.out] at C9
          have C9 := Lib.hid C9
          go_wp2_with fail
          (go_at_call 24; (with_reducible refine C9.out.mono ?_); rintro e w9 ⟨gw9, d9, rfl, hw, h1, h2, h3, hb⟩; have D9 := Lib.hid (show DB w (ldCs ca cn cc da dn dc gate ret) p t g gwp R ⟨G2, bL2, F64⟩ ⟨G1, bL2, F64⟩ gq cq gw9 d9 (putB w9 R G1 gq 8 cq gw9 128 d9) from D8.out.word (MQ' := ⟨G1, bL2, F64⟩) rfl hL rfl rfl ⟨D8.out.duo.ok.p256, D8.out.duo.ok.w16, D8.out.duo.ok.fine⟩ hw h1 h2 h3 hb); have X9 := X8.belowS hb; have q4 := X9.lt; obtain ⟨⟨v0, v1, v2, v3, v4, v5, v6, v7, v8, v9, e0, e1, e2, e3, e4, e5, e6, e7, e8, e9⟩, f0, f1, f2, f3, f4, f5, f6, f7, f8, f9⟩ := box_open X9 rfl; clear hw h1 h2 h3 hb X9)
          go_upto_region 19 with fail
          rw [putB_eq]
          clear c0 c1 c2 c3 c4 c5 c6 c7 c8 c9
          clear e0 e1 e2 e3 e4 e5 e6 e7 e8 e9 f0 f1 f2 f3 f4 f5 f6 f7 f8 f9
          clear C7 C8 C9 X8 D6 D7 D8 q4 l2
          generalize putB w9 R G1 gq 8 cq gw9 128 d9 = u9 at *
          have X10 := D9.out.duo.box8 rfl hL
          obtain ⟨c0, c1, c2, c3, c4, c5, c6, c7, c8, c9⟩ := box_cells X10
          have l2 := (LX.out.below D9.out.low (by omega)).cell 2
          simp only [List.getElem?_toArray, List.getElem?_cons_zero, List.getElem?_cons_succ] at l2
          have C10 := duo_gate D9.out.duo bL2_len hL 1 gate (Or.inr rfl)
          rw [HG2.out] at C10
          have C10 := Lib.hid C10
          go_wp2_with fail
          (go_at_call 24; (with_reducible refine C10.out.mono ?_); rintro e wa ⟨gwa, da', rfl, hw, h1, h2, h3, hb⟩; have Da := Lib.hid (show DB w (ldCs ca cn cc da dn dc gate ret) p t g gwp R ⟨G2, bL2, F64⟩ ⟨G2, bL2, F64⟩ gq cq gwa da' (putB wa R G2 gq 8 cq gwa 128 da') from D9.out.word (MQ' := ⟨G2, bL2, F64⟩) rfl hL rfl rfl ⟨D9.out.duo.ok.p256, D9.out.duo.ok.w16, D9.out.duo.ok.fine⟩ hw h1 h2 h3 hb); have Xa := X10.belowS hb; have q4 := Xa.lt; obtain ⟨⟨v0, v1, v2, v3, v4, v5, v6, v7, v8, v9, e0, e1, e2, e3, e4, e5, e6, e7, e8, e9⟩, f0, f1, f2, f3, f4, f5, f6, f7, f8, f9⟩ := box_open Xa rfl; clear hw h1 h2 h3 hb Xa)
          go_upto_region 20 with fail
          rw [putB_eq]
          clear c0 c1 c2 c3 c4 c5 c6 c7 c8 c9
          clear e0 e1 e2 e3 e4 e5 e6 e7 e8 e9 f0 f1 f2 f3 f4 f5 f6 f7 f8 f9
          clear C10 X10 q4 l2
          generalize putB wa R G2 gq 8 cq gwa 128 da' = ua at *
          have l3 := (LX.out.below Da.out.low (by omega)).cell 3
          simp only [List.getElem?_toArray, List.getElem?_cons_zero, List.getElem?_cons_succ] at l3
          cases ret
          · have hz : bL2 = Lz := by have := HLZ.out; simpa using this
            subst hz
            have Xz := Da.out.duo.box8 rfl hL
            have Zz := ZX.out.below Da.out.low (by omega)
            have qz := Zz.lt
            obtain ⟨c0, c1, c2, c3, c4, c5, c6, c7, c8, c9⟩ := box_cells Xz
            obtain ⟨⟨v0, v1, v2, v3, v4, v5, v6, v7, v8, v9, e0, e1, e2, e3, e4, e5, e6, e7, e8, e9⟩, f0, f1, f2, f3, f4, f5, f6, f7, f8, f9⟩ := box_open Zz rfl
            go_upto_region 23 with fail
            go_region
            rw [putB_eq]
            obtain ⟨p0, p1, p2, p3, p4, p5, p6, p7, p8, p9⟩ := box_cells (putB_whole Zz rfl G2 gq 8 cq gwa 128 da')
            go_wp2_with fail
            refine bodyPost_ret (v := .tuple #[.pointer (some ⟨p, 0, none⟩), rV G2 gq 8 cq gwa 128 da']) (by simp [results, Tryz.results6, go_sem, p0, p1, p2, p3, p4, p5, p6, p7, p8, p9]) rfl ?_
            have e2 : landG gate = G2 := by rw [← HG2.out, ← HG1.out]; rfl
            rw [e2]
            exact made_end Da.out rfl hL Zz
          · have hz : bL3 = Lz := by have := HLZ.out; simpa using this
            subst hz
            go_wp2_with fail
            (go_at_call 16; (with_reducible refine (PG.out _ _ _ _ _ _ Da.out.duo.pm).mono ?_); rintro e wq ⟨rfl, rfl⟩)
            go_wp2_with fail
            (go_at_call 25; (with_reducible refine (S3.out _ _ _ _ _ _ _ Da.out.duo.pm).mono ?_); rintro e wb ⟨rfl, hf, hr⟩; have Db := Lib.hid (show DB w (ldCs ca cn cc da dn dc gate true) p t g gwp R ⟨G2, bL3, F64⟩ ⟨G2, bL2, F64⟩ gq cq gwa da' wb from Da.out.pages hf hr rfl bL3_fine); clear hf hr)
            have b8 := (Db.out.duo.box8 rfl hL).cell 8
            simp only [List.getElem?_toArray, List.getElem?_cons_zero, List.getElem?_cons_succ] at b8
            have CR := Lib.hid (duo_retire Db.out.duo)
            go_upto_region 23 with (go_at_call 26; (with_reducible refine CR.out.mono ?_); rintro e wd ⟨gz, cz, rfl, hr2, hl2, hc1, hc2, hb2, hwh⟩; have Dd := Lib.hid (show DB w (ldCs ca cn cc da dn dc gate true) p t g gwp R ⟨G2, bL3, F64⟩ ⟨G2, bL3, F64⟩ gz cz gwa da' (wd.setCell ⟨R, 8, none⟩ (.slice (some ⟨gz, 0, none⟩) 8 cz)) from Db.out.pageR rfl bL3_len bL3_fine hr2 hc1 hc2 hb2 hwh); have Xd := (Db.out.duo.box8 rfl hL).belowS hb2; have q8 := Xd.cell 8; have f8 := Xd.frozen 8; have q4 := Xd.lt; simp only [List.getElem?_toArray, List.getElem?_cons_zero, List.getElem?_cons_succ] at q8; clear hr2 hl2 hc1 hc2 hb2 hwh Xd; simp only [bL3_len])
            clear q8 f8 q4 b8 CR Db Da
            generalize wd.setCell ⟨R, 8, none⟩ (.slice (some ⟨gz, 0, none⟩) 8 cz) = ud at *
            have Xz := Dd.out.duo.box8 rfl hL
            have Zz := ZX.out.below Dd.out.low (by omega)
            have qz := Zz.lt
            obtain ⟨c0, c1, c2, c3, c4, c5, c6, c7, c8, c9⟩ := box_cells Xz
            obtain ⟨⟨v0, v1, v2, v3, v4, v5, v6, v7, v8, v9, e0, e1, e2, e3, e4, e5, e6, e7, e8, e9⟩, f0, f1, f2, f3, f4, f5, f6, f7, f8, f9⟩ := box_open Zz rfl
            go_region
            rw [putB_eq]
            obtain ⟨p0, p1, p2, p3, p4, p5, p6, p7, p8, p9⟩ := box_cells (putB_whole Zz rfl G2 gz 8 cz gwa 128 da')
            go_wp2_with fail
            refine bodyPost_ret (v := .tuple #[.pointer (some ⟨p, 0, none⟩), rV G2 gz 8 cz gwa 128 da']) (by simp [results, Tryz.results6, go_sem, p0, p1, p2, p3, p4, p5, p6, p7, p8, p9]) rfl ?_
            have e2 : landG gate = G2 := by rw [← HG2.out, ← HG1.out]; rfl
            rw [e2]
            exact made_end Dd.out rfl hL Zz
end Go.Proofs.YtihcellcdkhadaaGreat.HF
