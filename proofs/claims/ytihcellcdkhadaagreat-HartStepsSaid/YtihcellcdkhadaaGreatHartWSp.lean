/-
  The law HartSteps, walked. Nothing here is a statement of the seed.
-/
import Derived.Test.YtihcellcdkhadaaGreatHartTry
import Derived.Test.YtihcellcdkhadaaGreatHartSame
import Derived.Test.YtihcellcdkhadaaGreatHartMade
import Derived.Test.YtihcellcdkhadaaGreatHartEqR
import Derived.Test.YtihcellcdkhadaaGreatHartRZ
import Derived.Deep.CutRange
set_option linter.unusedSimpArgs false
set_option linter.unusedVariables false
namespace Go.Proofs.YtihcellcdkhadaaGreat.WK
open Go.RowKit PM PR PF MM MR MF HM HR HF
set_option maxHeartbeats 16000000
set_option maxRecDepth 10000
theorem HartSteps_walk {w : World} {s : Option Addr} {n c : Nat} {l : List Int} {s' : Option Addr} {n' c' : Nat} {l' : List Int} {gt : Int} {rt : Bool} {h : Ht} {a : Option Addr} {m q : Nat} {xe : Int} (hc : Rs w.heap.size w s n c l) (hd : Rs w.heap.size w s' n' c' l') (hr : Rs w.heap.size w a m q h.sk) (hn : h.sk.length * 4 ≤ 140737488355328) (bc : ∀ x ∈ l, B32 x) (bd : ∀ x ∈ l', B32 x) (bg : B32 gt) (ok : HOk h) :
    Calls Tryz.prog 3 #[.agg #[.slice s n c, .slice s' n' c', .int .u32 gt, .bool rt], hV h.pc h.r a m q h.why h.ep h.home, .int .u64 xe] w fun e w' => e = .returned (.bool true) ∧ Below w.heap.size w w' := by
  have hlm := hr.len
  obtain ⟨T0, T1, T2⟩ := lhb_facts w (ldCs s n c s' n' c' gt rt) (hCs h.pc h.r a m q h.why h.ep h.home)
  have CM := Lib.hid (show Calls _ _ #[.agg #[.slice s n c, .slice s' n' c', .int .u32 gt, .bool rt]] _ _ from made_any (rs_go hc T0 T0.size) (rs_go hd T0 T0.size) gt rt)
  have mk := land_ok l l' gt rt
  have wk := land_wok bc bd bg rt
  have CP := Lib.hid (fun (u : World) (hb : Below w.heap.size w u) => refCopy_any (rs_go hr hb hb.size) (by omega) h.pc h.r h.why h.ep h.home)
  have CS := Lib.hid (fun (p t g gw : Nat) (a3 : Option Addr) (c3 : Nat) (u : World) (h' : Pm u p t g gw (landM l l' gt rt)) (x : Rs u.heap.size u a3 m c3 h.sk) => step_any (h := h) h' x (by omega) ok wk xe)
  have CR := Lib.hid (fun (gr c2 gwr d : Nat) (u : World) (h' : Rm u gr c2 gwr d (landM l l' gt rt)) (hb : Below w.heap.size w u) => rstep_any (h := h) h' mk wk (rs_go hr hb hb.size) (by omega) ok xe)
  generalize hres : stepR h (landM l l' gt rt) xe = r at *
  clear hres
  generalize landM l l' gt rt = M at *
  obtain ⟨pc, R, L, why, ep, home⟩ := h
  obtain ⟨⟨pc4, R4, L4, why4, ep4, home4⟩, M4, sf, st, nt, nx⟩ := r
  simp only at *
  have CE := Lib.hid (fun (u : World) (a1 : Option Addr) (c1 : Nat) (x1 : Rs u.heap.size u a1 m c1 L) (hb : Below w.heap.size w u) => refSame_any pc R why ep home pc R why ep home x1 (rs_go hr hb hb.size))
  rw [one_refl] at CE
  have CE4 := Lib.hid (fun (u : World) (a1 : Option Addr) (n1 c1 : Nat) (a2 : Option Addr) (n2 c2 : Nat) (x1 : Rs u.heap.size u a1 n1 c1 L4) (x2 : Rs u.heap.size u a2 n2 c2 L4) => refSame_any pc4 R4 why4 ep4 home4 pc4 R4 why4 ep4 home4 x1 x2)
  rw [one_refl] at CE4
  have AW := Lib.hid awake_any
  have TT := Lib.hid (And.intro T0 T2)
  have HM := Lib.hid mk
  have HLM := Lib.hid hlm.1
  clear T0 T1 T2 mk wk hc hd hr hn hlm bc bd bg ok
  go_enter Tryz.func3, Tryz.ntmps3
  go_upto_region 2 with (go_at_call 6; (with_reducible refine CM.out.mono ?_); rintro e w2 ⟨p, t, g, gw, gr, c2, gwr, d, rfl, pm, rm, hgr, hgwr, hp, ht, hg, hgw, hgr2, hgwr2, hb2⟩; have D2 := Lib.hid (duo_mk HM.out pm rm hgr hgwr hp ht hg hgw hb2.size hgr2 hgwr2); have B2 := Lib.hid hb2; clear pm rm hb2 hgr hgwr hp ht hg hgw hgr2 hgwr2)
  have X2 := Lib.hid ((TT.out.2.belowS B2.out).alloc (.cells (rCs M.gt gr M.pg.length c2 gwr M.ws.length d) 36))
  have B3 := Lib.hid ((TT.out.1.trans (B2.out.mono TT.out.1.size)).alloc (Nat.le_trans TT.out.1.size B2.out.size) (.cells (rCs M.gt gr M.pg.length c2 gwr M.ws.length d) 36))
  have hB0 : w.heap.size + 1 + 1 ≤ ((w.alloc (.cells (ldCs s n c s' n' c' gt rt) 25)).alloc (.cells (hCs pc R a m q why ep home) 30)).heap.size := by simp
  clear TT B2 CM HM
  generalize ((w.alloc _).alloc _).heap.size = B0 at *
  generalize w2.heap.size = b2 at *
  generalize (w2.alloc _) = W2 at *
  -- the copy that goes in
  have CP2 := Lib.hid (CP.out W2 B3.out)
  clear CP
  have q1 := X2.out.lt
  obtain ⟨k0, k1, k2, k3, k4, k5, k6, k7, k8, k9, k10, k11, k12⟩ := hart_cells X2.out
  go_upto_region 3 with (go_at_call 7; (with_reducible refine CP2.out.mono ?_); rintro e w3 ⟨a3, c3, rfl, sk, hb⟩; have K3 := Lib.hid sk; have H3 := Lib.hid hb; clear sk hb)
  have T0 := below_new w3 (.cells (hCs pc R a3 m c3 why ep home) 30)
  have I3 := Lib.hid (Whole.new w3 30 (hCs pc R a3 m c3 why ep home))
  have D3 := Lib.hid ((D2.out.belowS H3.out).belowS T0)
  have X3 := Lib.hid ((X2.out.belowS H3.out).belowS T0)
  have K3' := Lib.hid (K3.out.belowS T0)
  have B3' := Lib.hid ((B3.out.trans (H3.out.mono B3.out.size)).trans (T0.mono (Nat.le_trans B3.out.size H3.out.size)))
  have L3 := Lib.hid (And.intro D2.out.lt H3.out.size)
  clear k0 k1 k2 k3 k4 k5 k6 k7 k8 k9 k10 k11 k12 T0 q1 B3 X2 D2 CP2 K3 H3
  generalize hb3 : w3.heap.size = b3 at *
  clear hb3
  generalize (w3.alloc _) = W3 at *
  -- the program's step
  have CS3 := Lib.hid (CS.out p t g gw a3 c3 W3 D3.out.pm K3'.out.reads)
  clear CS
  obtain ⟨k0, k1, k2, k3, k4, k5, k6, k7, k8, k9, k10, k11, k12⟩ := hart_cells I3.out
  have q1 := I3.out.lt
  go_upto_region 4 with (go_at_call 8; (with_reducible refine CS3.out.mono ?_); intro e w4 hD; have F4 := Lib.hid hD.low; obtain ⟨a4, n4, c4, rfl, sk, pm, hf⟩ := hD; simp only at sk pm; have K4 := Lib.hid sk; have P4 := Lib.hid pm; clear sk pm hf)
  obtain ⟨T0, T1, T2⟩ := hn_facts w4 (hCs pc4 R4 a4 n4 c4 why4 ep4 home4) (nCs sf st nt nx)
  have D4 := Lib.hid ((D3.out.prog F4.out P4.out).belowS T0)
  have X4 := Lib.hid ((X3.out.fr F4.out (by have l1 := D3.out.b1; have l2 := D3.out.b3; have l3 := D3.out.b4; rintro (e | e | e) <;> omega)).belowS T0)
  have I4 := Lib.hid ((I3.out.fr F4.out (by obtain ⟨⟨l1, l2, l3, l4, _⟩, l6⟩ := L3.out; rintro (e | e | e) <;> omega)).belowS T0)
  have J4 := Lib.hid ((K3'.out.fr F4.out (fun k hk => by have := (World.ownsRow.lt K3'.out k hk).1; obtain ⟨⟨l1, l2, l3, l4, _⟩, l6⟩ := L3.out; rintro (e | e | e) <;> omega)).belowS T0)
  have B4 := Lib.hid ((PR.Below.fr B3'.out F4.out B3'.out.size (by have l1 := D3.out.b1; have l2 := D3.out.b3; have l3 := D3.out.b4; rintro i (rfl | rfl | rfl) <;> omega)).trans (T0.mono (Nat.le_trans B3'.out.size F4.out.size)))
  have K4' := Lib.hid (K4.out.belowS T0)
  have G4 := Lib.hid (show W3.heap.size ≤ w4.heap.size from F4.out.size)
  have O3 := Lib.hid (show ∀ k, (Value.slice a3 m c3).ownBlock = some k → k < W3.heap.size from fun k hk => (World.ownsRow.lt K3'.out k hk).2)
  have Q3 := Lib.hid I3.out.lt
  have S3 := Lib.hid (show w.heap.size ≤ W3.heap.size from B3'.out.size)
  clear k0 k1 k2 k3 k4 k5 k6 k7 k8 k9 k10 k11 k12 T0 q1 F4 P4 K4 B3' X3 D3 CS3 I3 K3' L3
  generalize hb4 : w4.heap.size = b4 at *
  clear hb4
  generalize ((w4.alloc _).alloc _) = W4 at *
  have V4 := Lib.hid (And.intro T1 T2)
  clear T1 T2
  -- the reference's step
  have CR4 := Lib.hid (CR.out gr c2 gwr d W4 D4.out.rm B4.out)
  clear CR
  obtain ⟨k0, k1, k2, k3, k4, k5, k6, k7, k8, k9, k10, k11, k12⟩ := hart_cells X4.out
  obtain ⟨r0, r1, r2, r3, r4, r5, r6, r7, r8, r9⟩ := box_cells D4.out.box
  have q1 := X4.out.lt
  have q2 := D4.out.box.lt
  go_upto_region 5 with (go_at_call 9; (with_reducible refine CR4.out.mono ?_); rintro e w5 ⟨a5, n5, c5, gw5, d5, rfl, sk, rm, hgw5, hb⟩; simp only at sk rm; have K5 := Lib.hid sk; have M5 := Lib.hid rm; have H5 := Lib.hid hb; clear sk rm hgw5 hb)
  obtain ⟨T0, T1, T2, T3⟩ := h3_facts w5 (hCs pc4 R4 a5 n5 c5 why4 ep4 home4) (rCs M4.gt gr M4.pg.length c2 gw5 M4.ws.length d5) (nCs sf st nt nx)
  have hn45 : n4 = n5 := by
    have h1 := K4'.out.len
    have h2 := K5.out.len
    omega
  subst hn45
  have hT := H5.out.trans (T0.mono H5.out.size)
  have P5 := Lib.hid (D4.out.pm.belowS hT)
  have M5' := Lib.hid (M5.out.belowS T0)
  have X5 := Lib.hid (X4.out.belowS hT)
  have I5 := Lib.hid (I4.out.belowS hT)
  have J5 := Lib.hid (J4.out.belowS hT)
  have B5 := Lib.hid (B4.out.trans (hT.mono B4.out.size))
  have KX := Lib.hid (K4'.out.belowS hT)
  have KY := Lib.hid (K5.out.belowS T0)
  have VX := Lib.hid (V4.out.1.belowS hT)
  have VN := V4.out.2.belowS hT
  have VY := T1
  have VM := T2
  have VK := T3
  clear k0 k1 k2 k3 k4 k5 k6 k7 k8 k9 k10 k11 k12 r0 r1 r2 r3 r4 r5 r6 r7 r8 r9 q1 q2 T0 T1 T2 T3 hT D4 CR4 K5 M5 H5 X4 I4 J4 B4 K4' V4
  generalize w5.heap.size = b5 at *
  generalize (((w5.alloc _).alloc _).alloc _) = W5 at *
  -- what is told of both
  have CE5 := Lib.hid (fun (u : World) (hb : Below W5.heap.size W5 u) => CE4.out u a4 n4 c4 a5 n4 c5 (KX.out.belowS hb).reads (KY.out.belowS hb).reads)
  have CE6 := Lib.hid (fun (u : World) (hb : Below W5.heap.size W5 u) => CE.out u a3 c3 (J5.out.belowS hb).reads (B5.out.trans (hb.mono B5.out.size)))
  have SA := Lib.hid (fun (u : World) (hb : Below W5.heap.size W5 u) => same_any (P5.out.belowS hb) (M5'.out.belowS hb))
  have VV := Lib.hid (And.intro VX.out (And.intro VN (And.intro VY (And.intro VM (And.intro VK (And.intro I5.out X5.out))))))
  have HB : Below W5.heap.size W5 W5 := Below.refl _ _
  obtain ⟨v0, v1, v2, v3, v4, v5, v6, v7, v8, v9, v10, v11, v12⟩ := hart_cells VX.out
  obtain ⟨y0, y1, y2, y3, y4, y5, y6, y7, y8, y9, y10, y11, y12⟩ := hart_cells VY
  have q1 := VX.out.lt
  have q2 := VY.lt
  clear VN VY VM VK CE4
  go_upto_region 7 with (first | (go_at_call 10; (first | (with_reducible refine (CE5.out _ HB).mono ?_) | (with_reducible refine (CE6.out _ HB).mono ?_)); rintro e w6 ⟨rfl, hb⟩; have HB := below_of HB hb; have HV := VV.out; obtain ⟨z1, z2, z3, z4, z5, z6, z7⟩ := HV; replace z2 := z2.belowS HB; replace z4 := z4.belowS HB; replace z5 := z5.belowS HB; replace z6 := z6.belowS HB; replace z7 := z7.belowS HB; have l2 := z2.lt; have l4 := z4.lt; have l5 := z5.lt; have l6 := z6.lt; have l7 := z7.lt; obtain ⟨f0, f1, f2, f3⟩ := note_cells z2; obtain ⟨g0, g1, g2, g3⟩ := note_cells z5; obtain ⟨m0, m1, m2, m3, m4, m5, m6, m7, m8, m9⟩ := box_cells z4; obtain ⟨i0, i1, i2, i3, i4, i5, i6, i7, i8, i9, i10, i11, i12⟩ := hart_cells z6; obtain ⟨j0, j1, j2, j3, j4, j5, j6, j7, j8, j9, j10, j11, j12⟩ := hart_cells z7; clear hb z1 z2 z4 z5 z6 z7) | (go_at_call 11; (with_reducible refine (SA.out _ HB).mono ?_); rintro e w7 ⟨rfl, hb⟩; have HB := below_of HB hb; have HV := VV.out; obtain ⟨z1, z2, z3, z4, z5, z6, z7⟩ := HV; replace z6 := z6.belowS HB; replace z7 := z7.belowS HB; have l6 := z6.lt; have l7 := z7.lt; obtain ⟨i0, i1, i2, i3, i4, i5, i6, i7, i8, i9, i10, i11, i12⟩ := hart_cells z6; obtain ⟨j0, j1, j2, j3, j4, j5, j6, j7, j8, j9, j10, j11, j12⟩ := hart_cells z7; clear hb z1 z2 z3 z4 z5 z6 z7))
  -- each word of the program's stack turned
  have KX6 := KX.out.belowS HB
  have VX6 := VX.out.belowS HB
  have I6 := I5.out.belowS HB
  have X6 := X5.out.belowS HB
  have J6 := J5.out.belowS HB
  have B6 := B5.out.trans (HB.mono B5.out.size)
  have kx := World.ownsRow.lt KX6
  have EX : Hid (∀ wr, Fr (fun j => (Value.slice a4 n4 c4).ownBlock = some j) w6 wr → Whole wr (w.heap.size + 1) 30 (hCs pc R a m q why ep home) ∧ Whole wr b4 30 (hCs pc4 R4 a4 n4 c4 why4 ep4 home4) ∧ Whole wr b3 30 (hCs pc R a3 m c3 why ep home) ∧ Below w.heap.size w wr ∧ Rs wr.heap.size wr a3 m c3 L) := Lib.hid fun wr hf => by
    have hbr : Below w.heap.size w wr := PR.Below.fr B6 hf B6.size (fun i hi => by have := kx i hi; have := S3.out; omega)
    exact ⟨X6.fr hf (KX6.ne_ X6 (by decide)), VX6.fr hf (KX6.ne_ VX6 (by decide)), I6.fr hf (KX6.ne_ I6 (by decide)), hbr, (J6.fr hf (fun k hk hk' => by have := kx k hk'; have := O3.out k hk; omega)).reads⟩
  have KCx := Lib.hid KX6
  have HM : Hid (n4 ≤ maxLen) := Lib.hid KX6.nmax
  have hm : (n4 : Int) ≤ 9223372036854775807 := by have := HM.out; unfold maxLen at this; omega
  clear KX6 VX6 I6 X6 J6 B6 kx KX KY VX I5 X5 J5 B5 P5 M5' CE5 CE6 SA VV HB z3 l2 l4 l5 l6 l7 q1 q2 O3 Q3 S3 G4 HLM hB0
  clear v0 v1 v2 v3 v4 v5 v6 v7 v8 v9 v10 v11 v12 y0 y1 y2 y3 y4 y5 y6 y7 y8 y9 y10 y11 y12
  clear i0 i1 i2 i3 i4 i5 i6 i7 i8 i9 i10 i11 i12 j0 j1 j2 j3 j4 j5 j6 j7 j8 j9 j10 j11 j12 f0 f1 f2 f3 g0 g1 g2 g3 m0 m1 m2 m3 m4 m5 m6 m7 m8 m9
  generalize W3.heap.size = B3 at *
  go_wp2_with fail
  go_loopw [15] (fun i wr => ∃ (k : Nat) (lk : List Int), k ≤ n4 ∧ i = .int .i64 (k : Int) ∧ Hid (Sk wr B3 a4 n4 c4 lk) ∧ Hid (Fr (fun j => (Value.slice a4 n4 c4).ownBlock = some j) w6 wr)) (fun i _ => n4 - (intOf i).toNat)
  case atStart => exact ⟨0, L4, by omega, rfl, KCx, Lib.hid (Fr.refl _ _)⟩
  case round =>
    obtain ⟨k, lk, hk, rfl, hs, hf⟩ := hrel
    obtain ⟨x1, x2, x3, x4, x5⟩ := EX.out _ hf.out
    by_cases hlt : k < n4
    · have hlt' : (k : Int) < n4 := by omega
      have m9 := x2.cell 9
      simp at m9
      have hs0 := hs.out
      rcases id hs0.2 with ⟨_, h0⟩ | ⟨g, cap, cur, e, _⟩
      · omega
      · simp only [Value.slice.injEq, true_and] at e
        obtain ⟨rfl, rfl⟩ := e
        have hll := hs0.len
        have y1 := World.ownsRow.cellAt hs0 k (by omega)
        rw [wcs_at (by omega)] at y1
        have y2 := World.ownsRow.frozenAt hs0 k
        have SR := Lib.hid (fun x => World.ownsRow.stored hs0 k (.int .u32 x))
        generalize lk.getD k 0 = x at *
        have x2c := x2.lt
        clear x1 x3 x4 x5 hs hs0 hll
        go_wp2_with fail
        go_roundw
        case rel => exact ⟨k + 1, lk.set k ((x + 1) % 4294967296), by omega, by go_num, Lib.hid (by have h3 := (SR.out ((x + 1) % 4294967296)).1; rw [wcs_set] at h3; exact h3), Lib.hid (hf.out.set (p := ⟨g, k, none⟩) (Or.inl rfl) _)⟩
        case measure => simp [intOf]; omega
    · obtain rfl : k = n4 := by omega
      obtain ⟨c0, c1, c2', c3', c4', c5', c6, c7, c8, c9, c10, c11, c12⟩ := hart_cells x1
      obtain ⟨d0, d1, d2, d3, d4', d5', d6, d7, d8, d9, d10, d11, d12⟩ := hart_cells x3
      have m9 := x2.cell 9
      simp at m9
      have x4h := Lib.hid (And.intro x4 x5)
      clear x1 x2 x3 x4 x5 hs hf
      go_wp2_with (first | (go_at_call 10; (with_reducible refine (CE.out _ _ _ x4h.out.2 x4h.out.1).mono ?_); rintro e w8 ⟨rfl, hb⟩; have H5 := Lib.hid (x4h.out.1.trans (hb.mono x4h.out.1.size)); clear hb) | (go_at_call 12; (with_reducible refine (AW.out _).mono ?_); rintro e w9 ⟨rfl, hb⟩; have H6 := Lib.hid (H5.out.trans (hb.mono H5.out.size)); clear hb))
      go_ret
      exact ⟨rfl, H6.out⟩
end Go.Proofs.YtihcellcdkhadaaGreat.WK
