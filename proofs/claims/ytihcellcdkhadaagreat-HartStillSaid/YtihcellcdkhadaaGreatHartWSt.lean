/-
  The law HartStill, walked. Nothing here is a statement of the seed.
-/
import Derived.Test.YtihcellcdkhadaaGreatHartTry
import Derived.Test.YtihcellcdkhadaaGreatHartSame
import Derived.Deep.CutRange
set_option linter.unusedSimpArgs false
set_option linter.unusedVariables false
namespace Go.Proofs.YtihcellcdkhadaaGreat.HF
open Go.RowKit PM PR PF MM MR MF HM HR
/-- two boxes, of what is to be made and of a hart -/
theorem lh2_facts (w : World) (cl ch : Array Value) : Below w.heap.size w ((w.alloc (.cells cl 25)).alloc (.cells ch 30)) ∧ Whole ((w.alloc (.cells cl 25)).alloc (.cells ch 30)) w.heap.size 25 cl ∧ Whole ((w.alloc (.cells cl 25)).alloc (.cells ch 30)) (w.heap.size + 1) 30 ch := by
  refine ⟨bl2 .., (Whole.new w _ _).alloc _, ?_⟩
  have := Whole.new (w.alloc (.cells cl 25)) 30 ch
  simpa using this
/-- what was made, and the box of the reference's memory -/
theorem duo_made {w2 : World} {M : Mm} {p t g gwp gr c gw d : Nat} {B : Nat} (ok : MOk M) (hP : Pm w2 p t g gwp M) (hR : Rm w2 gr c gw d M) (h1 : gr ≠ g) (h2 : gw ≠ gwp) (b1 : B ≤ p) (b2 : B ≤ t) (b3 : B ≤ g) (b4 : B ≤ gwp) (b5 : B ≤ w2.heap.size) (b6 : B ≤ gr) (b7 : B ≤ gw) :
    Duo B p t g gwp w2.heap.size M M gr c gw d (w2.alloc (.cells (rCs M.gt gr M.pg.length c gw M.ws.length d) 36)) :=
  ⟨hP.belowS (below_new _ _), hR.belowS (below_new _ _), ok, h1, h2, Whole.new _ _ _, b1, b2, b3, b4, b5, b6, b7⟩
end Go.Proofs.YtihcellcdkhadaaGreat.HF
namespace Go.Proofs.YtihcellcdkhadaaGreat.WK
open Go.RowKit PM PR PF MM MR MF HM HR HF
set_option maxHeartbeats 16000000
set_option maxRecDepth 10000
theorem HartStill_walk {w : World} {s : Option Addr} {n c : Nat} {l : List Int} {s' : Option Addr} {n' c' : Nat} {l' : List Int} {gt : Int} {rt : Bool} {h : Ht} {a : Option Addr} {m q : Nat} {xe : Int} (hc : Rs w.heap.size w s n c l) (hd : Rs w.heap.size w s' n' c' l') (hr : Rs w.heap.size w a m q h.sk) (hn : h.sk.length * 4 ≤ 140737488355328) :
    Calls Tryz.prog 5 #[.agg #[.slice s n c, .slice s' n' c', .int .u32 gt, .bool rt], hV h.pc h.r a m q h.why h.ep h.home, .int .u64 xe] w fun e w' => e = .returned (.bool true) ∧ Below w.heap.size w w' := by
  have hlm := hr.len
  obtain ⟨T0, T1, T2⟩ := lh2_facts w (ldCs s n c s' n' c' gt rt) (hCs h.pc h.r a m q h.why h.ep h.home)
  have CM := Lib.hid (show Calls _ _ #[.agg #[.slice s n c, .slice s' n' c', .int .u32 gt, .bool rt]] _ _ from made_any (rs_go hc T0 T0.size) (rs_go hd T0 T0.size) gt rt)
  have mk := land_ok l l' gt rt
  have CN := Lib.hid (fun (p t g gw : Nat) (u : World) (h' : Pm u p t g gw (landM l l' gt rt)) (hb : Below w.heap.size w u) => step_nil (h := h) (n := m) (c := q) (a := a) h' (rs_go hr hb hb.size) (by omega) xe)
  have CS := Lib.hid (fun (p t g gw : Nat) (u : World) (h' : Pm u p t g gw (landM l l' gt rt)) (hb : Below w.heap.size w u) (hw : ¬ h.why = 0) => step_still (h := h) (n := m) (c := q) (a := a) h' (rs_go hr hb hb.size) (by omega) xe hw)
  generalize landM l l' gt rt = M at *
  obtain ⟨pc, R, L, why, ep, home⟩ := h
  simp only at *
  have CE := Lib.hid (fun (u : World) (a1 : Option Addr) (c1 : Nat) (x1 : Rs u.heap.size u a1 m c1 L) (hb : Below w.heap.size w u) => sameH_any pc R why ep home pc R why ep home x1 (rs_go hr hb hb.size))
  rw [show decide (One pc R L why ep home pc R L why ep home) = true from decide_eq_true ⟨rfl, rfl, rfl, rfl, rfl, rfl⟩] at CE
  have AW := Lib.hid awake_any
  have TT := Lib.hid (And.intro T0 T2)
  have HM := Lib.hid mk
  have HLM := Lib.hid hlm.1
  clear T0 T1 T2 mk hc hd hr hn hlm
  go_enter Tryz.func5, Tryz.ntmps5
  go_upto_region 2 with (go_at_call 6; (with_reducible refine CM.out.mono ?_); rintro e w2 ⟨p, t, g, gw, gr, c2, gwr, d, rfl, pm, rm, hgr, hgwr, hp, ht, hg, hgw, hgr2, hgwr2, hb2⟩; have D2 := Lib.hid (duo_made HM.out pm rm hgr hgwr hp ht hg hgw hb2.size hgr2 hgwr2); have B2 := Lib.hid hb2; clear pm rm hb2 hgr hgwr hp ht hg hgw hgr2 hgwr2)
  have X2 := Lib.hid ((TT.out.2.belowS B2.out).alloc (.cells (rCs M.gt gr M.pg.length c2 gwr M.ws.length d) 36))
  have B3 := Lib.hid ((TT.out.1.trans (B2.out.mono TT.out.1.size)).alloc (Nat.le_trans TT.out.1.size B2.out.size) (.cells (rCs M.gt gr M.pg.length c2 gwr M.ws.length d) 36))
  have hB0 : w.heap.size + 1 + 1 ≤ ((w.alloc (.cells (ldCs s n c s' n' c' gt rt) 25)).alloc (.cells (hCs pc R a m q why ep home) 30)).heap.size := by simp
  clear TT B2 CM HM
  generalize ((w.alloc _).alloc _).heap.size = B0 at *
  generalize w2.heap.size = b2 at *
  generalize (w2.alloc _) = W2 at *
  have CN2 := Lib.hid (CN.out p t g gw W2 D2.out.pm B3.out)
  clear CN
  have q1 := X2.out.lt
  obtain ⟨k0, k1, k2, k3, k4, k5, k6, k7, k8, k9, k10, k11, k12⟩ := hart_cells X2.out
  go_upto_region 3 with (go_at_call 8; (with_reducible refine CN2.out.mono ?_); intro e w5 hD; have F5 := Lib.hid hD.low; obtain ⟨a5, n5, d5, rfl, sk, pm, hf⟩ := hD; have hn5 : m = n5 := (by have h1 := sk.len; have h2 := HLM.out; simp only at h1; omega); subst hn5; have K5 := Lib.hid sk; have P5 := Lib.hid pm; clear sk pm hf)
  obtain ⟨T0, T1, T2⟩ := hn_facts w5 (hCs pc R a5 m d5 why ep home) (nCs false false 0 0)
  have D5 := Lib.hid ((D2.out.prog F5.out P5.out).belowS T0)
  have X5 := Lib.hid ((X2.out.fr F5.out (by have l1 := D2.out.b1; have l2 := D2.out.b3; have l3 := D2.out.b4; rintro (e | e | e) <;> omega)).belowS T0)
  have B5 := Lib.hid ((PR.Below.fr B3.out F5.out B3.out.size (by have l1 := D2.out.b1; have l2 := D2.out.b3; have l3 := D2.out.b4; rintro i (rfl | rfl | rfl) <;> omega)).trans (T0.mono (Nat.le_trans B3.out.size F5.out.size)))
  have K5' := Lib.hid (K5.out.belowS T0)
  clear k0 k1 k2 k3 k4 k5 k6 k7 k8 k9 k10 k11 k12 T0 q1 F5 P5 K5 B3 X2 D2 CN2
  generalize w5.heap.size = b5 at *
  generalize ((w5.alloc _).alloc _) = W5 at *
  obtain ⟨k0, k1, k2, k3, k4, k5, k6, k7, k8, k9, k10, k11, k12⟩ := hart_cells T1
  obtain ⟨m0, m1, m2, m3, m4, m5, m6, m7, m8, m9, m10, m11, m12⟩ := hart_cells X5.out
  obtain ⟨o0, o1, o2, o3⟩ := note_cells T2
  have q1 := T1.lt
  have q2 := X5.out.lt
  have q3 := T2.lt
  have YY := Lib.hid (And.intro T1 T2)
  clear T1 T2
  by_cases hw : why = 0
  · subst hw
    have KX := Lib.hid K5'.out.reads
    clear CS D5
    go_wp2_with (first | (go_at_call 13; (with_reducible refine (CE.out _ _ _ KX.out B5.out).mono ?_); rintro e w6 ⟨rfl, hb⟩; have B6 := Lib.hid (B5.out.trans (hb.mono B5.out.size)); have X6 := X5.out.belowS hb; have Y6 := YY.out.1.belowS hb; have Z6 := YY.out.2.belowS hb; have r1 := X6.lt; have r2 := Z6.lt; obtain ⟨x0, x1, x2, x3, x4, x5, x6, x7, x8, x9, x10, x11, x12⟩ := hart_cells X6; obtain ⟨y0, y1, y2, y3⟩ := note_cells Z6; clear hb X6 Y6 Z6) | (go_at_call 12; (with_reducible refine (AW.out _).mono ?_); rintro e w10 ⟨rfl, hb⟩; have HZ := Lib.hid hb; clear hb))
    go_ret
    exact ⟨rfl, B6.out.trans (HZ.out.mono B6.out.size)⟩
  · have hw' : (why != 0) = true := by simpa using hw
    have KX := Lib.hid K5'.out.reads
    have CS' := Lib.hid (fun u h' hb => CS.out p t g gw u h' hb hw)
    rw [show stepR ⟨pc, R, L, why, ep, home⟩ M xe = ⟨⟨pc, R, L, why, ep, home⟩, M, false, false, 0, 0⟩ by unfold stepR; rw [if_neg hw]] at CS'
    clear CS hw K5'
    go_upto_region 6 with (go_at_call 13; (with_reducible refine (CE.out _ _ _ KX.out B5.out).mono ?_); rintro e w6 ⟨rfl, hb⟩; have B6 := Lib.hid (B5.out.trans (hb.mono B5.out.size)); have D6 := Lib.hid (D5.out.belowS hb); have X6 := Lib.hid (X5.out.belowS hb); have Z6 := YY.out.2.belowS hb; have r1 := X6.out.lt; have r2 := Z6.lt; obtain ⟨x0, x1, x2, x3, x4, x5, x6, x7, x8, x9, x10, x11, x12⟩ := hart_cells X6.out; obtain ⟨y0, y1, y2, y3⟩ := note_cells Z6; clear hb Z6)
    clear k0 k1 k2 k3 k4 k5 k6 k7 k8 k9 k10 k11 k12 m0 m1 m2 m3 m4 m5 m6 m7 m8 m9 m10 m11 m12 o0 o1 o2 o3 q1 q2 q3 YY KX X5 D5 B5 y0 y1 y2 y3 r2
    have CS6 := Lib.hid (CS'.out w6 D6.out.pm B6.out)
    clear CS'
    go_upto_region 7 with (go_at_call 8; (with_reducible refine CS6.out.mono ?_); intro e w7 hD; have F7 := Lib.hid hD.low; obtain ⟨a7, n7, d7, rfl, sk, pm, hf⟩ := hD; have hn7 : m = n7 := (by have h1 := sk.len; have h2 := HLM.out; simp only at h1; omega); subst hn7; have K7 := Lib.hid sk; have P7 := Lib.hid pm; clear sk pm hf)
    obtain ⟨T0, T1, T2⟩ := hn_facts w7 (hCs pc R a7 m d7 why ep home) (nCs false false 0 0)
    have D7 := Lib.hid ((D6.out.prog F7.out P7.out).belowS T0)
    have X7 := Lib.hid ((X6.out.fr F7.out (by have l1 := D6.out.b1; have l2 := D6.out.b3; have l3 := D6.out.b4; rintro (e | e | e) <;> omega)).belowS T0)
    have B7 := Lib.hid ((PR.Below.fr B6.out F7.out B6.out.size (by have l1 := D6.out.b1; have l2 := D6.out.b3; have l3 := D6.out.b4; rintro i (rfl | rfl | rfl) <;> omega)).trans (T0.mono (Nat.le_trans B6.out.size F7.out.size)))
    have K7' := Lib.hid (K7.out.belowS T0).reads
    clear x0 x1 x2 x3 x4 x5 x6 x7 x8 x9 x10 x11 x12 T0 r1 F7 P7 K7 B6 X6 D6 CS6
    generalize w7.heap.size = b7 at *
    generalize ((w7.alloc _).alloc _) = W7 at *
    obtain ⟨k0, k1, k2, k3, k4, k5, k6, k7, k8, k9, k10, k11, k12⟩ := hart_cells T1
    obtain ⟨m0, m1, m2, m3, m4, m5, m6, m7, m8, m9, m10, m11, m12⟩ := hart_cells X7.out
    have q1 := T1.lt
    have q2 := X7.out.lt
    have YY := Lib.hid (And.intro T1 T2)
    clear T1 T2
    have SA := Lib.hid (fun (u : World) (h' : Duo B0 p t g gw b2 M M gr c2 gwr d u) => same_any h'.pm h'.rm)
    go_wp2_with (first | (go_at_call 13; (with_reducible refine (CE.out _ _ _ K7'.out B7.out).mono ?_); rintro e w8 ⟨rfl, hb⟩; have B8 := Lib.hid (B7.out.trans (hb.mono B7.out.size)); have D8 := Lib.hid (D7.out.belowS hb); have Z8 := YY.out.2.belowS hb; have r2 := Z8.lt; obtain ⟨y0, y1, y2, y3⟩ := note_cells Z8; obtain ⟨x0, x1, x2, x3, x4, x5, x6, x7, x8, x9⟩ := box_cells D8.out.box; have r3 := D8.out.box.lt; clear hb Z8) | (go_at_call 11; (with_reducible refine (SA.out _ D8.out).mono ?_); rintro e w9 ⟨rfl, hb⟩; have B9 := Lib.hid (B8.out.trans (hb.mono B8.out.size)); clear hb) | (go_at_call 12; (with_reducible refine (AW.out _).mono ?_); rintro e w10 ⟨rfl, hb⟩; have HZ := Lib.hid hb; clear hb))
    go_ret
    exact ⟨rfl, B9.out.trans (HZ.out.mono B9.out.size)⟩
end Go.Proofs.YtihcellcdkhadaaGreat.WK
