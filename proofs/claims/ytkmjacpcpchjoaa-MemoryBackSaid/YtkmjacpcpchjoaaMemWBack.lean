/-
  The walk of MemoryBack. Nothing here is a statement of the seed.
-/
import Derived.Test.YtkmjacpcpchjoaaMemAwake
import Derived.Test.YtkmjacpcpchjoaaMemMath
set_option linter.unusedSimpArgs false
set_option linter.unusedVariables false
namespace Go.Proofs.Ytkmjacpcpchjoaa.WK
open Go.RowKit PM PR PF MM MR MF

/-- what lies above a bound may have turned -/
theorem ms_below {B p g gw : Nat} {a b c : World} (h : Below B a b) (hf : Fr (MS p g gw) b c) (hB : B ≤ b.heap.size) (h1 : B ≤ p) (h2 : B ≤ g) (h3 : B ≤ gw) : Below B a c := PR.Below.fr h hf hB (by rintro i (rfl | rfl | rfl) <;> assumption)
set_option maxHeartbeats 2000000 in
set_option maxRecDepth 10000 in
theorem MemoryBack_walk (k8 : Int) (hk8 : 0 ≤ k8 ∧ k8 ≤ 255) (x ep r : Int) (w : World) : Calls Try.prog 8 #[.int .u8 k8, .int .u32 x, .agg #[.int .u64 ep, .int .u64 r]] w fun e w' => e = .returned (.bool true) ∧ Below w.heap.size w w' := by
  obtain ⟨hk80, hk81⟩ := hk8
  have CA := Lib.hid (fun u => awake_any u)
  have CN := Lib.hid (fun u => newP_any 4 u)
  rw [show (min (max (4 : Int) 0) 256).toNat = 4 from rfl] at CN
  have hl0 : (newM 4).ws.length = 64 := rfl
  have hpg : (newM 4).pg = zeros 4 := rfl
  have eN : newM 4 = ⟨(newM 4).gt, zeros 4, (newM 4).ws⟩ := rfl
  generalize (newM 4).gt = G0 at *
  generalize (newM 4).ws = ws0 at *
  rw [eN] at CN
  have PG := Lib.hid (fun (u : World) (p t g gw : Nat) (M : Mm) (h : Pm u p t g gw M) => pages_any h)
  have S1 := Lib.hid (fun (u : World) (p t g gw : Nat) (h : Pm u p t g gw ⟨G0, zeros 4, ws0⟩) => stage_tb h.tb 1 2 5 (by omega))
  rw [show stageE (Mm.mk G0 (zeros 4) ws0).pg 1 2 5 = 0 from bk_s.1, show stageL (Mm.mk G0 (zeros 4) ws0).pg 1 2 5 = bk0 from bk_s.2] at S1
  have S2 := Lib.hid (fun (u : World) (p t g gw : Nat) (h : Pm u p t g gw ⟨G0, bk0, ws0⟩) => publish_tb h.tb 5 1)
  rw [show pubE (Mm.mk G0 bk0 ws0).pg 5 1 = 0 from bk_p.1, show pubL (Mm.mk G0 bk0 ws0).pg 5 1 = bk1 from bk_p.2] at S2
  have S3 := Lib.hid (fun (u : World) (p t g gw : Nat) (ws : List Int) (h : Pm u p t g gw ⟨G0, bk1, ws⟩) => retire_tb h.tb 5 r)
  have T1 := Lib.hid (fun (u u' : World) (p t g gw : Nat) (h : Pm u p t g gw ⟨G0, zeros 4, ws0⟩) (hf : Fr (fun i => i = g) u u') (hr : Row u' g bk0) => (show Pm u' p t g gw ⟨G0, bk0, ws0⟩ from h.pages hf rfl (by rw [← bk_s.2]; exact FineL.stage (fine_zeros 4) _ _ _) hr))
  have T2 := Lib.hid (fun (u u' : World) (p t g gw : Nat) (h : Pm u p t g gw ⟨G0, bk0, ws0⟩) (hf : Fr (fun i => i = g) u u') (hr : Row u' g bk1) => (show Pm u' p t g gw ⟨G0, bk1, ws0⟩ from h.pages hf rfl (by rw [← bk_p.2, ← bk_s.2]; exact FineL.pub (FineL.stage (fine_zeros 4) _ _ _) _ _) hr))
  have T3 := Lib.hid (fun (u u' : World) (p t g gw : Nat) (ws : List Int) (h : Pm u p t g gw ⟨G0, bk1, ws⟩) (hf : Fr (fun i => i = g) u u') (hr : Row u' g (retL bk1 5 r)) => (show Pm u' p t g gw ⟨G0, bk2 r, ws⟩ from h.pages hf rfl (by rw [← (bk_r r).2]; exact FineL.ret h.ok.fine _ _) hr))
  go_enter Try.func8, Try.ntmps8
  go_wp2_with fail
  go_region
  have hb0 := (below_new w (.cells #[.int .u64 ep, .int .u64 r] 73)).drew
  generalize (w.alloc (.cells #[.int .u64 ep, .int .u64 r] 73)).drew = W at *
  go_wp2_with fail
  (go_at_call 10; (with_reducible refine (CN.out _).mono ?_); rintro e w1 ⟨p, t, g, gw, rfl, hT, hp, ht, hg, hgw, hb⟩; have H1 := Lib.hid hT; have B1 := Lib.hid (below_of hb0 hb); have hp' := Nat.le_trans hb0.size hp; have hg' := Nat.le_trans hb0.size hg; have hgw' := Nat.le_trans hb0.size hgw; clear hT hb hp hg hgw ht)
  go_wp2_with fail
  (go_at_call 19; (with_reducible refine (PG.out _ _ _ _ _ _ H1.out).mono ?_); rintro e wq ⟨rfl, rfl⟩)
  go_wp2_with fail
  (go_at_call 32; (with_reducible refine (S1.out _ _ _ _ _ H1.out).mono ?_); rintro e w2 ⟨rfl, hf, hr⟩; have H2 := Lib.hid (T1.out _ _ _ _ _ _ H1.out hf hr); have B2 := Lib.hid (PR.Below.fr B1.out hf B1.out.size (by rintro i rfl; exact hg')); clear hf hr)
  go_wp2_with fail
  (go_at_call 19; (with_reducible refine (PG.out _ _ _ _ _ _ H2.out).mono ?_); rintro e wq ⟨rfl, rfl⟩)
  go_wp2_with fail
  (go_at_call 33; (with_reducible refine (S2.out _ _ _ _ _ H2.out).mono ?_); rintro e w3 ⟨rfl, hf, hr⟩; have H3 := Lib.hid (T2.out _ _ _ _ _ _ H2.out hf hr); have B3 := Lib.hid (PR.Below.fr B2.out hf B2.out.size (by rintro i rfl; exact hg')); clear hf hr)
  clear S1 S2 T1 T2 H1 H2 B1 B2 CN
  go_wp2_with fail
  have hA : 112 ≤ 112 + k8 % 16 ∧ 112 + k8 % 16 < 128 := by omega
  generalize 112 + k8 % 16 = A at *
  have hA4 : 0 ≤ A ∧ A ≤ 4294967295 := by omega
  have hA5 : 0 ≤ A - 16 ∧ A - 16 ≤ 4294967295 := by omega
  obtain ⟨z1, z2⟩ := bk_st1 (G := G0) hl0 hA ep x
  have C1 := Lib.hid (store_any H3.out A x ep 5 hA4)
  rw [z1, z2] at C1
  have hl1 : (ws0.set (A - 80).toNat x).length = 64 := by simpa using hl0
  obtain ⟨y1, y2⟩ := bk_ld1 (G := G0) hl0 hA ep x
  obtain ⟨y3, y4, y5⟩ := bk_fe1 (G := G0) hl0 hA ep x
  obtain ⟨y6, y7⟩ := bk_st4 (G := G0) hl1 hA ep 0
  obtain ⟨y8, y9⟩ := bk_st16 (G := G0) hl1 hA ep 0
  have y10 := bk_ld2 (G := G0) hl0 hA ep r x
  obtain ⟨y11, y12⟩ := bk_st2 (G := G0) hl0 hA ep r x
  have y13 := bk_word (G := G0) hl0 hA (bk2 r) x
  obtain ⟨r1, r2⟩ := bk_r r
  rw [r1, r2] at S3
  rw [r2] at T3
  generalize ws0.set (A - 80).toNat x = ws1 at *
  have L1 := Lib.hid (fun (u : World) (h : Pm u p t g gw ⟨G0, bk1, ws1⟩) => load_any h A ep hA4)
  rw [y1, y2] at L1
  have F1 := Lib.hid (fun (u : World) (h : Pm u p t g gw ⟨G0, bk1, ws1⟩) => fetch_any h A ep hA4)
  rw [y3, y4, y5] at F1
  have C4 := Lib.hid (fun (u : World) (h : Pm u p t g gw ⟨G0, bk1, ws1⟩) => store_any h A 0 ep 4 hA4)
  rw [y6, y7] at C4
  have C6 := Lib.hid (fun (u : World) (h : Pm u p t g gw ⟨G0, bk1, ws1⟩) => store_any h (A - 16) 0 ep 5 hA5)
  rw [y8, y9] at C6
  have L2 := Lib.hid (fun (u : World) (h : Pm u p t g gw ⟨G0, bk2 r, ws1⟩) => load_any h A ep hA4)
  rw [y10] at L2
  have C2 := Lib.hid (fun (u : World) (h : Pm u p t g gw ⟨G0, bk2 r, ws1⟩) => store_any h A x ep 5 hA4)
  rw [y11, y12] at C2
  have P2 := Lib.hid (fun (u : World) (h : Pm u p t g gw ⟨G0, bk2 r, ws1⟩) => peek_any h A hA4)
  rw [y13] at P2
  clear z1 z2 y1 y2 y3 y4 y5 y6 y7 y8 y9 y10 y11 y12 y13 r1 r2 hl0 hl1 hpg eN
  generalize loadW ⟨G0, bk2 r, ws1⟩ A ep = lw at *
  generalize bk2 r = K2 at *
  generalize bk1 = K1 at *
  obtain ⟨hA0, hA1⟩ := hA
  clear hA4 hA5
  (go_at_call 26; (with_reducible refine C1.out.mono ?_); rintro e w4 ⟨rfl, hf, hP⟩; have H4 := Lib.hid hP; have B4 := Lib.hid (ms_below B3.out hf B3.out.size hp' hg' hgw'); clear hf hP)
  go_wp2_with fail
  (go_at_call 23; (with_reducible refine (L1.out _ H4.out).mono ?_); rintro e w5 ⟨rfl, hb⟩; have H5 := Lib.hid (H4.out.belowS hb); have B5 := Lib.hid (below_of B4.out hb); clear hb)
  go_wp2_with fail
  (go_at_call 22; (with_reducible refine (F1.out _ H5.out).mono ?_); rintro e w6 ⟨rfl, hb⟩; have H6 := Lib.hid (H5.out.belowS hb); have B6 := Lib.hid (below_of B5.out hb); clear hb)
  go_wp2_with fail
  (go_at_call 26; (with_reducible refine (C4.out _ H6.out).mono ?_); rintro e w7 ⟨rfl, hf, hP⟩; have H7 := Lib.hid hP; have B7 := Lib.hid (ms_below B6.out hf B6.out.size hp' hg' hgw'); clear hf hP)
  go_wp2_with fail
  (go_at_call 26; (with_reducible refine (C6.out _ H7.out).mono ?_); rintro e w8 ⟨rfl, hf, hP⟩; have H8 := Lib.hid hP; have B8 := Lib.hid (ms_below B7.out hf B7.out.size hp' hg' hgw'); clear hf hP)
  go_wp2_with fail
  (go_at_call 19; (with_reducible refine (PG.out _ _ _ _ _ _ H8.out).mono ?_); rintro e wq ⟨rfl, rfl⟩)
  go_wp2_with fail
  (go_at_call 34; (with_reducible refine (S3.out _ _ _ _ _ _ H8.out).mono ?_); rintro e w9 ⟨rfl, hf, hr⟩; have H9 := Lib.hid (T3.out _ _ _ _ _ _ _ H8.out hf hr); have B9 := Lib.hid (PR.Below.fr B8.out hf B8.out.size (by rintro i rfl; exact hg')); clear hf hr)
  go_wp2_with fail
  (go_at_call 23; (with_reducible refine (L2.out _ H9.out).mono ?_); rintro e w10 ⟨rfl, hb⟩; have H10 := Lib.hid (H9.out.belowS hb); have B10 := Lib.hid (below_of B9.out hb); clear hb)
  go_wp2_with fail
  (go_at_call 26; (with_reducible refine (C2.out _ H10.out).mono ?_); rintro e w11 ⟨rfl, hf, hP⟩; have H11 := Lib.hid hP; have B11 := Lib.hid (ms_below B10.out hf B10.out.size hp' hg' hgw'); clear hf hP)
  go_wp2_with fail
  (go_at_call 24; (with_reducible refine (P2.out _ H11.out).mono ?_); rintro e w12 ⟨rfl, hb⟩; have B12 := Lib.hid (below_of B11.out hb); clear hb)
  go_wp2_with fail
  (go_at_call 9; (with_reducible refine (CA.out _).mono ?_); rintro e w13 ⟨rfl, hb⟩; have B13 := Lib.hid (below_of B12.out hb); clear hb)
  go_wp2_with fail
  go_ret
  exact ⟨rfl, B13.out⟩
end Go.Proofs.Ytkmjacpcpchjoaa.WK
