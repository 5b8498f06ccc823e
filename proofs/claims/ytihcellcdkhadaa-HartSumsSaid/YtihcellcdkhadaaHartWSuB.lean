/-
  The law HartSums, walked: two registers. Nothing here is a statement of the seed.
-/
import Derived.Test.YtihcellcdkhadaaHartTry
import Derived.Test.YtihcellcdkhadaaHartMath4
import Derived.Deep.CutRange
set_option linter.unusedSimpArgs false
set_option linter.unusedVariables false
namespace Go.Proofs.Ytihcellcdkhadaa.WK
open Go.RowKit PM PR PF MM MR MF HM HR HF
set_option maxHeartbeats 16000000
set_option maxRecDepth 10000
theorem sums_6 {w : World} {a b y : Int} (ha : B32 a) (hb : B32 b) (hy : 0 ≤ y ∧ y ≤ 255) (hk : y % 5 = 3) :
    Calls Try.prog 5 #[.int .u32 a, .int .u32 b, .int .u8 y] w fun e w' => e = .returned (.bool true) ∧ Below w.heap.size w w' := by
  have AW := Lib.hid awake_any
  have hr0 : ∀ i, B32 (regs 0 a b 0 0 0 0 0 i) := regs_ok b32_zero ha hb b32_zero b32_zero b32_zero b32_zero b32_zero
  have hr1 : ∀ i, B32 (regs 0 a b 0 0 0 ((a + b) % 4294967296) 0 i) := regs_ok b32_zero ha hb b32_zero b32_zero b32_zero (b32_mod _) b32_zero
  have hr2 : ∀ i, B32 (regs 0 a b 0 0 0 a 0 i) := regs_ok b32_zero ha hb b32_zero b32_zero b32_zero ha b32_zero
  have e1 := @su1_6 a b (bits .or .u32 (bits .or .u32 (bits .or .u32 402653184 100663296) 2097152) 2) (bits .or .u32 (bits .or .u32 (bits .or .u32 536870912 100663296) 12582912) 2) rfl
  have e2 := @su2_6 a b (bits .or .u32 (bits .or .u32 (bits .or .u32 402653184 100663296) 2097152) 2) (bits .or .u32 (bits .or .u32 (bits .or .u32 536870912 100663296) 12582912) 2) ha rfl
  have e3 := @su3_6 a b (bits .or .u32 (bits .or .u32 (bits .or .u32 402653184 100663296) 2097152) 2) (bits .or .u32 (bits .or .u32 (bits .or .u32 536870912 100663296) 12582912) 2)
  have wk : WOk (landM [(bits .or .u32 (bits .or .u32 (bits .or .u32 402653184 100663296) 2097152) 2), (bits .or .u32 (bits .or .u32 (bits .or .u32 536870912 100663296) 12582912) 2), 402653184] [] 0 false) := land_wok (by rw [show (bits .or .u32 (bits .or .u32 (bits .or .u32 402653184 100663296) 2097152) 2) = sw1 6 from rfl, show (bits .or .u32 (bits .or .u32 (bits .or .u32 536870912 100663296) 12582912) 2) = sw2 6 from rfl]; simp only [List.mem_cons, List.not_mem_nil, or_false]; rintro x (rfl | rfl | rfl) <;> first | (unfold B32 sw1; omega) | (unfold B32 sw2; omega) | (unfold B32; omega)) (by intro x hx; cases hx) b32_zero false
  have CM := Lib.hid (show Calls _ _ #[.agg #[.slice (some ⟨w.heap.size, 0, none⟩) 3 3, .slice none 0 0, .int .u32 0, .bool false]] (w.alloc (.cells #[.int .u32 (bits .or .u32 (bits .or .u32 (bits .or .u32 402653184 100663296) 2097152) 2), .int .u32 (bits .or .u32 (bits .or .u32 (bits .or .u32 536870912 100663296) 12582912) 2), .int .u32 402653184] _)) _ from made_any (rs_new w [(bits .or .u32 (bits .or .u32 (bits .or .u32 402653184 100663296) 2097152) 2), (bits .or .u32 (bits .or .u32 (bits .or .u32 536870912 100663296) 12582912) 2), 402653184] (by simp [maxLen])) (Reads.nil _ _) (data := []) 0 false)
  generalize hMM : landM [(bits .or .u32 (bits .or .u32 (bits .or .u32 402653184 100663296) 2097152) 2), (bits .or .u32 (bits .or .u32 (bits .or .u32 536870912 100663296) 12582912) 2), 402653184] [] 0 false = M at *
  have S1 := Lib.hid (fun (p t g gw : Nat) (u : World) (h : Pm u p t g gw M) => show Calls _ _ #[h8 80 0 a b 0 0 0 0 0 none 0 0 0 0 0, _, _] u _ from step_as (h := ⟨80, regs 0 a b 0 0 0 0 0, [], 0, 0, 0⟩) h (Reads.nil (fun _ => False) u) (by omega) ⟨b32_small (show (0 : Int) ≤ 80 ∧ (80 : Int) ≤ 100 by omega), hr0, fun x hx => (by cases hx), b32_zero⟩ wk 0 e1)
  have S2 := Lib.hid (fun (p t g gw : Nat) (u : World) (h : Pm u p t g gw M) (a1 : Option Addr) (n1 d1 : Nat) (hr : Rs u.heap.size u a1 n1 d1 []) => show Calls _ _ #[h8 81 0 a b 0 0 0 ((a + b) % 4294967296) 0 a1 n1 d1 0 0 0, _, _] u _ from step_as (h := ⟨81, regs 0 a b 0 0 0 ((a + b) % 4294967296) 0, [], 0, 0, 0⟩) h hr (by have := hr.len; simp at this; omega) ⟨b32_small (show (0 : Int) ≤ 81 ∧ (81 : Int) ≤ 100 by omega), hr1, fun x hx => (by cases hx), b32_zero⟩ wk 0 e2)
  have S3 := Lib.hid (fun (p t g gw : Nat) (u : World) (h : Pm u p t g gw M) (a1 : Option Addr) (n1 d1 : Nat) (hr : Rs u.heap.size u a1 n1 d1 []) => show Calls _ _ #[h8 82 0 a b 0 0 0 a 0 a1 n1 d1 0 0 0, _, _] u _ from step_as (h := ⟨82, regs 0 a b 0 0 0 a 0, [], 0, 0, 0⟩) h hr (by have := hr.len; simp at this; omega) ⟨b32_small (show (0 : Int) ≤ 82 ∧ (82 : Int) ≤ 100 by omega), hr2, fun x hx => (by cases hx), b32_zero⟩ wk 0 e3)
  clear e1 e2 e3 wk hr0 hr1 hr2 hMM
  go_enter Try.func5, Try.ntmps5
  go_upto_region 6 with (go_at_call 15; (with_reducible refine CM.out.mono ?_); rintro e w2 ⟨p, t, g, gw, gr, c, gwr, d, rfl, pm, rm, _, _, hp, ht, hg, hgw, _, _, hb2⟩; have H2 := Lib.hid pm; have B2 := Lib.hid hb2; clear pm rm hb2)
  obtain ⟨T0, T1⟩ := mh_facts w2 (rCs M.gt gr M.pg.length c gwr M.ws.length d) (HR.c8 80 0 a b 0 0 0 0 0 none 0 0 0 0 0)
  have hp' : w.heap.size ≤ p := by have := hp; simp at this; omega
  have hg' : w.heap.size ≤ g := by have := hg; simp at this; omega
  have hgw' : w.heap.size ≤ gw := by have := hgw; simp at this; omega
  have hs2 : w.heap.size ≤ w2.heap.size := by have := B2.out.size; simp at this; omega
  have H6 := Lib.hid (H2.out.belowS T0)
  have B6 := Lib.hid (((below_new w _).trans (B2.out.mono (by simp))).trans (T0.mono hs2))
  have HLT := Lib.hid H2.out.lt
  have HS6 := Lib.hid (T0.size)
  obtain ⟨c0, c1, c2', c3, c4, c5, c6, c7, c8, c9, c10, c11, c12⟩ := hart_cells T1
  have hlt := T1.lt
  clear T0 T1 H2 B2 CM hp ht hg hgw
  generalize w2.heap.size + 1 = b1 at *
  generalize ((w2.alloc _).alloc _) = W6 at *
  go_upto_region 7 with (go_at_call 17; (with_reducible refine (S1.out p t g gw _ H6.out).mono ?_); rintro e w3 ⟨a1, n1, d1, rfl, sk, pm, hf⟩; have H3 := Lib.hid pm; have F3 := Lib.hid hf; have K3 := Lib.hid (Reads.of_owns sk); clear sk pm hf)
  clear c0 c1 c2' c3 c4 c5 c6 c7 c8 c9 c10 c11 c12 hlt
  obtain ⟨T0, T1, _⟩ := hn_facts w3 (hCs 81 (regs 0 a b 0 0 0 ((a + b) % 4294967296) 0) a1 n1 d1 0 0 0) (nCs false false 0 0)
  have B3 := PR.Below.fr B6.out F3.out B6.out.size (by rintro i (rfl | rfl | rfl) <;> assumption)
  have H7 := Lib.hid (H3.out.belowS T0)
  have B7 := Lib.hid (B3.trans (T0.mono B3.size))
  have HB2 : Hid (w2.heap.size ≤ w3.heap.size) := Lib.hid (Nat.le_trans HS6.out F3.out.size)
  clear T0 B3 H3 F3 H6 B6 S1 HS6
  generalize w3.heap.size = b2 at *
  generalize ((w3.alloc _).alloc _) = W7 at *
  have BX := Lib.hid (show Whole W7 b2 28 (HR.c8 81 0 a b 0 0 0 ((a + b) % 4294967296) 0 a1 n1 d1 0 0 0) from T1)
  clear T1
  have q1' := BX.out.lt
  obtain ⟨c0, c1, c2', c3, c4, c5, c6, c7, c8, c9, c10, c11, c12⟩ := hart_cells BX.out
  go_upto_region 9 with fail
  clear c0 c1 c2' c3 c4 c5 c6 c7 c8 c9 c10 c11 c12 q1'
  have R7 := Lib.hid (K3.out.nil_any (G' := (· < W7.heap.size)) (w' := W7))
  have S2' := Lib.hid (S2.out p t g gw W7 H7.out a1 n1 d1 R7.out)
  obtain ⟨c0, c1, c2', c3, c4, c5, c6, c7, c8, c9, c10, c11, c12⟩ := hart_cells BX.out
  clear S2
  go_upto_region 10 with (go_at_call 17; (with_reducible refine S2'.out.mono ?_); rintro e w4 ⟨a2, n2, d2, rfl, sk, pm, hf⟩; have H4 := Lib.hid pm; have F4 := Lib.hid hf; have K4 := Lib.hid (Reads.of_owns sk); clear sk pm hf; have BX4 := Lib.hid (BX.out.fr F4.out (by obtain ⟨l1, l2, l3, l4⟩ := HLT.out; have := HB2.out; rintro (e | e | e) <;> omega)); have q1 := BX4.out.lt; obtain ⟨⟨v0, v1, v2, v3, v4, v5, v6, v7, v8, v9, v10, v11, v12, e0, e1, e2, e3, e4, e5, e6, e7, e8, e9, e10, e11, e12⟩, f0, f1, f2, f3, f4, f5, f6, f7, f8, f9, f10, f11, f12⟩ := hart_open BX4.out rfl)
  rw [putH_eq]
  have FP := putH_fr w4 b2 82 (regs 0 a b 0 0 0 a 0 0) (regs 0 a b 0 0 0 a 0 1) (regs 0 a b 0 0 0 a 0 2) (regs 0 a b 0 0 0 a 0 3) (regs 0 a b 0 0 0 a 0 4) (regs 0 a b 0 0 0 a 0 5) (regs 0 a b 0 0 0 a 0 6) (regs 0 a b 0 0 0 a 0 7) a2 n2 d2 0 0 0
  have BX5 := Lib.hid (putH_whole BX4.out rfl 82 (regs 0 a b 0 0 0 a 0 0) (regs 0 a b 0 0 0 a 0 1) (regs 0 a b 0 0 0 a 0 2) (regs 0 a b 0 0 0 a 0 3) (regs 0 a b 0 0 0 a 0 4) (regs 0 a b 0 0 0 a 0 5) (regs 0 a b 0 0 0 a 0 6) (regs 0 a b 0 0 0 a 0 7) a2 n2 d2 0 0 0)
  have B4 := PR.Below.fr B7.out F4.out B7.out.size (by rintro i (rfl | rfl | rfl) <;> assumption)
  have H5 := Lib.hid (H4.out.fr FP (by obtain ⟨l1, l2, l3, l4⟩ := HLT.out; have := HB2.out; omega) (by obtain ⟨l1, l2, l3, l4⟩ := HLT.out; have := HB2.out; omega) (by obtain ⟨l1, l2, l3, l4⟩ := HLT.out; have := HB2.out; omega) (by obtain ⟨l1, l2, l3, l4⟩ := HLT.out; have := HB2.out; omega))
  have B5 := Lib.hid (PR.Below.fr B4 FP B4.size (by have := HB2.out; rintro i rfl; omega))
  clear c0 c1 c2' c3 c4 c5 c6 c7 c8 c9 c10 c11 c12 FP B4 BX4 H4 F4 B7 H7 BX S2' R7 q1 e0 e1 e2 e3 e4 e5 e6 e7 e8 e9 e10 e11 e12 f0 f1 f2 f3 f4 f5 f6 f7 f8 f9 f10 f11 f12
  generalize putH w4 b2 _ _ _ _ _ _ _ _ _ _ _ _ _ _ _ = W5 at *
  have R5 := Lib.hid (K4.out.nil_any (G' := (· < W5.heap.size)) (w' := W5))
  have S3' := Lib.hid (S3.out p t g gw W5 H5.out a2 n2 d2 R5.out)
  replace BX5 := Lib.hid (show Whole W5 b2 28 (HR.c8 82 0 a b 0 0 0 a 0 a2 n2 d2 0 0 0) from BX5.out)
  have q1 := BX5.out.lt
  obtain ⟨c0, c1, c2', c3, c4, c5, c6, c7, c8, c9, c10, c11, c12⟩ := hart_cells BX5.out
  clear S3
  go_upto_region 11 with (go_at_call 17; (with_reducible refine S3'.out.mono ?_); rintro e w9 ⟨a3, n3, d3, rfl, sk, pm, hf⟩; have F9 := Lib.hid hf; clear sk pm hf)
  obtain ⟨T0, T1, _⟩ := hn_facts w9 (hCs 83 (regs 0 a b 0 0 0 a 0) a3 n3 d3 0 0 0) (nCs false false 0 0)
  have B9 := Lib.hid ((PR.Below.fr B5.out F9.out B5.out.size (by rintro i (rfl | rfl | rfl) <;> assumption)).trans (T0.mono (Nat.le_trans B5.out.size F9.out.size)))
  have Y1 := ((BX5.out.fr F9.out (by obtain ⟨l1, l2, l3, l4⟩ := HLT.out; have := HB2.out; rintro (e | e | e) <;> omega)).belowS T0)
  clear c0 c1 c2' c3 c4 c5 c6 c7 c8 c9 c10 c11 c12 T0 F9 B5 H5 S3' BX5 q1 R5
  generalize w9.heap.size = b3 at *
  generalize ((w9.alloc _).alloc _) = W9 at *
  have Y0 : W9.cell? ⟨b2, 0, none⟩ = some (.int .u32 82) := Y1.cell 0
  have Yk : W9.cell? ⟨b2, 7, none⟩ = some (.int .u32 a) := Y1.cell 7
  have Z0 : W9.cell? ⟨b3, 0, none⟩ = some (.int .u32 83) := T1.cell 0
  have Z1 : W9.cell? ⟨b3, 1, none⟩ = some (.int .u32 0) := T1.cell 1
  clear Y1 T1
  go_wp2_with (go_at_call 14; (with_reducible refine (AW.out _).mono ?_); rintro e w10 ⟨rfl, hb⟩; have HZ := Lib.hid hb; clear hb)
  go_ret
  exact ⟨rfl, B9.out.trans (HZ.out.mono B9.out.size)⟩
theorem sums_7 {w : World} {a b y : Int} (ha : B32 a) (hb : B32 b) (hy : 0 ≤ y ∧ y ≤ 255) (hk : y % 5 = 4) :
    Calls Try.prog 5 #[.int .u32 a, .int .u32 b, .int .u8 y] w fun e w' => e = .returned (.bool true) ∧ Below w.heap.size w w' := by
  have AW := Lib.hid awake_any
  have hr0 : ∀ i, B32 (regs 0 a b 0 0 0 0 0 i) := regs_ok b32_zero ha hb b32_zero b32_zero b32_zero b32_zero b32_zero
  have hr1 : ∀ i, B32 (regs 0 a b 0 0 0 0 ((a + b) % 4294967296) i) := regs_ok b32_zero ha hb b32_zero b32_zero b32_zero b32_zero (b32_mod _)
  have hr2 : ∀ i, B32 (regs 0 a b 0 0 0 0 a i) := regs_ok b32_zero ha hb b32_zero b32_zero b32_zero b32_zero ha
  have e1 := @su1_7 a b (bits .or .u32 (bits .or .u32 (bits .or .u32 402653184 117440512) 2097152) 2) (bits .or .u32 (bits .or .u32 (bits .or .u32 536870912 117440512) 14680064) 2) rfl
  have e2 := @su2_7 a b (bits .or .u32 (bits .or .u32 (bits .or .u32 402653184 117440512) 2097152) 2) (bits .or .u32 (bits .or .u32 (bits .or .u32 536870912 117440512) 14680064) 2) ha rfl
  have e3 := @su3_7 a b (bits .or .u32 (bits .or .u32 (bits .or .u32 402653184 117440512) 2097152) 2) (bits .or .u32 (bits .or .u32 (bits .or .u32 536870912 117440512) 14680064) 2)
  have wk : WOk (landM [(bits .or .u32 (bits .or .u32 (bits .or .u32 402653184 117440512) 2097152) 2), (bits .or .u32 (bits .or .u32 (bits .or .u32 536870912 117440512) 14680064) 2), 402653184] [] 0 false) := land_wok (by rw [show (bits .or .u32 (bits .or .u32 (bits .or .u32 402653184 117440512) 2097152) 2) = sw1 7 from rfl, show (bits .or .u32 (bits .or .u32 (bits .or .u32 536870912 117440512) 14680064) 2) = sw2 7 from rfl]; simp only [List.mem_cons, List.not_mem_nil, or_false]; rintro x (rfl | rfl | rfl) <;> first | (unfold B32 sw1; omega) | (unfold B32 sw2; omega) | (unfold B32; omega)) (by intro x hx; cases hx) b32_zero false
  have CM := Lib.hid (show Calls _ _ #[.agg #[.slice (some ⟨w.heap.size, 0, none⟩) 3 3, .slice none 0 0, .int .u32 0, .bool false]] (w.alloc (.cells #[.int .u32 (bits .or .u32 (bits .or .u32 (bits .or .u32 402653184 117440512) 2097152) 2), .int .u32 (bits .or .u32 (bits .or .u32 (bits .or .u32 536870912 117440512) 14680064) 2), .int .u32 402653184] _)) _ from made_any (rs_new w [(bits .or .u32 (bits .or .u32 (bits .or .u32 402653184 117440512) 2097152) 2), (bits .or .u32 (bits .or .u32 (bits .or .u32 536870912 117440512) 14680064) 2), 402653184] (by simp [maxLen])) (Reads.nil _ _) (data := []) 0 false)
  generalize hMM : landM [(bits .or .u32 (bits .or .u32 (bits .or .u32 402653184 117440512) 2097152) 2), (bits .or .u32 (bits .or .u32 (bits .or .u32 536870912 117440512) 14680064) 2), 402653184] [] 0 false = M at *
  have S1 := Lib.hid (fun (p t g gw : Nat) (u : World) (h : Pm u p t g gw M) => show Calls _ _ #[h8 80 0 a b 0 0 0 0 0 none 0 0 0 0 0, _, _] u _ from step_as (h := ⟨80, regs 0 a b 0 0 0 0 0, [], 0, 0, 0⟩) h (Reads.nil (fun _ => False) u) (by omega) ⟨b32_small (show (0 : Int) ≤ 80 ∧ (80 : Int) ≤ 100 by omega), hr0, fun x hx => (by cases hx), b32_zero⟩ wk 0 e1)
  have S2 := Lib.hid (fun (p t g gw : Nat) (u : World) (h : Pm u p t g gw M) (a1 : Option Addr) (n1 d1 : Nat) (hr : Rs u.heap.size u a1 n1 d1 []) => show Calls _ _ #[h8 81 0 a b 0 0 0 0 ((a + b) % 4294967296) a1 n1 d1 0 0 0, _, _] u _ from step_as (h := ⟨81, regs 0 a b 0 0 0 0 ((a + b) % 4294967296), [], 0, 0, 0⟩) h hr (by have := hr.len; simp at this; omega) ⟨b32_small (show (0 : Int) ≤ 81 ∧ (81 : Int) ≤ 100 by omega), hr1, fun x hx => (by cases hx), b32_zero⟩ wk 0 e2)
  have S3 := Lib.hid (fun (p t g gw : Nat) (u : World) (h : Pm u p t g gw M) (a1 : Option Addr) (n1 d1 : Nat) (hr : Rs u.heap.size u a1 n1 d1 []) => show Calls _ _ #[h8 82 0 a b 0 0 0 0 a a1 n1 d1 0 0 0, _, _] u _ from step_as (h := ⟨82, regs 0 a b 0 0 0 0 a, [], 0, 0, 0⟩) h hr (by have := hr.len; simp at this; omega) ⟨b32_small (show (0 : Int) ≤ 82 ∧ (82 : Int) ≤ 100 by omega), hr2, fun x hx => (by cases hx), b32_zero⟩ wk 0 e3)
  clear e1 e2 e3 wk hr0 hr1 hr2 hMM
  go_enter Try.func5, Try.ntmps5
  go_upto_region 6 with (go_at_call 15; (with_reducible refine CM.out.mono ?_); rintro e w2 ⟨p, t, g, gw, gr, c, gwr, d, rfl, pm, rm, _, _, hp, ht, hg, hgw, _, _, hb2⟩; have H2 := Lib.hid pm; have B2 := Lib.hid hb2; clear pm rm hb2)
  obtain ⟨T0, T1⟩ := mh_facts w2 (rCs M.gt gr M.pg.length c gwr M.ws.length d) (HR.c8 80 0 a b 0 0 0 0 0 none 0 0 0 0 0)
  have hp' : w.heap.size ≤ p := by have := hp; simp at this; omega
  have hg' : w.heap.size ≤ g := by have := hg; simp at this; omega
  have hgw' : w.heap.size ≤ gw := by have := hgw; simp at this; omega
  have hs2 : w.heap.size ≤ w2.heap.size := by have := B2.out.size; simp at this; omega
  have H6 := Lib.hid (H2.out.belowS T0)
  have B6 := Lib.hid (((below_new w _).trans (B2.out.mono (by simp))).trans (T0.mono hs2))
  have HLT := Lib.hid H2.out.lt
  have HS6 := Lib.hid (T0.size)
  obtain ⟨c0, c1, c2', c3, c4, c5, c6, c7, c8, c9, c10, c11, c12⟩ := hart_cells T1
  have hlt := T1.lt
  clear T0 T1 H2 B2 CM hp ht hg hgw
  generalize w2.heap.size + 1 = b1 at *
  generalize ((w2.alloc _).alloc _) = W6 at *
  go_upto_region 7 with (go_at_call 17; (with_reducible refine (S1.out p t g gw _ H6.out).mono ?_); rintro e w3 ⟨a1, n1, d1, rfl, sk, pm, hf⟩; have H3 := Lib.hid pm; have F3 := Lib.hid hf; have K3 := Lib.hid (Reads.of_owns sk); clear sk pm hf)
  clear c0 c1 c2' c3 c4 c5 c6 c7 c8 c9 c10 c11 c12 hlt
  obtain ⟨T0, T1, _⟩ := hn_facts w3 (hCs 81 (regs 0 a b 0 0 0 0 ((a + b) % 4294967296)) a1 n1 d1 0 0 0) (nCs false false 0 0)
  have B3 := PR.Below.fr B6.out F3.out B6.out.size (by rintro i (rfl | rfl | rfl) <;> assumption)
  have H7 := Lib.hid (H3.out.belowS T0)
  have B7 := Lib.hid (B3.trans (T0.mono B3.size))
  have HB2 : Hid (w2.heap.size ≤ w3.heap.size) := Lib.hid (Nat.le_trans HS6.out F3.out.size)
  clear T0 B3 H3 F3 H6 B6 S1 HS6
  generalize w3.heap.size = b2 at *
  generalize ((w3.alloc _).alloc _) = W7 at *
  have BX := Lib.hid (show Whole W7 b2 28 (HR.c8 81 0 a b 0 0 0 0 ((a + b) % 4294967296) a1 n1 d1 0 0 0) from T1)
  clear T1
  have q1' := BX.out.lt
  obtain ⟨c0, c1, c2', c3, c4, c5, c6, c7, c8, c9, c10, c11, c12⟩ := hart_cells BX.out
  go_upto_region 9 with fail
  clear c0 c1 c2' c3 c4 c5 c6 c7 c8 c9 c10 c11 c12 q1'
  have R7 := Lib.hid (K3.out.nil_any (G' := (· < W7.heap.size)) (w' := W7))
  have S2' := Lib.hid (S2.out p t g gw W7 H7.out a1 n1 d1 R7.out)
  obtain ⟨c0, c1, c2', c3, c4, c5, c6, c7, c8, c9, c10, c11, c12⟩ := hart_cells BX.out
  clear S2
  go_upto_region 10 with (go_at_call 17; (with_reducible refine S2'.out.mono ?_); rintro e w4 ⟨a2, n2, d2, rfl, sk, pm, hf⟩; have H4 := Lib.hid pm; have F4 := Lib.hid hf; have K4 := Lib.hid (Reads.of_owns sk); clear sk pm hf; have BX4 := Lib.hid (BX.out.fr F4.out (by obtain ⟨l1, l2, l3, l4⟩ := HLT.out; have := HB2.out; rintro (e | e | e) <;> omega)); have q1 := BX4.out.lt; obtain ⟨⟨v0, v1, v2, v3, v4, v5, v6, v7, v8, v9, v10, v11, v12, e0, e1, e2, e3, e4, e5, e6, e7, e8, e9, e10, e11, e12⟩, f0, f1, f2, f3, f4, f5, f6, f7, f8, f9, f10, f11, f12⟩ := hart_open BX4.out rfl)
  rw [putH_eq]
  have FP := putH_fr w4 b2 82 (regs 0 a b 0 0 0 0 a 0) (regs 0 a b 0 0 0 0 a 1) (regs 0 a b 0 0 0 0 a 2) (regs 0 a b 0 0 0 0 a 3) (regs 0 a b 0 0 0 0 a 4) (regs 0 a b 0 0 0 0 a 5) (regs 0 a b 0 0 0 0 a 6) (regs 0 a b 0 0 0 0 a 7) a2 n2 d2 0 0 0
  have BX5 := Lib.hid (putH_whole BX4.out rfl 82 (regs 0 a b 0 0 0 0 a 0) (regs 0 a b 0 0 0 0 a 1) (regs 0 a b 0 0 0 0 a 2) (regs 0 a b 0 0 0 0 a 3) (regs 0 a b 0 0 0 0 a 4) (regs 0 a b 0 0 0 0 a 5) (regs 0 a b 0 0 0 0 a 6) (regs 0 a b 0 0 0 0 a 7) a2 n2 d2 0 0 0)
  have B4 := PR.Below.fr B7.out F4.out B7.out.size (by rintro i (rfl | rfl | rfl) <;> assumption)
  have H5 := Lib.hid (H4.out.fr FP (by obtain ⟨l1, l2, l3, l4⟩ := HLT.out; have := HB2.out; omega) (by obtain ⟨l1, l2, l3, l4⟩ := HLT.out; have := HB2.out; omega) (by obtain ⟨l1, l2, l3, l4⟩ := HLT.out; have := HB2.out; omega) (by obtain ⟨l1, l2, l3, l4⟩ := HLT.out; have := HB2.out; omega))
  have B5 := Lib.hid (PR.Below.fr B4 FP B4.size (by have := HB2.out; rintro i rfl; omega))
  clear c0 c1 c2' c3 c4 c5 c6 c7 c8 c9 c10 c11 c12 FP B4 BX4 H4 F4 B7 H7 BX S2' R7 q1 e0 e1 e2 e3 e4 e5 e6 e7 e8 e9 e10 e11 e12 f0 f1 f2 f3 f4 f5 f6 f7 f8 f9 f10 f11 f12
  generalize putH w4 b2 _ _ _ _ _ _ _ _ _ _ _ _ _ _ _ = W5 at *
  have R5 := Lib.hid (K4.out.nil_any (G' := (· < W5.heap.size)) (w' := W5))
  have S3' := Lib.hid (S3.out p t g gw W5 H5.out a2 n2 d2 R5.out)
  replace BX5 := Lib.hid (show Whole W5 b2 28 (HR.c8 82 0 a b 0 0 0 0 a a2 n2 d2 0 0 0) from BX5.out)
  have q1 := BX5.out.lt
  obtain ⟨c0, c1, c2', c3, c4, c5, c6, c7, c8, c9, c10, c11, c12⟩ := hart_cells BX5.out
  clear S3
  go_upto_region 11 with (go_at_call 17; (with_reducible refine S3'.out.mono ?_); rintro e w9 ⟨a3, n3, d3, rfl, sk, pm, hf⟩; have F9 := Lib.hid hf; clear sk pm hf)
  obtain ⟨T0, T1, _⟩ := hn_facts w9 (hCs 83 (regs 0 a b 0 0 0 0 a) a3 n3 d3 0 0 0) (nCs false false 0 0)
  have B9 := Lib.hid ((PR.Below.fr B5.out F9.out B5.out.size (by rintro i (rfl | rfl | rfl) <;> assumption)).trans (T0.mono (Nat.le_trans B5.out.size F9.out.size)))
  have Y1 := ((BX5.out.fr F9.out (by obtain ⟨l1, l2, l3, l4⟩ := HLT.out; have := HB2.out; rintro (e | e | e) <;> omega)).belowS T0)
  clear c0 c1 c2' c3 c4 c5 c6 c7 c8 c9 c10 c11 c12 T0 F9 B5 H5 S3' BX5 q1 R5
  generalize w9.heap.size = b3 at *
  generalize ((w9.alloc _).alloc _) = W9 at *
  have Y0 : W9.cell? ⟨b2, 0, none⟩ = some (.int .u32 82) := Y1.cell 0
  have Yk : W9.cell? ⟨b2, 8, none⟩ = some (.int .u32 a) := Y1.cell 8
  have Z0 : W9.cell? ⟨b3, 0, none⟩ = some (.int .u32 83) := T1.cell 0
  have Z1 : W9.cell? ⟨b3, 1, none⟩ = some (.int .u32 0) := T1.cell 1
  clear Y1 T1
  go_wp2_with (go_at_call 14; (with_reducible refine (AW.out _).mono ?_); rintro e w10 ⟨rfl, hb⟩; have HZ := Lib.hid hb; clear hb)
  go_ret
  exact ⟨rfl, B9.out.trans (HZ.out.mono B9.out.size)⟩
end Go.Proofs.Ytihcellcdkhadaa.WK
