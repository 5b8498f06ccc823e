/-
  The law HartBranches, walked. Nothing here is a statement of the seed.
-/
import Derived.Test.YtihcellcdkhadaaHartTry
import Derived.Deep.CutRange
set_option linter.unusedSimpArgs false
set_option linter.unusedVariables false
namespace Go.Proofs.Ytihcellcdkhadaa.WK
open Go.RowKit PM PR PF MM MR MF HM HR HF
set_option maxHeartbeats 16000000
set_option maxRecDepth 10000
theorem HartBranches_walk {w : World} {a b y : Int} (ha : B32 a) (hb : B32 b) (hy : 0 ≤ y ∧ y ≤ 255) :
    Calls Try.prog 7 #[.int .u32 a, .int .u32 b, .int .u8 y] w fun e w' => e = .returned (.bool true) ∧ Below w.heap.size w w' := by
  have AW := Lib.hid awake_any
  have hm0 : 0 ≤ y % 20 := by omega
  have hm1 : y % 20 < 20 := by omega
  obtain ⟨g1, g2, _⟩ := br_word ⟨hm0, hm1⟩
  have hregs : ∀ k, B32 (regs 0 a b 0 0 0 0 0 k) := regs_ok b32_zero ha hb b32_zero b32_zero b32_zero b32_zero b32_zero
  have e1 := @br_1 a b (y % 20) ⟨hm0, hm1⟩
  have e2 := @br_2 a b (y % 20) ⟨hm0, hm1⟩
  have wk : WOk (landM [2034237440 + y % 20, 2168455168 + y % 20] [] 0 false) := land_wok (by simp only [List.mem_cons, List.not_mem_nil, or_false]; rintro x (rfl | rfl) <;> (unfold B32; omega)) (by intro x hx; cases hx) b32_zero false
  generalize hq1 : (if a = b then 81 + y % 20 else 81) = q1 at *
  generalize hq2 : (if a = b then 82 else 82 + y % 20) = q2 at *
  have HQ := Lib.hid (And.intro hq1 hq2)
  clear hq1 hq2
  have S1 := Lib.hid (fun (p t g gw : Nat) (u : World) (h : Pm u p t g gw (landM [2034237440 + y % 20, 2168455168 + y % 20] [] 0 false)) => show Calls _ _ #[h8 80 0 a b 0 0 0 0 0 none 0 0 0 0 0, _, _] u _ from step_as (h := ⟨80, regs 0 a b 0 0 0 0 0, [], 0, 0, 0⟩) h (Reads.nil (fun _ => False) u) (by omega) ⟨b32_small (show (0 : Int) ≤ 80 ∧ (80 : Int) ≤ 100 by omega), hregs, fun x hx => (by cases hx), b32_zero⟩ wk 0 e1)
  have S2 := Lib.hid (fun (p t g gw : Nat) (u : World) (h : Pm u p t g gw (landM [2034237440 + y % 20, 2168455168 + y % 20] [] 0 false)) => show Calls _ _ #[h8 81 0 a b 0 0 0 0 0 none 0 0 0 0 0, _, _] u _ from step_as (h := ⟨81, regs 0 a b 0 0 0 0 0, [], 0, 0, 0⟩) h (Reads.nil (fun _ => False) u) (by omega) ⟨b32_small (show (0 : Int) ≤ 81 ∧ (81 : Int) ≤ 100 by omega), hregs, fun x hx => (by cases hx), b32_zero⟩ wk 0 e2)
  have CM := Lib.hid (show Calls _ _ #[.agg #[.slice (some ⟨w.heap.size, 0, none⟩) 2 2, .slice none 0 0, .int .u32 0, .bool false]] (w.alloc (.cells #[.int .u32 (2034237440 + y % 20), .int .u32 (2168455168 + y % 20)] _)) _ from made_any (rs_new w [2034237440 + y % 20, 2168455168 + y % 20] (by simp [maxLen])) (Reads.nil _ _) (data := []) 0 false)
  generalize hMM : landM [2034237440 + y % 20, 2168455168 + y % 20] [] 0 false = M at *
  rw [← g1, ← g2] at CM
  clear e1 e2 wk hregs hMM
  generalize hx1 : bits .or .u32 2034237440 (y % 20) = x1 at *
  generalize hx2 : bits .or .u32 2168455168 (y % 20) = x2 at *
  clear g1 g2
  go_enter Try.func7, Try.ntmps7
  go_upto_region 6 with (go_at_call 15; (with_reducible refine CM.out.mono ?_); rintro e w2 ⟨p, t, g, gw, gr, c, gwr, d, rfl, pm, rm, _, _, hp, ht, hg, hgw, _, _, hb2⟩; have H2 := Lib.hid pm; have B2 := Lib.hid hb2; clear pm rm hb2)
  obtain ⟨T0, T1⟩ := mh_facts w2 (rCs M.gt gr M.pg.length c gwr M.ws.length d) (c8 80 0 a b 0 0 0 0 0 none 0 0 0 0 0)
  have hp' : w.heap.size ≤ p := by have := hp; simp at this; omega
  have hg' : w.heap.size ≤ g := by have := hg; simp at this; omega
  have hgw' : w.heap.size ≤ gw := by have := hgw; simp at this; omega
  have hs2 : w.heap.size ≤ w2.heap.size := by have := B2.out.size; simp at this; omega
  have H6 := Lib.hid (H2.out.belowS T0)
  have B6 := Lib.hid (((below_new w _).trans (B2.out.mono (by simp))).trans (T0.mono hs2))
  have HLT := Lib.hid H2.out.lt
  have BX := Lib.hid T1
  have hlt := T1.lt
  clear T0 T1 H2 B2 CM hp ht hg hgw
  generalize hb1 : w2.heap.size + 1 = b1 at *
  have HB1 := Lib.hid hb1
  clear hb1
  generalize ((w2.alloc _).alloc _) = W6 at *
  obtain ⟨c0, c1, c2', c3, c4, c5, c6, c7, c8, c9, c10, c11, c12⟩ := hart_cells BX.out
  go_upto_region 7 with (go_at_call 17; (with_reducible refine (S1.out p t g gw _ H6.out).mono ?_); rintro e w3 ⟨a1, n1, d1, rfl, sk, pm, hf⟩; have H3 := Lib.hid pm; have F3 := Lib.hid hf; clear sk pm hf)
  clear c0 c1 c2' c3 c4 c5 c6 c7 c8 c9 c10 c11 c12 hlt
  obtain ⟨T0, T1, _⟩ := hn_facts w3 (hCs q1 (regs 0 a b 0 0 0 0 0) a1 n1 d1 0 0 0) (nCs false false 0 0)
  have B3 := PR.Below.fr B6.out F3.out B6.out.size (by rintro i (rfl | rfl | rfl) <;> assumption)
  have H7 := Lib.hid (H3.out.belowS T0)
  have B7 := Lib.hid (B3.trans (T0.mono B3.size))
  have BX7 := Lib.hid ((BX.out.fr F3.out (by obtain ⟨l1, l2, l3, l4⟩ := HLT.out; have := HB1.out; rintro (e | e | e) <;> omega)).belowS T0)
  have BY := Lib.hid T1
  have hne : b1 ≠ w3.heap.size := by have h1 := BX.out.lt; have h2 := F3.out.size; omega
  have q0 := BX7.out.frozen 0
  have q1' := BX7.out.lt
  obtain ⟨c0, c1, c2', c3, c4, c5, c6, c7, c8, c9, c10, c11, c12⟩ := hart_cells BX7.out
  clear T0 T1 B3
  have HB2 : Hid (w2.heap.size ≤ w3.heap.size) := Lib.hid (by have h1 := H6.out.lt; have h2 := F3.out.size; have h3 := BX.out.lt; have h4 := HB1.out; omega)
  clear H3 F3 H6 B6 BX S1
  generalize w3.heap.size = b2 at *
  generalize ((w3.alloc _).alloc _) = W7 at *
  go_upto_region 8 with fail
  have F8 := (Fr.refl (fun i => i = b1) W7).set (p := ⟨b1, 0, none⟩) (Or.inl rfl) (.int .u32 81)
  have X8 : Whole (W7.setCell ⟨b1, 0, none⟩ (.int .u32 81)) b1 28 (HR.c8 81 0 a b 0 0 0 0 0 none 0 0 0 0 0) := BX7.out.set_ 0 _
  have BY8 := Lib.hid (BY.out.fr F8 hne.symm)
  have H8 : Hid (Pm (W7.setCell ⟨b1, 0, none⟩ (.int .u32 81)) p t g gw M) := Lib.hid (by obtain ⟨l1, l2, l3, l4⟩ := HLT.out; have l5 := HB1.out; exact H7.out.fr F8 (by omega) (by omega) (by omega) (by omega))
  have B8 := Lib.hid (B7.out.setCell (p := ⟨b1, 0, none⟩) (by have := HB1.out; show w.heap.size ≤ b1; omega) (.int .u32 81))
  clear F8 q0 q1' c0 c1 c2' c3 c4 c5 c6 c7 c8 c9 c10 c11 c12 BX7 BY H7 B7
  generalize W7.setCell _ _ = W8 at *
  obtain ⟨c0, c1, c2', c3, c4, c5, c6, c7, c8, c9, c10, c11, c12⟩ := hart_cells X8
  clear X8
  go_upto_region 9 with (go_at_call 17; (with_reducible refine (S2.out p t g gw _ H8.out).mono ?_); rintro e w9 ⟨a3, n3, d3, rfl, sk, pm, hf⟩; have F9 := Lib.hid hf; clear sk pm hf)
  obtain ⟨T0, T1, _⟩ := hn_facts w9 (hCs q2 (regs 0 a b 0 0 0 0 0) a3 n3 d3 0 0 0) (nCs false false 0 0)
  have B9 := Lib.hid ((PR.Below.fr B8.out F9.out B8.out.size (by rintro i (rfl | rfl | rfl) <;> assumption)).trans (T0.mono (Nat.le_trans B8.out.size F9.out.size)))
  have Y1 := ((BY8.out.fr F9.out (by obtain ⟨l1, l2, l3, l4⟩ := HLT.out; have := HB2.out; rintro (e | e | e) <;> omega)).belowS T0)
  clear c0 c1 c2' c3 c4 c5 c6 c7 c8 c9 c10 c11 c12 T0 BY8 F9 B8 H8 S2
  generalize w9.heap.size = b3 at *
  generalize ((w9.alloc _).alloc _) = W9 at *
  have Y0 : W9.cell? ⟨b2, 0, none⟩ = some (.int .u32 q1) := Y1.cell 0
  have Z0 : W9.cell? ⟨b3, 0, none⟩ = some (.int .u32 q2) := T1.cell 0
  clear Y1 T1
  obtain ⟨hq1, hq2⟩ := HQ.out
  have B9d := Lib.hid (fun k => below_drewN B9.out k)
  clear HQ hx1 hx2 hne
  generalize y % 20 = m at *
  by_cases hab : a = b
  · rw [if_pos hab] at hq1 hq2
    subst hab hq1 hq2
    by_cases hm : m = 0
    · subst hm
      go_wp2_with fail
      go_quiet (fail)
      go_wp2_with (go_at_call 14; (with_reducible refine (AW.out _).mono ?_); rintro e w10 ⟨rfl, hb⟩; have HZ := Lib.hid hb; clear hb)
      go_ret
      exact ⟨rfl, (B9d.out _).trans (HZ.out.mono (B9d.out _).size)⟩
    · have em : (m == 0) = false := by simpa using hm
      have e2 : ((82 : Int) == 82 + m) = false := by simp; omega
      go_wp2_with fail
      go_quiet (fail)
      go_wp2_with (go_at_call 14; (with_reducible refine (AW.out _).mono ?_); rintro e w10 ⟨rfl, hb⟩; have HZ := Lib.hid hb; clear hb)
      go_ret
      exact ⟨rfl, (B9d.out _).trans (HZ.out.mono (B9d.out _).size)⟩
  · rw [if_neg hab] at hq1 hq2
    subst hq1 hq2
    have eab : (a == b) = false := by simpa using hab
    by_cases hm : m = 0
    · subst hm
      go_wp2_with fail
      go_quiet (fail)
      go_wp2_with (go_at_call 14; (with_reducible refine (AW.out _).mono ?_); rintro e w10 ⟨rfl, hb⟩; have HZ := Lib.hid hb; clear hb)
      go_ret
      exact ⟨rfl, (B9d.out _).trans (HZ.out.mono (B9d.out _).size)⟩
    · have em : (m == 0) = false := by simpa using hm
      have e2 : ((81 : Int) == 81 + m) = false := by simp; omega
      go_wp2_with fail
      go_quiet (fail)
      go_wp2_with (go_at_call 14; (with_reducible refine (AW.out _).mono ?_); rintro e w10 ⟨rfl, hb⟩; have HZ := Lib.hid hb; clear hb)
      go_ret
      exact ⟨rfl, (B9d.out _).trans (HZ.out.mono (B9d.out _).size)⟩
end Go.Proofs.Ytihcellcdkhadaa.WK
