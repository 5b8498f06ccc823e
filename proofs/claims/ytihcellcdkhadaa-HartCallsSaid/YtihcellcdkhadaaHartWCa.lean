/-
  The law HartCalls, walked. Nothing here is a statement of the seed.
-/
import Derived.Test.YtihcellcdkhadaaHartTry
import Derived.Test.YtihcellcdkhadaaHartMath5
import Derived.Deep.CutRange
set_option linter.unusedSimpArgs false
set_option linter.unusedVariables false
namespace Go.Proofs.Ytihcellcdkhadaa.HF
open Go.RowKit PM PR PF MM MR MF HM HR
set_option maxHeartbeats 4000000
set_option maxRecDepth 10000
/-- what a round of the loop that lays a stack holds -/
structure CaI (w0 : World) (b9 B0 p t g gw : Nat) (R : Nat → Int) (M : Mm) (k : Nat) (u : World) : Prop where
  bx : ∃ a c, Whole u b9 28 (hCs 80 R a k c 0 0 0) ∧ Sk u B0 a k c (calL k)
  pm : Pm u p t g gw M
  br : Whole u w0.heap.size 23 #[.int .u32 (R 0), .int .u32 (R 1), .int .u32 (R 2), .int .u32 (R 3), .int .u32 (R 4), .int .u32 (R 5), .int .u32 (R 6), .int .u32 (R 7)]
  low : Below w0.heap.size w0 u
  sz : B0 ≤ u.heap.size
theorem t8_cells {u : World} {b : Nat} {R : Nat → Int} (h : Whole u b 23 #[.int .u32 (R 0), .int .u32 (R 1), .int .u32 (R 2), .int .u32 (R 3), .int .u32 (R 4), .int .u32 (R 5), .int .u32 (R 6), .int .u32 (R 7)]) : u.cell? ⟨b, 0, none⟩ = some (.int .u32 (R 0)) ∧ u.cell? ⟨b, 1, none⟩ = some (.int .u32 (R 1)) ∧ u.cell? ⟨b, 2, none⟩ = some (.int .u32 (R 2)) ∧ u.cell? ⟨b, 3, none⟩ = some (.int .u32 (R 3)) ∧ u.cell? ⟨b, 4, none⟩ = some (.int .u32 (R 4)) ∧ u.cell? ⟨b, 5, none⟩ = some (.int .u32 (R 5)) ∧ u.cell? ⟨b, 6, none⟩ = some (.int .u32 (R 6)) ∧ u.cell? ⟨b, 7, none⟩ = some (.int .u32 (R 7)) := ⟨h.cell 0, h.cell 1, h.cell 2, h.cell 3, h.cell 4, h.cell 5, h.cell 6, h.cell 7⟩
theorem ca_step {w0 wr w1 : World} {b9 B0 p t g gw : Nat} {R : Nat → Int} {M : Mm} {k : Nat} {a : Option Addr} {c : Nat} {v : Value} {X : Int} (h : CaI w0 b9 B0 p t g gw R M k wr) (lt : w0.heap.size < b9 ∧ b9 < B0 ∧ p < B0 ∧ t < B0 ∧ g < B0 ∧ gw < B0) (nb : b9 ≠ p ∧ b9 ≠ t ∧ b9 ≠ g ∧ b9 ≠ gw) (hx : Whole wr b9 28 (hCs 80 R a k c 0 0 0)) (hs : Sk wr B0 a k c (calL k)) (hX : X = 90 + (k : Int))
    (ho : w1.ownsRow B0 22 1 v (k + 1) (wcs (calL k) ++ [.int .u32 X])) (hg : (wr.alloc (.cells #[.int .u32 X] 22)).grownBy w1 (Value.slice a k c).ownBlock) :
    ∃ a' c', v = .slice a' (k + 1) c' ∧ Whole w1 b9 28 (hCs 80 R a k c 0 0 0) ∧ CaI w0 b9 B0 p t g gw R M (k + 1) (w1.setCell ⟨b9, 9, none⟩ (.slice a' (k + 1) c')) := by
  subst hX
  have kk := World.ownsRow.lt hs
  have hf := fr_of_grown hg
  have hF : Fr (fun i => (Value.slice a k c).ownBlock = some i) wr w1 := ((Fr.of_below (S := fun i => (Value.slice a k c).ownBlock = some i) (below_new wr (.cells #[.int .u32 (90 + (k : Int))] 22)))).trans hf (fun i hi => Or.inl hi)
  rw [wcs_snoc, ← calL_succ] at ho
  obtain ⟨a', c', rfl, sk⟩ := own_parts ho
  have own : ∀ i, (Value.slice a k c).ownBlock = some i → B0 ≤ i := fun i hi => (kk i hi).1
  have kk2 := World.ownsRow.lt sk
  have X1 := hx.fr hF (hs.ne_ hx (by decide))
  have P1 := h.pm.fr hF (fun e => by have := own _ e; omega) (fun e => by have := own _ e; omega) (fun e => by have := own _ e; omega) (fun e => by have := own _ e; omega)
  have R1 := h.br.fr hF (hs.ne_ h.br (by decide))
  have L1 : Below w0.heap.size w0 w1 := PR.Below.fr h.low hF h.low.size (fun i hi => by have := own i hi; omega)
  have fb := (Fr.refl (fun i => i = b9) w1).set (p := ⟨b9, 9, none⟩) (Or.inl rfl) (.slice a' (k + 1) c')
  have X2 : Whole (w1.setCell ⟨b9, 9, none⟩ (.slice a' (k + 1) c')) b9 28 (hCs 80 R a' (k + 1) c' 0 0 0) := X1.set_ 9 _
  exact ⟨a', c', rfl, X1, ⟨a', c', X2, sk.fr fb (fun i hi e => by have := kk2 i hi; omega)⟩, P1.fr fb (by omega) (by omega) (by omega) (by omega), R1.fr fb (by omega), L1.setCell (p := ⟨b9, 9, none⟩) (by show w0.heap.size ≤ b9; omega) _, by have := hF.size; have := h.sz; simp; omega⟩
end Go.Proofs.Ytihcellcdkhadaa.HF
namespace Go.Proofs.Ytihcellcdkhadaa.WK
open Go.RowKit PM PR PF MM MR MF HM HR HF
set_option maxHeartbeats 16000000
set_option maxRecDepth 10000
theorem HartCalls_walk {w : World} {y : Int} {R : Nat → Int} (hy : 0 ≤ y ∧ y ≤ 255) (hR : ∀ k, B32 (R k)) :
    Calls Try.prog 6 #[.int .u8 y, rA R] w fun e w' => e = .returned (.bool true) ∧ Below w.heap.size w w' := by
  have AW := Lib.hid awake_any
  obtain ⟨N, hN⟩ : ∃ N : Nat, y % 18 = (N : Int) := ⟨(y % 18).toNat, by omega⟩
  have hN18 : N < 18 := by omega
  have hNi : (N : Int) < 18 := by omega
  have CM0 := made_any (rs_new (w.alloc (.cells #[.int .u32 (R 0), .int .u32 (R 1), .int .u32 (R 2), .int .u32 (R 3), .int .u32 (R 4), .int .u32 (R 5), .int .u32 (R 6), .int .u32 (R 7)] 23)) [2281701457, 2415919104] (by simp [maxLen])) (Reads.nil _ _) (data := []) 0 false
  simp only [World.size_alloc] at CM0
  have CM := Lib.hid (show Calls _ _ #[.agg #[.slice (some ⟨w.heap.size + 1, 0, none⟩) 2 2, .slice none 0 0, .int .u32 0, .bool false]] ((w.alloc (.cells #[.int .u32 (R 0), .int .u32 (R 1), .int .u32 (R 2), .int .u32 (R 3), .int .u32 (R 4), .int .u32 (R 5), .int .u32 (R 6), .int .u32 (R 7)] 23)).alloc (.cells #[.int .u32 2281701457, .int .u32 2415919104] _)) _ from CM0)
  have S1 := Lib.hid (fun (p t g gw : Nat) (u : World) (h : Pm u p t g gw (landM [2281701457, 2415919104] [] 0 false)) (a : Option Addr) (c : Nat) (hr : Rs u.heap.size u a N c (calL N)) => step_any (h := ⟨80, R, calL N, 0, 0, 0⟩) h hr (by omega) (ca_hok (by omega) (by omega) hR) ca_wok 0)
  simp only [ca_1] at S1
  have S2 := Lib.hid (fun (p t g gw : Nat) (u : World) (h : Pm u p t g gw (landM [2281701457, 2415919104] [] 0 false)) (a : Option Addr) (c : Nat) (hr : Rs u.heap.size u a (N + 1) c (calL N ++ [81])) => step_as (h := ⟨81, R, calL N ++ [81], 0, 0, 0⟩) h hr (by omega) (ca_hok2 (by omega) (by omega) hR) ca_wok 0 ca_2)
  have BQ := Lib.hid (Whole.new w 23 #[.int .u32 (R 0), .int .u32 (R 1), .int .u32 (R 2), .int .u32 (R 3), .int .u32 (R 4), .int .u32 (R 5), .int .u32 (R 6), .int .u32 (R 7)])
  generalize hMM : (landM [2281701457, 2415919104] [] 0 false) = M at *
  clear CM0 hMM
  go_enter Try.func6, Try.ntmps6
  go_upto_region 5 with (go_at_call 15; (with_reducible refine CM.out.mono ?_); rintro e w2 ⟨p, t, g, gw, gr, c, gwr, d, rfl, pm, rm, _, _, hp, ht, hg, hgw, _, _, hb2⟩; have H2 := Lib.hid pm; have B2 := Lib.hid hb2; have BQ2 := Lib.hid ((BQ.out.alloc (.cells #[.int .u32 2281701457, .int .u32 2415919104] 22)).belowS hb2); have hq := BQ2.out.lt; obtain ⟨m0, m1, m2, m3, m4, m5, m6, m7⟩ := t8_cells BQ2.out; clear pm rm hb2)
  obtain ⟨T0, T1⟩ := mh_facts w2 (rCs M.gt gr M.pg.length c gwr M.ws.length d) (hCs 80 R none 0 0 0 0 0)
  have hp' : w.heap.size ≤ p := by have := hp; simp at this; omega
  have hg' : w.heap.size ≤ g := by have := hg; simp at this; omega
  have hgw' : w.heap.size ≤ gw := by have := hgw; simp at this; omega
  have hs2 : w.heap.size ≤ w2.heap.size := by have := B2.out.size; simp at this; omega
  have hws : w.heap.size < w2.heap.size := BQ2.out.lt
  have hs5 : w2.heap.size + 1 + 1 ≤ ((w2.alloc (.cells (rCs M.gt gr M.pg.length c gwr M.ws.length d) 41)).alloc (.cells (hCs 80 R none 0 0 0 0 0) 28)).heap.size := by simp
  have HLT := Lib.hid H2.out.lt
  have C0 : Hid (CaI w (w2.heap.size + 1) ((w2.alloc (.cells (rCs M.gt gr M.pg.length c gwr M.ws.length d) 41)).alloc (.cells (hCs 80 R none 0 0 0 0 0) 28)).heap.size p t g gw R M 0 ((w2.alloc (.cells (rCs M.gt gr M.pg.length c gwr M.ws.length d) 41)).alloc (.cells (hCs 80 R none 0 0 0 0 0) 28))) := Lib.hid ⟨⟨none, 0, T1, World.ownsRow_nil _ _ _ _⟩, H2.out.belowS T0, BQ2.out.belowS T0, (((bl2 w _ _).trans (B2.out.mono (by simp only [World.size_alloc]; omega))).trans (T0.mono hs2)), Nat.le_refl _⟩
  have LT : Hid ((w.heap.size < w2.heap.size + 1 ∧ w2.heap.size + 1 < ((w2.alloc (.cells (rCs M.gt gr M.pg.length c gwr M.ws.length d) 41)).alloc (.cells (hCs 80 R none 0 0 0 0 0) 28)).heap.size ∧ p < ((w2.alloc (.cells (rCs M.gt gr M.pg.length c gwr M.ws.length d) 41)).alloc (.cells (hCs 80 R none 0 0 0 0 0) 28)).heap.size ∧ t < ((w2.alloc (.cells (rCs M.gt gr M.pg.length c gwr M.ws.length d) 41)).alloc (.cells (hCs 80 R none 0 0 0 0 0) 28)).heap.size ∧ g < ((w2.alloc (.cells (rCs M.gt gr M.pg.length c gwr M.ws.length d) 41)).alloc (.cells (hCs 80 R none 0 0 0 0 0) 28)).heap.size ∧ gw < ((w2.alloc (.cells (rCs M.gt gr M.pg.length c gwr M.ws.length d) 41)).alloc (.cells (hCs 80 R none 0 0 0 0 0) 28)).heap.size) ∧ (w2.heap.size + 1 ≠ p ∧ w2.heap.size + 1 ≠ t ∧ w2.heap.size + 1 ≠ g ∧ w2.heap.size + 1 ≠ gw) ∧ w.heap.size ≤ p ∧ w.heap.size ≤ g ∧ w.heap.size ≤ gw ∧ p ≠ w.heap.size ∧ g ≠ w.heap.size ∧ gw ≠ w.heap.size) := Lib.hid (by obtain ⟨l1, l2, l3, l4⟩ := HLT.out; simp only [World.size_alloc] at hp hg hgw ⊢; omega)
  clear T0 T1 H2 B2 CM hp ht hg hgw BQ BQ2 hs2 hws hs5 HLT hp' hg' hgw' m0 m1 m2 m3 m4 m5 m6 m7 hq
  generalize w2.heap.size + 1 = b9 at *
  generalize ((w2.alloc _).alloc _) = W5 at *
  generalize W5.heap.size = B0 at *
  go_wp2_with fail
  simp only [hN]
  clear hN
  go_loopw [10] (fun i wr => ∃ k : Nat, k ≤ N ∧ i = .int .i64 (k : Int) ∧ Hid (CaI w b9 B0 p t g gw R M k wr)) (fun i _ => N - (intOf i).toNat)
  case atStart => exact ⟨0, by omega, rfl, C0⟩
  case round =>
    obtain ⟨k, hk, rfl, hI⟩ := hrel
    clear C0
    by_cases hlt : k < N
    · have hlt' : (k : Int) < N := by omega
      obtain ⟨a, c1, hx, hs⟩ := hI.out.bx
      obtain ⟨i0, hi, hz0, hz1, hz2⟩ := info_parts infoU32
      obtain ⟨k0, k1, k2, k3, k4, k5, k6, k7, k8, k9, k10, k11, k12⟩ := hart_cells hx
      have q1 := hx.lt
      have HO := Lib.hid (hs.belowS (below_new wr (.cells #[.int .u32 (90 + (k : Int))] 22)))
      have HC : Hid (∀ j u, ([.int .u32 (90 + (k : Int))] : List Value)[j]? = some u → (wr.alloc (.cells #[.int .u32 (90 + (k : Int))] 22)).cell? ((⟨wr.heap.size, 0, none⟩ : Addr).add j) = some u) := Lib.hid fun j u hj => by
        have hw := Whole.new wr 22 #[.int .u32 (90 + (k : Int))]
        rw [Addr.add_mid, Nat.zero_add, hw.cell, ← hj, List.getElem?_toArray]
      have hle : k + 1 ≤ maxLen := by unfold maxLen; omega
      have hby : (k + 1) * 4 ≤ 140737488355328 := by omega
      have hba : B0 ≤ (wr.alloc (.cells #[.int .u32 (90 + (k : Int))] 22)).heap.size := by have := hI.out.sz; simp; omega
      have HX := Lib.hid hx
      have HS := Lib.hid hs
      clear hx hs
      go_wp2_with (at_builtin; refine wpList_append_own _ rfl _ _ 24 rfl B0 22 i0 _ 1 4 Try.underlying24 hi hz0 hz1 hz2 rfl (by decide) (.slice a k c1) k (wcs (calL k)) rfl HO.out ⟨wr.heap.size, 0, none⟩ 1 1 [.int .u32 (90 + (k : Int))] rfl rfl HC.out (by simp [Value.oneCell']) hle hby hba ?_; intro v' w1 hown hgrow hnil; obtain ⟨a', c', rfl, X1, CI⟩ := ca_step hI.out LT.out.1 LT.out.2.1 HX.out HS.out rfl hown hgrow; have HCI := Lib.hid CI; have q9 := X1.frozen 9; have q2 := X1.lt; obtain ⟨d0, d1, d2, d3, d4, d5, d6, d7, d8, d9, d10, d11, d12⟩ := hart_cells X1; clear hown hgrow hnil X1 CI)
      go_roundw
      case rel => exact ⟨k + 1, by omega, by go_num, HCI⟩
      case measure => simp [intOf]; omega
    · obtain rfl : k = N := by omega
      obtain ⟨a, c1, hx, hs⟩ := hI.out.bx
      obtain ⟨k0, k1, k2, k3, k4, k5, k6, k7, k8, k9, k10, k11, k12⟩ := hart_cells hx
      have q1 := hx.lt
      have S1' := Lib.hid (S1.out p t g gw wr hI.out.pm a c1 hs.reads)
      clear S1
      by_cases h16 : 16 ≤ k
      · rw [if_pos h16] at S1'
        have h16' : (16 : Int) ≤ k := by omega
        clear S2
        go_upto_region 10 with (go_at_call 17; (with_reducible refine S1'.out.mono ?_); intro e w3 hD; have B3 := Lib.hid (hD.below hI.out.low hI.out.low.size LT.out.2.2.1 LT.out.2.2.2.1 LT.out.2.2.2.2.1); obtain ⟨a1, n1, d1, rfl, sk, pm, hf⟩ := hD; have hn1 : k = n1 := (by have := sk.len; rw [← this]; exact (calL_len k).symm); subst hn1; clear sk pm hf)
        obtain ⟨T0, T1, _⟩ := hn_facts w3 (hCs 80 R a1 k d1 6 0 0) (nCs false false 0 0)
        have B7 := Lib.hid (B3.out.trans (T0.mono B3.out.size))
        clear k0 k1 k2 k3 k4 k5 k6 k7 k8 k9 k10 k11 k12 T0 B3 S1' q1
        generalize w3.heap.size = b3 at *
        generalize ((w3.alloc _).alloc _) = W7 at *
        have q1 := T1.lt
        obtain ⟨k0, k1, k2, k3, k4, k5, k6, k7, k8, k9, k10, k11, k12⟩ := hart_cells T1
        clear T1
        go_wp2_with (go_at_call 14; (with_reducible refine (AW.out _).mono ?_); rintro e w10 ⟨rfl, hb⟩; have HZ := Lib.hid hb; clear hb)
        go_ret
        exact ⟨rfl, B7.out.trans (HZ.out.mono B7.out.size)⟩
      · rw [if_neg h16] at S1'
        have h16' : (k : Int) < 16 := by omega
        go_upto_region 10 with (go_at_call 17; (with_reducible refine S1'.out.mono ?_); intro e w3 hD; have B3 := Lib.hid (hD.below hI.out.low hI.out.low.size LT.out.2.2.1 LT.out.2.2.2.1 LT.out.2.2.2.2.1); have F3 := Lib.hid hD.low; obtain ⟨a1, n1, d1, rfl, sk, pm, hf⟩ := hD; have hn1 : k + 1 = n1 := (by have := sk.len; simp [calL_len] at this; omega); subst hn1; have K3 := Lib.hid sk; have H3 := Lib.hid pm; clear sk pm hf)
        rcases id K3.out.2 with ⟨_, h0⟩ | ⟨g1, cap, cur, e, _⟩
        · omega
        simp only [Value.slice.injEq, true_and] at e
        obtain ⟨rfl, rfl⟩ := e
        obtain ⟨T0, T1, _⟩ := hn_facts w3 (hCs 81 R (some ⟨g1, 0, none⟩) (k + 1) d1 0 0 0) (nCs false false 0 0)
        have B7 := Lib.hid (B3.out.trans (T0.mono B3.out.size))
        have H7 := Lib.hid (H3.out.belowS T0)
        have K7 := Lib.hid (K3.out.belowS T0)
        have nr : w.heap.size ≠ p ∧ w.heap.size ≠ g ∧ w.heap.size ≠ gw := by have := LT.out; omega
        have BR7 := Lib.hid ((hI.out.br.fr F3.out (by obtain ⟨x1, x2, x3⟩ := nr; rintro (e | e | e); exact x1 e; exact x2 e; exact x3 e)).belowS T0)
        have HP3 := Lib.hid H3.out.lt
        clear k0 k1 k2 k3 k4 k5 k6 k7 k8 k9 k10 k11 k12 T0 B3 S1' q1 F3 H3 K3 hI hx hs
        generalize w3.heap.size = b3 at *
        generalize ((w3.alloc _).alloc _) = W7 at *
        have q1 := T1.lt
        obtain ⟨k0, k1, k2, k3, k4, k5, k6, k7, k8, k9, k10, k11, k12⟩ := hart_cells T1
        have y1 := World.ownsRow.cellAt K7.out k (by omega)
        rw [wcs_at (by simp [calL_len]), show (calL k ++ [(81 : Int)]).getD k 0 = 81 by rw [List.getD_eq_getElem?_getD, List.getElem?_append_right (by rw [calL_len]; omega), calL_len]; simp] at y1
        have S2' := Lib.hid (S2.out p t g gw W7 H7.out (some ⟨g1, 0, none⟩) d1 K7.out.reads)
        have hk0 : (0 : Int) ≤ k := by omega
        clear S2 T1 K7
        go_upto_region 14 with fail
        clear y1
        go_upto_region 15 with (go_at_call 17; (with_reducible refine S2'.out.mono ?_); rintro e w9 ⟨a3, n3, d3, rfl, sk, pm, hf⟩; have hn3 : k = n3 := (by have := sk.len; rw [calL_len] at this; exact this); subst hn3; have F9 := Lib.hid hf; clear sk pm hf)
        obtain ⟨T0, T1, _⟩ := hn_facts w9 (hCs 81 R a3 k d3 0 0 0) (nCs false false 0 0)
        have B9 := Lib.hid ((PR.Below.fr B7.out F9.out B7.out.size (by have := LT.out; rintro i (rfl | rfl | rfl) <;> omega)).trans (T0.mono (Nat.le_trans B7.out.size F9.out.size)))
        have BR9 := Lib.hid ((BR7.out.fr F9.out (by obtain ⟨x1, x2, x3⟩ := nr; rintro (e | e | e); exact x1 e; exact x2 e; exact x3 e)).belowS T0)
        clear k0 k1 k2 k3 k4 k5 k6 k7 k8 k9 k10 k11 k12 T0 q1 F9 B7 S2' H7 BR7 nr
        generalize w9.heap.size = b4 at *
        generalize ((w9.alloc _).alloc _) = W9 at *
        have q1 := T1.lt
        obtain ⟨k0, k1, k2, k3, k4, k5, k6, k7, k8, k9, k10, k11, k12⟩ := hart_cells T1
        obtain ⟨m0, m1, m2, m3, m4, m5, m6, m7⟩ := t8_cells BR9.out
        have q2 := BR9.out.lt
        have hq := r8_eql R R
        rw [show (r8 R == r8 R) = true by simp] at hq
        clear T1
        go_wp2_with (go_at_call 14; (with_reducible refine (AW.out _).mono ?_); rintro e w10 ⟨rfl, hb⟩; have HZ := Lib.hid hb; clear hb)
        go_ret
        exact ⟨rfl, B9.out.trans (HZ.out.mono B9.out.size)⟩
end Go.Proofs.Ytihcellcdkhadaa.WK
