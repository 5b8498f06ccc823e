/-
  One call of both memories. Nothing here is a statement of the seed.
-/
import Derived.Test.YtkmjacpcpchjoaaMemPages
set_option linter.unusedSimpArgs false
set_option linter.unusedVariables false
namespace Go.Proofs.Ytkmjacpcpchjoaa.MF
open Go.RowKit PM PR PF MM MR

theorem Rm.ms {w w1 : World} {p t g gwp gr c gw d : Nat} {M M0 : Mm} (R : Rm w gr c gw d M) (H : Pm w p t g gwp M0) (hgr : gr ≠ g) (hgw : gw ≠ gwp) (hf : Fr (MS p g gwp) w w1) : Rm w1 gr c gw d M := by
  obtain ⟨d9, _, _, hp⟩ := H.top
  have n1 : p ≠ gr := R.row.elim fun r hr => hp.ne_ hr (by decide)
  have n2 : gr ≠ gwp := H.wr.ne_row R.row
  have n3 : p ≠ gw := R.wr.ne_ hp (by decide)
  have n4 : g ≠ gw := R.wr.ne_row H.tb.row
  exact R.fr hf (by rintro (h | h | h) <;> omega) (by rintro (h | h | h) <;> omega)
theorem ms_not {w : World} {p t g gwp b : Nat} (hlt : p < w.heap.size ∧ t < w.heap.size ∧ g < w.heap.size ∧ gwp < w.heap.size) (hb : w.heap.size ≤ b) : ¬ MS p g gwp b := by rintro (h | h | h) <;> omega
theorem put2_fr (w : World) (b b2 : Nat) (G : Nat → Int) (gr n c gw m d : Nat) : Fr (fun i => i = b ∨ i = b2) w (putB (putB w b G gr n c gw m d) b2 G gr n c gw m d) :=
  ((putB_fr w b G gr n c gw m d).mono (fun i hi => Or.inl (Or.inl hi))).trans (putB_fr _ b2 G gr n c gw m d) (fun i hi => Or.inl (Or.inr hi))
theorem one_fr (w : World) (b b2 : Nat) (G : Nat → Int) (gr n c gw m d : Nat) : Fr (fun i => i = b ∨ i = b2) w (putB w b2 G gr n c gw m d) := (putB_fr w b2 G gr n c gw m d).mono (fun i hi => Or.inl (Or.inr hi))
theorem putM_pg (M : Mm) (a x : Int) : (putM M a x).pg = M.pg ∧ (putM M a x).ws.length = M.ws.length := by unfold putM; split <;> simp [setW]
theorem stoM_pg (M : Mm) (a x e o : Int) : (stoM M a x e o).pg = M.pg ∧ (stoM M a x e o).ws.length = M.ws.length := by unfold stoM; split <;> simp [setW]
theorem setM_pg (M : Mm) (g b : Int) : (setM M g b).pg = M.pg ∧ (setM M g b).ws.length = M.ws.length := by unfold setM; split <;> simp
set_option maxHeartbeats 2000000 in
set_option maxRecDepth 10000 in
theorem do_Put0 {w : World} {p t g gwp gr c gw d : Nat} {M : Mm} (h : Pm w p t g gwp M) (r : Rm w gr c gw d M) (hgr : gr ≠ g) (hgw : gw ≠ gwp) (k a x pg nn o ep : Int) (hk : 0 ≤ k ∧ k ≤ 255) (ha : 0 ≤ a ∧ a ≤ 4294967295) (h8 : k % 8 = 0) :
    Calls Try.prog 13 #[.pointer (some ⟨p, 0, none⟩), rV M.gt gr M.pg.length c gw M.ws.length d, .agg (aCs k a x pg nn o ep)] w (DoM p t g gwp gr gw (putM M a x) w) := by
  have ok := h.ok
  have hlt := h.lt
  obtain ⟨hb0, hs0, B1, A1, Z1⟩ := dW_facts w M.gt gr M.pg.length c gw M.ws.length d k a x pg nn o ep
  have H0 := h.belowS hb0
  have R0 := r.belowS hb0
  have C1 := Lib.hid (put_any H0 a x ha)
  have C2 := Lib.hid (fun w1 (hf : Fr (MS p g gwp) (dW w M.gt gr M.pg.length c gw M.ws.length d k a x pg nn o ep) w1) => refPut_any (Rm.ms R0 H0 hgr hgw hf) ok a x ha)
  obtain ⟨e1, e2⟩ := putM_pg M a x
  have EN : Hid (∀ (w1 w2 wz : World) (gw' d' : Nat) (cs cs' : Array Value), Fr (MS p g gwp) (dW w M.gt gr M.pg.length c gw M.ws.length d k a x pg nn o ep) w1 → Pm w1 p t g gwp (putM M a x) → Below w1.heap.size w1 w2 → Wr w2 gw' (putM M a x).ws → M.ws.length ≤ d' → d' ≤ maxLen → (gw' = gw ∨ w1.heap.size ≤ gw') →
      Whole w2 w.heap.size 33 cs → Whole w2 (w.heap.size + 1 + 1) 33 cs' → Fr (fun i => i = w.heap.size ∨ i = w.heap.size + 1 + 1) w2 wz →
      DoM p t g gwp gr gw (putM M a x) w (.returned (.tuple #[rV (putM M a x).gt gr M.pg.length c gw' M.ws.length d', .bool true])) wz) := Lib.hid fun w1 w2 wz gw' d' cs cs' q1 q2 q3 q4 q5 q6 q7 q8 q9 q10 => by
    have hs1 := q1.size
    have R1 := Rm.ms R0 H0 hgr hgw q1
    have D := do_end (gr := gr) (gw := gw) (gr' := gr) (c' := c) (gw' := gw') (d' := d') hlt (q2.belowS q3) ⟨by rw [e1]; exact R1.row.belowS q3, q4, by rw [e1]; exact R1.c1, R1.c2, by rw [e2]; exact q5, q6⟩ (((Fr.of_below hb0).trans q1 (fun i hi => Or.inl hi)).then q3) q8 q9 q10 (Or.inl rfl) (q7.imp id (fun h => by rw [hs0] at hs1; omega))
    rw [e1, e2] at D
    exact D
  obtain ⟨hk0, hk1⟩ := hk
  clear h r H0 R0 ok
  generalize putM M a x = M' at *
  generalize putE M a = E at *
  unfold RTurn at C2
  generalize M.pg.length = n at *
  generalize M.ws.length = m at *
  generalize M'.gt = G' at *
  generalize M.gt = G at *
  obtain ⟨a0, a1, a2, a3, a4, a5, a6⟩ := act_cells A1
  go_enter Try.func13, Try.ntmps13
  go_upto_region 15 with (first | (go_at_call 27; (with_reducible refine C1.out.mono ?_); rintro e w1 ⟨rfl, hF1, hP1⟩; have HP1 := Lib.hid hP1; have BW := B1.fr hF1 (ms_not hlt (Nat.le_refl _)); have AW := A1.fr hF1 (ms_not hlt (by omega)); have ZW := Z1.fr hF1 (ms_not hlt (by omega)); obtain ⟨q0, q1, q2, q3, q4, q5, q6⟩ := act_cells AW; obtain ⟨c0, c1, c2, c3, c4, c5, c6, c7, c8, c9⟩ := box_cells BW) | (go_at_call 38; (with_reducible refine (C2.out _ hF1).mono ?_); rintro e w2 ⟨gw', d', rfl, hw2, hgw2, hd1, hd2, hb2⟩; have BW2 := BW.belowS hb2; have ZW2 := ZW.belowS hb2; obtain ⟨⟨v0, v1, v2, v3, v4, v5, v6, v7, v8, v9, e0, e1, e2, e3, e4, e5, e6, e7, e8, e9⟩, f0, f1, f2, f3, f4, f5, f6, f7, f8, f9⟩ := box_open BW2 rfl; have l1 := BW2.lt; have HW2 := Lib.hid hw2; clear hw2))
  rw [putB_eq]
  have B3 := putB_whole BW2 rfl G' gr n c gw' m d'
  have Z3 := ZW2.fr (putB_fr w2 w.heap.size G' gr n c gw' m d') (by show ¬ w.heap.size + 1 + 1 = w.heap.size; omega)
  have HE := Lib.hid (EN.out w1 w2 _ gw' d' _ _ hF1 HP1.out hb2 HW2.out hd1 hd2 hgw2 BW2 ZW2 (put2_fr w2 w.heap.size (w.heap.size + 1 + 1) G' gr n c gw' m d'))
  clear EN C1 C2 HP1 HW2 AW A1 B1 Z1 BW ZW BW2 ZW2 q0 q1 q2 q3 q4 q5 q6 a0 a1 a2 a3 a4 a5 a6 hP1 c0 c1 c2 c3 c4 c5 c6 c7 c8 c9 e0 e1 e2 e3 e4 e5 e6 e7 e8 e9 f0 f1 f2 f3 f4 f5 f6 f7 f8 f9
  generalize putB w2 w.heap.size G' gr n c gw' m d' = w3 at *
  obtain ⟨c0, c1, c2, c3, c4, c5, c6, c7, c8, c9⟩ := box_cells B3
  obtain ⟨⟨v0, v1, v2, v3, v4, v5, v6, v7, v8, v9, e0, e1, e2, e3, e4, e5, e6, e7, e8, e9⟩, f0, f1, f2, f3, f4, f5, f6, f7, f8, f9⟩ := box_open Z3 rfl
  have l2 := Z3.lt
  go_wp2_with fail
  rw [putB_eq]
  obtain ⟨p0, p1, p2, p3, p4, p5, p6, p7, p8, p9⟩ := box_cells (putB_whole Z3 rfl G' gr n c gw' m d')
  refine bodyPost_ret (v := .tuple #[rV G' gr n c gw' m d', .bool true]) (by simp [results, Try.results13, go_sem, p0, p1, p2, p3, p4, p5, p6, p7, p8, p9]) rfl ?_
  exact HE.out
set_option maxHeartbeats 2000000 in
set_option maxRecDepth 10000 in
theorem do_Put1 {w : World} {p t g gwp gr c gw d : Nat} {M : Mm} (h : Pm w p t g gwp M) (r : Rm w gr c gw d M) (hgr : gr ≠ g) (hgw : gw ≠ gwp) (k a x pg nn o ep : Int) (hk : 0 ≤ k ∧ k ≤ 255) (ha : 0 ≤ a ∧ a ≤ 4294967295) (h8 : k % 8 = 1) :
    Calls Try.prog 13 #[.pointer (some ⟨p, 0, none⟩), rV M.gt gr M.pg.length c gw M.ws.length d, .agg (aCs k a x pg nn o ep)] w (DoM p t g gwp gr gw (putM M a x) w) := by
  have ok := h.ok
  have hlt := h.lt
  obtain ⟨hb0, hs0, B1, A1, Z1⟩ := dW_facts w M.gt gr M.pg.length c gw M.ws.length d k a x pg nn o ep
  have H0 := h.belowS hb0
  have R0 := r.belowS hb0
  have C1 := Lib.hid (put_any H0 a x ha)
  have C2 := Lib.hid (fun w1 (hf : Fr (MS p g gwp) (dW w M.gt gr M.pg.length c gw M.ws.length d k a x pg nn o ep) w1) => refPut_any (Rm.ms R0 H0 hgr hgw hf) ok a x ha)
  obtain ⟨e1, e2⟩ := putM_pg M a x
  have EN : Hid (∀ (w1 w2 wz : World) (gw' d' : Nat) (cs cs' : Array Value), Fr (MS p g gwp) (dW w M.gt gr M.pg.length c gw M.ws.length d k a x pg nn o ep) w1 → Pm w1 p t g gwp (putM M a x) → Below w1.heap.size w1 w2 → Wr w2 gw' (putM M a x).ws → M.ws.length ≤ d' → d' ≤ maxLen → (gw' = gw ∨ w1.heap.size ≤ gw') →
      Whole w2 w.heap.size 33 cs → Whole w2 (w.heap.size + 1 + 1) 33 cs' → Fr (fun i => i = w.heap.size ∨ i = w.heap.size + 1 + 1) w2 wz →
      DoM p t g gwp gr gw (putM M a x) w (.returned (.tuple #[rV (putM M a x).gt gr M.pg.length c gw' M.ws.length d', .bool true])) wz) := Lib.hid fun w1 w2 wz gw' d' cs cs' q1 q2 q3 q4 q5 q6 q7 q8 q9 q10 => by
    have hs1 := q1.size
    have R1 := Rm.ms R0 H0 hgr hgw q1
    have D := do_end (gr := gr) (gw := gw) (gr' := gr) (c' := c) (gw' := gw') (d' := d') hlt (q2.belowS q3) ⟨by rw [e1]; exact R1.row.belowS q3, q4, by rw [e1]; exact R1.c1, R1.c2, by rw [e2]; exact q5, q6⟩ (((Fr.of_below hb0).trans q1 (fun i hi => Or.inl hi)).then q3) q8 q9 q10 (Or.inl rfl) (q7.imp id (fun h => by rw [hs0] at hs1; omega))
    rw [e1, e2] at D
    exact D
  obtain ⟨hk0, hk1⟩ := hk
  clear h r H0 R0 ok
  generalize putM M a x = M' at *
  generalize putE M a = E at *
  unfold RTurn at C2
  generalize M.pg.length = n at *
  generalize M.ws.length = m at *
  generalize M'.gt = G' at *
  generalize M.gt = G at *
  obtain ⟨a0, a1, a2, a3, a4, a5, a6⟩ := act_cells A1
  go_enter Try.func13, Try.ntmps13
  go_upto_region 15 with (first | (go_at_call 27; (with_reducible refine C1.out.mono ?_); rintro e w1 ⟨rfl, hF1, hP1⟩; have HP1 := Lib.hid hP1; have BW := B1.fr hF1 (ms_not hlt (Nat.le_refl _)); have AW := A1.fr hF1 (ms_not hlt (by omega)); have ZW := Z1.fr hF1 (ms_not hlt (by omega)); obtain ⟨q0, q1, q2, q3, q4, q5, q6⟩ := act_cells AW; obtain ⟨c0, c1, c2, c3, c4, c5, c6, c7, c8, c9⟩ := box_cells BW) | (go_at_call 38; (with_reducible refine (C2.out _ hF1).mono ?_); rintro e w2 ⟨gw', d', rfl, hw2, hgw2, hd1, hd2, hb2⟩; have BW2 := BW.belowS hb2; have ZW2 := ZW.belowS hb2; obtain ⟨⟨v0, v1, v2, v3, v4, v5, v6, v7, v8, v9, e0, e1, e2, e3, e4, e5, e6, e7, e8, e9⟩, f0, f1, f2, f3, f4, f5, f6, f7, f8, f9⟩ := box_open BW2 rfl; have l1 := BW2.lt; have HW2 := Lib.hid hw2; clear hw2))
  rw [putB_eq]
  have B3 := putB_whole BW2 rfl G' gr n c gw' m d'
  have Z3 := ZW2.fr (putB_fr w2 w.heap.size G' gr n c gw' m d') (by show ¬ w.heap.size + 1 + 1 = w.heap.size; omega)
  have HE := Lib.hid (EN.out w1 w2 _ gw' d' _ _ hF1 HP1.out hb2 HW2.out hd1 hd2 hgw2 BW2 ZW2 (put2_fr w2 w.heap.size (w.heap.size + 1 + 1) G' gr n c gw' m d'))
  clear EN C1 C2 HP1 HW2 AW A1 B1 Z1 BW ZW BW2 ZW2 q0 q1 q2 q3 q4 q5 q6 a0 a1 a2 a3 a4 a5 a6 hP1 c0 c1 c2 c3 c4 c5 c6 c7 c8 c9 e0 e1 e2 e3 e4 e5 e6 e7 e8 e9 f0 f1 f2 f3 f4 f5 f6 f7 f8 f9
  generalize putB w2 w.heap.size G' gr n c gw' m d' = w3 at *
  obtain ⟨c0, c1, c2, c3, c4, c5, c6, c7, c8, c9⟩ := box_cells B3
  obtain ⟨⟨v0, v1, v2, v3, v4, v5, v6, v7, v8, v9, e0, e1, e2, e3, e4, e5, e6, e7, e8, e9⟩, f0, f1, f2, f3, f4, f5, f6, f7, f8, f9⟩ := box_open Z3 rfl
  have l2 := Z3.lt
  go_wp2_with fail
  rw [putB_eq]
  obtain ⟨p0, p1, p2, p3, p4, p5, p6, p7, p8, p9⟩ := box_cells (putB_whole Z3 rfl G' gr n c gw' m d')
  refine bodyPost_ret (v := .tuple #[rV G' gr n c gw' m d', .bool true]) (by simp [results, Try.results13, go_sem, p0, p1, p2, p3, p4, p5, p6, p7, p8, p9]) rfl ?_
  exact HE.out
set_option maxHeartbeats 2000000 in
set_option maxRecDepth 10000 in
theorem do_Gate {w : World} {p t g gwp gr c gw d : Nat} {M : Mm} (h : Pm w p t g gwp M) (r : Rm w gr c gw d M) (hgr : gr ≠ g) (hgw : gw ≠ gwp) (k a x pg nn o ep : Int) (hk : 0 ≤ k ∧ k ≤ 255) (ho : 0 ≤ o ∧ o ≤ 65535) (h8 : k % 8 = 2) :
    Calls Try.prog 13 #[.pointer (some ⟨p, 0, none⟩), rV M.gt gr M.pg.length c gw M.ws.length d, .agg (aCs k a x pg nn o ep)] w (DoM p t g gwp gr gw (setM M (o - 1) x) w) := by
  have ok := h.ok
  have hlt := h.lt
  obtain ⟨hb0, hs0, B1, A1, Z1⟩ := dW_facts w M.gt gr M.pg.length c gw M.ws.length d k a x pg nn o ep
  have H0 := h.belowS hb0
  have R0 := r.belowS hb0
  have C1 := Lib.hid (setGate_any H0 (o - 1) x)
  have C2 := Lib.hid (fun w1 (hf : Fr (MS p g gwp) (dW w M.gt gr M.pg.length c gw M.ws.length d k a x pg nn o ep) w1) => refSetGate_any (Rm.ms R0 H0 hgr hgw hf) (o - 1) x)
  obtain ⟨e1, e2⟩ := setM_pg M (o - 1) x
  have EN : Hid (∀ (w1 w2 wz : World) (gw' d' : Nat) (cs cs' : Array Value), Fr (MS p g gwp) (dW w M.gt gr M.pg.length c gw M.ws.length d k a x pg nn o ep) w1 → Pm w1 p t g gwp (setM M (o - 1) x) → Below w1.heap.size w1 w2 → Wr w2 gw' (setM M (o - 1) x).ws → M.ws.length ≤ d' → d' ≤ maxLen → (gw' = gw ∨ w1.heap.size ≤ gw') →
      Whole w2 w.heap.size 33 cs → Whole w2 (w.heap.size + 1 + 1) 33 cs' → Fr (fun i => i = w.heap.size ∨ i = w.heap.size + 1 + 1) w2 wz →
      DoM p t g gwp gr gw (setM M (o - 1) x) w (.returned (.tuple #[rV (setM M (o - 1) x).gt gr M.pg.length c gw' M.ws.length d', .bool true])) wz) := Lib.hid fun w1 w2 wz gw' d' cs cs' q1 q2 q3 q4 q5 q6 q7 q8 q9 q10 => by
    have hs1 := q1.size
    have R1 := Rm.ms R0 H0 hgr hgw q1
    have D := do_end (gr := gr) (gw := gw) (gr' := gr) (c' := c) (gw' := gw') (d' := d') hlt (q2.belowS q3) ⟨by rw [e1]; exact R1.row.belowS q3, q4, by rw [e1]; exact R1.c1, R1.c2, by rw [e2]; exact q5, q6⟩ (((Fr.of_below hb0).trans q1 (fun i hi => Or.inl hi)).then q3) q8 q9 q10 (Or.inl rfl) (q7.imp id (fun h => by rw [hs0] at hs1; omega))
    rw [e1, e2] at D
    exact D
  obtain ⟨hk0, hk1⟩ := hk
  clear h r H0 R0 ok
  generalize setM M (o - 1) x = M' at *
  generalize setE (o - 1) = E at *
  obtain ⟨ho0, ho1⟩ := ho
  unfold RTurn at C2
  generalize M.pg.length = n at *
  generalize M.ws.length = m at *
  generalize M'.gt = G' at *
  generalize M.gt = G at *
  obtain ⟨a0, a1, a2, a3, a4, a5, a6⟩ := act_cells A1
  go_enter Try.func13, Try.ntmps13
  go_upto_region 15 with (first | (go_at_call 28; (with_reducible refine C1.out.mono ?_); rintro e w1 ⟨rfl, hF1, hP1⟩; have HP1 := Lib.hid hP1; have BW := B1.fr hF1 (ms_not hlt (Nat.le_refl _)); have AW := A1.fr hF1 (ms_not hlt (by omega)); have ZW := Z1.fr hF1 (ms_not hlt (by omega)); obtain ⟨q0, q1, q2, q3, q4, q5, q6⟩ := act_cells AW; obtain ⟨c0, c1, c2, c3, c4, c5, c6, c7, c8, c9⟩ := box_cells BW) | (go_at_call 39; (with_reducible refine (C2.out _ hF1).mono ?_); rintro e w2 ⟨gw', d', rfl, hw2, hgw2, hd1, hd2, hb2⟩; have BW2 := BW.belowS hb2; have ZW2 := ZW.belowS hb2; obtain ⟨⟨v0, v1, v2, v3, v4, v5, v6, v7, v8, v9, e0, e1, e2, e3, e4, e5, e6, e7, e8, e9⟩, f0, f1, f2, f3, f4, f5, f6, f7, f8, f9⟩ := box_open BW2 rfl; have l1 := BW2.lt; have HW2 := Lib.hid hw2; clear hw2))
  rw [putB_eq]
  have B3 := putB_whole BW2 rfl G' gr n c gw' m d'
  have Z3 := ZW2.fr (putB_fr w2 w.heap.size G' gr n c gw' m d') (by show ¬ w.heap.size + 1 + 1 = w.heap.size; omega)
  have HE := Lib.hid (EN.out w1 w2 _ gw' d' _ _ hF1 HP1.out hb2 HW2.out hd1 hd2 hgw2 BW2 ZW2 (put2_fr w2 w.heap.size (w.heap.size + 1 + 1) G' gr n c gw' m d'))
  clear EN C1 C2 HP1 HW2 AW A1 B1 Z1 BW ZW BW2 ZW2 q0 q1 q2 q3 q4 q5 q6 a0 a1 a2 a3 a4 a5 a6 hP1 c0 c1 c2 c3 c4 c5 c6 c7 c8 c9 e0 e1 e2 e3 e4 e5 e6 e7 e8 e9 f0 f1 f2 f3 f4 f5 f6 f7 f8 f9
  generalize putB w2 w.heap.size G' gr n c gw' m d' = w3 at *
  obtain ⟨c0, c1, c2, c3, c4, c5, c6, c7, c8, c9⟩ := box_cells B3
  obtain ⟨⟨v0, v1, v2, v3, v4, v5, v6, v7, v8, v9, e0, e1, e2, e3, e4, e5, e6, e7, e8, e9⟩, f0, f1, f2, f3, f4, f5, f6, f7, f8, f9⟩ := box_open Z3 rfl
  have l2 := Z3.lt
  go_wp2_with fail
  rw [putB_eq]
  obtain ⟨p0, p1, p2, p3, p4, p5, p6, p7, p8, p9⟩ := box_cells (putB_whole Z3 rfl G' gr n c gw' m d')
  refine bodyPost_ret (v := .tuple #[rV G' gr n c gw' m d', .bool true]) (by simp [results, Try.results13, go_sem, p0, p1, p2, p3, p4, p5, p6, p7, p8, p9]) rfl ?_
  exact HE.out
end Go.Proofs.Ytkmjacpcpchjoaa.MF
