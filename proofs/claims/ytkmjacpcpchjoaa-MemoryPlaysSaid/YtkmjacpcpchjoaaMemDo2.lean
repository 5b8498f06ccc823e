/-
  One call of both memories: a store, a call of the pages'; any call. Nothing here is a statement of the seed.
-/
import Derived.Test.YtkmjacpcpchjoaaMemDo
set_option linter.unusedSimpArgs false
set_option linter.unusedVariables false
namespace Go.Proofs.Ytkmjacpcpchjoaa.MF
open Go.RowKit PM PR PF MM MR

set_option maxHeartbeats 2000000 in
set_option maxRecDepth 10000 in
theorem do_Sto {w : World} {p t g gwp gr c gw d : Nat} {M : Mm} (h : Pm w p t g gwp M) (r : Rm w gr c gw d M) (hgr : gr ≠ g) (hgw : gw ≠ gwp) (k a x pg nn o ep : Int) (hk : 0 ≤ k ∧ k ≤ 255) (ha : 0 ≤ a ∧ a ≤ 4294967295) (h8 : k % 8 = 3) :
    Calls Try.prog 13 #[.pointer (some ⟨p, 0, none⟩), rV M.gt gr M.pg.length c gw M.ws.length d, .agg (aCs k a x pg nn o ep)] w (DoM p t g gwp gr gw (stoM M a x ep o) w) := by
  have ok := h.ok
  have hlt := h.lt
  obtain ⟨hb0, hs0, B1, A1, Z1⟩ := dW_facts w M.gt gr M.pg.length c gw M.ws.length d k a x pg nn o ep
  have H0 := h.belowS hb0
  have R0 := r.belowS hb0
  have C1 := Lib.hid (store_any H0 a x ep o ha)
  have C2 := Lib.hid (fun w1 (hf : Fr (MS p g gwp) (dW w M.gt gr M.pg.length c gw M.ws.length d k a x pg nn o ep) w1) => refStore_any (Rm.ms R0 H0 hgr hgw hf) ok a x ep o ha)
  obtain ⟨e1, e2⟩ := stoM_pg M a x ep o
  have EN : Hid (∀ (w1 w2 wz : World) (gw' d' : Nat) (cs cs' : Array Value), Fr (MS p g gwp) (dW w M.gt gr M.pg.length c gw M.ws.length d k a x pg nn o ep) w1 → Pm w1 p t g gwp (stoM M a x ep o) → Below w1.heap.size w1 w2 → Wr w2 gw' (stoM M a x ep o).ws → M.ws.length ≤ d' → d' ≤ maxLen → (gw' = gw ∨ w1.heap.size ≤ gw') →
      Whole w2 w.heap.size 33 cs → Whole w2 (w.heap.size + 1 + 1) 33 cs' → Fr (fun i => i = w.heap.size ∨ i = w.heap.size + 1 + 1) w2 wz →
      DoM p t g gwp gr gw (stoM M a x ep o) w (.returned (.tuple #[rV (stoM M a x ep o).gt gr M.pg.length c gw' M.ws.length d', .bool true])) wz) := Lib.hid fun w1 w2 wz gw' d' cs cs' q1 q2 q3 q4 q5 q6 q7 q8 q9 q10 => by
    have hs1 := q1.size
    have R1 := Rm.ms R0 H0 hgr hgw q1
    have D := do_end (gr := gr) (gw := gw) (gr' := gr) (c' := c) (gw' := gw') (d' := d') hlt (q2.belowS q3) ⟨by rw [e1]; exact R1.row.belowS q3, q4, by rw [e1]; exact R1.c1, R1.c2, by rw [e2]; exact q5, q6⟩ (((Fr.of_below hb0).trans q1 (fun i hi => Or.inl hi)).then q3) q8 q9 q10 (Or.inl rfl) (q7.imp id (fun h => by rw [hs0] at hs1; omega))
    rw [e1, e2] at D
    exact D
  obtain ⟨hk0, hk1⟩ := hk
  clear h r H0 R0 ok
  generalize stoM M a x ep o = M' at *
  generalize stoB M a ep o = E at *
  unfold RTurn at C2
  generalize M.pg.length = n at *
  generalize M.ws.length = m at *
  generalize M'.gt = G' at *
  generalize M.gt = G at *
  obtain ⟨a0, a1, a2, a3, a4, a5, a6⟩ := act_cells A1
  go_enter Try.func13, Try.ntmps13
  go_upto_region 14 with (first | (go_at_call 26; (with_reducible refine C1.out.mono ?_); rintro e w1 ⟨rfl, hF1, hP1⟩; have HP1 := Lib.hid hP1; have BW := B1.fr hF1 (ms_not hlt (Nat.le_refl _)); have AW := A1.fr hF1 (ms_not hlt (by omega)); have ZW := Z1.fr hF1 (ms_not hlt (by omega)); obtain ⟨q0, q1, q2, q3, q4, q5, q6⟩ := act_cells AW; obtain ⟨c0, c1, c2, c3, c4, c5, c6, c7, c8, c9⟩ := box_cells BW) | (go_at_call 31; (with_reducible refine (C2.out _ hF1).mono ?_); rintro e w2 ⟨gw', d', rfl, hw2, hgw2, hd1, hd2, hb2⟩; have BW2 := BW.belowS hb2; have ZW2 := ZW.belowS hb2; obtain ⟨⟨v0, v1, v2, v3, v4, v5, v6, v7, v8, v9, e0, e1, e2, e3, e4, e5, e6, e7, e8, e9⟩, f0, f1, f2, f3, f4, f5, f6, f7, f8, f9⟩ := box_open ZW2 rfl; have l1 := ZW2.lt; have HW2 := Lib.hid hw2; clear hw2))
  have X3 := Whole.new w2 33 (rCs G' gr n c gw' m d')
  have Z3 := ZW2.alloc (.cells (rCs G' gr n c gw' m d') 33)
  have HE := Lib.hid (EN.out w1 w2 _ gw' d' _ _ hF1 HP1.out hb2 HW2.out hd1 hd2 hgw2 BW2 ZW2 (((Fr.refl (fun i => i = w.heap.size ∨ i = w.heap.size + 1 + 1) w2).alloc (.cells (rCs G' gr n c gw' m d') 33)).trans (one_fr _ w.heap.size (w.heap.size + 1 + 1) G' gr n c gw' m d') (fun i hi => Or.inl hi)))
  clear EN C1 C2 HP1 HW2 AW A1 B1 Z1 BW ZW BW2 ZW2 q0 q1 q2 q3 q4 q5 q6 a0 a1 a2 a3 a4 a5 a6 hP1 c0 c1 c2 c3 c4 c5 c6 c7 c8 c9 e0 e1 e2 e3 e4 e5 e6 e7 e8 e9 f0 f1 f2 f3 f4 f5 f6 f7 f8 f9 l1
  generalize w2.alloc (.cells (rCs G' gr n c gw' m d') 33) = w3 at *
  obtain ⟨c0, c1, c2, c3, c4, c5, c6, c7, c8, c9⟩ := box_cells X3
  obtain ⟨⟨v0, v1, v2, v3, v4, v5, v6, v7, v8, v9, e0, e1, e2, e3, e4, e5, e6, e7, e8, e9⟩, f0, f1, f2, f3, f4, f5, f6, f7, f8, f9⟩ := box_open Z3 rfl
  have l2 := Z3.lt
  go_wp2_with fail
  rw [putB_eq]
  obtain ⟨p0, p1, p2, p3, p4, p5, p6, p7, p8, p9⟩ := box_cells (putB_whole Z3 rfl G' gr n c gw' m d')
  refine bodyPost_ret (v := .tuple #[rV G' gr n c gw' m d', .bool true]) (by simp [results, Try.results13, go_sem, p0, p1, p2, p3, p4, p5, p6, p7, p8, p9]) rfl ?_
  exact HE.out
set_option maxHeartbeats 2000000 in
set_option maxRecDepth 10000 in
theorem do_Stage {w : World} {p t g gwp gr c gw d : Nat} {M : Mm} (h : Pm w p t g gwp M) (r : Rm w gr c gw d M) (hgr : gr ≠ g) (hgw : gw ≠ gwp) (k a x pg nn o ep : Int) (hk : 0 ≤ k ∧ k ≤ 255) (h8 : k % 8 = 4) (hnn : nn ≤ 9223372036854775807) :
    Calls Try.prog 13 #[.pointer (some ⟨p, 0, none⟩), rV M.gt gr M.pg.length c gw M.ws.length d, .agg (aCs k a x pg nn o ep)] w (DoM p t g gwp gr gw (withP M (stageL M.pg pg nn o)) w) := by
  have hlt := h.lt
  obtain ⟨hb0, hs0, B1, A1, Z1⟩ := dW_facts w M.gt gr M.pg.length c gw M.ws.length d k a x pg nn o ep
  have H0 := h.belowS hb0
  have R0 := r.belowS hb0
  have C1 := Lib.hid (pages_Stage H0 R0 hgr hgw k a x pg nn o ep h8 hk hnn)
  have EN : Hid (∀ (w1 wz : World) (gr' c' gw' d' : Nat), Fr (MS p g gwp) (dW w M.gt gr M.pg.length c gw M.ws.length d k a x pg nn o ep) w1 → Pm w1 p t g gwp (withP M (stageL M.pg pg nn o)) → Rm w1 gr' c' gw' d' (withP M (stageL M.pg pg nn o)) → (gr' = gr ∨ (dW w M.gt gr M.pg.length c gw M.ws.length d k a x pg nn o ep).heap.size ≤ gr') → (gw' = gw ∨ (dW w M.gt gr M.pg.length c gw M.ws.length d k a x pg nn o ep).heap.size ≤ gw') →
      Fr (fun i => i = w.heap.size ∨ i = w.heap.size + 1 + 1) w1 wz → DoM p t g gwp gr gw (withP M (stageL M.pg pg nn o)) w (.returned (.tuple #[rV (withP M (stageL M.pg pg nn o)).gt gr' (withP M (stageL M.pg pg nn o)).pg.length c' gw' (withP M (stageL M.pg pg nn o)).ws.length d', .bool true])) wz) := Lib.hid fun w1 wz gr' c' gw' d' q1 q2 q3 q4 q5 q6 => 
    do_end hlt q2 q3 ((Fr.of_below hb0).trans q1 (fun i hi => Or.inl hi)) (B1.fr q1 (ms_not hlt (Nat.le_refl _))) (Z1.fr q1 (ms_not hlt (by omega))) q6 (q4.imp id (fun h => by rw [hs0] at h; omega)) (q5.imp id (fun h => by rw [hs0] at h; omega))
  obtain ⟨hk0, hk1⟩ := hk
  clear h r H0 R0
  unfold DoM at C1
  generalize withP M (stageL M.pg pg nn o) = M' at *
  generalize M'.pg.length = n' at *
  generalize M'.ws.length = m' at *
  generalize M'.gt = G' at *
  generalize M.pg.length = n at *
  generalize M.ws.length = m at *
  generalize M.gt = G at *
  obtain ⟨a0, a1, a2, a3, a4, a5, a6⟩ := act_cells A1
  go_enter Try.func13, Try.ntmps13
  go_wp2_with (go_at_call 40; (with_reducible refine C1.out.mono ?_); rintro e w1 ⟨gr', c', gw', d', rfl, hP, hR, hF, g1, g2⟩; have Z3 := Z1.fr hF (ms_not hlt (by omega)); obtain ⟨⟨v0, v1, v2, v3, v4, v5, v6, v7, v8, v9, e0, e1, e2, e3, e4, e5, e6, e7, e8, e9⟩, f0, f1, f2, f3, f4, f5, f6, f7, f8, f9⟩ := box_open Z3 rfl; have l2 := Z3.lt; have HP := Lib.hid hP; have HR := Lib.hid hR; clear hP hR)
  rw [putB_eq]
  obtain ⟨p0, p1, p2, p3, p4, p5, p6, p7, p8, p9⟩ := box_cells (putB_whole Z3 rfl G' gr' n' c' gw' m' d')
  refine bodyPost_ret (v := .tuple #[rV G' gr' n' c' gw' m' d', .bool true]) (by simp [results, Try.results13, go_sem, p0, p1, p2, p3, p4, p5, p6, p7, p8, p9]) rfl ?_
  exact EN.out w1 _ gr' c' gw' d' hF HP.out HR.out g1 g2 (one_fr w1 w.heap.size (w.heap.size + 1 + 1) G' gr' n' c' gw' m' d')
set_option maxHeartbeats 2000000 in
set_option maxRecDepth 10000 in
theorem do_Publish {w : World} {p t g gwp gr c gw d : Nat} {M : Mm} (h : Pm w p t g gwp M) (r : Rm w gr c gw d M) (hgr : gr ≠ g) (hgw : gw ≠ gwp) (k a x pg nn o ep : Int) (hk : 0 ≤ k ∧ k ≤ 255) (h8 : k % 8 = 5)  :
    Calls Try.prog 13 #[.pointer (some ⟨p, 0, none⟩), rV M.gt gr M.pg.length c gw M.ws.length d, .agg (aCs k a x pg nn o ep)] w (DoM p t g gwp gr gw (withP M (pubL M.pg o nn)) w) := by
  have hlt := h.lt
  obtain ⟨hb0, hs0, B1, A1, Z1⟩ := dW_facts w M.gt gr M.pg.length c gw M.ws.length d k a x pg nn o ep
  have H0 := h.belowS hb0
  have R0 := r.belowS hb0
  have C1 := Lib.hid (pages_Publish H0 R0 hgr hgw k a x pg nn o ep h8 hk)
  have EN : Hid (∀ (w1 wz : World) (gr' c' gw' d' : Nat), Fr (MS p g gwp) (dW w M.gt gr M.pg.length c gw M.ws.length d k a x pg nn o ep) w1 → Pm w1 p t g gwp (withP M (pubL M.pg o nn)) → Rm w1 gr' c' gw' d' (withP M (pubL M.pg o nn)) → (gr' = gr ∨ (dW w M.gt gr M.pg.length c gw M.ws.length d k a x pg nn o ep).heap.size ≤ gr') → (gw' = gw ∨ (dW w M.gt gr M.pg.length c gw M.ws.length d k a x pg nn o ep).heap.size ≤ gw') →
      Fr (fun i => i = w.heap.size ∨ i = w.heap.size + 1 + 1) w1 wz → DoM p t g gwp gr gw (withP M (pubL M.pg o nn)) w (.returned (.tuple #[rV (withP M (pubL M.pg o nn)).gt gr' (withP M (pubL M.pg o nn)).pg.length c' gw' (withP M (pubL M.pg o nn)).ws.length d', .bool true])) wz) := Lib.hid fun w1 wz gr' c' gw' d' q1 q2 q3 q4 q5 q6 => 
    do_end hlt q2 q3 ((Fr.of_below hb0).trans q1 (fun i hi => Or.inl hi)) (B1.fr q1 (ms_not hlt (Nat.le_refl _))) (Z1.fr q1 (ms_not hlt (by omega))) q6 (q4.imp id (fun h => by rw [hs0] at h; omega)) (q5.imp id (fun h => by rw [hs0] at h; omega))
  obtain ⟨hk0, hk1⟩ := hk
  clear h r H0 R0
  unfold DoM at C1
  generalize withP M (pubL M.pg o nn) = M' at *
  generalize M'.pg.length = n' at *
  generalize M'.ws.length = m' at *
  generalize M'.gt = G' at *
  generalize M.pg.length = n at *
  generalize M.ws.length = m at *
  generalize M.gt = G at *
  obtain ⟨a0, a1, a2, a3, a4, a5, a6⟩ := act_cells A1
  go_enter Try.func13, Try.ntmps13
  go_wp2_with (go_at_call 40; (with_reducible refine C1.out.mono ?_); rintro e w1 ⟨gr', c', gw', d', rfl, hP, hR, hF, g1, g2⟩; have Z3 := Z1.fr hF (ms_not hlt (by omega)); obtain ⟨⟨v0, v1, v2, v3, v4, v5, v6, v7, v8, v9, e0, e1, e2, e3, e4, e5, e6, e7, e8, e9⟩, f0, f1, f2, f3, f4, f5, f6, f7, f8, f9⟩ := box_open Z3 rfl; have l2 := Z3.lt; have HP := Lib.hid hP; have HR := Lib.hid hR; clear hP hR)
  rw [putB_eq]
  obtain ⟨p0, p1, p2, p3, p4, p5, p6, p7, p8, p9⟩ := box_cells (putB_whole Z3 rfl G' gr' n' c' gw' m' d')
  refine bodyPost_ret (v := .tuple #[rV G' gr' n' c' gw' m' d', .bool true]) (by simp [results, Try.results13, go_sem, p0, p1, p2, p3, p4, p5, p6, p7, p8, p9]) rfl ?_
  exact EN.out w1 _ gr' c' gw' d' hF HP.out HR.out g1 g2 (one_fr w1 w.heap.size (w.heap.size + 1 + 1) G' gr' n' c' gw' m' d')
set_option maxHeartbeats 2000000 in
set_option maxRecDepth 10000 in
theorem do_Retire {w : World} {p t g gwp gr c gw d : Nat} {M : Mm} (h : Pm w p t g gwp M) (r : Rm w gr c gw d M) (hgr : gr ≠ g) (hgw : gw ≠ gwp) (k a x pg nn o ep : Int) (hk : 0 ≤ k ∧ k ≤ 255) (h8 : k % 8 = 6)  :
    Calls Try.prog 13 #[.pointer (some ⟨p, 0, none⟩), rV M.gt gr M.pg.length c gw M.ws.length d, .agg (aCs k a x pg nn o ep)] w (DoM p t g gwp gr gw (withP M (retL M.pg o ep)) w) := by
  have hlt := h.lt
  obtain ⟨hb0, hs0, B1, A1, Z1⟩ := dW_facts w M.gt gr M.pg.length c gw M.ws.length d k a x pg nn o ep
  have H0 := h.belowS hb0
  have R0 := r.belowS hb0
  have C1 := Lib.hid (pages_Retire H0 R0 hgr hgw k a x pg nn o ep h8 hk)
  have EN : Hid (∀ (w1 wz : World) (gr' c' gw' d' : Nat), Fr (MS p g gwp) (dW w M.gt gr M.pg.length c gw M.ws.length d k a x pg nn o ep) w1 → Pm w1 p t g gwp (withP M (retL M.pg o ep)) → Rm w1 gr' c' gw' d' (withP M (retL M.pg o ep)) → (gr' = gr ∨ (dW w M.gt gr M.pg.length c gw M.ws.length d k a x pg nn o ep).heap.size ≤ gr') → (gw' = gw ∨ (dW w M.gt gr M.pg.length c gw M.ws.length d k a x pg nn o ep).heap.size ≤ gw') →
      Fr (fun i => i = w.heap.size ∨ i = w.heap.size + 1 + 1) w1 wz → DoM p t g gwp gr gw (withP M (retL M.pg o ep)) w (.returned (.tuple #[rV (withP M (retL M.pg o ep)).gt gr' (withP M (retL M.pg o ep)).pg.length c' gw' (withP M (retL M.pg o ep)).ws.length d', .bool true])) wz) := Lib.hid fun w1 wz gr' c' gw' d' q1 q2 q3 q4 q5 q6 => 
    do_end hlt q2 q3 ((Fr.of_below hb0).trans q1 (fun i hi => Or.inl hi)) (B1.fr q1 (ms_not hlt (Nat.le_refl _))) (Z1.fr q1 (ms_not hlt (by omega))) q6 (q4.imp id (fun h => by rw [hs0] at h; omega)) (q5.imp id (fun h => by rw [hs0] at h; omega))
  obtain ⟨hk0, hk1⟩ := hk
  clear h r H0 R0
  unfold DoM at C1
  generalize withP M (retL M.pg o ep) = M' at *
  generalize M'.pg.length = n' at *
  generalize M'.ws.length = m' at *
  generalize M'.gt = G' at *
  generalize M.pg.length = n at *
  generalize M.ws.length = m at *
  generalize M.gt = G at *
  obtain ⟨a0, a1, a2, a3, a4, a5, a6⟩ := act_cells A1
  go_enter Try.func13, Try.ntmps13
  go_wp2_with (go_at_call 40; (with_reducible refine C1.out.mono ?_); rintro e w1 ⟨gr', c', gw', d', rfl, hP, hR, hF, g1, g2⟩; have Z3 := Z1.fr hF (ms_not hlt (by omega)); obtain ⟨⟨v0, v1, v2, v3, v4, v5, v6, v7, v8, v9, e0, e1, e2, e3, e4, e5, e6, e7, e8, e9⟩, f0, f1, f2, f3, f4, f5, f6, f7, f8, f9⟩ := box_open Z3 rfl; have l2 := Z3.lt; have HP := Lib.hid hP; have HR := Lib.hid hR; clear hP hR)
  rw [putB_eq]
  obtain ⟨p0, p1, p2, p3, p4, p5, p6, p7, p8, p9⟩ := box_cells (putB_whole Z3 rfl G' gr' n' c' gw' m' d')
  refine bodyPost_ret (v := .tuple #[rV G' gr' n' c' gw' m' d', .bool true]) (by simp [results, Try.results13, go_sem, p0, p1, p2, p3, p4, p5, p6, p7, p8, p9]) rfl ?_
  exact EN.out w1 _ gr' c' gw' d' hF HP.out HR.out g1 g2 (one_fr w1 w.heap.size (w.heap.size + 1 + 1) G' gr' n' c' gw' m' d')
set_option maxHeartbeats 2000000 in
set_option maxRecDepth 10000 in
theorem do_Release {w : World} {p t g gwp gr c gw d : Nat} {M : Mm} (h : Pm w p t g gwp M) (r : Rm w gr c gw d M) (hgr : gr ≠ g) (hgw : gw ≠ gwp) (k a x pg nn o ep : Int) (hk : 0 ≤ k ∧ k ≤ 255) (h8 : k % 8 = 7)  :
    Calls Try.prog 13 #[.pointer (some ⟨p, 0, none⟩), rV M.gt gr M.pg.length c gw M.ws.length d, .agg (aCs k a x pg nn o ep)] w (DoM p t g gwp gr gw (withP M (relL M.pg o)) w) := by
  have hlt := h.lt
  obtain ⟨hb0, hs0, B1, A1, Z1⟩ := dW_facts w M.gt gr M.pg.length c gw M.ws.length d k a x pg nn o ep
  have H0 := h.belowS hb0
  have R0 := r.belowS hb0
  have C1 := Lib.hid (pages_Release H0 R0 hgr hgw k a x pg nn o ep h8 hk)
  have EN : Hid (∀ (w1 wz : World) (gr' c' gw' d' : Nat), Fr (MS p g gwp) (dW w M.gt gr M.pg.length c gw M.ws.length d k a x pg nn o ep) w1 → Pm w1 p t g gwp (withP M (relL M.pg o)) → Rm w1 gr' c' gw' d' (withP M (relL M.pg o)) → (gr' = gr ∨ (dW w M.gt gr M.pg.length c gw M.ws.length d k a x pg nn o ep).heap.size ≤ gr') → (gw' = gw ∨ (dW w M.gt gr M.pg.length c gw M.ws.length d k a x pg nn o ep).heap.size ≤ gw') →
      Fr (fun i => i = w.heap.size ∨ i = w.heap.size + 1 + 1) w1 wz → DoM p t g gwp gr gw (withP M (relL M.pg o)) w (.returned (.tuple #[rV (withP M (relL M.pg o)).gt gr' (withP M (relL M.pg o)).pg.length c' gw' (withP M (relL M.pg o)).ws.length d', .bool true])) wz) := Lib.hid fun w1 wz gr' c' gw' d' q1 q2 q3 q4 q5 q6 => 
    do_end hlt q2 q3 ((Fr.of_below hb0).trans q1 (fun i hi => Or.inl hi)) (B1.fr q1 (ms_not hlt (Nat.le_refl _))) (Z1.fr q1 (ms_not hlt (by omega))) q6 (q4.imp id (fun h => by rw [hs0] at h; omega)) (q5.imp id (fun h => by rw [hs0] at h; omega))
  obtain ⟨hk0, hk1⟩ := hk
  clear h r H0 R0
  unfold DoM at C1
  generalize withP M (relL M.pg o) = M' at *
  generalize M'.pg.length = n' at *
  generalize M'.ws.length = m' at *
  generalize M'.gt = G' at *
  generalize M.pg.length = n at *
  generalize M.ws.length = m at *
  generalize M.gt = G at *
  obtain ⟨a0, a1, a2, a3, a4, a5, a6⟩ := act_cells A1
  go_enter Try.func13, Try.ntmps13
  go_wp2_with (go_at_call 40; (with_reducible refine C1.out.mono ?_); rintro e w1 ⟨gr', c', gw', d', rfl, hP, hR, hF, g1, g2⟩; have Z3 := Z1.fr hF (ms_not hlt (by omega)); obtain ⟨⟨v0, v1, v2, v3, v4, v5, v6, v7, v8, v9, e0, e1, e2, e3, e4, e5, e6, e7, e8, e9⟩, f0, f1, f2, f3, f4, f5, f6, f7, f8, f9⟩ := box_open Z3 rfl; have l2 := Z3.lt; have HP := Lib.hid hP; have HR := Lib.hid hR; clear hP hR)
  rw [putB_eq]
  obtain ⟨p0, p1, p2, p3, p4, p5, p6, p7, p8, p9⟩ := box_cells (putB_whole Z3 rfl G' gr' n' c' gw' m' d')
  refine bodyPost_ret (v := .tuple #[rV G' gr' n' c' gw' m' d', .bool true]) (by simp [results, Try.results13, go_sem, p0, p1, p2, p3, p4, p5, p6, p7, p8, p9]) rfl ?_
  exact EN.out w1 _ gr' c' gw' d' hF HP.out HR.out g1 g2 (one_fr w1 w.heap.size (w.heap.size + 1 + 1) G' gr' n' c' gw' m' d')
/-- what an Act's numbers keep to -/
structure AOk (x : MM.Ac) : Prop where
  k : 0 ≤ x.k ∧ x.k ≤ 255
  a : 0 ≤ x.a ∧ x.a ≤ 4294967295
  n : x.n ≤ 9223372036854775807
  o : 0 ≤ x.o ∧ x.o ≤ 65535
theorem do_any {w : World} {p t g gwp gr c gw d : Nat} {M : Mm} (h : Pm w p t g gwp M) (r : Rm w gr c gw d M) (hgr : gr ≠ g) (hgw : gw ≠ gwp) (x : MM.Ac) (hx : AOk x) :
    Calls Try.prog 13 #[.pointer (some ⟨p, 0, none⟩), rV M.gt gr M.pg.length c gw M.ws.length d, .agg (aCs x.k x.a x.w x.p x.n x.o x.e)] w (DoM p t g gwp gr gw (actM M x) w) := by
  have h1 := hx.k
  have h8 : x.k % 8 = 0 ∨ x.k % 8 = 1 ∨ x.k % 8 = 2 ∨ x.k % 8 = 3 ∨ x.k % 8 = 4 ∨ x.k % 8 = 5 ∨ x.k % 8 = 6 ∨ x.k % 8 = 7 := by omega
  rcases h8 with h8 | h8 | h8 | h8 | h8 | h8 | h8 | h8
  · rw [show actM M x = putM M x.a x.w by simp [actM, h8]]; exact do_Put0 h r hgr hgw _ _ _ _ _ _ _ h1 hx.a h8
  · rw [show actM M x = putM M x.a x.w by simp [actM, h8]]; exact do_Put1 h r hgr hgw _ _ _ _ _ _ _ h1 hx.a h8
  · rw [show actM M x = setM M (x.o - 1) x.w by simp [actM, h8]]; exact do_Gate h r hgr hgw _ _ _ _ _ _ _ h1 hx.o h8
  · rw [show actM M x = stoM M x.a x.w x.e x.o by simp [actM, h8]]; exact do_Sto h r hgr hgw _ _ _ _ _ _ _ h1 hx.a h8
  · rw [show actM M x = withP M (stageL M.pg x.p x.n x.o) by simp [actM, h8]]; exact do_Stage h r hgr hgw _ _ _ _ _ _ _ h1 h8 hx.n
  · rw [show actM M x = withP M (pubL M.pg x.o x.n) by simp [actM, h8]]; exact do_Publish h r hgr hgw _ _ _ _ _ _ _ h1 h8
  · rw [show actM M x = withP M (retL M.pg x.o x.e) by simp [actM, h8]]; exact do_Retire h r hgr hgw _ _ _ _ _ _ _ h1 h8
  · rw [show actM M x = withP M (relL M.pg x.o) by simp [actM, h8]]; exact do_Release h r hgr hgw _ _ _ _ _ _ _ h1 h8
end Go.Proofs.Ytkmjacpcpchjoaa.MF
