/-
  A call of the pages' table, of both. Nothing here is a statement of the seed.
-/
import Derived.Test.YtkmjacpcpchjoaaMemRNew
set_option linter.unusedSimpArgs false
set_option linter.unusedVariables false
namespace Go.Proofs.Ytkmjacpcpchjoaa.MF
open Go.RowKit PM PR PF MM MR

abbrev aCs (k a x pg nn o ep : Int) : Array Value := #[.int .u8 k, .int .u32 a, .int .u32 x, .int .i64 pg, .int .i64 nn, .int .u16 o, .int .u64 ep]
/-- both have done a call -/
def DoM (p t g gwp gr gw : Nat) (M' : Mm) (w : World) (e : Ending) (w' : World) : Prop := ∃ gr' c' gw' d', e = .returned (.tuple #[rV M'.gt gr' M'.pg.length c' gw' M'.ws.length d', .bool true]) ∧ Pm w' p t g gwp M' ∧ Rm w' gr' c' gw' d' M' ∧ Fr (MS p g gwp) w w' ∧ (gr' = gr ∨ w.heap.size ≤ gr') ∧ (gw' = gw ∨ w.heap.size ≤ gw')
abbrev dW (w : World) (G : Nat → Int) (gr n c gw m d : Nat) (k a x pg nn o ep : Int) : World := ((w.alloc (.cells (rCs G gr n c gw m d) 33)).alloc (.cells (aCs k a x pg nn o ep) 41)).alloc (.cells zCs 33)
theorem dW_facts (w : World) (G : Nat → Int) (gr n c gw m d : Nat) (k a x pg nn o ep : Int) : Below w.heap.size w (dW w G gr n c gw m d k a x pg nn o ep) ∧ (dW w G gr n c gw m d k a x pg nn o ep).heap.size = w.heap.size + 1 + 1 + 1 ∧ Whole (dW w G gr n c gw m d k a x pg nn o ep) w.heap.size 33 (rCs G gr n c gw m d) ∧
    Whole (dW w G gr n c gw m d k a x pg nn o ep) (w.heap.size + 1) 41 (aCs k a x pg nn o ep) ∧ Whole (dW w G gr n c gw m d k a x pg nn o ep) (w.heap.size + 1 + 1) 33 zCs := by
  refine ⟨((below_new w _).alloc (by simp) _).alloc (by simp; omega) _, by simp, ((Whole.new w _ _).alloc _).alloc _, ?_, ?_⟩
  · have := (Whole.new (w.alloc (.cells (rCs G gr n c gw m d) 33)) 41 (aCs k a x pg nn o ep)).alloc (.cells zCs 33)
    simpa using this
  · have := Whole.new ((w.alloc (.cells (rCs G gr n c gw m d) 33)).alloc (.cells (aCs k a x pg nn o ep) 41)) 33 zCs
    simpa using this
theorem act_cells {w : World} {b : Nat} {k a x pg nn o ep : Int} (h : Whole w b 41 (aCs k a x pg nn o ep)) : w.cell? ⟨b, 0, none⟩ = some (.int .u8 k) ∧ w.cell? ⟨b, 1, none⟩ = some (.int .u32 a) ∧ w.cell? ⟨b, 2, none⟩ = some (.int .u32 x) ∧ w.cell? ⟨b, 3, none⟩ = some (.int .i64 pg) ∧ w.cell? ⟨b, 4, none⟩ = some (.int .i64 nn) ∧ w.cell? ⟨b, 5, none⟩ = some (.int .u16 o) ∧ w.cell? ⟨b, 6, none⟩ = some (.int .u64 ep) :=
  ⟨h.cell 0, h.cell 1, h.cell 2, h.cell 3, h.cell 4, h.cell 5, h.cell 6⟩
/-- the end of a call: the boxes turned alone -/
theorem do_end {w w2 wz : World} {p t g gwp gr gw gr' c' gw' d' : Nat} {M' : Mm} {cs cs' : Array Value} (hlt : p < w.heap.size ∧ t < w.heap.size ∧ g < w.heap.size ∧ gwp < w.heap.size) (H : Pm w2 p t g gwp M') (R : Rm w2 gr' c' gw' d' M') (hF : Fr (MS p g gwp) w w2)
    (B : Whole w2 w.heap.size 33 cs) (Z : Whole w2 (w.heap.size + 1 + 1) 33 cs') (hz : Fr (fun i => i = w.heap.size ∨ i = w.heap.size + 1 + 1) w2 wz)
    (h1 : gr' = gr ∨ w.heap.size ≤ gr') (h2 : gw' = gw ∨ w.heap.size ≤ gw') : DoM p t g gwp gr gw M' w (.returned (.tuple #[rV M'.gt gr' M'.pg.length c' gw' M'.ws.length d', .bool true])) wz := by
  have n1 : w.heap.size ≠ gr' := R.row.elim fun r hr => B.ne_ hr (by decide)
  have n2 : w.heap.size + 1 + 1 ≠ gr' := R.row.elim fun r hr => Z.ne_ hr (by decide)
  have n3 : w.heap.size ≠ gw' := R.wr.ne_ B (by decide)
  have n4 : w.heap.size + 1 + 1 ≠ gw' := R.wr.ne_ Z (by decide)
  refine ⟨gr', c', gw', d', rfl, H.fr hz (by omega) (by omega) (by omega) (by omega), R.fr hz (by omega) (by omega), hF.trans hz (fun i hi => Or.inr (by omega)), h1, h2⟩
theorem two_fr {w : World} {b b2 : Nat} {u : Value} (G : Nat → Int) (gr n c gw m d i : Nat) : Fr (fun i => i = b ∨ i = b2) w (putB (w.setCell ⟨b, i, none⟩ u) b2 G gr n c gw m d) :=
  ((Fr.refl (fun i => i = b ∨ i = b2) w).set (p := ⟨b, i, none⟩) (Or.inl (Or.inl rfl)) u).trans (putB_fr _ b2 G gr n c gw m d) (fun i hi => Or.inl (Or.inr hi))
theorem set8_rcs (G : Nat → Int) (gr n c gw m d gr' c' : Nat) : (rCs G gr n c gw m d).setIfInBounds 8 (.slice (some ⟨gr', 0, none⟩) n c') = rCs G gr' n c' gw m d := rfl
set_option maxHeartbeats 2000000 in
set_option maxRecDepth 10000 in
theorem pages_Stage {w : World} {p t g gwp gr c gw d : Nat} {M : Mm} (h : Pm w p t g gwp M) (r : Rm w gr c gw d M) (hgr : gr ≠ g) (hgw : gw ≠ gwp) (k a x pg nn o ep : Int) (h4 : k % 8 = 4) (hk : 0 ≤ k ∧ k ≤ 255) (hnn : nn ≤ 9223372036854775807) :
    Calls Try.prog 40 #[.pointer (some ⟨p, 0, none⟩), rV M.gt gr M.pg.length c gw M.ws.length d, .agg (aCs k a x pg nn o ep)] w (DoM p t g gwp gr gw (withP M (stageL M.pg pg nn o)) w) := by
  have ok := h.ok
  have h256 := ok.p256
  have hlt := h.lt
  have hgrl := r.lt.1
  obtain ⟨hb0, hs0, B1, A1, Z1⟩ := dW_facts w M.gt gr M.pg.length c gw M.ws.length d k a x pg nn o ep
  have H0 := h.belowS hb0
  have R0 := r.belowS hb0
  have hgd : g < (dW w M.gt gr M.pg.length c gw M.ws.length d k a x pg nn o ep).heap.size := by rw [hs0]; omega
  have C0 := Lib.hid (fun u (hb : Below (dW w M.gt gr M.pg.length c gw M.ws.length d k a x pg nn o ep).heap.size (dW w M.gt gr M.pg.length c gw M.ws.length d k a x pg nn o ep) u) => pages_any (H0.belowS hb))
  have C1 := Lib.hid (fun u (hb : Below (dW w M.gt gr M.pg.length c gw M.ws.length d k a x pg nn o ep).heap.size (dW w M.gt gr M.pg.length c gw M.ws.length d k a x pg nn o ep) u) => stage_tb (H0.belowS hb).tb pg nn o hnn)
  have C2 := Lib.hid (fun w1 (hf : Fr (fun i => i = g) (dW w M.gt gr M.pg.length c gw M.ws.length d k a x pg nn o ep) w1) => refStage_any (c := c) (R0.row.fr hf hgr) h256 r.c1 r.c2 ok.fine pg nn o)
  have hL := stageL_len M.pg pg nn o
  have hFn := FineL.stage ok.fine pg nn o
  have hwlen : (withP M (stageL M.pg pg nn o)).ws.length = M.ws.length := rfl
  have EN : Hid (∀ (w1 w2 wz : World) (gr' c' : Nat) (cs cs' : Array Value), Fr (fun i => i = g) (dW w M.gt gr M.pg.length c gw M.ws.length d k a x pg nn o ep) w1 → Row w1 g (stageL M.pg pg nn o) → Below w1.heap.size w1 w2 → Row w2 gr' (stageL M.pg pg nn o) → M.pg.length ≤ c' → c' ≤ maxLen → (gr' = gr ∨ w1.heap.size ≤ gr') →
      Whole w2 w.heap.size 33 cs → Whole w2 (w.heap.size + 1 + 1) 33 cs' → Fr (fun i => i = w.heap.size ∨ i = w.heap.size + 1 + 1) w2 wz →
      DoM p t g gwp gr gw (withP M (stageL M.pg pg nn o)) w (.returned (.tuple #[rV M.gt gr' M.pg.length c' gw M.ws.length d, .bool true])) wz) := Lib.hid fun w1 w2 wz gr' c' cs cs' q1 q2 q3 q4 q5 q6 q7 q8 q9 q10 => by
    have H1 : Pm w1 p t g gwp (withP M (stageL M.pg pg nn o)) := H0.pages q1 hL hFn q2
    have W1 : Wr w1 gw M.ws := R0.wr.fr q1 (fun e => R0.wr.ne_row H0.tb.row e.symm)
    have hs1 := q1.size
    have D := do_end (gr := gr) (gw := gw) (gr' := gr') (c' := c') (gw' := gw) (d' := d) hlt (H1.belowS q3) ⟨q4, W1.belowS q3, by show (stageL M.pg pg nn o).length ≤ c'; rw [hL]; exact q5, q6, r.d1, r.d2⟩ (((Fr.of_below hb0).trans q1 (fun i hi => Or.inl (Or.inr (Or.inl hi)))).then q3) q8 q9 q10 (q7.imp id (fun h => by rw [hs0] at hs1; omega)) (Or.inl rfl)
    have e1 : (withP M (stageL M.pg pg nn o)).pg.length = M.pg.length := hL
    rw [e1] at D
    exact D
  obtain ⟨hk0, hk1⟩ := hk
  clear h r H0 R0 ok h256 hFn
  generalize stageL M.pg pg nn o = L at *
  generalize stageE M.pg pg nn o = E at *
  generalize M.pg.length = n at *
  generalize M.ws.length = m at *
  generalize withP M L = M' at *
  generalize M.gt = G at *
  unfold Rets at C2
  rw [hL] at C2
  obtain ⟨a0, a1, a2, a3, a4, a5, a6⟩ := act_cells A1
  go_enter Try.func40, Try.ntmps40
  go_wp2_with fail
  have hWW : dW w G gr n c gw m d k a x pg nn o ep = ((w.alloc (.cells (rCs G gr n c gw m d) 33)).alloc (.cells (aCs k a x pg nn o ep) 41)).alloc (.cells zCs 33) := rfl
  rw [← hWW]
  clear hWW
  generalize dW w G gr n c gw m d k a x pg nn o ep = W at *
  have hbd : Below W.heap.size W W.drew := (Below.refl _ _).drew
  have K0 : W.drew.cell? ⟨w.heap.size + 1, 3, none⟩ = some (.int .i64 pg) ∧ W.drew.cell? ⟨w.heap.size + 1, 4, none⟩ = some (.int .i64 nn) ∧ W.drew.cell? ⟨w.heap.size + 1, 5, none⟩ = some (.int .u16 o) := ⟨a3, a4, a5⟩
  go_region_held3 (fun u => u.cell? ⟨w.heap.size + 1, 3, none⟩ = some (.int .i64 pg) ∧ u.cell? ⟨w.heap.size + 1, 4, none⟩ = some (.int .i64 nn) ∧ u.cell? ⟨w.heap.size + 1, 5, none⟩ = some (.int .u16 o))
    (first | with_reducible exact K0 | with_reducible exact K1)
    (first | (go_at_call 19; (with_reducible refine (C0.out _ hbd).mono ?_); rintro e wq ⟨rfl, rfl⟩) | (go_at_call 32; (with_reducible refine (C1.out _ hbd).mono ?_); rintro e w1 ⟨rfl, hf1, hr1⟩; have hF1 := (Fr.of_below (S := fun i => i = g) hbd).trans hf1 (fun i h => Or.inl h); have AW := A1.fr hF1 (by show ¬ w.heap.size + 1 = g; omega); obtain ⟨q0, q1, q2, q3, q4, q5, q6⟩ := act_cells AW; have K1 : w1.cell? ⟨w.heap.size + 1, 3, none⟩ = some (.int .i64 pg) ∧ w1.cell? ⟨w.heap.size + 1, 4, none⟩ = some (.int .i64 nn) ∧ w1.cell? ⟨w.heap.size + 1, 5, none⟩ = some (.int .u16 o) := ⟨q3, q4, q5⟩; have HR1 := Lib.hid hr1))
  rename_i hHeld
  clear hHeld
  have BW := B1.fr hF1 (by show ¬ w.heap.size = g; omega)
  have ZW := Z1.fr hF1 (by show ¬ w.heap.size + 1 + 1 = g; omega)
  have b8 := BW.cell 8
  simp only [List.getElem?_toArray, List.getElem?_cons_zero, List.getElem?_cons_succ] at b8
  clear K0 K1
  go_upto_region 14 with (go_at_call 68; (with_reducible refine (C2.out _ hF1).mono ?_); rintro e w2 ⟨gr', c', rfl, hr2, hl2, hc1, hc2, hb2, hwh⟩; have BW2 := BW.belowS hb2; have ZW2 := ZW.belowS hb2; have b8' := BW2.cell 8; have f8' := BW2.frozen 8; have l1' := BW2.lt; simp only [List.getElem?_toArray, List.getElem?_cons_zero, List.getElem?_cons_succ] at b8'; have HR2 := Lib.hid hr2; clear hr2)
  have B3 := BW2.set_ 8 (.slice (some ⟨gr', 0, none⟩) n c')
  rw [set8_rcs] at B3
  have Z3 := ZW2.far (p := ⟨w.heap.size, 8, none⟩) (by simp; omega) (.slice (some ⟨gr', 0, none⟩) n c')
  have E := EN.out w1 w2 _ gr' c' _ _ hF1 HR1.out hb2 HR2.out hc1 hc2 hwh BW2 ZW2 (two_fr (b := w.heap.size) (b2 := w.heap.size + 1 + 1) (u := .slice (some ⟨gr', 0, none⟩) n c') G gr' n c' gw m d 8)
  have HE := Lib.hid E
  clear E EN C0 C1 C2 HR1 HR2 AW A1 B1 Z1 BW ZW BW2 ZW2 b8 b8' f8' q0 q1 q2 q3 q4 q5 q6 a0 a1 a2 a3 a4 a5 a6 hr1 hf1
  generalize w2.setCell ⟨w.heap.size, 8, none⟩ (.slice (some ⟨gr', 0, none⟩) n c') = w3 at *
  obtain ⟨c0, c1, c2, c3, c4, c5, c6, c7, c8, c9⟩ := box_cells B3
  obtain ⟨⟨v0, v1, v2, v3, v4, v5, v6, v7, v8, v9, e0, e1, e2, e3, e4, e5, e6, e7, e8, e9⟩, f0, f1, f2, f3, f4, f5, f6, f7, f8, f9⟩ := box_open Z3 rfl
  have l2 := Z3.lt
  go_wp2_with fail
  rw [putB_eq]
  obtain ⟨p0, p1, p2, p3, p4, p5, p6, p7, p8, p9⟩ := box_cells (putB_whole Z3 rfl G gr' n c' gw m d)
  refine bodyPost_ret (v := .tuple #[rV G gr' n c' gw m d, .bool true]) (by simp [results, Try.results40, go_sem, p0, p1, p2, p3, p4, p5, p6, p7, p8, p9]) rfl ?_
  exact HE.out
set_option maxHeartbeats 2000000 in
set_option maxRecDepth 10000 in
theorem pages_Publish {w : World} {p t g gwp gr c gw d : Nat} {M : Mm} (h : Pm w p t g gwp M) (r : Rm w gr c gw d M) (hgr : gr ≠ g) (hgw : gw ≠ gwp) (k a x pg nn o ep : Int) (h4 : k % 8 = 5) (hk : 0 ≤ k ∧ k ≤ 255) :
    Calls Try.prog 40 #[.pointer (some ⟨p, 0, none⟩), rV M.gt gr M.pg.length c gw M.ws.length d, .agg (aCs k a x pg nn o ep)] w (DoM p t g gwp gr gw (withP M (pubL M.pg o nn)) w) := by
  have ok := h.ok
  have h256 := ok.p256
  have hlt := h.lt
  have hgrl := r.lt.1
  obtain ⟨hb0, hs0, B1, A1, Z1⟩ := dW_facts w M.gt gr M.pg.length c gw M.ws.length d k a x pg nn o ep
  have H0 := h.belowS hb0
  have R0 := r.belowS hb0
  have hgd : g < (dW w M.gt gr M.pg.length c gw M.ws.length d k a x pg nn o ep).heap.size := by rw [hs0]; omega
  have C0 := Lib.hid (fun u (hb : Below (dW w M.gt gr M.pg.length c gw M.ws.length d k a x pg nn o ep).heap.size (dW w M.gt gr M.pg.length c gw M.ws.length d k a x pg nn o ep) u) => pages_any (H0.belowS hb))
  have C1 := Lib.hid (fun u (hb : Below (dW w M.gt gr M.pg.length c gw M.ws.length d k a x pg nn o ep).heap.size (dW w M.gt gr M.pg.length c gw M.ws.length d k a x pg nn o ep) u) => publish_tb (H0.belowS hb).tb o nn)
  have C2 := Lib.hid (fun w1 (hf : Fr (fun i => i = g) (dW w M.gt gr M.pg.length c gw M.ws.length d k a x pg nn o ep) w1) => refPublish_any (c := c) (R0.row.fr hf hgr) h256 r.c1 r.c2 ok.fine o nn)
  have hL := pubL_len M.pg o nn
  have hFn := FineL.pub ok.fine o nn
  have hwlen : (withP M (pubL M.pg o nn)).ws.length = M.ws.length := rfl
  have EN : Hid (∀ (w1 w2 wz : World) (gr' c' : Nat) (cs cs' : Array Value), Fr (fun i => i = g) (dW w M.gt gr M.pg.length c gw M.ws.length d k a x pg nn o ep) w1 → Row w1 g (pubL M.pg o nn) → Below w1.heap.size w1 w2 → Row w2 gr' (pubL M.pg o nn) → M.pg.length ≤ c' → c' ≤ maxLen → (gr' = gr ∨ w1.heap.size ≤ gr') →
      Whole w2 w.heap.size 33 cs → Whole w2 (w.heap.size + 1 + 1) 33 cs' → Fr (fun i => i = w.heap.size ∨ i = w.heap.size + 1 + 1) w2 wz →
      DoM p t g gwp gr gw (withP M (pubL M.pg o nn)) w (.returned (.tuple #[rV M.gt gr' M.pg.length c' gw M.ws.length d, .bool true])) wz) := Lib.hid fun w1 w2 wz gr' c' cs cs' q1 q2 q3 q4 q5 q6 q7 q8 q9 q10 => by
    have H1 : Pm w1 p t g gwp (withP M (pubL M.pg o nn)) := H0.pages q1 hL hFn q2
    have W1 : Wr w1 gw M.ws := R0.wr.fr q1 (fun e => R0.wr.ne_row H0.tb.row e.symm)
    have hs1 := q1.size
    have D := do_end (gr := gr) (gw := gw) (gr' := gr') (c' := c') (gw' := gw) (d' := d) hlt (H1.belowS q3) ⟨q4, W1.belowS q3, by show (pubL M.pg o nn).length ≤ c'; rw [hL]; exact q5, q6, r.d1, r.d2⟩ (((Fr.of_below hb0).trans q1 (fun i hi => Or.inl (Or.inr (Or.inl hi)))).then q3) q8 q9 q10 (q7.imp id (fun h => by rw [hs0] at hs1; omega)) (Or.inl rfl)
    have e1 : (withP M (pubL M.pg o nn)).pg.length = M.pg.length := hL
    rw [e1] at D
    exact D
  obtain ⟨hk0, hk1⟩ := hk
  clear h r H0 R0 ok h256 hFn
  generalize pubL M.pg o nn = L at *
  generalize pubE M.pg o nn = E at *
  generalize M.pg.length = n at *
  generalize M.ws.length = m at *
  generalize withP M L = M' at *
  generalize M.gt = G at *
  unfold Rets at C2
  rw [hL] at C2
  obtain ⟨a0, a1, a2, a3, a4, a5, a6⟩ := act_cells A1
  go_enter Try.func40, Try.ntmps40
  go_wp2_with fail
  have hWW : dW w G gr n c gw m d k a x pg nn o ep = ((w.alloc (.cells (rCs G gr n c gw m d) 33)).alloc (.cells (aCs k a x pg nn o ep) 41)).alloc (.cells zCs 33) := rfl
  rw [← hWW]
  clear hWW
  generalize dW w G gr n c gw m d k a x pg nn o ep = W at *
  have hbd : Below W.heap.size W W.drew := (Below.refl _ _).drew
  have K0 : W.drew.cell? ⟨w.heap.size + 1, 5, none⟩ = some (.int .u16 o) ∧ W.drew.cell? ⟨w.heap.size + 1, 4, none⟩ = some (.int .i64 nn) := ⟨a5, a4⟩
  go_region_held3 (fun u => u.cell? ⟨w.heap.size + 1, 5, none⟩ = some (.int .u16 o) ∧ u.cell? ⟨w.heap.size + 1, 4, none⟩ = some (.int .i64 nn))
    (first | with_reducible exact K0 | with_reducible exact K1)
    (first | (go_at_call 19; (with_reducible refine (C0.out _ hbd).mono ?_); rintro e wq ⟨rfl, rfl⟩) | (go_at_call 33; (with_reducible refine (C1.out _ hbd).mono ?_); rintro e w1 ⟨rfl, hf1, hr1⟩; have hF1 := (Fr.of_below (S := fun i => i = g) hbd).trans hf1 (fun i h => Or.inl h); have AW := A1.fr hF1 (by show ¬ w.heap.size + 1 = g; omega); obtain ⟨q0, q1, q2, q3, q4, q5, q6⟩ := act_cells AW; have K1 : w1.cell? ⟨w.heap.size + 1, 5, none⟩ = some (.int .u16 o) ∧ w1.cell? ⟨w.heap.size + 1, 4, none⟩ = some (.int .i64 nn) := ⟨q5, q4⟩; have HR1 := Lib.hid hr1))
  rename_i hHeld
  clear hHeld
  have BW := B1.fr hF1 (by show ¬ w.heap.size = g; omega)
  have ZW := Z1.fr hF1 (by show ¬ w.heap.size + 1 + 1 = g; omega)
  have b8 := BW.cell 8
  simp only [List.getElem?_toArray, List.getElem?_cons_zero, List.getElem?_cons_succ] at b8
  clear K0 K1
  go_upto_region 14 with (go_at_call 69; (with_reducible refine (C2.out _ hF1).mono ?_); rintro e w2 ⟨gr', c', rfl, hr2, hl2, hc1, hc2, hb2, hwh⟩; have BW2 := BW.belowS hb2; have ZW2 := ZW.belowS hb2; have b8' := BW2.cell 8; have f8' := BW2.frozen 8; have l1' := BW2.lt; simp only [List.getElem?_toArray, List.getElem?_cons_zero, List.getElem?_cons_succ] at b8'; have HR2 := Lib.hid hr2; clear hr2)
  have B3 := BW2.set_ 8 (.slice (some ⟨gr', 0, none⟩) n c')
  rw [set8_rcs] at B3
  have Z3 := ZW2.far (p := ⟨w.heap.size, 8, none⟩) (by simp; omega) (.slice (some ⟨gr', 0, none⟩) n c')
  have E := EN.out w1 w2 _ gr' c' _ _ hF1 HR1.out hb2 HR2.out hc1 hc2 hwh BW2 ZW2 (two_fr (b := w.heap.size) (b2 := w.heap.size + 1 + 1) (u := .slice (some ⟨gr', 0, none⟩) n c') G gr' n c' gw m d 8)
  have HE := Lib.hid E
  clear E EN C0 C1 C2 HR1 HR2 AW A1 B1 Z1 BW ZW BW2 ZW2 b8 b8' f8' q0 q1 q2 q3 q4 q5 q6 a0 a1 a2 a3 a4 a5 a6 hr1 hf1
  generalize w2.setCell ⟨w.heap.size, 8, none⟩ (.slice (some ⟨gr', 0, none⟩) n c') = w3 at *
  obtain ⟨c0, c1, c2, c3, c4, c5, c6, c7, c8, c9⟩ := box_cells B3
  obtain ⟨⟨v0, v1, v2, v3, v4, v5, v6, v7, v8, v9, e0, e1, e2, e3, e4, e5, e6, e7, e8, e9⟩, f0, f1, f2, f3, f4, f5, f6, f7, f8, f9⟩ := box_open Z3 rfl
  have l2 := Z3.lt
  go_wp2_with fail
  rw [putB_eq]
  obtain ⟨p0, p1, p2, p3, p4, p5, p6, p7, p8, p9⟩ := box_cells (putB_whole Z3 rfl G gr' n c' gw m d)
  refine bodyPost_ret (v := .tuple #[rV G gr' n c' gw m d, .bool true]) (by simp [results, Try.results40, go_sem, p0, p1, p2, p3, p4, p5, p6, p7, p8, p9]) rfl ?_
  exact HE.out
set_option maxHeartbeats 2000000 in
set_option maxRecDepth 10000 in
theorem pages_Retire {w : World} {p t g gwp gr c gw d : Nat} {M : Mm} (h : Pm w p t g gwp M) (r : Rm w gr c gw d M) (hgr : gr ≠ g) (hgw : gw ≠ gwp) (k a x pg nn o ep : Int) (h4 : k % 8 = 6) (hk : 0 ≤ k ∧ k ≤ 255) :
    Calls Try.prog 40 #[.pointer (some ⟨p, 0, none⟩), rV M.gt gr M.pg.length c gw M.ws.length d, .agg (aCs k a x pg nn o ep)] w (DoM p t g gwp gr gw (withP M (retL M.pg o ep)) w) := by
  have ok := h.ok
  have h256 := ok.p256
  have hlt := h.lt
  have hgrl := r.lt.1
  obtain ⟨hb0, hs0, B1, A1, Z1⟩ := dW_facts w M.gt gr M.pg.length c gw M.ws.length d k a x pg nn o ep
  have H0 := h.belowS hb0
  have R0 := r.belowS hb0
  have hgd : g < (dW w M.gt gr M.pg.length c gw M.ws.length d k a x pg nn o ep).heap.size := by rw [hs0]; omega
  have C0 := Lib.hid (fun u (hb : Below (dW w M.gt gr M.pg.length c gw M.ws.length d k a x pg nn o ep).heap.size (dW w M.gt gr M.pg.length c gw M.ws.length d k a x pg nn o ep) u) => pages_any (H0.belowS hb))
  have C1 := Lib.hid (fun u (hb : Below (dW w M.gt gr M.pg.length c gw M.ws.length d k a x pg nn o ep).heap.size (dW w M.gt gr M.pg.length c gw M.ws.length d k a x pg nn o ep) u) => retire_tb (H0.belowS hb).tb o ep)
  have C2 := Lib.hid (fun w1 (hf : Fr (fun i => i = g) (dW w M.gt gr M.pg.length c gw M.ws.length d k a x pg nn o ep) w1) => refRetire_any (c := c) (R0.row.fr hf hgr) h256 r.c1 r.c2 ok.fine o ep)
  have hL := retL_len M.pg o ep
  have hFn := FineL.ret ok.fine o ep
  have hwlen : (withP M (retL M.pg o ep)).ws.length = M.ws.length := rfl
  have EN : Hid (∀ (w1 w2 wz : World) (gr' c' : Nat) (cs cs' : Array Value), Fr (fun i => i = g) (dW w M.gt gr M.pg.length c gw M.ws.length d k a x pg nn o ep) w1 → Row w1 g (retL M.pg o ep) → Below w1.heap.size w1 w2 → Row w2 gr' (retL M.pg o ep) → M.pg.length ≤ c' → c' ≤ maxLen → (gr' = gr ∨ w1.heap.size ≤ gr') →
      Whole w2 w.heap.size 33 cs → Whole w2 (w.heap.size + 1 + 1) 33 cs' → Fr (fun i => i = w.heap.size ∨ i = w.heap.size + 1 + 1) w2 wz →
      DoM p t g gwp gr gw (withP M (retL M.pg o ep)) w (.returned (.tuple #[rV M.gt gr' M.pg.length c' gw M.ws.length d, .bool true])) wz) := Lib.hid fun w1 w2 wz gr' c' cs cs' q1 q2 q3 q4 q5 q6 q7 q8 q9 q10 => by
    have H1 : Pm w1 p t g gwp (withP M (retL M.pg o ep)) := H0.pages q1 hL hFn q2
    have W1 : Wr w1 gw M.ws := R0.wr.fr q1 (fun e => R0.wr.ne_row H0.tb.row e.symm)
    have hs1 := q1.size
    have D := do_end (gr := gr) (gw := gw) (gr' := gr') (c' := c') (gw' := gw) (d' := d) hlt (H1.belowS q3) ⟨q4, W1.belowS q3, by show (retL M.pg o ep).length ≤ c'; rw [hL]; exact q5, q6, r.d1, r.d2⟩ (((Fr.of_below hb0).trans q1 (fun i hi => Or.inl (Or.inr (Or.inl hi)))).then q3) q8 q9 q10 (q7.imp id (fun h => by rw [hs0] at hs1; omega)) (Or.inl rfl)
    have e1 : (withP M (retL M.pg o ep)).pg.length = M.pg.length := hL
    rw [e1] at D
    exact D
  obtain ⟨hk0, hk1⟩ := hk
  clear h r H0 R0 ok h256 hFn
  generalize retL M.pg o ep = L at *
  generalize retE M.pg o = E at *
  generalize M.pg.length = n at *
  generalize M.ws.length = m at *
  generalize withP M L = M' at *
  generalize M.gt = G at *
  unfold Rets at C2
  rw [hL] at C2
  obtain ⟨a0, a1, a2, a3, a4, a5, a6⟩ := act_cells A1
  go_enter Try.func40, Try.ntmps40
  go_wp2_with fail
  have hWW : dW w G gr n c gw m d k a x pg nn o ep = ((w.alloc (.cells (rCs G gr n c gw m d) 33)).alloc (.cells (aCs k a x pg nn o ep) 41)).alloc (.cells zCs 33) := rfl
  rw [← hWW]
  clear hWW
  generalize dW w G gr n c gw m d k a x pg nn o ep = W at *
  have hbd : Below W.heap.size W W.drew := (Below.refl _ _).drew
  have K0 : W.drew.cell? ⟨w.heap.size + 1, 5, none⟩ = some (.int .u16 o) ∧ W.drew.cell? ⟨w.heap.size + 1, 6, none⟩ = some (.int .u64 ep) := ⟨a5, a6⟩
  go_region_held3 (fun u => u.cell? ⟨w.heap.size + 1, 5, none⟩ = some (.int .u16 o) ∧ u.cell? ⟨w.heap.size + 1, 6, none⟩ = some (.int .u64 ep))
    (first | with_reducible exact K0 | with_reducible exact K1)
    (first | (go_at_call 19; (with_reducible refine (C0.out _ hbd).mono ?_); rintro e wq ⟨rfl, rfl⟩) | (go_at_call 34; (with_reducible refine (C1.out _ hbd).mono ?_); rintro e w1 ⟨rfl, hf1, hr1⟩; have hF1 := (Fr.of_below (S := fun i => i = g) hbd).trans hf1 (fun i h => Or.inl h); have AW := A1.fr hF1 (by show ¬ w.heap.size + 1 = g; omega); obtain ⟨q0, q1, q2, q3, q4, q5, q6⟩ := act_cells AW; have K1 : w1.cell? ⟨w.heap.size + 1, 5, none⟩ = some (.int .u16 o) ∧ w1.cell? ⟨w.heap.size + 1, 6, none⟩ = some (.int .u64 ep) := ⟨q5, q6⟩; have HR1 := Lib.hid hr1))
  rename_i hHeld
  clear hHeld
  have BW := B1.fr hF1 (by show ¬ w.heap.size = g; omega)
  have ZW := Z1.fr hF1 (by show ¬ w.heap.size + 1 + 1 = g; omega)
  have b8 := BW.cell 8
  simp only [List.getElem?_toArray, List.getElem?_cons_zero, List.getElem?_cons_succ] at b8
  clear K0 K1
  go_upto_region 14 with (go_at_call 70; (with_reducible refine (C2.out _ hF1).mono ?_); rintro e w2 ⟨gr', c', rfl, hr2, hl2, hc1, hc2, hb2, hwh⟩; have BW2 := BW.belowS hb2; have ZW2 := ZW.belowS hb2; have b8' := BW2.cell 8; have f8' := BW2.frozen 8; have l1' := BW2.lt; simp only [List.getElem?_toArray, List.getElem?_cons_zero, List.getElem?_cons_succ] at b8'; have HR2 := Lib.hid hr2; clear hr2)
  have B3 := BW2.set_ 8 (.slice (some ⟨gr', 0, none⟩) n c')
  rw [set8_rcs] at B3
  have Z3 := ZW2.far (p := ⟨w.heap.size, 8, none⟩) (by simp; omega) (.slice (some ⟨gr', 0, none⟩) n c')
  have E := EN.out w1 w2 _ gr' c' _ _ hF1 HR1.out hb2 HR2.out hc1 hc2 hwh BW2 ZW2 (two_fr (b := w.heap.size) (b2 := w.heap.size + 1 + 1) (u := .slice (some ⟨gr', 0, none⟩) n c') G gr' n c' gw m d 8)
  have HE := Lib.hid E
  clear E EN C0 C1 C2 HR1 HR2 AW A1 B1 Z1 BW ZW BW2 ZW2 b8 b8' f8' q0 q1 q2 q3 q4 q5 q6 a0 a1 a2 a3 a4 a5 a6 hr1 hf1
  generalize w2.setCell ⟨w.heap.size, 8, none⟩ (.slice (some ⟨gr', 0, none⟩) n c') = w3 at *
  obtain ⟨c0, c1, c2, c3, c4, c5, c6, c7, c8, c9⟩ := box_cells B3
  obtain ⟨⟨v0, v1, v2, v3, v4, v5, v6, v7, v8, v9, e0, e1, e2, e3, e4, e5, e6, e7, e8, e9⟩, f0, f1, f2, f3, f4, f5, f6, f7, f8, f9⟩ := box_open Z3 rfl
  have l2 := Z3.lt
  go_wp2_with fail
  rw [putB_eq]
  obtain ⟨p0, p1, p2, p3, p4, p5, p6, p7, p8, p9⟩ := box_cells (putB_whole Z3 rfl G gr' n c' gw m d)
  refine bodyPost_ret (v := .tuple #[rV G gr' n c' gw m d, .bool true]) (by simp [results, Try.results40, go_sem, p0, p1, p2, p3, p4, p5, p6, p7, p8, p9]) rfl ?_
  exact HE.out
set_option maxHeartbeats 2000000 in
set_option maxRecDepth 10000 in
theorem pages_Release {w : World} {p t g gwp gr c gw d : Nat} {M : Mm} (h : Pm w p t g gwp M) (r : Rm w gr c gw d M) (hgr : gr ≠ g) (hgw : gw ≠ gwp) (k a x pg nn o ep : Int) (h4 : k % 8 = 7) (hk : 0 ≤ k ∧ k ≤ 255) :
    Calls Try.prog 40 #[.pointer (some ⟨p, 0, none⟩), rV M.gt gr M.pg.length c gw M.ws.length d, .agg (aCs k a x pg nn o ep)] w (DoM p t g gwp gr gw (withP M (relL M.pg o)) w) := by
  have ok := h.ok
  have h256 := ok.p256
  have hlt := h.lt
  have hgrl := r.lt.1
  obtain ⟨hb0, hs0, B1, A1, Z1⟩ := dW_facts w M.gt gr M.pg.length c gw M.ws.length d k a x pg nn o ep
  have H0 := h.belowS hb0
  have R0 := r.belowS hb0
  have hgd : g < (dW w M.gt gr M.pg.length c gw M.ws.length d k a x pg nn o ep).heap.size := by rw [hs0]; omega
  have C0 := Lib.hid (fun u (hb : Below (dW w M.gt gr M.pg.length c gw M.ws.length d k a x pg nn o ep).heap.size (dW w M.gt gr M.pg.length c gw M.ws.length d k a x pg nn o ep) u) => pages_any (H0.belowS hb))
  have C1 := Lib.hid (fun u (hb : Below (dW w M.gt gr M.pg.length c gw M.ws.length d k a x pg nn o ep).heap.size (dW w M.gt gr M.pg.length c gw M.ws.length d k a x pg nn o ep) u) => release_tb (H0.belowS hb).tb o)
  have C2 := Lib.hid (fun w1 (hf : Fr (fun i => i = g) (dW w M.gt gr M.pg.length c gw M.ws.length d k a x pg nn o ep) w1) => refRelease_any (c := c) (R0.row.fr hf hgr) h256 r.c1 r.c2 ok.fine o)
  have hL := relL_len M.pg o
  have hFn := FineL.rel ok.fine o
  have hwlen : (withP M (relL M.pg o)).ws.length = M.ws.length := rfl
  have EN : Hid (∀ (w1 w2 wz : World) (gr' c' : Nat) (cs cs' : Array Value), Fr (fun i => i = g) (dW w M.gt gr M.pg.length c gw M.ws.length d k a x pg nn o ep) w1 → Row w1 g (relL M.pg o) → Below w1.heap.size w1 w2 → Row w2 gr' (relL M.pg o) → M.pg.length ≤ c' → c' ≤ maxLen → (gr' = gr ∨ w1.heap.size ≤ gr') →
      Whole w2 w.heap.size 33 cs → Whole w2 (w.heap.size + 1 + 1) 33 cs' → Fr (fun i => i = w.heap.size ∨ i = w.heap.size + 1 + 1) w2 wz →
      DoM p t g gwp gr gw (withP M (relL M.pg o)) w (.returned (.tuple #[rV M.gt gr' M.pg.length c' gw M.ws.length d, .bool true])) wz) := Lib.hid fun w1 w2 wz gr' c' cs cs' q1 q2 q3 q4 q5 q6 q7 q8 q9 q10 => by
    have H1 : Pm w1 p t g gwp (withP M (relL M.pg o)) := H0.pages q1 hL hFn q2
    have W1 : Wr w1 gw M.ws := R0.wr.fr q1 (fun e => R0.wr.ne_row H0.tb.row e.symm)
    have hs1 := q1.size
    have D := do_end (gr := gr) (gw := gw) (gr' := gr') (c' := c') (gw' := gw) (d' := d) hlt (H1.belowS q3) ⟨q4, W1.belowS q3, by show (relL M.pg o).length ≤ c'; rw [hL]; exact q5, q6, r.d1, r.d2⟩ (((Fr.of_below hb0).trans q1 (fun i hi => Or.inl (Or.inr (Or.inl hi)))).then q3) q8 q9 q10 (q7.imp id (fun h => by rw [hs0] at hs1; omega)) (Or.inl rfl)
    have e1 : (withP M (relL M.pg o)).pg.length = M.pg.length := hL
    rw [e1] at D
    exact D
  obtain ⟨hk0, hk1⟩ := hk
  clear h r H0 R0 ok h256 hFn
  generalize relL M.pg o = L at *
  generalize relE M.pg o = E at *
  generalize M.pg.length = n at *
  generalize M.ws.length = m at *
  generalize withP M L = M' at *
  generalize M.gt = G at *
  unfold Rets at C2
  rw [hL] at C2
  obtain ⟨a0, a1, a2, a3, a4, a5, a6⟩ := act_cells A1
  go_enter Try.func40, Try.ntmps40
  go_wp2_with fail
  have hWW : dW w G gr n c gw m d k a x pg nn o ep = ((w.alloc (.cells (rCs G gr n c gw m d) 33)).alloc (.cells (aCs k a x pg nn o ep) 41)).alloc (.cells zCs 33) := rfl
  rw [← hWW]
  clear hWW
  generalize dW w G gr n c gw m d k a x pg nn o ep = W at *
  have hbd : Below W.heap.size W W.drew := (Below.refl _ _).drew
  have K0 : W.drew.cell? ⟨w.heap.size + 1, 5, none⟩ = some (.int .u16 o) := a5
  go_region_held3 (fun u => u.cell? ⟨w.heap.size + 1, 5, none⟩ = some (.int .u16 o))
    (first | with_reducible exact K0 | with_reducible exact K1)
    (first | (go_at_call 19; (with_reducible refine (C0.out _ hbd).mono ?_); rintro e wq ⟨rfl, rfl⟩) | (go_at_call 71; (with_reducible refine (C1.out _ hbd).mono ?_); rintro e w1 ⟨rfl, hf1, hr1⟩; have hF1 := (Fr.of_below (S := fun i => i = g) hbd).trans hf1 (fun i h => Or.inl h); have AW := A1.fr hF1 (by show ¬ w.heap.size + 1 = g; omega); obtain ⟨q0, q1, q2, q3, q4, q5, q6⟩ := act_cells AW; have K1 : w1.cell? ⟨w.heap.size + 1, 5, none⟩ = some (.int .u16 o) := q5; have HR1 := Lib.hid hr1))
  rename_i hHeld
  clear hHeld
  have BW := B1.fr hF1 (by show ¬ w.heap.size = g; omega)
  have ZW := Z1.fr hF1 (by show ¬ w.heap.size + 1 + 1 = g; omega)
  have b8 := BW.cell 8
  simp only [List.getElem?_toArray, List.getElem?_cons_zero, List.getElem?_cons_succ] at b8
  clear K0 K1
  go_upto_region 14 with (go_at_call 72; (with_reducible refine (C2.out _ hF1).mono ?_); rintro e w2 ⟨gr', c', rfl, hr2, hl2, hc1, hc2, hb2, hwh⟩; have BW2 := BW.belowS hb2; have ZW2 := ZW.belowS hb2; have b8' := BW2.cell 8; have f8' := BW2.frozen 8; have l1' := BW2.lt; simp only [List.getElem?_toArray, List.getElem?_cons_zero, List.getElem?_cons_succ] at b8'; have HR2 := Lib.hid hr2; clear hr2)
  have B3 := BW2.set_ 8 (.slice (some ⟨gr', 0, none⟩) n c')
  rw [set8_rcs] at B3
  have Z3 := ZW2.far (p := ⟨w.heap.size, 8, none⟩) (by simp; omega) (.slice (some ⟨gr', 0, none⟩) n c')
  have E := EN.out w1 w2 _ gr' c' _ _ hF1 HR1.out hb2 HR2.out hc1 hc2 hwh BW2 ZW2 (two_fr (b := w.heap.size) (b2 := w.heap.size + 1 + 1) (u := .slice (some ⟨gr', 0, none⟩) n c') G gr' n c' gw m d 8)
  have HE := Lib.hid E
  clear E EN C0 C1 C2 HR1 HR2 AW A1 B1 Z1 BW ZW BW2 ZW2 b8 b8' f8' q0 q1 q2 q3 q4 q5 q6 a0 a1 a2 a3 a4 a5 a6 hr1 hf1
  generalize w2.setCell ⟨w.heap.size, 8, none⟩ (.slice (some ⟨gr', 0, none⟩) n c') = w3 at *
  obtain ⟨c0, c1, c2, c3, c4, c5, c6, c7, c8, c9⟩ := box_cells B3
  obtain ⟨⟨v0, v1, v2, v3, v4, v5, v6, v7, v8, v9, e0, e1, e2, e3, e4, e5, e6, e7, e8, e9⟩, f0, f1, f2, f3, f4, f5, f6, f7, f8, f9⟩ := box_open Z3 rfl
  have l2 := Z3.lt
  go_wp2_with fail
  rw [putB_eq]
  obtain ⟨p0, p1, p2, p3, p4, p5, p6, p7, p8, p9⟩ := box_cells (putB_whole Z3 rfl G gr' n c' gw m d)
  refine bodyPost_ret (v := .tuple #[rV G gr' n c' gw m d, .bool true]) (by simp [results, Try.results40, go_sem, p0, p1, p2, p3, p4, p5, p6, p7, p8, p9]) rfl ?_
  exact HE.out
end Go.Proofs.Ytkmjacpcpchjoaa.MF
