/-
  What turns the reference's memory: words put and stored, gates. Nothing here is a statement of the seed.
-/
import Derived.Test.YtkmjacpcpchjoaaMemWith
set_option linter.unusedSimpArgs false
set_option linter.unusedVariables false
namespace Go.Proofs.Ytkmjacpcpchjoaa.MF
open Go.RowKit PM PR PF MM MR

/-- the reference's memory and an answer -/
def RTurn (M M' : Mm) (x : Value) (gr c gw : Nat) (w : World) (e : Ending) (w' : World) : Prop := ∃ gw' d', e = .returned (.tuple #[rV M'.gt gr M.pg.length c gw' M.ws.length d', x]) ∧ Wr w' gw' M'.ws ∧ (gw' = gw ∨ w.heap.size ≤ gw') ∧ M.ws.length ≤ d' ∧ d' ≤ maxLen ∧ Below w.heap.size w w'
abbrev tW (w : World) (G : Nat → Int) (gr n c gw m d : Nat) : World := (w.alloc (.cells (rCs G gr n c gw m d) 33)).alloc (.cells zCs 33)
theorem tW_facts (w : World) (G : Nat → Int) (gr n c gw m d : Nat) : Below w.heap.size w (tW w G gr n c gw m d) ∧ (tW w G gr n c gw m d).heap.size = w.heap.size + 1 + 1 ∧ Whole (tW w G gr n c gw m d) w.heap.size 33 (rCs G gr n c gw m d) ∧ Whole (tW w G gr n c gw m d) (w.heap.size + 1) 33 zCs := by
  refine ⟨(below_new w _).alloc (by simp) _, by simp, (Whole.new w _ _).alloc _, ?_⟩
  have := Whole.new (w.alloc (.cells (rCs G gr n c gw m d) 33)) 33 zCs
  simpa using this
/-- the result laid -/
theorem turn_end {w u : World} {M M' : Mm} {x : Value} {gr n c gw gw' m d' : Nat} {cs : Array Value} (hn : M.pg.length = n) (hm : M.ws.length = m) (hb : Below w.heap.size w u) (h : Whole u (w.heap.size + 1) 33 cs) (hw : Wr u gw' M'.ws) (h1 : gw' = gw ∨ w.heap.size ≤ gw') (h2 : m ≤ d') (h3 : d' ≤ maxLen) :
    RTurn M M' x gr c gw w (.returned (.tuple #[rV M'.gt gr n c gw' m d', x])) (putB u (w.heap.size + 1) M'.gt gr n c gw' m d') := by
  subst hn hm
  exact ⟨gw', d', rfl, hw.fr (putB_fr _ _ _ _ _ _ _ _ _) (fun e => hw.ne_ h (by decide) e.symm), h1, h2, h3, putB_below hb (by omega) hb.size _ _ _ _ _ _ _⟩
set_option maxHeartbeats 2000000 in
set_option maxRecDepth 10000 in
theorem refPut_any {w : World} {gr c gw d : Nat} {M : Mm} (h : Rm w gr c gw d M) (ok : MOk M) (a x : Int) (ha : 0 ≤ a ∧ a ≤ 4294967295) :
    Calls Try.prog 38 #[rV M.gt gr M.pg.length c gw M.ws.length d, .int .u32 a, .int .u32 x] w (RTurn M (putM M a x) (.int .i64 (putE M a)) gr c gw w) := by
  have h16 := ok.w16
  have h256 := ok.p256
  have hm : M.ws.length ≤ 4096 := by omega
  obtain ⟨hb0, hs0, B1, B2⟩ := tW_facts w M.gt gr M.pg.length c gw M.ws.length d
  have CT := Lib.hid (refThere_any M.gt gr M.pg.length c gw M.ws.length d hm a ha)
  rw [show decide (80 ≤ a ∧ a < 80 + (M.ws.length : Int)) = thereB M a from rfl] at CT
  have HWR := Lib.hid h.wr
  have hd1 := h.d1
  have hd2 := h.d2
  have EN := Lib.hid (fun (u : World) (M' : Mm) (x : Value) (gw' d' : Nat) (cs : Array Value) => turn_end (w := w) (u := u) (M := M) (M' := M') (x := x) (gr := gr) (c := c) (gw := gw) (gw' := gw') (d' := d') (cs := cs) rfl rfl)
  unfold putM putE
  cases ht : thereB M a
  · simp only [Bool.false_eq_true, if_false]
    rw [if_neg (by omega)]
    rw [ht] at CT
    clear h ok h16 h256 ht
    have EN2 := Lib.hid (fun u => EN.out u M (.int .i64 11) gw d)
    clear EN
    generalize M.pg.length = n at *
    generalize M.ws.length = m at *
    generalize hG : M.gt = G at *
    go_enter Try.func38, Try.ntmps38
    go_wp2_with (go_at_call 56; (with_reducible refine (CT.out.at _).mono ?_); rintro e w1 ⟨rfl, hb⟩; obtain ⟨c0, c1, c2, c3, c4, c5, c6, c7, c8, c9⟩ := box_cells (B1.belowS hb); obtain ⟨⟨v0, v1, v2, v3, v4, v5, v6, v7, v8, v9, e0, e1, e2, e3, e4, e5, e6, e7, e8, e9⟩, f0, f1, f2, f3, f4, f5, f6, f7, f8, f9⟩ := box_open (B2.belowS hb) rfl; have l2 := (B2.belowS hb).lt)
    rw [putB_eq]
    have B3 := B2.belowS hb
    obtain ⟨p0, p1, p2, p3, p4, p5, p6, p7, p8, p9⟩ := box_cells (putB_whole B3 rfl G gr n c gw m d)
    refine bodyPost_ret (v := .tuple #[rV G gr n c gw m d, .int .i64 11]) (by simp [results, Try.results38, go_sem, p0, p1, p2, p3, p4, p5, p6, p7, p8, p9]) rfl ?_
    subst hG
    exact EN2.out _ _ (below_of hb0 hb) B3 ((HWR.out.belowS hb0).belowS hb) (by simp) hd1 hd2
  · simp only [if_true]
    rw [ht] at CT
    have CO := Lib.hid (fun w => refPageOf_any a ha w)
    have CG := Lib.hid (fun u (hb : Below w.heap.size w u) => refGet_any (c := c) (h.belowS hb).row h256 (pageOf a))
    rw [show gP M.pg (pageOf a) = pageAt M a from rfl] at CG
    have CW := Lib.hid (fun u (hb : Below w.heap.size w u) => with_any (h.belowS hb) ok a x ht ha.2)
    have hgt : (setW M a x).gt = M.gt := rfl
    unfold RWith at CW
    have EN2 := Lib.hid (fun u => EN.out u M (.int .i64 9) gw d)
    have EN3 := Lib.hid (fun u => EN.out u (setW M a x) (.int .i64 0))
    clear EN h ok h16 h256 ht
    generalize setW M a x = M' at *
    generalize pageOf a = i at *
    generalize pageAt M a = q at *
    obtain ⟨st, ex, wr, ow, epp⟩ := q
    change Hid (∀ u, Below w.heap.size w u → Calls _ _ _ u fun e w' => e = .returned (pgV st ex wr ow epp) ∧ _) at CG
    show Calls _ _ _ _ (RTurn M (if (if st = 1 then (0 : Int) else 9) = 0 then M' else M) (.int .i64 (if st = 1 then 0 else 9)) gr c gw w)
    generalize M.pg.length = n at *
    generalize M.ws.length = m at *
    rw [hgt] at CW EN3
    generalize hG : M.gt = G at *
    have b8 := B1.cell 8
    simp only [List.getElem?_toArray, List.getElem?_cons_zero, List.getElem?_cons_succ] at b8
    have hfd : ∀ u : World, (Instr.field 69 (pgV st ex wr ow epp) 0).run Try.prog u = .ok (.int .u8 st) u := fun _ => by kernel_rfl
    by_cases hs : st = 1
    · subst hs
      rw [if_pos rfl, if_pos rfl]
      go_enter Try.func38, Try.ntmps38
      go_wp2_with (go_at_call 56; (with_reducible refine (CT.out.at _).mono ?_); rintro e w1 ⟨rfl, hb⟩; obtain ⟨c0, c1, c2, c3, c4, c5, c6, c7, c8, c9⟩ := box_cells (B1.belowS hb))
      have b1 := (hb.cell (p := ⟨w.heap.size, 8, none⟩) (by simp; omega)).trans b8
      have b1d : w1.drew.cell? ⟨w.heap.size, 8, none⟩ = some (.slice (some ⟨gr, 0, none⟩) n c) := b1
      have hb1 := below_of hb0 hb
      have hbd := hb1.drew
      go_region_held3 (fun u => u.cell? ⟨w.heap.size, 8, none⟩ = some (.slice (some ⟨gr, 0, none⟩) n c))
        (first | with_reducible exact b1d | with_reducible exact b2)
        (first | (go_at_call 16; (with_reducible refine (CO.out _).mono ?_); rintro e w5 ⟨rfl, rfl⟩) | (go_at_call 58; (with_reducible refine (CG.out _ hbd).mono ?_); rintro e w2 ⟨rfl, hb2⟩; have hb12 := below_of hb (below_drew_next hb2); have b2 := (hb12.cell (p := ⟨w.heap.size, 8, none⟩) (by simp; omega)).trans b8))
      rename_i hHeld
      clear hHeld
      have B13 := B1.belowS hb12
      have B23 := B2.belowS hb12
      have hC2 := below_of hb0 hb12
      have HW2 := Lib.hid ((HWR.out.belowS hb0).belowS hb12)
      clear c0 c1 c2 c3 c4 c5 c6 c7 c8 c9 b1 b1d b2 hb hb1 hbd hb2 hb12 B1 B2 b8 hb0 hs0
      obtain ⟨c0, c1, c2, c3, c4, c5, c6, c7, c8, c9⟩ := box_cells B13
      go_wp2_with (go_at_call 59; (with_reducible refine (CW.out _ hC2).mono ?_); rintro e w3 ⟨g', d', rfl, hw3, hg3, hd3, hd4, hb3⟩; obtain ⟨⟨v0, v1, v2, v3, v4, v5, v6, v7, v8, v9, e0, e1, e2, e3, e4, e5, e6, e7, e8, e9⟩, f0, f1, f2, f3, f4, f5, f6, f7, f8, f9⟩ := box_open (B23.belowS hb3) rfl; have l2 := (B23.belowS hb3).lt; have HW3 := Lib.hid hw3; clear hw3)
      rw [putB_eq]
      have B33 := B23.belowS hb3
      obtain ⟨p0, p1, p2, p3, p4, p5, p6, p7, p8, p9⟩ := box_cells (putB_whole B33 rfl G gr n c g' m d')
      refine bodyPost_ret (v := .tuple #[rV G gr n c g' m d', .int .i64 0]) (by simp [results, Try.results38, go_sem, p0, p1, p2, p3, p4, p5, p6, p7, p8, p9]) rfl ?_
      exact EN3.out _ _ _ _ (below_of hC2 hb3) B33 HW3.out (Or.inr (Nat.le_trans hC2.size hg3)) hd3 hd4
    · rw [if_neg hs, if_neg (by omega)]
      have hs' : (st != 1) = true := by simpa using hs
      clear hs
      go_enter Try.func38, Try.ntmps38
      go_wp2_with (go_at_call 56; (with_reducible refine (CT.out.at _).mono ?_); rintro e w1 ⟨rfl, hb⟩; obtain ⟨c0, c1, c2, c3, c4, c5, c6, c7, c8, c9⟩ := box_cells (B1.belowS hb))
      have b1 := (hb.cell (p := ⟨w.heap.size, 8, none⟩) (by simp; omega)).trans b8
      have b1d : w1.drew.cell? ⟨w.heap.size, 8, none⟩ = some (.slice (some ⟨gr, 0, none⟩) n c) := b1
      have hb1 := below_of hb0 hb
      have hbd := hb1.drew
      go_region_held3 (fun u => u.cell? ⟨w.heap.size, 8, none⟩ = some (.slice (some ⟨gr, 0, none⟩) n c))
        (first | with_reducible exact b1d | with_reducible exact b2)
        (first | (go_at_call 16; (with_reducible refine (CO.out _).mono ?_); rintro e w5 ⟨rfl, rfl⟩) | (go_at_call 58; (with_reducible refine (CG.out _ hbd).mono ?_); rintro e w2 ⟨rfl, hb2⟩; have hb12 := below_of hb (below_drew_next hb2); have b2 := (hb12.cell (p := ⟨w.heap.size, 8, none⟩) (by simp; omega)).trans b8))
      rename_i hHeld
      clear hHeld
      have B13 := B1.belowS hb12
      have B23 := B2.belowS hb12
      have hC2 := below_of hb0 hb12
      have HW2 := Lib.hid ((HWR.out.belowS hb0).belowS hb12)
      clear c0 c1 c2 c3 c4 c5 c6 c7 c8 c9 b1 b1d b2 hb hb1 hbd hb2 hb12 B1 B2 b8 hb0 hs0
      obtain ⟨c0, c1, c2, c3, c4, c5, c6, c7, c8, c9⟩ := box_cells B13
      obtain ⟨⟨v0, v1, v2, v3, v4, v5, v6, v7, v8, v9, e0, e1, e2, e3, e4, e5, e6, e7, e8, e9⟩, f0, f1, f2, f3, f4, f5, f6, f7, f8, f9⟩ := box_open B23 rfl
      have l2 := B23.lt
      go_wp2_with fail
      rw [putB_eq]
      obtain ⟨p0, p1, p2, p3, p4, p5, p6, p7, p8, p9⟩ := box_cells (putB_whole B23 rfl G gr n c gw m d)
      refine bodyPost_ret (v := .tuple #[rV G gr n c gw m d, .int .i64 9]) (by simp [results, Try.results38, go_sem, p0, p1, p2, p3, p4, p5, p6, p7, p8, p9]) rfl ?_
      subst hG
      exact EN2.out _ _ hC2 B23 HW2.out (by simp) hd1 hd2
set_option maxHeartbeats 2000000 in
set_option maxRecDepth 10000 in
theorem refSetGate_any {w : World} {gr c gw d : Nat} {M : Mm} (h : Rm w gr c gw d M) (i b : Int) :
    Calls Try.prog 39 #[rV M.gt gr M.pg.length c gw M.ws.length d, .int .i64 i, .int .u32 b] w (RTurn M (setM M i b) (.int .i64 (setE i)) gr c gw w) := by
  have HWR := Lib.hid h.wr
  have hd1 := h.d1
  have hd2 := h.d2
  clear h
  by_cases hi : 0 ≤ i ∧ i < 8
  · have e : setE i = 0 := by unfold setE; rw [if_neg (by omega)]
    rw [show setM M i b = ⟨setG M.gt i.toNat b, M.pg, M.ws⟩ by unfold setM; rw [e, if_pos rfl], e]
    unfold RTurn
    simp only
    generalize M.pg.length = n at *
    generalize M.ws.length = m at *
    generalize M.gt = G at *
    rcases (show i = 0 ∨ i = 1 ∨ i = 2 ∨ i = 3 ∨ i = 4 ∨ i = 5 ∨ i = 6 ∨ i = 7 by omega) with rfl | rfl | rfl | rfl | rfl | rfl | rfl | rfl <;> clear hi e
    all_goals
      go_enter Try.func39, Try.ntmps39
      go_wp2_with fail
      refine bodyPost_ret (v := .tuple #[rV (setG G _ b) gr n c gw m d, .int .i64 0]) (by simp [results, Try.results39, go_sem, setG]) rfl ⟨gw, d, rfl, (HWR.out.alloc _).alloc _, Or.inl rfl, hd1, hd2, (below_new _ _).alloc (by simp) _⟩
  · have e : setE i = 2 := by unfold setE; rw [if_pos (by omega)]
    rw [show setM M i b = M by unfold setM; rw [e, if_neg (by omega)], e]
    unfold RTurn
    generalize M.pg.length = n at *
    generalize M.ws.length = m at *
    generalize M.gt = G at *
    have h7 : i < 0 ∨ 7 < i := by omega
    clear hi e
    rcases h7 with h7 | h7
    all_goals
      go_enter Try.func39, Try.ntmps39
      go_wp2_with fail
      refine bodyPost_ret (v := .tuple #[rV G gr n c gw m d, .int .i64 2]) (by simp [results, Try.results39, go_sem]) rfl ⟨gw, d, rfl, (HWR.out.alloc _).alloc _, Or.inl rfl, hd1, hd2, (below_new _ _).alloc (by simp) _⟩
end Go.Proofs.Ytkmjacpcpchjoaa.MF
