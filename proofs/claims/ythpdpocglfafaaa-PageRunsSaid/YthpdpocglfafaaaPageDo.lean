/-
  One call of both. Nothing here is a statement of the seed.
-/
import Derived.Test.YthpdpocglfafaaaPageSame
set_option linter.unusedSimpArgs false
set_option linter.unusedVariables false
namespace Go.Proofs.Ythpdpocglfafaaa.PF
open Go.RowKit PM PR

abbrev acV (x : Ac) : Value := .agg #[.int .u8 x.kind, .int .i64 x.a, .int .i64 x.n, .int .u16 x.o, .int .u64 x.e]
/-- both have done the call: the table in its block, the reference's where it lay or in memory of its own -/
def DoR (p g gr : Nat) (l' : List Pg) (w : World) (e : Ending) (w' : World) : Prop := ∃ gr' c, e = .returned (.tuple #[.agg #[.slice (some ⟨gr', 0, none⟩) l'.length c], .bool true]) ∧ Tb w' p g l' ∧ Row w' gr' l' ∧ l'.length ≤ c ∧ c ≤ maxLen ∧ Fr (fun i => i = g) w w' ∧ (gr' = gr ∨ w.heap.size ≤ gr')
abbrev doW (w : World) (gr n c : Nat) (k a m o e : Int) : World := ((w.alloc (.cells #[.slice (some ⟨gr, 0, none⟩) n c] 28)).alloc (.cells #[.int .u8 k, .int .i64 a, .int .i64 m, .int .u16 o, .int .u64 e] 36)).alloc (.cells #[.slice none 0 0] 28)
theorem do_cells {w w1 : World} {g gr n c : Nat} {k a m o e : Int} (hg : g < w.heap.size) (hf : Fr (fun i => i = g) (doW w gr n c k a m o e) w1) :
    Whole w1 w.heap.size 28 #[.slice (some ⟨gr, 0, none⟩) n c] ∧ Whole w1 (w.heap.size + 1) 36 #[.int .u8 k, .int .i64 a, .int .i64 m, .int .u16 o, .int .u64 e] ∧ Whole w1 (w.heap.size + 1 + 1) 28 #[.slice none 0 0] := by
  have h1 := (((Whole.new w 28 #[.slice (some ⟨gr, 0, none⟩) n c]).alloc (.cells #[.int .u8 k, .int .i64 a, .int .i64 m, .int .u16 o, .int .u64 e] 36)).alloc (.cells #[.slice none 0 0] 28))
  have h2 := ((Whole.new (w.alloc (.cells #[.slice (some ⟨gr, 0, none⟩) n c] 28)) 36 #[.int .u8 k, .int .i64 a, .int .i64 m, .int .u16 o, .int .u64 e]).alloc (.cells #[.slice none 0 0] 28))
  have h3 := (Whole.new ((w.alloc (.cells #[.slice (some ⟨gr, 0, none⟩) n c] 28)).alloc (.cells #[.int .u8 k, .int .i64 a, .int .i64 m, .int .u16 o, .int .u64 e] 36)) 28 #[.slice none 0 0])
  simp only [World.size_alloc] at h2 h3
  exact ⟨h1.fr hf (by show ¬ w.heap.size = g; omega), h2.fr hf (by show ¬ w.heap.size + 1 = g; omega), h3.fr hf (by show ¬ w.heap.size + 1 + 1 = g; omega)⟩
theorem do_end {w w1 w2 : World} {p g gr gr' c c' n : Nat} {l l' : List Pg} {k a m o e : Int} (u v : Value) (hT : Tb w p g l) (hgr : gr ≠ g) (hgrl : gr < w.heap.size) (hl : l'.length = l.length) (hf : Fr (fun i => i = g) (doW w gr n c k a m o e) w1) (hr : Row w1 g l') (hr2 : Row w2 gr' l') (h1 : l'.length ≤ c') (h2 : c' ≤ maxLen) (hb : Below w1.heap.size w1 w2) (h3 : gr' = gr ∨ w1.heap.size ≤ gr') :
    DoR p g gr l' w (.returned (.tuple #[.agg #[.slice (some ⟨gr', 0, none⟩) l'.length c'], .bool true])) ((w2.setCell ⟨w.heap.size, 0, none⟩ u).setCell ⟨w.heap.size + 1 + 1, 0, none⟩ v) := by
  have hW : Below w.heap.size w (doW w gr n c k a m o e) := (two_new _ _ _).alloc (by simp; omega) _
  have hF : Fr (fun i => i = g) w w2 := (((Fr.of_below hW).trans hf (fun i h => Or.inl h))).then hb
  have hs := hf.size
  have hs2 := hb.size
  simp at hs
  have hlt := hT.lt
  have hg : g < w.heap.size := hlt.1
  have hgr2 : gr' < w.heap.size ∨ w1.heap.size ≤ gr' := h3.elim (fun h => Or.inl (by omega)) Or.inr
  have hF2 := (hF.set (p := ⟨w.heap.size, 0, none⟩) (Or.inr (Nat.le_refl _)) u).set (p := ⟨w.heap.size + 1 + 1, 0, none⟩) (Or.inr (by simp; omega)) v
  have hT2 : Tb w2 p g l' := hT.turn hF (fun e => hlt.2.2 e) hl (hr.belowS hb)
  obtain ⟨t1, t2, t3, t4, t5, t6⟩ := hT2
  refine ⟨gr', c', rfl, ⟨t1, (t2.far (by show g ≠ w.heap.size; omega) _).far (by show g ≠ w.heap.size + 1 + 1; omega) _, t3, t4, t5, (t6.far (by show p ≠ w.heap.size; omega) _).far (by show p ≠ w.heap.size + 1 + 1; omega) _⟩, (hr2.far (by show gr' ≠ w.heap.size; omega) _).far (by show gr' ≠ w.heap.size + 1 + 1; omega) _, h1, h2, hF2, h3.imp id (fun h => by omega)⟩
theorem refStage_any {g c : Nat} {l : List Pg} {w : World} (hr : Row w g l) (h256 : l.length ≤ 256) (hlc : l.length ≤ c) (hcm : c ≤ maxLen) (hf : FineL l) (a n o : Int) : Calls Try.prog 30 #[.agg #[.slice (some ⟨g, 0, none⟩) l.length c], .int .i64 a, .int .i64 n, .int .u16 o] w (Rets g (stageE l a n o) (stageL l a n o) w) := by
  by_cases h1 : o = 0 ∨ n < 1
  · have e : stageE l a n o = 2 := by unfold stageE; rw [if_pos h1]
    rw [show stageL l a n o = l by unfold stageL; rw [e]; rfl, e]
    exact refStage_arg hr h256 hlc hcm a n o h1
  · by_cases h2 : a < 0 ∨ (l.length : Int) - n < a
    · have e : stageE l a n o = 11 := by unfold stageE; rw [if_neg h1, if_pos h2]
      rw [show stageL l a n o = l by unfold stageL; rw [e]; rfl, e]
      exact refStage_range hr h256 hlc hcm a n o (by omega) (by omega) h2
    · obtain ⟨A, rfl⟩ := Int.eq_ofNat_of_zero_le (show 0 ≤ a by omega)
      obtain ⟨N, rfl⟩ := Int.eq_ofNat_of_zero_le (show 0 ≤ n by omega)
      exact refStage_there hr h256 hlc hcm hf A N o (by omega) (by omega) (by omega)
set_option maxHeartbeats 4000000 in
theorem do_any {p g gr c : Nat} {l : List Pg} {w : World} (h : Tb w p g l) (hr : Row w gr l) (hgr : gr ≠ g) (hlc : l.length ≤ c) (hcm : c ≤ maxLen) (hf : FineL l) (k a m o ee : Int) (hk : 0 ≤ k ∧ k ≤ 255) (hm : m ≤ 9223372036854775807) :
    Calls Try.prog 13 #[.pointer (some ⟨p, 0, none⟩), .agg #[.slice (some ⟨gr, 0, none⟩) l.length c], .agg #[.int .u8 k, .int .i64 a, .int .i64 m, .int .u16 o, .int .u64 ee]] w (DoR p g gr (actL l ⟨k, a, m, o, ee⟩) w) := by
  have h256 := h.1
  have hgl := h.lt.1
  have hgrl := hr.lt
  have HT := Lib.hid h
  have HR := Lib.hid hr
  have HF := Lib.hid hf
  have HG := Lib.hid hgr
  have hW : Below w.heap.size w (doW w gr l.length c k a m o ee) := (two_new _ _ _).alloc (by simp; omega) _
  have hTW := Lib.hid (h.belowS hW)
  have hRW := Lib.hid (fun w1 (hf : Fr (fun i => i = g) (doW w gr l.length c k a m o ee) w1) => (hr.belowS hW).fr hf hgr)
  obtain ⟨hk0, hk1⟩ := hk
  clear h hr hf hgr hW
  have hc4 : k % 4 = 0 ∨ k % 4 = 1 ∨ k % 4 = 2 ∨ k % 4 = 3 := by omega
  rcases hc4 with h4 | h4 | h4 | h4
  · rw [show actL l ⟨k, a, m, o, ee⟩ = stageL l a m o by unfold actL; simp [h4]]
    have C1 := Lib.hid (stage_tb hTW.out a m o hm)
    have C2 := Lib.hid (fun w1 hf => refStage_any (c := c) (hRW.out w1 hf) h256 hlc hcm HF.out a m o)
    have hL := Lib.hid (stageL_len l a m o)
    generalize stageE l a m o = X at *
    generalize stageL l a m o = L at *
    go_enter Try.func13, Try.ntmps13
    go_wp2_with (first | (go_at_call 24; (with_reducible refine C1.out.mono ?_); rintro e w1 ⟨rfl, hf1, hr1⟩; have HF1 := Lib.hid hf1; have HR1 := Lib.hid hr1; obtain ⟨b1, b2, b3⟩ := do_cells hgl hf1; have t0 := b1.cell 0; have a0 := b2.cell 0; have a1 := b2.cell 1; have a2 := b2.cell 2; have a3 := b2.cell 3; have a4 := b2.cell 4; simp only [List.getElem?_toArray, List.getElem?_cons_zero, List.getElem?_cons_succ] at t0 a0 a1 a2 a3 a4; have B1 := Lib.hid b1; have B3 := Lib.hid b3; clear hf1 hr1 b1 b2 b3) | (go_at_call 30; (with_reducible refine (C2.out w1 HF1.out).mono ?_); rintro e w2 ⟨gr', c', rfl, hr2, h256', hc1, hc2, hb2, hwh⟩; have HR2 := Lib.hid hr2; have HB2 := Lib.hid hb2; have b1 := B1.out.belowS hb2; have b3 := B3.out.belowS hb2; have t1 := b1.cell 0; have t2 := b1.frozen 0; have t3 := b3.cell 0; have t4 := b3.frozen 0; simp only [List.getElem?_toArray, List.getElem?_cons_zero] at t1 t3; have hlt3 := b3.lt; have hlt1 := b1.lt; clear hr2 hb2 b1 b3))
    refine bodyPost_ret (v := .tuple #[.agg #[.slice (some ⟨gr', 0, none⟩) L.length c'], .bool true]) (by simp [results, Try.results13, go_sem, t1, t2, t3, t4, hlt1, hlt3]) rfl ?_
    exact do_end _ _ HT.out HG.out hgrl hL.out HF1.out HR1.out HR2.out hc1 hc2 HB2.out hwh
  · rw [show actL l ⟨k, a, m, o, ee⟩ = pubL l o m by unfold actL; simp [h4]]
    have C1 := Lib.hid (publish_tb hTW.out o m)
    have C2 := Lib.hid (fun w1 hf => refPublish_any (c := c) (hRW.out w1 hf) h256 hlc hcm HF.out o m)
    have hL := Lib.hid (pubL_len l o m)
    generalize pubE l o m = X at *
    generalize pubL l o m = L at *
    go_enter Try.func13, Try.ntmps13
    go_wp2_with (first | (go_at_call 25; (with_reducible refine C1.out.mono ?_); rintro e w1 ⟨rfl, hf1, hr1⟩; have HF1 := Lib.hid hf1; have HR1 := Lib.hid hr1; obtain ⟨b1, b2, b3⟩ := do_cells hgl hf1; have t0 := b1.cell 0; have a0 := b2.cell 0; have a1 := b2.cell 1; have a2 := b2.cell 2; have a3 := b2.cell 3; have a4 := b2.cell 4; simp only [List.getElem?_toArray, List.getElem?_cons_zero, List.getElem?_cons_succ] at t0 a0 a1 a2 a3 a4; have B1 := Lib.hid b1; have B3 := Lib.hid b3; clear hf1 hr1 b1 b2 b3) | (go_at_call 31; (with_reducible refine (C2.out w1 HF1.out).mono ?_); rintro e w2 ⟨gr', c', rfl, hr2, h256', hc1, hc2, hb2, hwh⟩; have HR2 := Lib.hid hr2; have HB2 := Lib.hid hb2; have b1 := B1.out.belowS hb2; have b3 := B3.out.belowS hb2; have t1 := b1.cell 0; have t2 := b1.frozen 0; have t3 := b3.cell 0; have t4 := b3.frozen 0; simp only [List.getElem?_toArray, List.getElem?_cons_zero] at t1 t3; have hlt3 := b3.lt; have hlt1 := b1.lt; clear hr2 hb2 b1 b3))
    refine bodyPost_ret (v := .tuple #[.agg #[.slice (some ⟨gr', 0, none⟩) L.length c'], .bool true]) (by simp [results, Try.results13, go_sem, t1, t2, t3, t4, hlt1, hlt3]) rfl ?_
    exact do_end _ _ HT.out HG.out hgrl hL.out HF1.out HR1.out HR2.out hc1 hc2 HB2.out hwh
  · rw [show actL l ⟨k, a, m, o, ee⟩ = retL l o ee by unfold actL; simp [h4]]
    have C1 := Lib.hid (retire_tb hTW.out o ee)
    have C2 := Lib.hid (fun w1 hf => refRetire_any (c := c) (hRW.out w1 hf) h256 hlc hcm HF.out o ee)
    have hL := Lib.hid (retL_len l o ee)
    generalize retE l o = X at *
    generalize retL l o ee = L at *
    go_enter Try.func13, Try.ntmps13
    go_wp2_with (first | (go_at_call 26; (with_reducible refine C1.out.mono ?_); rintro e w1 ⟨rfl, hf1, hr1⟩; have HF1 := Lib.hid hf1; have HR1 := Lib.hid hr1; obtain ⟨b1, b2, b3⟩ := do_cells hgl hf1; have t0 := b1.cell 0; have a0 := b2.cell 0; have a1 := b2.cell 1; have a2 := b2.cell 2; have a3 := b2.cell 3; have a4 := b2.cell 4; simp only [List.getElem?_toArray, List.getElem?_cons_zero, List.getElem?_cons_succ] at t0 a0 a1 a2 a3 a4; have B1 := Lib.hid b1; have B3 := Lib.hid b3; clear hf1 hr1 b1 b2 b3) | (go_at_call 32; (with_reducible refine (C2.out w1 HF1.out).mono ?_); rintro e w2 ⟨gr', c', rfl, hr2, h256', hc1, hc2, hb2, hwh⟩; have HR2 := Lib.hid hr2; have HB2 := Lib.hid hb2; have b1 := B1.out.belowS hb2; have b3 := B3.out.belowS hb2; have t1 := b1.cell 0; have t2 := b1.frozen 0; have t3 := b3.cell 0; have t4 := b3.frozen 0; simp only [List.getElem?_toArray, List.getElem?_cons_zero] at t1 t3; have hlt3 := b3.lt; have hlt1 := b1.lt; clear hr2 hb2 b1 b3))
    refine bodyPost_ret (v := .tuple #[.agg #[.slice (some ⟨gr', 0, none⟩) L.length c'], .bool true]) (by simp [results, Try.results13, go_sem, t1, t2, t3, t4, hlt1, hlt3]) rfl ?_
    exact do_end _ _ HT.out HG.out hgrl hL.out HF1.out HR1.out HR2.out hc1 hc2 HB2.out hwh
  · rw [show actL l ⟨k, a, m, o, ee⟩ = relL l o by unfold actL; simp [h4]]
    have C1 := Lib.hid (release_tb hTW.out o)
    have C2 := Lib.hid (fun w1 hf => refRelease_any (c := c) (hRW.out w1 hf) h256 hlc hcm HF.out o)
    have hL := Lib.hid (relL_len l o)
    generalize relE l o = X at *
    generalize relL l o = L at *
    go_enter Try.func13, Try.ntmps13
    go_wp2_with (first | (go_at_call 27; (with_reducible refine C1.out.mono ?_); rintro e w1 ⟨rfl, hf1, hr1⟩; have HF1 := Lib.hid hf1; have HR1 := Lib.hid hr1; obtain ⟨b1, b2, b3⟩ := do_cells hgl hf1; have t0 := b1.cell 0; have a0 := b2.cell 0; have a1 := b2.cell 1; have a2 := b2.cell 2; have a3 := b2.cell 3; have a4 := b2.cell 4; simp only [List.getElem?_toArray, List.getElem?_cons_zero, List.getElem?_cons_succ] at t0 a0 a1 a2 a3 a4; have B1 := Lib.hid b1; have B3 := Lib.hid b3; clear hf1 hr1 b1 b2 b3) | (go_at_call 33; (with_reducible refine (C2.out w1 HF1.out).mono ?_); rintro e w2 ⟨gr', c', rfl, hr2, h256', hc1, hc2, hb2, hwh⟩; have HR2 := Lib.hid hr2; have HB2 := Lib.hid hb2; have b1 := B1.out.belowS hb2; have b3 := B3.out.belowS hb2; have t1 := b1.cell 0; have t2 := b1.frozen 0; have t3 := b3.cell 0; have t4 := b3.frozen 0; simp only [List.getElem?_toArray, List.getElem?_cons_zero] at t1 t3; have hlt3 := b3.lt; have hlt1 := b1.lt; clear hr2 hb2 b1 b3))
    refine bodyPost_ret (v := .tuple #[.agg #[.slice (some ⟨gr', 0, none⟩) L.length c'], .bool true]) (by simp [results, Try.results13, go_sem, t1, t2, t3, t4, hlt1, hlt3]) rfl ?_
    exact do_end _ _ HT.out HG.out hgrl hL.out HF1.out HR1.out HR2.out hc1 hc2 HB2.out hwh
end Go.Proofs.Ythpdpocglfafaaa.PF
