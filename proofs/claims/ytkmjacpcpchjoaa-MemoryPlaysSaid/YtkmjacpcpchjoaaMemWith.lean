/-
  A word of the reference's memory turned: a memory of its own. Nothing here is a statement of the seed.
-/
import Derived.Test.YtkmjacpcpchjoaaMemBox
import Derived.Deep.CutRange
set_option linter.unusedSimpArgs false
set_option linter.unusedVariables false
namespace Go.Proofs.Ytkmjacpcpchjoaa.MF
open Go.RowKit PM PR PF MM MR

theorem ownw_empty2 (w : World) (o o' : Obj) : (((w.alloc o).alloc o').alloc (.cells #[] 26)).ownsRow (w.heap.size + 1 + 1) 26 1 (.slice (some ⟨w.heap.size + 1 + 1, 0, none⟩) 0 0) 0 [] :=
  ⟨rfl, Or.inr ⟨w.heap.size + 1 + 1, 0, #[], rfl, Nat.le_refl _, by have := heap_alloc_new ((w.alloc o).alloc o') (.cells #[] 26); simpa using this, Nat.le_refl _, by simp [maxLen], rfl, rfl⟩⟩
abbrev zCs : Array Value := #[.int .u32 0, .int .u32 0, .int .u32 0, .int .u32 0, .int .u32 0, .int .u32 0, .int .u32 0, .int .u32 0, .slice none 0 0, .slice none 0 0]
theorem copiedW2_of {W w1 : World} {B : Nat} {v' : Value} {l : List Int} {v : Value} (hB : B + 1 = W.heap.size) (h1 : w1.ownsRow B 26 1 v' (0 + l.length) ([] ++ wcs l)) (h2 : W.grownBy w1 v.ownBlock) (hv : ∀ g, v.ownBlock = some g → B ≤ g) (h3 : v' = .slice none 0 0 ↔ v = .slice none 0 0 ∧ l.length = 0) (hv0 : v ≠ .slice none 0 0) :
    ∃ g c, v' = .slice (some ⟨g, 0, none⟩) l.length c ∧ Wr w1 g l ∧ B ≤ g ∧ l.length ≤ c ∧ c ≤ maxLen ∧ Below B W w1 := by
  rw [Nat.zero_add, List.nil_append] at h1
  obtain ⟨g, c, e, _, hg, hc, hm, hr⟩ := wr_of_owns h1 (fun e => hv0 (h3.1 e).1)
  exact ⟨g, c, e, hr, hg, hc, hm, (Below.refl _ _).grown h2 (by omega) hv⟩
/-- the reference's memory told: its words, or its pages, in memory of their own -/
def RWith (M M' : Mm) (gr c : Nat) (w : World) (e : Ending) (w' : World) : Prop := ∃ gw' d', e = .returned (rV M'.gt gr M.pg.length c gw' M.ws.length d') ∧ Wr w' gw' M'.ws ∧ w.heap.size ≤ gw' ∧ M.ws.length ≤ d' ∧ d' ≤ maxLen ∧ Below w.heap.size w w'
set_option maxHeartbeats 2000000 in
set_option maxRecDepth 10000 in
theorem with_any {w : World} {gr c gw d : Nat} {M : Mm} (h : Rm w gr c gw d M) (ok : MOk M) (a x : Int) (ha : thereB M a = true) (ha2 : a ≤ 4294967295) :
    Calls Try.prog 59 #[rV M.gt gr M.pg.length c gw M.ws.length d, .int .u32 a, .int .u32 x] w (RWith M (setW M a x) gr c w) := by
  obtain ⟨i0, hi, hz0, hz1, hz2⟩ := info_parts infoU32
  have h16 := ok.w16
  have h256 := ok.p256
  have hm : M.ws.length ≤ 4096 := by omega
  obtain ⟨ha0, hk⟩ := there_at ha
  have hn := Lib.hid (Wr.news (((h.wr.alloc (.cells (rCs M.gt gr M.pg.length c gw M.ws.length d) 33)).alloc (.cells zCs 33)).alloc (.cells #[] 26)))
  have hl := Lib.hid (wcs_len M.ws)
  have HO := Lib.hid (ownw_empty2 w (.cells (rCs M.gt gr M.pg.length c gw M.ws.length d) 33) (.cells zCs 33))
  have hb0 := below_new w (.cells (rCs M.gt gr M.pg.length c gw M.ws.length d) 33)
  have hb1 := hb0.alloc (by simp) (.cells zCs 33)
  have hb2 := Lib.hid (hb1.alloc (by simp; omega) (.cells #[] 26))
  have X1 := Lib.hid (((Whole.new w 33 (rCs M.gt gr M.pg.length c gw M.ws.length d)).alloc (.cells zCs 33)).alloc (.cells #[] 26))
  have X2 := Lib.hid ((Whole.new (w.alloc (.cells (rCs M.gt gr M.pg.length c gw M.ws.length d) 33)) 33 zCs).alloc (.cells #[] 26))
  simp only [World.size_alloc] at X2
  obtain ⟨k, rfl⟩ : ∃ k : Nat, a = 80 + k := ⟨(a - 80).toNat, by omega⟩
  rw [show (80 + (k : Int) - 80).toNat = k by omega] at hk
  have HSet : Hid (∀ (u : World) (g : Nat), Wr u g M.ws → Wr (u.setCell ⟨g, k, none⟩ (.int .u32 x)) g (setW M (80 + (k : Int)) x).ws) := Lib.hid fun u g hr => by
    have := hr.set_ hk x
    unfold setW
    rw [show (80 + (k : Int) - 80).toNat = k by omega]
    exact this
  have HCell : Hid (∀ (u : World) (g : Nat), Wr u g M.ws → u.cell? ⟨g, k, none⟩ = some (.int .u32 (M.ws.getD k 0))) := Lib.hid fun u g hr => hr.cell hk
  unfold RWith
  rw [show (setW M (80 + (k : Int)) x).gt = M.gt from rfl]
  generalize (setW M (80 + (k : Int)) x).ws = ws' at *
  have hk0 : (0 : Int) ≤ k := by omega
  have hk1 : (k : Int) < M.ws.length := by omega
  have hm1 : (M.ws.length : Int) ≤ 4096 := by omega
  clear h ok ha ha0 h16 h256 hk
  generalize M.ws.getD k 0 = y at *
  generalize M.pg.length = n at *
  generalize M.gt = G at *
  generalize M.ws = l at *
  go_enter Try.func59, Try.ntmps59
  go_upto_region 3 with (at_builtin; refine wpList_append_own _ rfl _ _ 31 rfl (w.heap.size + 1 + 1) 26 i0 _ 1 4 Try.underlying31 hi hz0 hz1 hz2 rfl (by decide) (.slice (some ⟨w.heap.size + 1 + 1, 0, none⟩) 0 0) 0 [] rfl HO.out ⟨gw, 0, none⟩ l.length d (wcs l) rfl (by rw [hl.out]; omega) hn.out (wcs_one l) (by unfold maxLen; omega) (by omega) (by simp) ?_; intro v' w1 hown hgrow hnil; obtain ⟨g', d', rfl, hrow, hg', hd1, hd2, hb⟩ := copiedW2_of (by simp) hown hgrow (by intro g h; simp [Value.ownBlock] at h; omega) hnil (by simp); have HR := Lib.hid hrow; obtain ⟨c0, c1, c2, c3, c4, c5, c6, c7, c8, c9⟩ := box_cells (X1.out.below hb (by omega)); have f9 := (X1.out.below hb (by omega)).frozen 9; have cw := HCell.out _ _ hrow; have fw := hrow.frozen k; have Y2 := Lib.hid (X2.out.below hb (by omega)); have Y1 := Lib.hid (X1.out.below hb (by omega)); have hne1 : w.heap.size ≠ g' := (by omega); have hne2 : w.heap.size + 1 ≠ g' := (by omega); clear hown hgrow hnil hrow)
  have Z2 := (Y2.out.far (p := ⟨w.heap.size, 9, none⟩) (by simp) (.slice (some ⟨g', 0, none⟩) l.length d')).far (p := ⟨g', k, none⟩) hne2 (.int .u32 x)
  have Z1 := box_cells ((Y1.out.set_ 9 (.slice (some ⟨g', 0, none⟩) l.length d')).far (p := ⟨g', k, none⟩) hne1 (.int .u32 x))
  have ZW := HSet.out _ _ (HR.out.far (p := ⟨w.heap.size, 9, none⟩) hne1.symm (.slice (some ⟨g', 0, none⟩) l.length d'))
  have ZB := Lib.hid (((hb2.out.trans (hb.mono (by omega))).setCell (p := ⟨w.heap.size, 9, none⟩) (Nat.le_refl _) (.slice (some ⟨g', 0, none⟩) l.length d')).setCell (p := ⟨g', k, none⟩) (by show w.heap.size ≤ g'; omega) (.int .u32 x))
  clear c0 c1 c2 c3 c4 c5 c6 c7 c8 c9 f9 cw fw Y1 Y2 HR X1 X2 HO hn hb2 hb0 hb1 hb HSet HCell
  generalize (w1.setCell ⟨w.heap.size, 9, none⟩ (.slice (some ⟨g', 0, none⟩) l.length d')).setCell ⟨g', k, none⟩ (.int .u32 x) = w3 at *
  obtain ⟨c0, c1, c2, c3, c4, c5, c6, c7, c8, c9⟩ := Z1
  obtain ⟨⟨v0, v1, v2, v3, v4, v5, v6, v7, v8, v9, e0, e1, e2, e3, e4, e5, e6, e7, e8, e9⟩, f0, f1, f2, f3, f4, f5, f6, f7, f8, f9⟩ := box_open Z2 rfl
  have P2 := putB_whole Z2 rfl G gr n c g' l.length d'
  have ZW2 := Lib.hid (ZW.fr (putB_fr w3 (w.heap.size + 1) G gr n c g' l.length d') (fun e => hne2 e.symm))
  have ZB2 := Lib.hid (putB_below (b := w.heap.size + 1) ZB.out (by omega) ZB.out.size G gr n c g' l.length d')
  have Z2L := P2.lt
  clear Z2 ZW ZB
  have PC := Lib.hid (box_cells P2)
  clear P2
  go_wp2_with fail
  rw [putB_eq]
  obtain ⟨p0, p1, p2, p3, p4, p5, p6, p7, p8, p9⟩ := PC.out
  refine bodyPost_ret (v := rV G gr n c g' l.length d') (by simp [results, Try.results59, go_sem, p0, p1, p2, p3, p4, p5, p6, p7, p8, p9]) rfl ?_
  exact ⟨g', d', rfl, ZW2.out, by omega, hd1, hd2, ZB2.out⟩
end Go.Proofs.Ytkmjacpcpchjoaa.MF
