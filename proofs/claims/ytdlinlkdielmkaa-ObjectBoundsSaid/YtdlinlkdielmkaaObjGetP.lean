/-
  Texts, words and relocations read by closures over one reader. Nothing here is a statement of the seed.
-/
import Derived.Test.YtdlinlkdielmkaaObjGetM
import Derived.Test.YtdlinlkdielmkaaObjCopyQ
import Derived.Test.YtdlinlkdielmkaaObjPut
set_option linter.unusedSimpArgs false
set_option linter.unusedVariables false
namespace Go.Proofs.Ytdlinlkdielmkaa.OR
open Go.RowKit WM NR OM
set_option maxHeartbeats 4000000
set_option maxRecDepth 10000
theorem rdVar_short (M : Nat) (l : List UInt8) : (rdVar M l).2.2.length ≤ l.length := by
  by_cases h : (rdVar M l).1 = 0
  · exact Nat.le_of_lt (vr_good M 5 0 0 l h).2.2
  · have := vr_none M 5 0 0 l h
    have e : (rdVar M l).2 = (0, []) := this
    rw [e]; exact Nat.zero_le _
theorem stVar_short (M e : Nat) (l : List UInt8) : (stVar M e l).2.2.length ≤ l.length := by
  unfold stVar
  split
  · exact rdVar_short M l
  · exact Nat.le_refl _
theorem sT_short (e : Nat) (l : List UInt8) : (sT e l).2.2.length ≤ l.length := by
  unfold sT stText
  split
  · rw [rdBytes_text]
    unfold rdText
    split
    · split
      · have := rdVar_short 96 l
        simp only [List.length_drop]
        omega
      · exact Nat.zero_le _
    · exact Nat.zero_le _
  · exact Nat.le_refl _
theorem stWord_short (e : Nat) (l : List UInt8) : (stWord e l).2.2.length ≤ l.length := by
  unfold stWord
  split
  · unfold rdWord
    split
    · simp only [List.length_drop]; omega
    · exact Nat.zero_le _
  · exact Nat.le_refl _
theorem stRel_short (e : Nat) (l : List UInt8) : (stRel e l).2.2.length ≤ l.length := by
  unfold stRel
  exact Nat.le_trans (stVar_short _ _ _) (Nat.le_trans (stVar_short _ _ _) (stVar_short _ _ _))
/-- a call on the reader: what it tells, the state behind it; it may have made memory -/
theorem reads1_box {w u w' : World} {p : Nat} {v : Value} {e : Nat} {l : List UInt8} {en : Ending} (hb : Below w.heap.size w u) (h : Reads1 u p v e l en w') : Reads1 w p v e l en w' := ⟨h.1, grown_from hb h.2.1, h.2.2⟩
theorem cell_far {w w' : World} {p b : Nat} {i : Nat} {v : Value} (h : w.grownBy w' (some p)) (hb : b ≠ p) (hc : w.cell? ⟨b, i, none⟩ = some v) : w'.cell? ⟨b, i, none⟩ = some v := by
  have hlt := World.block_lt_of_cell? w _ hc
  rw [World.cell?_of_block (w := w) (a := ⟨b, i, none⟩) (h.block b hlt (fun e => hb (Option.some.inj e)))]
  exact hc
theorem capM_96 : capM 96 = 96 := by unfold capM; omega
section
variable {w : World} {b p e : Nat} {l : List UInt8}
theorem textC_any (hbx : w.cell? ⟨b, 0, none⟩ = some (.pointer (some ⟨p, 0, none⟩))) (h : Rd w p l e) (hl : l.length ≤ 16384) :
    Calls Try.prog 62 #[.pointer (some ⟨b, 0, none⟩)] w (Reads1 w p (.string (bs (sT e l).2.1)) (sT e l).1 (sT e l).2.2) := by
  have C := Lib.hid (rText_st w p l (sT e l).2.2 (sT e l).2.1 e (sT e l).1 96 h (by omega) (by omega) (by rw [capM_96]))
  clear h hl
  generalize bs (sT e l).2.1 = x at *
  go_enter Try.func62, Try.ntmps62
  go_wp2_with (go_at_call 63; (with_reducible refine C.out.mono ?_); rintro e w1 ⟨rfl, hg, hr⟩)
  go_ret
  exact ⟨rfl, hg, hr⟩
theorem wordC_any (hbx : w.cell? ⟨b, 0, none⟩ = some (.pointer (some ⟨p, 0, none⟩))) (h : Rd w p l e) (hl : l.length ≤ 16384) :
    Calls Try.prog 64 #[.pointer (some ⟨b, 0, none⟩)] w (Reads1 w p (.int .u32 ((stWord e l).2.1 : Nat)) (stWord e l).1 (stWord e l).2.2) := by
  have C := Lib.hid (rWord_st w p l (stWord e l).2.2 e (stWord e l).1 (stWord e l).2.1 h (by omega) rfl)
  clear h hl
  generalize ((stWord e l).2.1 : Int) = x at *
  go_enter Try.func64, Try.ntmps64
  go_wp2_with (go_at_call 65; (with_reducible refine C.out.mono ?_); rintro e w1 ⟨rfl, hg, hr⟩)
  go_ret
  exact ⟨rfl, hg, hr⟩
abbrev relV (r : Rl) : Value := .agg #[.int .u8 (r.kind : Int), .int .u16 (r.at_ : Int), .int .u16 (r.wh : Int)]
theorem getReloc_any (h : Rd w p l e) (hl : l.length ≤ 16384) :
    Calls Try.prog 67 #[.pointer (some ⟨p, 0, none⟩)] w (Reads1 w p (relV (stRel e l).2.1) (stRel e l).1 (stRel e l).2.2) := by
  obtain ⟨e1, k, l1, h1⟩ : ∃ e1 k l1, stVar 7 e l = (e1, k, l1) := ⟨_, _, _, rfl⟩
  obtain ⟨e2, a, l2, h2⟩ : ∃ e2 a l2, stVar 65535 e1 l1 = (e2, a, l2) := ⟨_, _, _, rfl⟩
  obtain ⟨e3, d, l3, h3⟩ : ∃ e3 d l3, stVar 65535 e2 l2 = (e3, d, l3) := ⟨_, _, _, rfl⟩
  have s1 := stVar_short 7 e l
  have s2 := stVar_short 65535 e1 l1
  have n1 := stVar_bd (M := 7) (e := e) (l := l)
  have n2 := stVar_bd (M := 65535) (e := e1) (l := l1)
  have n3 := stVar_bd (M := 65535) (e := e2) (l := l2)
  rw [h1] at s1 n1
  rw [h2] at s2 n2
  rw [h3] at n3
  simp only at s1 s2 n1 n2 n3
  unfold stRel
  simp only [h1, h2, h3]
  have C1 := Lib.hid (fun (u : World) (hr : Rd u p l e) => rVar_st u p l l1 e e1 k 7 hr (by omega) (by omega) h1)
  have C2 := Lib.hid (fun (u : World) (hr : Rd u p l1 e1) => rVar_st u p l1 l2 e1 e2 a 65535 hr (by omega) (by omega) h2)
  have C3 := Lib.hid (fun (u : World) (hr : Rd u p l2 e2) => rVar_st u p l2 l3 e2 e3 d 65535 hr (by omega) (by omega) h3)
  have hp := h.lt
  have X0 := Lib.hid (Whole.new w 48 #[.int .u8 0, .int .u16 0, .int .u16 0])
  have HB0 := Lib.hid (below_new w (.cells #[.int .u8 0, .int .u16 0, .int .u16 0] 48))
  have hr0 := Lib.hid (h.keep HB0.out)
  have k0 : (0 : Int) ≤ k := by omega
  have k1 : (k : Int) ≤ 7 := by omega
  have a0 : (0 : Int) ≤ a := by omega
  have a1 : (a : Int) ≤ 65535 := by omega
  have d0 : (0 : Int) ≤ d := by omega
  have d1 : (d : Int) ≤ 65535 := by omega
  have wk : IntKind.u8.wrap (k : Int) = k := by rw [IntKind.wrap_u8]; omega
  have wa : IntKind.u16.wrap (a : Int) = a := by rw [IntKind.wrap_u16]; omega
  have wd : IntKind.u16.wrap (d : Int) = d := by rw [IntKind.wrap_u16]; omega
  clear h1 h2 h3 s1 s2 n1 n2 n3 h hl
  simp only [relV]
  generalize (k : Int) = ki at *
  generalize (a : Int) = ai at *
  generalize (d : Int) = di at *
  go_enter Try.func67, Try.ntmps67
  go_upto_region 1 with fail
  generalize w.alloc (.cells #[.int .u8 0, .int .u16 0, .int .u16 0] 48) = W0 at *
  go_upto_region 4 with (first | (go_at_call 85; (with_reducible refine (C1.out _ hr0.out).mono ?_); rintro e w1 ⟨rfl, hg1, hr1⟩; have hg1 := Lib.hid hg1; have hr1 := Lib.hid hr1) | (go_at_call 85; (with_reducible refine (C2.out _ hr1.out).mono ?_); rintro e w2 ⟨rfl, hg2, hr2⟩; have hg2 := Lib.hid hg2; have hr2 := Lib.hid hr2) | (go_at_call 85; (with_reducible refine (C3.out _ hr2.out).mono ?_); rintro e w3 ⟨rfl, hg3, hr3⟩; have hg3 := Lib.hid hg3; have hr3 := Lib.hid hr3))
  have hg := grown_trans hg1.out (grown_trans hg2.out hg3.out)
  have X3 : Whole w3 w.heap.size 48 #[.int .u8 0, .int .u16 0, .int .u16 0] := X0.out.as (hg.block _ X0.out.lt (fun e => by have := Option.some.inj e; omega))
  have c0 := X3.cell 0
  have c1 := X3.cell 1
  have c2 := X3.cell 2
  simp at c0 c1 c2
  have f0 := X3.frozen 0
  have f1 := X3.frozen 1
  have f2 := X3.frozen 2
  have lt3 := X3.lt
  have FY : Whole (((w3.setCell ⟨w.heap.size, 0, none⟩ (.int .u8 ki)).setCell ⟨w.heap.size, 1, none⟩ (.int .u16 ai)).setCell ⟨w.heap.size, 2, none⟩ (.int .u16 di)) w.heap.size 48 #[.int .u8 ki, .int .u16 ai, .int .u16 di] := ((X3.set_ 0 (.int .u8 ki)).set_ 1 (.int .u16 ai)).set_ 2 (.int .u16 di)
  have FB : Below w.heap.size w3 (((w3.setCell ⟨w.heap.size, 0, none⟩ (.int .u8 ki)).setCell ⟨w.heap.size, 1, none⟩ (.int .u16 ai)).setCell ⟨w.heap.size, 2, none⟩ (.int .u16 di)) := (((Below.refl _ _).setCell (p := ⟨w.heap.size, 0, none⟩) (by simp) (.int .u8 ki)).setCell (p := ⟨w.heap.size, 1, none⟩) (by simp) (.int .u16 ai)).setCell (p := ⟨w.heap.size, 2, none⟩) (by simp) (.int .u16 di)
  have FBh := Lib.hid FB
  have FYh := Lib.hid FY
  have HG := Lib.hid hg
  clear FB FY X3 hg
  go_wp2_with fail
  generalize ((w3.setCell ⟨w.heap.size, 0, none⟩ (.int .u8 ki)).setCell ⟨w.heap.size, 1, none⟩ (.int .u16 ai)).setCell ⟨w.heap.size, 2, none⟩ (.int .u16 di) = WF at *
  obtain ⟨g0, g1, g2⟩ := rel_cells FYh.out
  exact bodyPost_ret (v := .agg #[.int .u8 ki, .int .u16 ai, .int .u16 di]) (by simp [results, Try.results67, go_sem, g0, g1, g2]) rfl ⟨rfl, ⟨FBh.out.os.trans (HG.out.os.trans HB0.out.os), FBh.out.tape.trans (HG.out.tape.trans HB0.out.tape), FBh.out.output.trans (HG.out.output.trans HB0.out.output), Nat.le_trans HB0.out.size (Nat.le_trans HG.out.size FBh.out.size), fun k hk hn => (FBh.out.block k hk).trans ((HG.out.block k (Nat.lt_of_lt_of_le hk HB0.out.size) hn).trans (HB0.out.block k hk))⟩, hr3.out.far FBh.out hp⟩
theorem relC_any (hbx : w.cell? ⟨b, 0, none⟩ = some (.pointer (some ⟨p, 0, none⟩))) (hbp : b ≠ p) (h : Rd w p l e) (hl : l.length ≤ 16384) :
    Calls Try.prog 66 #[.pointer (some ⟨b, 0, none⟩)] w (Reads1 w p (relV (stRel e l).2.1) (stRel e l).1 (stRel e l).2.2) := by
  have HB0 := Lib.hid (below_new w (.cells #[.int .u8 0, .int .u16 0, .int .u16 0] 48))
  have C := Lib.hid (getReloc_any (h.keep HB0.out) hl)
  have X0 := Lib.hid (Whole.new w 48 #[.int .u8 0, .int .u16 0, .int .u16 0])
  have hp := h.lt
  have hb0 := World.block_lt_of_cell? w _ hbx
  have hbx0 : (w.alloc (.cells #[.int .u8 0, .int .u16 0, .int .u16 0] 48)).cell? ⟨b, 0, none⟩ = some (.pointer (some ⟨p, 0, none⟩)) := by rw [World.cell?_of_block (w := w) (a := ⟨b, 0, none⟩) (HB0.out.block b hb0)]; exact hbx
  clear h hl hbx
  generalize (stRel e l).2.1 = r at *
  simp only [relV] at C ⊢
  generalize (r.kind : Int) = ki at *
  generalize (r.at_ : Int) = ai at *
  generalize (r.wh : Int) = di at *
  go_enter Try.func66, Try.ntmps66
  go_upto_region 1 with fail
  generalize w.alloc (.cells #[.int .u8 0, .int .u16 0, .int .u16 0] 48) = W0 at *
  go_wp2_with (go_at_call 67; (with_reducible refine C.out.mono ?_); rintro e w3 ⟨rfl, hg3, hr3⟩; have X3 : Whole w3 w.heap.size 48 #[.int .u8 0, .int .u16 0, .int .u16 0] := X0.out.as (hg3.block _ X0.out.lt (fun e => (by have := Option.some.inj e; omega))); have c0 := X3.cell 0; have c1 := X3.cell 1; have c2 := X3.cell 2; simp at c0 c1 c2; have f0 := X3.frozen 0; have f1 := X3.frozen 1; have f2 := X3.frozen 2; have lt3 := X3.lt; have X3h := Lib.hid X3; have HG := Lib.hid hg3; have hr3 := Lib.hid hr3; clear X3 hg3)
  have FY : Whole (((w3.setCell ⟨w.heap.size, 0, none⟩ (.int .u8 ki)).setCell ⟨w.heap.size, 1, none⟩ (.int .u16 ai)).setCell ⟨w.heap.size, 2, none⟩ (.int .u16 di)) w.heap.size 48 #[.int .u8 ki, .int .u16 ai, .int .u16 di] := ((X3h.out.set_ 0 (.int .u8 ki)).set_ 1 (.int .u16 ai)).set_ 2 (.int .u16 di)
  have FB : Below w.heap.size w3 (((w3.setCell ⟨w.heap.size, 0, none⟩ (.int .u8 ki)).setCell ⟨w.heap.size, 1, none⟩ (.int .u16 ai)).setCell ⟨w.heap.size, 2, none⟩ (.int .u16 di)) := (((Below.refl _ _).setCell (p := ⟨w.heap.size, 0, none⟩) (by simp) (.int .u8 ki)).setCell (p := ⟨w.heap.size, 1, none⟩) (by simp) (.int .u16 ai)).setCell (p := ⟨w.heap.size, 2, none⟩) (by simp) (.int .u16 di)
  have FBh := Lib.hid FB
  have FYh := Lib.hid FY
  clear FB FY
  generalize ((w3.setCell ⟨w.heap.size, 0, none⟩ (.int .u8 ki)).setCell ⟨w.heap.size, 1, none⟩ (.int .u16 ai)).setCell ⟨w.heap.size, 2, none⟩ (.int .u16 di) = WF at *
  obtain ⟨g0, g1, g2⟩ := rel_cells FYh.out
  exact bodyPost_ret (v := .agg #[.int .u8 ki, .int .u16 ai, .int .u16 di]) (by simp [results, Try.results66, go_sem, g0, g1, g2]) rfl ⟨rfl, ⟨FBh.out.os.trans (HG.out.os.trans HB0.out.os), FBh.out.tape.trans (HG.out.tape.trans HB0.out.tape), FBh.out.output.trans (HG.out.output.trans HB0.out.output), Nat.le_trans HB0.out.size (Nat.le_trans HG.out.size FBh.out.size), fun k hk hn => (FBh.out.block k hk).trans ((HG.out.block k (Nat.lt_of_lt_of_le hk HB0.out.size) hn).trans (HB0.out.block k hk))⟩, hr3.out.far FBh.out hp⟩
end
end Go.Proofs.Ytdlinlkdielmkaa.OR
