/-
  Bytes as a module, as the reference tells them. Nothing here is a statement of the seed.
-/
import Derived.Test.YtdlinlkdielmkaaObjGetR
import Derived.Test.YtdlinlkdielmkaaObjGet
set_option linter.unusedSimpArgs false
set_option linter.unusedVariables false
namespace Go.Proofs.Ytdlinlkdielmkaa.OR
open Go.RowKit WM NR OM
set_option maxHeartbeats 4000000
set_option maxRecDepth 10000
/-- the result's box, the module's, the reader's, on the way -/
structure GR (w : World) (a : Option Addr) (n c e : Nat) (l : List UInt8) (cs : Array Value) (u : World) : Prop where
  Z : Whole u w.heap.size 26 zCs
  X : Whole u (w.heap.size + 1) 26 cs
  T : Whole u (w.heap.size + 2) 75 #[.slice a n c, .int .i64 (e : Int)]
  R : Reads (· < w.heap.size) u (.slice a n c) (u8s l)
  B : Below w.heap.size w u
  sz : w.heap.size + 3 ≤ u.heap.size
section
variable {w u u' : World} {a a' : Option Addr} {n c n' c' e e' : Nat} {l l' : List UInt8} {cs : Array Value}
theorem GR.belowS (h : GR w a n c e l cs u) (hb : Below u.heap.size u u') : GR w a n c e l cs u' :=
  ⟨h.Z.belowS hb, h.X.belowS hb, h.T.belowS hb, h.R.keep fun g _ hg => hb.block g hg, h.B.trans (hb.mono h.B.size), Nat.le_trans h.sz hb.size⟩
theorem GR.step (h : GR w a n c e l cs u) (hr : Reads (· < w.heap.size) u (.slice a' n' c') (u8s l')) (i : Nat) (x : Value) : GR w a' n' c' e' l' (cs.setIfInBounds i x) (((u.setCell ⟨w.heap.size + 2, 0, none⟩ (.slice a' n' c')).setCell ⟨w.heap.size + 2, 1, none⟩ (.int .i64 (e' : Int))).setCell ⟨w.heap.size + 1, i, none⟩ x) := by
  refine ⟨((h.Z.far (p := ⟨w.heap.size + 2, 0, none⟩) (by simp) _).far (p := ⟨w.heap.size + 2, 1, none⟩) (by simp) _).far (p := ⟨w.heap.size + 1, i, none⟩) (by simp) _, ((h.X.far (p := ⟨w.heap.size + 2, 0, none⟩) (by simp) _).far (p := ⟨w.heap.size + 2, 1, none⟩) (by simp) _).set_ i x, ((h.T.set_ 0 (.slice a' n' c')).set_ 1 (.int .i64 (e' : Int))).far (p := ⟨w.heap.size + 1, i, none⟩) (by simp) _, ?_, ((h.B.setCell (p := ⟨w.heap.size + 2, 0, none⟩) (by simp) _).setCell (p := ⟨w.heap.size + 2, 1, none⟩) (by simp) _).setCell (p := ⟨w.heap.size + 1, i, none⟩) (by simp) _, by simpa using h.sz⟩
  refine hr.keep fun g hg _ => ?_
  have hg : g < w.heap.size := hg
  rw [Below.heap_setCell _ _ _ _ (by simp; omega), Below.heap_setCell _ _ _ _ (by simp; omega), Below.heap_setCell _ _ _ _ (by simp; omega)]
theorem owns_step {B : Nat} {t : TypeId} {size k : Nat} {v : Value} {xs : List Value} (h : u.ownsRow B t size v k xs) (hB : w.heap.size + 3 ≤ B) (v0 v1 : Value) (i : Nat) (x : Value) : (((u.setCell ⟨w.heap.size + 2, 0, none⟩ v0).setCell ⟨w.heap.size + 2, 1, none⟩ v1).setCell ⟨w.heap.size + 1, i, none⟩ x).ownsRow B t size v k xs :=
  owns_set (owns_set (owns_set h (p := w.heap.size + 2) (i := 0) (by omega) v0) (p := w.heap.size + 2) (i := 1) (by omega) v1) (p := w.heap.size + 1) (i := i) (by omega) x
theorem GR.new (h : Reads (· < w.heap.size) w (.slice a n c) (u8s l)) : GR w a n c 0 l zCs (((w.alloc (.cells zCs 26)).alloc (.cells zCs 26)).alloc (.cells #[.slice a n c, .int .i64 0] 75)) := by
  have b1 := below_new w (.cells zCs 26)
  have b2 := b1.alloc b1.size (.cells zCs 26)
  have b3 := b2.alloc b2.size (.cells #[.slice a n c, .int .i64 0] 75)
  refine ⟨((Whole.new w _ _).alloc _).alloc _, ?_, ?_, h.keep fun g _ hg => b3.block g hg, b3, by simp⟩
  · have := (Whole.new (w.alloc (.cells zCs 26)) 26 zCs).alloc (.cells #[.slice a n c, .int .i64 0] 75)
    simpa using this
  · have := Whole.new ((w.alloc (.cells zCs 26)).alloc (.cells zCs 26)) 75 #[.slice a n c, .int .i64 0]
    simpa using this
end
/-- what the reference's Get tells -/
def IsGetR (B : Nat) (b : List UInt8) (w : World) (en : Ending) (w' : World) : Prop :=
  ∃ ea en_ ec ia im ic ca cn cc da dn dc ra rn rc, en = .returned (.tuple #[mV (bs (getF b).2.name) ea en_ ec ia im ic ca cn cc da dn dc ra rn rc, .int .i64 ((getF b).1 : Nat)]) ∧ RdM (fun g => B ≤ g) w' ea en_ ec ia im ic ca cn cc da dn dc ra rn rc (getF b).2 ∧ Below w.heap.size w w'
theorem getF_short {b : List UInt8} (hl : b.length < 4) : getF b = (4, zeroM) := by
  unfold getF
  rw [if_neg (show ¬ 16384 < b.length by omega), if_pos hl]
theorem rdM_zero (G : Nat → Prop) (w : World) : RdM G w none 0 0 none 0 0 none 0 0 none 0 0 none 0 0 zeroM := ⟨Reads.nil _ _, Reads.nil _ _, Reads.nil _ _, Reads.nil _ _, ReadsR.nil _ _⟩
theorem readsR_there {G : Nat → Prop} {w : World} {v : Value} {l : List Rl} (h : ReadsR G w v l) : ReadsR (fun g => G g ∧ g < w.heap.size) w v l := by
  obtain ⟨a, cap, e, h1, h2, h3, h4⟩ := h
  refine ⟨a, cap, e, h1, h2, h3, ?_⟩
  rcases h4 with h4 | ⟨g, off, ea, hg, hc⟩
  · exact Or.inl h4
  · by_cases h0 : l = []
    · exact Or.inl h0
    · refine Or.inr ⟨g, off, ea, ⟨hg, ?_⟩, hc⟩
      exact World.block_lt_of_cell? w _ (hc 0 (List.length_pos_iff.2 h0)).1
theorem RdM.mono {G G' : Nat → Prop} {u : World} {ea : Option Addr} {en ec : Nat} {ia : Option Addr} {im ic : Nat} {ca : Option Addr} {cn cc : Nat} {da : Option Addr} {dn dc : Nat} {ra : Option Addr} {rn rc : Nat} {m : Md} (h : RdM G u ea en ec ia im ic ca cn cc da dn dc ra rn rc m) (hG : ∀ g, G g → G' g) : RdM G' u ea en ec ia im ic ca cn cc da dn dc ra rn rc m := ⟨h.ex.mono hG, h.im.mono hG, h.cd.mono hG, h.dt.mono hG, h.rl.mono hG⟩
theorem RdM.there {G : Nat → Prop} {u : World} {ea : Option Addr} {en ec : Nat} {ia : Option Addr} {im ic : Nat} {ca : Option Addr} {cn cc : Nat} {da : Option Addr} {dn dc : Nat} {ra : Option Addr} {rn rc : Nat} {m : Md} (h : RdM G u ea en ec ia im ic ca cn cc da dn dc ra rn rc m) : RdM (· < u.heap.size) u ea en ec ia im ic ca cn cc da dn dc ra rn rc m := ⟨h.ex.there.mono fun g hg => hg.2, h.im.there.mono fun g hg => hg.2, h.cd.there.mono fun g hg => hg.2, h.dt.there.mono fun g hg => hg.2, (readsR_there h.rl).mono fun g hg => hg.2⟩
theorem RdM.keep2 {G : Nat → Prop} {u u' : World} {ea : Option Addr} {en ec : Nat} {ia : Option Addr} {im ic : Nat} {ca : Option Addr} {cn cc : Nat} {da : Option Addr} {dn dc : Nat} {ra : Option Addr} {rn rc : Nat} {m : Md} (h : RdM G u ea en ec ia im ic ca cn cc da dn dc ra rn rc m) (hk : ∀ g, G g → g < u.heap.size → u'.heap[g]? = u.heap[g]?) : RdM G u' ea en ec ia im ic ca cn cc da dn dc ra rn rc m := ⟨h.ex.keep hk, h.im.keep hk, h.cd.keep hk, h.dt.keep hk, h.rl.keep hk⟩
theorem capM_512 : capM 512 = 512 := by unfold capM; omega
theorem capM_128 : capM 128 = 128 := by unfold capM; omega
theorem rdText_short (M : Nat) (l : List UInt8) : (stText M 0 l).2.2.length ≤ l.length := by
  unfold stText
  rw [if_pos rfl, rdBytes_text]
  unfold rdText
  split
  · split
    · have := rdVar_short M l
      simp only [List.length_drop]
      omega
    · exact Nat.zero_le _
  · exact Nat.zero_le _
theorem xTs_short : ∀ (k e : Nat) (l : List UInt8), (xTs k e l).2.2.length ≤ l.length
  | 0, _, _ => Nat.le_refl _
  | k + 1, e, l => by
    rw [xTs]
    split
    · exact Nat.le_trans (xTs_short k _ _) (sT_short e l)
    · exact Nat.le_refl _
theorem xTexts_short (M e : Nat) (l : List UInt8) : (xTexts M e l).2.2.length ≤ l.length := Nat.le_trans (xTs_short _ _ _) (stVar_short _ _ _)
theorem stWords_short (M e : Nat) (l : List UInt8) : (stWords M e l).2.2.length ≤ l.length := by
  unfold stWords
  split
  · unfold rdWords
    split
    · split
      · have := rdVar_short M l
        simp only [List.length_drop]
        omega
      · exact Nat.zero_le _
    · exact Nat.zero_le _
  · exact Nat.le_refl _
section
variable {w : World} {v : Value} {b : List UInt8}
theorem refGet_long (h : Reads (· < w.heap.size) w v (u8s b)) (hl : 16384 < b.length) :
    Calls Try.prog 18 #[v] w (IsGetR w.heap.size b w) := by
  obtain ⟨a1, c1, rfl, _, _⟩ := h.shape
  simp only [u8s_len] at *
  have hl' : (16384 : Int) < b.length := by omega
  have X0 := Lib.hid (Whole.new w 26 zCs)
  have HB0 := Lib.hid (below_new w (.cells zCs 26))
  unfold IsGetR
  rw [getF_long hl]
  clear h hl
  generalize b.length = n at *
  go_enter Try.func18, Try.ntmps18
  go_upto_region 1 with fail
  generalize w.alloc (.cells zCs 26) = W0 at *
  have t0 := X0.out.cell 0
  have t1 := X0.out.cell 1
  have t2 := X0.out.cell 2
  have t3 := X0.out.cell 3
  have t4 := X0.out.cell 4
  have t5 := X0.out.cell 5
  simp at t0 t1 t2 t3 t4 t5
  have r0 := X0.out.frozen 0
  have r1 := X0.out.frozen 1
  have r2 := X0.out.frozen 2
  have r3 := X0.out.frozen 3
  have r4 := X0.out.frozen 4
  have r5 := X0.out.frozen 5
  have rlt := X0.out.lt
  have FY := Lib.hid (zero_set (X0.out))
  have FB := Lib.hid (below_six (HB0.out) (Nat.le_refl _) (.string ⟨#[]⟩) (.slice none 0 0) (.slice none 0 0) (.slice none 0 0) (.slice none 0 0) (.slice none 0 0))
  clear X0
  go_wp2_with fail
  generalize (((((W0.setCell ⟨w.heap.size, 0, none⟩ (.string ⟨#[]⟩)).setCell ⟨w.heap.size, 1, none⟩ (.slice none 0 0)).setCell ⟨w.heap.size, 2, none⟩ (.slice none 0 0)).setCell ⟨w.heap.size, 3, none⟩ (.slice none 0 0)).setCell ⟨w.heap.size, 4, none⟩ (.slice none 0 0)).setCell ⟨w.heap.size, 5, none⟩ (.slice none 0 0) = WF at *
  obtain ⟨g0, g1, g2, g3, g4, g5⟩ := mod_cells FY.out
  exact bodyPost_ret (v := .tuple #[mV ⟨#[]⟩ none 0 0 none 0 0 none 0 0 none 0 0 none 0 0, .int .i64 5]) (by simp [results, Try.results18, go_sem, g0, g1, g2, g3, g4, g5]) rfl ⟨_, _, _, _, _, _, _, _, _, _, _, _, _, _, _, rfl, rdM_zero _ _, FB.out⟩
theorem refGet_short (h : Reads (· < w.heap.size) w v (u8s b)) (hl : b.length < 4) :
    Calls Try.prog 18 #[v] w (IsGetR w.heap.size b w) := by
  obtain ⟨a1, c1, rfl, _, _⟩ := h.shape
  simp only [u8s_len] at *
  have hl' : (b.length : Int) < 4 := by omega
  have hl2 : (b.length : Int) ≤ 16384 := by omega
  have X0 := Lib.hid (Whole.new w 26 zCs)
  have HB0 := Lib.hid (below_new w (.cells zCs 26))
  unfold IsGetR
  rw [getF_short hl]
  clear h hl
  have hn : b.length = 0 ∨ b.length = 1 ∨ b.length = 2 ∨ b.length = 3 := by omega
  clear hl' hl2
  generalize b.length = n at *
  rcases hn with rfl | rfl | rfl | rfl
  all_goals
    go_enter Try.func18, Try.ntmps18
    go_upto_region 1 with fail
    generalize w.alloc (.cells zCs 26) = W0 at *
    have t0 := X0.out.cell 0
    have t1 := X0.out.cell 1
    have t2 := X0.out.cell 2
    have t3 := X0.out.cell 3
    have t4 := X0.out.cell 4
    have t5 := X0.out.cell 5
    simp at t0 t1 t2 t3 t4 t5
    have r0 := X0.out.frozen 0
    have r1 := X0.out.frozen 1
    have r2 := X0.out.frozen 2
    have r3 := X0.out.frozen 3
    have r4 := X0.out.frozen 4
    have r5 := X0.out.frozen 5
    have rlt := X0.out.lt
    have FY := Lib.hid (zero_set (X0.out))
    have FB := Lib.hid (below_six (HB0.out) (Nat.le_refl _) (.string ⟨#[]⟩) (.slice none 0 0) (.slice none 0 0) (.slice none 0 0) (.slice none 0 0) (.slice none 0 0))
    clear X0
    go_wp2_with fail
    generalize (((((W0.setCell ⟨w.heap.size, 0, none⟩ (.string ⟨#[]⟩)).setCell ⟨w.heap.size, 1, none⟩ (.slice none 0 0)).setCell ⟨w.heap.size, 2, none⟩ (.slice none 0 0)).setCell ⟨w.heap.size, 3, none⟩ (.slice none 0 0)).setCell ⟨w.heap.size, 4, none⟩ (.slice none 0 0)).setCell ⟨w.heap.size, 5, none⟩ (.slice none 0 0) = WF at *
    obtain ⟨g0, g1, g2, g3, g4, g5⟩ := mod_cells FY.out
    exact bodyPost_ret (v := .tuple #[mV ⟨#[]⟩ none 0 0 none 0 0 none 0 0 none 0 0 none 0 0, .int .i64 4]) (by simp [results, Try.results18, go_sem, g0, g1, g2, g3, g4, g5]) rfl ⟨_, _, _, _, _, _, _, _, _, _, _, _, _, _, _, rfl, rdM_zero _ _, FB.out⟩
theorem refGet_body (h : Reads (· < w.heap.size) w v (u8s b)) (hl : b.length ≤ 16384) (h4 : 4 ≤ b.length) :
    Calls Try.prog 18 #[v] w (IsGetR w.heap.size b w) := by
  have hF := getF_x hl h4
  have hfine := xBody_fine (b.drop 4)
  obtain ⟨v3, hr3, ht3⟩ := h.drop (P := Try.prog) elemBytes sizeBytes 4 (by rw [u8s_len]; exact h4)
  rw [← u8s_drop] at ht3
  have hdl : (b.drop 4).length ≤ 16384 := by rw [List.length_drop]; omega
  obtain ⟨F, hFF⟩ : ∃ F, F = getF b := ⟨_, rfl⟩
  unfold IsGetR
  rw [← hFF]
  rw [hF] at hFF
  have HV := Lib.hid h
  obtain ⟨a0, c0, rfl, _, _⟩ := h.shape
  simp only [u8s_len] at *
  have hl' : (b.length : Int) ≤ 16384 := by omega
  have h4' : (4 : Int) ≤ b.length := by omega
  have hsl : ∀ u, (Instr.slice 30 (.slice a0 b.length c0) (some (.int .i64 4)) none none).run Try.prog u = .ok v3 u := fun u => hr3 .i64 u
  obtain ⟨a1, n1, c1, rfl⟩ := ht3.form
  clear h hr3 hF
  generalize b.drop 4 = bb at *
  obtain ⟨e0, nm, l0, h0⟩ : ∃ e1 x l1, sT 0 bb = (e1, x, l1) := ⟨_, _, _, rfl⟩
  obtain ⟨e1, ex, l1, h1⟩ : ∃ y x z, xTexts 8 e0 l0 = (y, x, z) := ⟨_, _, _, rfl⟩
  obtain ⟨e2, im, l2, h2⟩ : ∃ y x z, xTexts 16 e1 l1 = (y, x, z) := ⟨_, _, _, rfl⟩
  obtain ⟨e3, cd, l3, h3⟩ : ∃ y x z, stWords 512 e2 l2 = (y, x, z) := ⟨_, _, _, rfl⟩
  obtain ⟨e4, dt, l4, h4⟩ : ∃ y x z, stWords 128 e3 l3 = (y, x, z) := ⟨_, _, _, rfl⟩
  obtain ⟨e5, rl, l5, h5⟩ : ∃ y x z, xRels e4 l4 = (y, x, z) := ⟨_, _, _, rfl⟩
  have e : xBody bb = (e5, ⟨nm, ex, im, cd, dt, rl⟩, l5) := by
    unfold xBody
    simp only [h0, h1, h2, h3, h4, h5]
  rw [e] at hFF hfine
  simp only at hFF hfine
  have s0 := sT_short 0 bb
  rw [h0] at s0
  have s1 := xTexts_short 8 e0 l0
  rw [h1] at s1
  have s2 := xTexts_short 16 e1 l1
  rw [h2] at s2
  have s3 := stWords_short 512 e2 l2
  rw [h3] at s3
  simp only at s0 s1 s2 s3
  have up := fun (u : World) (hb : Below w.heap.size w u) (g : Nat) (hg : g < w.heap.size) => Nat.lt_of_lt_of_le hg hb.size
  have J0 := Lib.hid (GR.new ht3)
  have C0 := Lib.hid (fun (u : World) (hj : GR w a1 n1 c1 0 bb zCs u) => xText_st (· < w.heap.size) u (.slice a1 n1 c1) bb l0 nm 0 e0 96 (up u hj.B) hj.R (by omega) (by rw [capM_96]; exact h0))
  rw [show ((0 : Nat) : Int) = 0 from rfl] at C0
  have C1 : Hid (∀ (u : World) (a : Option Addr) (n c : Nat) (cs : Array Value), GR w a n c e0 l0 cs u → Calls Try.prog 45 #[.agg #[.slice a n c, .int .i64 (e0 : Int)], .int .u32 8] u (IsRefL (· < w.heap.size) u 9 1 ex.length (strs ex) e1 l1)) := fun u a n c cs hj => by
    have := refGetTexts_any (M := 8) (e := e0) (up u hj.B) ⟨by decide, by decide⟩ hj.R
    rw [show (8 : Int).toNat = 8 from rfl, h1] at this
    exact this
  have C2 : Hid (∀ (u : World) (a : Option Addr) (n c : Nat) (cs : Array Value), GR w a n c e1 l1 cs u → Calls Try.prog 45 #[.agg #[.slice a n c, .int .i64 (e1 : Int)], .int .u32 16] u (IsRefL (· < w.heap.size) u 9 1 im.length (strs im) e2 l2)) := fun u a n c cs hj => by
    have := refGetTexts_any (M := 16) (e := e1) (up u hj.B) ⟨by decide, by decide⟩ hj.R
    rw [show (16 : Int).toNat = 16 from rfl, h2] at this
    exact this
  have C3 := Lib.hid (fun (u : World) (a : Option Addr) (n c : Nat) (cs : Array Value) (hj : GR w a n c e2 l2 cs u) => xWords_st (· < w.heap.size) u (.slice a n c) l2 l3 cd e2 e3 512 (up u hj.B) hj.R (by omega) (by omega) (by rw [capM_512]; exact h3))
  have C4 := Lib.hid (fun (u : World) (a : Option Addr) (n c : Nat) (cs : Array Value) (hj : GR w a n c e3 l3 cs u) => xWords_st (· < w.heap.size) u (.slice a n c) l3 l4 dt e3 e4 128 (up u hj.B) hj.R (by omega) (by omega) (by rw [capM_128]; exact h4))
  have C5 : Hid (∀ (u : World) (a : Option Addr) (n c : Nat) (cs : Array Value), GR w a n c e4 l4 cs u → Calls Try.prog 47 #[.agg #[.slice a n c, .int .i64 (e4 : Int)]] u (IsRefL (· < w.heap.size) u 48 3 rl.length (relC rl) e5 l5)) := fun u a n c cs hj => by
    have := refGetRelocs_any (e := e4) (up u hj.B) hj.R
    rw [h5] at this
    exact this
  clear h0 h1 h2 h3 h4 h5 s0 s1 s2 s3 hl e ht3 hdl up
  have HFF := Lib.hid hFF
  have HFI := Lib.hid hfine
  clear hFF hfine
  generalize hN : b.length = n0 at *
  clear hN
  generalize hx : bs nm = x at *
  have Hx := Lib.hid hx
  clear hx
  go_enter Try.func18, Try.ntmps18
  go_upto_region 7 with fail
  generalize ((w.alloc (.cells zCs 26)).alloc (.cells zCs 26)).alloc (.cells #[.slice a1 n1 c1, .int .i64 0] 75) = W0 at *
  clear hsl
  have x0 := J0.out.X.cell 0
  simp at x0
  have z0 := J0.out.T.cell 0
  have z1 := J0.out.T.cell 1
  simp at z0 z1
  go_upto_region 8 with (go_at_call 44; (with_reducible refine (C0.out _ J0.out).mono ?_); rintro en u0 ⟨v1, rfl, hr1, hb1⟩; obtain ⟨b0, m0, d0, rfl⟩ := hr1.form; have K0 := Lib.hid (J0.out.belowS hb1); have HR0 := Lib.hid hr1; have y0 := K0.out.X.cell 0; simp at y0; have f0 := K0.out.X.frozen 0; have lt0 := K0.out.X.lt; have q0 := K0.out.T.cell 0; have q1 := K0.out.T.cell 1; simp at q0 q1; have qf0 := K0.out.T.frozen 0; have qf1 := K0.out.T.frozen 1; have qlt := K0.out.T.lt; clear hr1 hb1)
  have J1 : Hid (GR w b0 m0 d0 e0 l0 #[.string x, .slice none 0 0, .slice none 0 0, .slice none 0 0, .slice none 0 0, .slice none 0 0] (((u0.setCell ⟨w.heap.size + 2, 0, none⟩ (.slice b0 m0 d0)).setCell ⟨w.heap.size + 2, 1, none⟩ (.int .i64 (e0 : Int))).setCell ⟨w.heap.size + 1, 0, none⟩ (.string x))) := Lib.hid (K0.out.step HR0.out 0 (.string x))
  clear C0 x0 z0 z1 y0 f0 lt0 q0 q1 qf0 qf1 qlt K0 HR0 J0
  generalize ((u0.setCell ⟨w.heap.size + 2, 0, none⟩ (.slice b0 m0 d0)).setCell ⟨w.heap.size + 2, 1, none⟩ (.int .i64 (e0 : Int))).setCell ⟨w.heap.size + 1, 0, none⟩ (.string x) = W1 at *
  have x1 := J1.out.X.cell 1
  simp at x1
  have z0 := J1.out.T.cell 0
  have z1 := J1.out.T.cell 1
  simp at z0 z1
  go_upto_region 9 with (go_at_call 45; (with_reducible refine (C1.out _ _ _ _ _ J1.out).mono ?_); rintro en u1 ⟨v1, v2, rfl, hr1, own, hb1⟩; obtain ⟨b1, m1, d1, rfl⟩ := hr1.form; obtain ⟨a1x, q1x, rfl⟩ := owns_form own; have K1 := Lib.hid (J1.out.belowS hb1); have HR1 := Lib.hid hr1; have Oq1 := Lib.hid (owns_base own J1.out.sz); have y1 := K1.out.X.cell 1; simp at y1; have f1 := K1.out.X.frozen 1; have lt1 := K1.out.X.lt; have q0 := K1.out.T.cell 0; have q1 := K1.out.T.cell 1; simp at q0 q1; have qf0 := K1.out.T.frozen 0; have qf1 := K1.out.T.frozen 1; have qlt := K1.out.T.lt; clear hr1 hb1 own)
  have J2 : Hid (GR w b1 m1 d1 e1 l1 #[.string x, .slice a1x ex.length q1x, .slice none 0 0, .slice none 0 0, .slice none 0 0, .slice none 0 0] (((u1.setCell ⟨w.heap.size + 2, 0, none⟩ (.slice b1 m1 d1)).setCell ⟨w.heap.size + 2, 1, none⟩ (.int .i64 (e1 : Int))).setCell ⟨w.heap.size + 1, 1, none⟩ (.slice a1x ex.length q1x))) := Lib.hid (K1.out.step HR1.out 1 (.slice a1x ex.length q1x))
  have O1n := Lib.hid (owns_step Oq1.out (Nat.le_refl _) (.slice b1 m1 d1) (.int .i64 (e1 : Int)) 1 (.slice a1x ex.length q1x))
  clear C1 x1 z0 z1 y1 f1 lt1 q0 q1 qf0 qf1 qlt K1 HR1 J1 Oq1 
  have O1 := O1n
  clear O1n
  generalize (((u1.setCell ⟨w.heap.size + 2, 0, none⟩ (.slice b1 m1 d1)).setCell ⟨w.heap.size + 2, 1, none⟩ (.int .i64 (e1 : Int))).setCell ⟨w.heap.size + 1, 1, none⟩ (.slice a1x ex.length q1x)) = W2 at *
  have x2 := J2.out.X.cell 2
  simp at x2
  have z0 := J2.out.T.cell 0
  have z1 := J2.out.T.cell 1
  simp at z0 z1
  go_upto_region 10 with (go_at_call 45; (with_reducible refine (C2.out _ _ _ _ _ J2.out).mono ?_); rintro en u2 ⟨v1, v2, rfl, hr1, own, hb1⟩; obtain ⟨b2, m2, d2, rfl⟩ := hr1.form; obtain ⟨a2x, q2x, rfl⟩ := owns_form own; have K2 := Lib.hid (J2.out.belowS hb1); have HR2 := Lib.hid hr1; have Oq2 := Lib.hid (owns_base own J2.out.sz); have Oq1 := Lib.hid (owns_below O1.out hb1); have y2 := K2.out.X.cell 2; simp at y2; have f2 := K2.out.X.frozen 2; have lt2 := K2.out.X.lt; have q0 := K2.out.T.cell 0; have q1 := K2.out.T.cell 1; simp at q0 q1; have qf0 := K2.out.T.frozen 0; have qf1 := K2.out.T.frozen 1; have qlt := K2.out.T.lt; clear hr1 hb1 own)
  have J3 : Hid (GR w b2 m2 d2 e2 l2 #[.string x, .slice a1x ex.length q1x, .slice a2x im.length q2x, .slice none 0 0, .slice none 0 0, .slice none 0 0] (((u2.setCell ⟨w.heap.size + 2, 0, none⟩ (.slice b2 m2 d2)).setCell ⟨w.heap.size + 2, 1, none⟩ (.int .i64 (e2 : Int))).setCell ⟨w.heap.size + 1, 2, none⟩ (.slice a2x im.length q2x))) := Lib.hid (K2.out.step HR2.out 2 (.slice a2x im.length q2x))
  have O1n := Lib.hid (owns_step Oq1.out (Nat.le_refl _) (.slice b2 m2 d2) (.int .i64 (e2 : Int)) 2 (.slice a2x im.length q2x))
  have O2n := Lib.hid (owns_step Oq2.out (Nat.le_refl _) (.slice b2 m2 d2) (.int .i64 (e2 : Int)) 2 (.slice a2x im.length q2x))
  clear C2 x2 z0 z1 y2 f2 lt2 q0 q1 qf0 qf1 qlt K2 HR2 J2 Oq1 Oq2 O1
  have O1 := O1n
  clear O1n
  have O2 := O2n
  clear O2n
  generalize (((u2.setCell ⟨w.heap.size + 2, 0, none⟩ (.slice b2 m2 d2)).setCell ⟨w.heap.size + 2, 1, none⟩ (.int .i64 (e2 : Int))).setCell ⟨w.heap.size + 1, 2, none⟩ (.slice a2x im.length q2x)) = W3 at *
  have x3 := J3.out.X.cell 3
  simp at x3
  have z0 := J3.out.T.cell 0
  have z1 := J3.out.T.cell 1
  simp at z0 z1
  go_upto_region 11 with (go_at_call 46; (with_reducible refine (C3.out _ _ _ _ _ J3.out).mono ?_); rintro en u3 ⟨v1, v2, rfl, hr1, own, hb1⟩; obtain ⟨b3, m3, d3, rfl⟩ := hr1.form; obtain ⟨a3x, q3x, rfl⟩ := owns_form own; have K3 := Lib.hid (J3.out.belowS hb1); have HR3 := Lib.hid hr1; have Oq3 := Lib.hid (owns_base own J3.out.sz); have Oq1 := Lib.hid (owns_below O1.out hb1); have Oq2 := Lib.hid (owns_below O2.out hb1); have y3 := K3.out.X.cell 3; simp at y3; have f3 := K3.out.X.frozen 3; have lt3 := K3.out.X.lt; have q0 := K3.out.T.cell 0; have q1 := K3.out.T.cell 1; simp at q0 q1; have qf0 := K3.out.T.frozen 0; have qf1 := K3.out.T.frozen 1; have qlt := K3.out.T.lt; clear hr1 hb1 own)
  have J4 : Hid (GR w b3 m3 d3 e3 l3 #[.string x, .slice a1x ex.length q1x, .slice a2x im.length q2x, .slice a3x cd.length q3x, .slice none 0 0, .slice none 0 0] (((u3.setCell ⟨w.heap.size + 2, 0, none⟩ (.slice b3 m3 d3)).setCell ⟨w.heap.size + 2, 1, none⟩ (.int .i64 (e3 : Int))).setCell ⟨w.heap.size + 1, 3, none⟩ (.slice a3x cd.length q3x))) := Lib.hid (K3.out.step HR3.out 3 (.slice a3x cd.length q3x))
  have O1n := Lib.hid (owns_step Oq1.out (Nat.le_refl _) (.slice b3 m3 d3) (.int .i64 (e3 : Int)) 3 (.slice a3x cd.length q3x))
  have O2n := Lib.hid (owns_step Oq2.out (Nat.le_refl _) (.slice b3 m3 d3) (.int .i64 (e3 : Int)) 3 (.slice a3x cd.length q3x))
  have O3n := Lib.hid (owns_step Oq3.out (Nat.le_refl _) (.slice b3 m3 d3) (.int .i64 (e3 : Int)) 3 (.slice a3x cd.length q3x))
  clear C3 x3 z0 z1 y3 f3 lt3 q0 q1 qf0 qf1 qlt K3 HR3 J3 Oq1 Oq2 Oq3 O1 O2
  have O1 := O1n
  clear O1n
  have O2 := O2n
  clear O2n
  have O3 := O3n
  clear O3n
  generalize (((u3.setCell ⟨w.heap.size + 2, 0, none⟩ (.slice b3 m3 d3)).setCell ⟨w.heap.size + 2, 1, none⟩ (.int .i64 (e3 : Int))).setCell ⟨w.heap.size + 1, 3, none⟩ (.slice a3x cd.length q3x)) = W4 at *
  have x4 := J4.out.X.cell 4
  simp at x4
  have z0 := J4.out.T.cell 0
  have z1 := J4.out.T.cell 1
  simp at z0 z1
  go_upto_region 12 with (go_at_call 46; (with_reducible refine (C4.out _ _ _ _ _ J4.out).mono ?_); rintro en u4 ⟨v1, v2, rfl, hr1, own, hb1⟩; obtain ⟨b4, m4, d4, rfl⟩ := hr1.form; obtain ⟨a4x, q4x, rfl⟩ := owns_form own; have K4 := Lib.hid (J4.out.belowS hb1); have HR4 := Lib.hid hr1; have Oq4 := Lib.hid (owns_base own J4.out.sz); have Oq1 := Lib.hid (owns_below O1.out hb1); have Oq2 := Lib.hid (owns_below O2.out hb1); have Oq3 := Lib.hid (owns_below O3.out hb1); have y4 := K4.out.X.cell 4; simp at y4; have f4 := K4.out.X.frozen 4; have lt4 := K4.out.X.lt; have q0 := K4.out.T.cell 0; have q1 := K4.out.T.cell 1; simp at q0 q1; have qf0 := K4.out.T.frozen 0; have qf1 := K4.out.T.frozen 1; have qlt := K4.out.T.lt; clear hr1 hb1 own)
  have J5 : Hid (GR w b4 m4 d4 e4 l4 #[.string x, .slice a1x ex.length q1x, .slice a2x im.length q2x, .slice a3x cd.length q3x, .slice a4x dt.length q4x, .slice none 0 0] (((u4.setCell ⟨w.heap.size + 2, 0, none⟩ (.slice b4 m4 d4)).setCell ⟨w.heap.size + 2, 1, none⟩ (.int .i64 (e4 : Int))).setCell ⟨w.heap.size + 1, 4, none⟩ (.slice a4x dt.length q4x))) := Lib.hid (K4.out.step HR4.out 4 (.slice a4x dt.length q4x))
  have O1n := Lib.hid (owns_step Oq1.out (Nat.le_refl _) (.slice b4 m4 d4) (.int .i64 (e4 : Int)) 4 (.slice a4x dt.length q4x))
  have O2n := Lib.hid (owns_step Oq2.out (Nat.le_refl _) (.slice b4 m4 d4) (.int .i64 (e4 : Int)) 4 (.slice a4x dt.length q4x))
  have O3n := Lib.hid (owns_step Oq3.out (Nat.le_refl _) (.slice b4 m4 d4) (.int .i64 (e4 : Int)) 4 (.slice a4x dt.length q4x))
  have O4n := Lib.hid (owns_step Oq4.out (Nat.le_refl _) (.slice b4 m4 d4) (.int .i64 (e4 : Int)) 4 (.slice a4x dt.length q4x))
  clear C4 x4 z0 z1 y4 f4 lt4 q0 q1 qf0 qf1 qlt K4 HR4 J4 Oq1 Oq2 Oq3 Oq4 O1 O2 O3
  have O1 := O1n
  clear O1n
  have O2 := O2n
  clear O2n
  have O3 := O3n
  clear O3n
  have O4 := O4n
  clear O4n
  generalize (((u4.setCell ⟨w.heap.size + 2, 0, none⟩ (.slice b4 m4 d4)).setCell ⟨w.heap.size + 2, 1, none⟩ (.int .i64 (e4 : Int))).setCell ⟨w.heap.size + 1, 4, none⟩ (.slice a4x dt.length q4x)) = W5 at *
  have x5 := J5.out.X.cell 5
  simp at x5
  have z0 := J5.out.T.cell 0
  have z1 := J5.out.T.cell 1
  simp at z0 z1
  go_upto_region 13 with (go_at_call 47; (with_reducible refine (C5.out _ _ _ _ _ J5.out).mono ?_); rintro en u5 ⟨v1, v2, rfl, hr1, own, hb1⟩; obtain ⟨b5, m5, d5, rfl⟩ := hr1.form; obtain ⟨a5x, q5x, rfl⟩ := owns_form own; have K5 := Lib.hid (J5.out.belowS hb1); have HR5 := Lib.hid hr1; have Oq5 := Lib.hid (owns_base own J5.out.sz); have Oq1 := Lib.hid (owns_below O1.out hb1); have Oq2 := Lib.hid (owns_below O2.out hb1); have Oq3 := Lib.hid (owns_below O3.out hb1); have Oq4 := Lib.hid (owns_below O4.out hb1); have y5 := K5.out.X.cell 5; simp at y5; have f5 := K5.out.X.frozen 5; have lt5 := K5.out.X.lt; have q0 := K5.out.T.cell 0; have q1 := K5.out.T.cell 1; simp at q0 q1; have qf0 := K5.out.T.frozen 0; have qf1 := K5.out.T.frozen 1; have qlt := K5.out.T.lt; clear hr1 hb1 own)
  have J6 : Hid (GR w b5 m5 d5 e5 l5 #[.string x, .slice a1x ex.length q1x, .slice a2x im.length q2x, .slice a3x cd.length q3x, .slice a4x dt.length q4x, .slice a5x rl.length q5x] (((u5.setCell ⟨w.heap.size + 2, 0, none⟩ (.slice b5 m5 d5)).setCell ⟨w.heap.size + 2, 1, none⟩ (.int .i64 (e5 : Int))).setCell ⟨w.heap.size + 1, 5, none⟩ (.slice a5x rl.length q5x))) := Lib.hid (K5.out.step HR5.out 5 (.slice a5x rl.length q5x))
  have O1n := Lib.hid (owns_step Oq1.out (Nat.le_refl _) (.slice b5 m5 d5) (.int .i64 (e5 : Int)) 5 (.slice a5x rl.length q5x))
  have O2n := Lib.hid (owns_step Oq2.out (Nat.le_refl _) (.slice b5 m5 d5) (.int .i64 (e5 : Int)) 5 (.slice a5x rl.length q5x))
  have O3n := Lib.hid (owns_step Oq3.out (Nat.le_refl _) (.slice b5 m5 d5) (.int .i64 (e5 : Int)) 5 (.slice a5x rl.length q5x))
  have O4n := Lib.hid (owns_step Oq4.out (Nat.le_refl _) (.slice b5 m5 d5) (.int .i64 (e5 : Int)) 5 (.slice a5x rl.length q5x))
  have O5n := Lib.hid (owns_step Oq5.out (Nat.le_refl _) (.slice b5 m5 d5) (.int .i64 (e5 : Int)) 5 (.slice a5x rl.length q5x))
  clear C5 x5 z0 z1 y5 f5 lt5 q0 q1 qf0 qf1 qlt K5 HR5 J5 Oq1 Oq2 Oq3 Oq4 Oq5 O1 O2 O3 O4
  have O1 := O1n
  clear O1n
  have O2 := O2n
  clear O2n
  have O3 := O3n
  clear O3n
  have O4 := O4n
  clear O4n
  have O5 := O5n
  clear O5n
  generalize (((u5.setCell ⟨w.heap.size + 2, 0, none⟩ (.slice b5 m5 d5)).setCell ⟨w.heap.size + 2, 1, none⟩ (.int .i64 (e5 : Int))).setCell ⟨w.heap.size + 1, 5, none⟩ (.slice a5x rl.length q5x)) = W6 at *
  have HMM : Hid (RdM (fun g => w.heap.size + 3 ≤ g) W6 a1x ex.length q1x a2x im.length q2x a3x cd.length q3x a4x dt.length q4x a5x rl.length q5x ⟨nm, ex, im, cd, dt, rl⟩) := ⟨(Reads.of_owns O1.out).mono fun g hg => hg.1, (Reads.of_owns O2.out).mono fun g hg => hg.1, (Reads.of_owns O3.out).mono fun g hg => hg.1, (Reads.of_owns O4.out).mono fun g hg => hg.1, (readsR_owns O5.out).mono fun g hg => hg.1⟩
  have HM : Hid (RdM (· < W6.heap.size) W6 a1x ex.length q1x a2x im.length q2x a3x cd.length q3x a4x dt.length q4x a5x rl.length q5x ⟨nm, ex, im, cd, dt, rl⟩) := HMM.out.there
  have CP : Hid (Calls Try.prog 13 #[mV x a1x ex.length q1x a2x im.length q2x a3x cd.length q3x a4x dt.length q4x a5x rl.length q5x] W6 (IsPut W6.heap.size ⟨nm, ex, im, cd, dt, rl⟩ W6)) := by
    rw [← Hx.out]
    by_cases hc : chkM ⟨nm, ex, im, cd, dt, rl⟩ = 0
    · exact Lib.hid (put_yes HM.out hc HFI.out)
    · exact Lib.hid (put_no HM.out hc)
  clear O1 O2 O3 O4 O5 HM HFI
  obtain ⟨t0, t1, t2, t3, t4, t5⟩ := mod_cells J6.out.X
  have tlt := J6.out.X.lt
  generalize hm : (⟨nm, ex, im, cd, dt, rl⟩ : Md) = m at *
  have Hxm : Hid (bs m.name = x) := by
    rw [← hm]; exact Hx
  clear hm Hx
  unfold IsPut at CP
  by_cases hc : chkM m = 0
  case neg =>
    simp only [if_neg hc] at CP
    have hF4 := Lib.hid (show F = (4, zeroM) by rw [HFF.out, if_neg (fun h => hc h.2.1)])
    have hc' : ((chkM m : Int) != 0) = true := by simpa using hc
    clear HFF hc
    generalize ((chkM m : Nat) : Int) = ki at *
    go_upto_region 14 with (go_at_call 13; (with_reducible refine CP.out.mono ?_); rintro en w7 ⟨rfl, hb⟩; have J7 := Lib.hid (J6.out.belowS hb); clear hb t0 t1 t2 t3 t4 t5 tlt)
    have z0 := J7.out.T.cell 0
    have z1 := J7.out.T.cell 1
    simp at z0 z1
    have hX7 := Lib.hid J7.out.Z
    by_cases hE : e5 = 0
    · subst hE
      have t0 := hX7.out.cell 0
      have t1 := hX7.out.cell 1
      have t2 := hX7.out.cell 2
      have t3 := hX7.out.cell 3
      have t4 := hX7.out.cell 4
      have t5 := hX7.out.cell 5
      simp at t0 t1 t2 t3 t4 t5
      have r0 := hX7.out.frozen 0
      have r1 := hX7.out.frozen 1
      have r2 := hX7.out.frozen 2
      have r3 := hX7.out.frozen 3
      have r4 := hX7.out.frozen 4
      have r5 := hX7.out.frozen 5
      have rlt := hX7.out.lt
      have FY := Lib.hid (zero_set (hX7.out))
      have FB := Lib.hid (below_six (J7.out.B) (Nat.le_refl _) (.string ⟨#[]⟩) (.slice none 0 0) (.slice none 0 0) (.slice none 0 0) (.slice none 0 0) (.slice none 0 0))
      clear J7 J6 CP HMM
      go_wp2_with fail
      generalize (((((w7.setCell ⟨w.heap.size, 0, none⟩ (.string ⟨#[]⟩)).setCell ⟨w.heap.size, 1, none⟩ (.slice none 0 0)).setCell ⟨w.heap.size, 2, none⟩ (.slice none 0 0)).setCell ⟨w.heap.size, 3, none⟩ (.slice none 0 0)).setCell ⟨w.heap.size, 4, none⟩ (.slice none 0 0)).setCell ⟨w.heap.size, 5, none⟩ (.slice none 0 0) = WF at *
      obtain ⟨g0, g1, g2, g3, g4, g5⟩ := mod_cells FY.out
      exact bodyPost_ret (v := .tuple #[mV ⟨#[]⟩ none 0 0 none 0 0 none 0 0 none 0 0 none 0 0, .int .i64 4]) (by simp [results, Try.results18, go_sem, g0, g1, g2, g3, g4, g5]) rfl (by rw [hF4.out]; exact ⟨_, _, _, _, _, _, _, _, _, _, _, _, _, _, _, rfl, rdM_zero _ _, FB.out⟩)
    · have hE' : ((e5 : Int) != 0) = true := by simpa using hE
      have t0 := hX7.out.cell 0
      have t1 := hX7.out.cell 1
      have t2 := hX7.out.cell 2
      have t3 := hX7.out.cell 3
      have t4 := hX7.out.cell 4
      have t5 := hX7.out.cell 5
      simp at t0 t1 t2 t3 t4 t5
      have r0 := hX7.out.frozen 0
      have r1 := hX7.out.frozen 1
      have r2 := hX7.out.frozen 2
      have r3 := hX7.out.frozen 3
      have r4 := hX7.out.frozen 4
      have r5 := hX7.out.frozen 5
      have rlt := hX7.out.lt
      have FY := Lib.hid (zero_set (hX7.out))
      have FB := Lib.hid (below_six (J7.out.B) (Nat.le_refl _) (.string ⟨#[]⟩) (.slice none 0 0) (.slice none 0 0) (.slice none 0 0) (.slice none 0 0) (.slice none 0 0))
      clear J7 J6 CP HMM
      go_wp2_with fail
      generalize (((((w7.setCell ⟨w.heap.size, 0, none⟩ (.string ⟨#[]⟩)).setCell ⟨w.heap.size, 1, none⟩ (.slice none 0 0)).setCell ⟨w.heap.size, 2, none⟩ (.slice none 0 0)).setCell ⟨w.heap.size, 3, none⟩ (.slice none 0 0)).setCell ⟨w.heap.size, 4, none⟩ (.slice none 0 0)).setCell ⟨w.heap.size, 5, none⟩ (.slice none 0 0) = WF at *
      obtain ⟨g0, g1, g2, g3, g4, g5⟩ := mod_cells FY.out
      exact bodyPost_ret (v := .tuple #[mV ⟨#[]⟩ none 0 0 none 0 0 none 0 0 none 0 0 none 0 0, .int .i64 4]) (by simp [results, Try.results18, go_sem, g0, g1, g2, g3, g4, g5]) rfl (by rw [hF4.out]; exact ⟨_, _, _, _, _, _, _, _, _, _, _, _, _, _, _, rfl, rdM_zero _ _, FB.out⟩)
  simp only [if_pos hc] at CP
  go_upto_region 14 with (go_at_call 13; (with_reducible refine CP.out.mono ?_); rintro en w7 ⟨v1, rfl, own, hb⟩; obtain ⟨ap, qp, rfl⟩ := owns_form own; have J7 := Lib.hid (J6.out.belowS hb); have P7 := Lib.hid own; have M7 := Lib.hid (HMM.out.keep2 fun g _ hg => hb.block g hg); clear hb own t0 t1 t2 t3 t4 t5 tlt)
  have z0 := J7.out.T.cell 0
  have z1 := J7.out.T.cell 1
  simp at z0 z1
  have hX7 := Lib.hid J7.out.Z
  have hp1 := text_run (Reads.of_owns P7.out)
  have hp2 := text_run (HV.out.below J7.out.B)
  clear CP P7 HV HMM
  by_cases hE : e5 = 0
  case neg =>
    have hF4 := Lib.hid (show F = (4, zeroM) by rw [HFF.out, if_neg (fun h => hE h.1)])
    have hE' : ((e5 : Int) != 0) = true := by simpa using hE
    clear HFF hE
    have t0 := hX7.out.cell 0
    have t1 := hX7.out.cell 1
    have t2 := hX7.out.cell 2
    have t3 := hX7.out.cell 3
    have t4 := hX7.out.cell 4
    have t5 := hX7.out.cell 5
    simp at t0 t1 t2 t3 t4 t5
    have r0 := hX7.out.frozen 0
    have r1 := hX7.out.frozen 1
    have r2 := hX7.out.frozen 2
    have r3 := hX7.out.frozen 3
    have r4 := hX7.out.frozen 4
    have r5 := hX7.out.frozen 5
    have rlt := hX7.out.lt
    have FY := Lib.hid (zero_set (hX7.out))
    have FB := Lib.hid (below_six (J7.out.B) (Nat.le_refl _) (.string ⟨#[]⟩) (.slice none 0 0) (.slice none 0 0) (.slice none 0 0) (.slice none 0 0) (.slice none 0 0))
    clear J7 J6
    go_wp2_with fail
    generalize (((((w7.setCell ⟨w.heap.size, 0, none⟩ (.string ⟨#[]⟩)).setCell ⟨w.heap.size, 1, none⟩ (.slice none 0 0)).setCell ⟨w.heap.size, 2, none⟩ (.slice none 0 0)).setCell ⟨w.heap.size, 3, none⟩ (.slice none 0 0)).setCell ⟨w.heap.size, 4, none⟩ (.slice none 0 0)).setCell ⟨w.heap.size, 5, none⟩ (.slice none 0 0) = WF at *
    obtain ⟨g0, g1, g2, g3, g4, g5⟩ := mod_cells FY.out
    exact bodyPost_ret (v := .tuple #[mV ⟨#[]⟩ none 0 0 none 0 0 none 0 0 none 0 0 none 0 0, .int .i64 4]) (by simp [results, Try.results18, go_sem, g0, g1, g2, g3, g4, g5]) rfl (by rw [hF4.out]; exact ⟨_, _, _, _, _, _, _, _, _, _, _, _, _, _, _, rfl, rdM_zero _ _, FB.out⟩)
  subst hE
  by_cases hq : putL m = b
  case neg =>
    have hF4 := Lib.hid (show F = (4, zeroM) by rw [HFF.out, if_neg (fun h => hq h.2.2)])
    have exy : ((bs (putL m)).toList == (bs b).toList) = false := by rw [bs_toList, bs_toList]; simpa using hq
    clear HFF hq
    generalize bs (putL m) = xp at *
    generalize bs b = yp at *
    have t0 := hX7.out.cell 0
    have t1 := hX7.out.cell 1
    have t2 := hX7.out.cell 2
    have t3 := hX7.out.cell 3
    have t4 := hX7.out.cell 4
    have t5 := hX7.out.cell 5
    simp at t0 t1 t2 t3 t4 t5
    have r0 := hX7.out.frozen 0
    have r1 := hX7.out.frozen 1
    have r2 := hX7.out.frozen 2
    have r3 := hX7.out.frozen 3
    have r4 := hX7.out.frozen 4
    have r5 := hX7.out.frozen 5
    have rlt := hX7.out.lt
    have FY := Lib.hid (zero_set (hX7.out))
    have FB := Lib.hid (below_six (J7.out.B) (Nat.le_refl _) (.string ⟨#[]⟩) (.slice none 0 0) (.slice none 0 0) (.slice none 0 0) (.slice none 0 0) (.slice none 0 0))
    clear J7 J6
    go_wp2_with fail
    generalize (((((w7.setCell ⟨w.heap.size, 0, none⟩ (.string ⟨#[]⟩)).setCell ⟨w.heap.size, 1, none⟩ (.slice none 0 0)).setCell ⟨w.heap.size, 2, none⟩ (.slice none 0 0)).setCell ⟨w.heap.size, 3, none⟩ (.slice none 0 0)).setCell ⟨w.heap.size, 4, none⟩ (.slice none 0 0)).setCell ⟨w.heap.size, 5, none⟩ (.slice none 0 0) = WF at *
    obtain ⟨g0, g1, g2, g3, g4, g5⟩ := mod_cells FY.out
    exact bodyPost_ret (v := .tuple #[mV ⟨#[]⟩ none 0 0 none 0 0 none 0 0 none 0 0 none 0 0, .int .i64 4]) (by simp [results, Try.results18, go_sem, g0, g1, g2, g3, g4, g5]) rfl (by rw [hF4.out]; exact ⟨_, _, _, _, _, _, _, _, _, _, _, _, _, _, _, rfl, rdM_zero _ _, FB.out⟩)
  have hF0 := Lib.hid (show F = (0, m) by rw [HFF.out, if_pos ⟨rfl, hc, hq⟩])
  rw [show bs (putL m) = bs b by rw [hq]] at hp1
  clear HFF hc hq
  generalize bs b = yp at *
  have t0 := hX7.out.cell 0
  have t1 := hX7.out.cell 1
  have t2 := hX7.out.cell 2
  have t3 := hX7.out.cell 3
  have t4 := hX7.out.cell 4
  have t5 := hX7.out.cell 5
  simp at t0 t1 t2 t3 t4 t5
  have r0 := hX7.out.frozen 0
  have r1 := hX7.out.frozen 1
  have r2 := hX7.out.frozen 2
  have r3 := hX7.out.frozen 3
  have r4 := hX7.out.frozen 4
  have r5 := hX7.out.frozen 5
  have rlt := hX7.out.lt
  obtain ⟨z2, z3, z4, z5, z6, z7⟩ := mod_cells J7.out.X
  have zlt := J7.out.X.lt
  have FY := Lib.hid (show Whole ((((((w7.setCell ⟨w.heap.size, 0, none⟩ (.string x)).setCell ⟨w.heap.size, 1, none⟩ (.slice a1x ex.length q1x)).setCell ⟨w.heap.size, 2, none⟩ (.slice a2x im.length q2x)).setCell ⟨w.heap.size, 3, none⟩ (.slice a3x cd.length q3x)).setCell ⟨w.heap.size, 4, none⟩ (.slice a4x dt.length q4x)).setCell ⟨w.heap.size, 5, none⟩ (.slice a5x rl.length q5x)) w.heap.size 26 (mCs x a1x ex.length q1x a2x im.length q2x a3x cd.length q3x a4x dt.length q4x a5x rl.length q5x) from ((((((hX7.out.set_ 0 (.string x)).set_ 1 (.slice a1x ex.length q1x)).set_ 2 (.slice a2x im.length q2x)).set_ 3 (.slice a3x cd.length q3x)).set_ 4 (.slice a4x dt.length q4x)).set_ 5 (.slice a5x rl.length q5x)))
  have FB := Lib.hid ((((((J7.out.B.setCell (p := ⟨w.heap.size, 0, none⟩) (by simp) (.string x)).setCell (p := ⟨w.heap.size, 1, none⟩) (by simp) (.slice a1x ex.length q1x)).setCell (p := ⟨w.heap.size, 2, none⟩) (by simp) (.slice a2x im.length q2x)).setCell (p := ⟨w.heap.size, 3, none⟩) (by simp) (.slice a3x cd.length q3x)).setCell (p := ⟨w.heap.size, 4, none⟩) (by simp) (.slice a4x dt.length q4x)).setCell (p := ⟨w.heap.size, 5, none⟩) (by simp) (.slice a5x rl.length q5x))
  have FO : Hid (RdM (fun g => w.heap.size ≤ g) ((((((w7.setCell ⟨w.heap.size, 0, none⟩ (.string x)).setCell ⟨w.heap.size, 1, none⟩ (.slice a1x ex.length q1x)).setCell ⟨w.heap.size, 2, none⟩ (.slice a2x im.length q2x)).setCell ⟨w.heap.size, 3, none⟩ (.slice a3x cd.length q3x)).setCell ⟨w.heap.size, 4, none⟩ (.slice a4x dt.length q4x)).setCell ⟨w.heap.size, 5, none⟩ (.slice a5x rl.length q5x)) a1x ex.length q1x a2x im.length q2x a3x cd.length q3x a4x dt.length q4x a5x rl.length q5x m) := (M7.out.keep2 fun g hg _ => by
    have hne : g ≠ w.heap.size := by have : w.heap.size + 3 ≤ g := hg; omega
    rw [Below.heap_setCell _ _ _ _ hne, Below.heap_setCell _ _ _ _ hne, Below.heap_setCell _ _ _ _ hne, Below.heap_setCell _ _ _ _ hne, Below.heap_setCell _ _ _ _ hne, Below.heap_setCell _ _ _ _ hne]).mono fun g hg => by have : w.heap.size + 3 ≤ g := hg; omega
  clear J7 J6 hX7 M7
  go_wp2_with fail
  generalize ((((((w7.setCell ⟨w.heap.size, 0, none⟩ (.string x)).setCell ⟨w.heap.size, 1, none⟩ (.slice a1x ex.length q1x)).setCell ⟨w.heap.size, 2, none⟩ (.slice a2x im.length q2x)).setCell ⟨w.heap.size, 3, none⟩ (.slice a3x cd.length q3x)).setCell ⟨w.heap.size, 4, none⟩ (.slice a4x dt.length q4x)).setCell ⟨w.heap.size, 5, none⟩ (.slice a5x rl.length q5x)) = WF at *
  obtain ⟨g0, g1, g2, g3, g4, g5⟩ := mod_cells FY.out
  exact bodyPost_ret (v := .tuple #[mV x a1x ex.length q1x a2x im.length q2x a3x cd.length q3x a4x dt.length q4x a5x rl.length q5x, .int .i64 0]) (by simp [results, Try.results18, go_sem, g0, g1, g2, g3, g4, g5]) rfl (by rw [hF0.out, ← Hxm.out]; exact ⟨_, _, _, _, _, _, _, _, _, _, _, _, _, _, _, rfl, FO.out, FB.out⟩)
theorem refGet_any (h : Reads (· < w.heap.size) w v (u8s b)) : Calls Try.prog 18 #[v] w (IsGetR w.heap.size b w) := by
  by_cases hl : b.length ≤ 16384
  · by_cases h4 : 4 ≤ b.length
    · exact refGet_body h hl h4
    · exact refGet_short h (by omega)
  · exact refGet_long h (by omega)
end
end Go.Proofs.Ytdlinlkdielmkaa.OR

