/-
  Where a module has a fault, as the program looks for each. Nothing here is a statement of the seed.
-/
import Derived.Test.YtajidaicojekdaaValNms
import Derived.Test.YtajidaicojekdaaValPla
import Derived.Test.YtajidaicojekdaaObjCkP
set_option linter.unusedSimpArgs false
set_option linter.unusedVariables false
namespace Go.Proofs.Ytajidaicojekdaa.VR
open Go.RowKit WM NR OM OR VM
set_option maxHeartbeats 4000000
set_option maxRecDepth 10000
/-- where a module has the fault f, those ahead being nowhere -/
def wv (m : Md) : Nat → Int
  | 1 => if chkM m ≠ 0 then 0 else -1
  | 2 => nameF m
  | 3 => twiceF m
  | 4 => if m.code.length = 0 ∨ m.code.length < m.exps.length then 0 else -1
  | 5 => ff (wordB m) m.code.length
  | 6 => ff (placeB m) m.rels.length
  | 7 => ff (kindB m) m.rels.length
  | 8 => ff (whichB m) m.rels.length
  | 9 => ff (looseB m) m.code.length
  | _ => -1
theorem kind_open {m : Md} {k : Nat} (h7 : (rl m k).kind ≤ 7) : kindB m k = !openB ((rl m k).kind : Int) (((if ofD ((rl m k).kind : Int) then m.data.getD (rl m k).at_ 0 else m.code.getD (rl m k).at_ 0 : Nat)) : Int) := by
  have e := ofD_inC h7
  unfold kindB openB wantK
  rw [e]
  cases hi : inC (rl m k).kind
  · have : (rl m k).kind = 4 ∨ (rl m k).kind = 5 ∨ (rl m k).kind = 6 := by
      unfold inC at hi
      rw [decide_eq_false_iff_not] at hi
      omega
    have a1 : ¬ (((rl m k).kind : Int) = 0 ∨ ((rl m k).kind : Int) = 7) := by omega
    have a2 : ¬ (((rl m k).kind : Int) = 1 ∨ ((rl m k).kind : Int) = 2 ∨ ((rl m k).kind : Int) = 3) := by omega
    rw [if_neg a1, if_neg a2]
    simp only [Bool.not_false, if_true, Bool.false_eq_true, if_false]
    rw [← decide_not]
    exact decide_eq_decide.2 (by omega)
  · have : (rl m k).kind = 0 ∨ (rl m k).kind = 1 ∨ (rl m k).kind = 2 ∨ (rl m k).kind = 3 ∨ (rl m k).kind = 7 := by
      unfold inC at hi
      rw [decide_eq_true_eq] at hi
      exact hi
    simp only [Bool.not_true, if_true, Bool.false_eq_true, if_false]
    by_cases h0 : (rl m k).kind = 0 ∨ (rl m k).kind = 7
    · have a1 : ((rl m k).kind : Int) = 0 ∨ ((rl m k).kind : Int) = 7 := by omega
      rw [if_pos h0, if_pos a1, ← decide_not]
      exact decide_eq_decide.2 (by omega)
    · have a1 : ¬ (((rl m k).kind : Int) = 0 ∨ ((rl m k).kind : Int) = 7) := by omega
      have a2 : ((rl m k).kind : Int) = 1 ∨ ((rl m k).kind : Int) = 2 ∨ ((rl m k).kind : Int) = 3 := by omega
      rw [if_neg h0, if_neg a1, if_pos a2, ← decide_not]
      exact decide_eq_decide.2 (by omega)
theorem which_cho {m : Md} {k : Nat} : whichB m k = decide (cho (m.imps.length : Int) (m.data.length : Int) (m.code.length : Int) ((rl m k).kind : Int) ≤ ((rl m k).wh : Int)) := by
  have e : cho (m.imps.length : Int) (m.data.length : Int) (m.code.length : Int) ((rl m k).kind : Int) = (most m (rl m k).kind : Int) := by
    unfold most cho
    by_cases a1 : (rl m k).kind = 0 ∨ (rl m k).kind = 1 ∨ (rl m k).kind = 4
    · have b1 : ((rl m k).kind : Int) = 0 ∨ ((rl m k).kind : Int) = 1 ∨ ((rl m k).kind : Int) = 4 := by omega
      rw [if_pos a1, if_pos b1]
    · have b1 : ¬ (((rl m k).kind : Int) = 0 ∨ ((rl m k).kind : Int) = 1 ∨ ((rl m k).kind : Int) = 4) := by omega
      rw [if_neg a1, if_neg b1]
      by_cases a2 : (rl m k).kind = 2 ∨ (rl m k).kind = 5
      · have b2 : ((rl m k).kind : Int) = 2 ∨ ((rl m k).kind : Int) = 5 := by omega
        rw [if_pos a2, if_pos b2]
      · have b2 : ¬ (((rl m k).kind : Int) = 2 ∨ ((rl m k).kind : Int) = 5) := by omega
        rw [if_neg a2, if_neg b2]
  rw [e]
  unfold whichB
  exact decide_eq_decide.2 (by omega)
section
variable {w : World} {ea : Option Addr} {en ec : Nat} {ia : Option Addr} {im ic : Nat} {ca : Option Addr} {cn cc : Nat} {da : Option Addr} {dn dc : Nat} {ra : Option Addr} {rn rc : Nat} {m : Md}
theorem where_1 (h : RdM (· < w.heap.size) w ea en ec ia im ic ca cn cc da dn dc ra rn rc m) :
    Calls Try.prog 84 #[.int .u8 1, mV (bs m.name) ea en ec ia im ic ca cn cc da dn dc ra rn rc] w fun e w' => e = .returned (.int .i64 (wv m 1)) ∧ Below w.heap.size w w' := by
  have b0 := below_new w (.cells (mCs (bs m.name) ea en ec ia im ic ca cn cc da dn dc ra rn rc) 45)
  have HB := Lib.hid b0
  have HX := Lib.hid (Whole.new w 45 (mCs (bs m.name) ea en ec ia im ic ca cn cc da dn dc ra rn rc))
  have C1 := Lib.hid (objCheck_any (h.go b0 b0.size))
  have C2 := Lib.hid (fun b u => wholly_any b u)
  clear h b0
  unfold wv
  generalize chkM m = q at *
  generalize bs m.name = x at *
  by_cases hq : q = 0
  · subst hq
    go_enter Try.func84, Try.ntmps84
    obtain ⟨c0, c1, c2, c3, c4, c5⟩ := mod_cells HX.out
    go_wp2_with (first | (go_at_call 106; (with_reducible refine C1.out.mono ?_); rintro e w1 ⟨rfl, hb1⟩) | (go_at_call 105; (with_reducible refine (C2.out _ _).mono ?_); rintro e w2 ⟨rfl, rfl⟩))
    go_ret
    exact ⟨rfl, HB.out.trans (hb1.mono HB.out.size)⟩
  · rw [if_pos hq]
    have hq2 : ((q : Int) != 0) = true := by simpa using hq
    have hq3 : ¬ (q : Int) = 0 := by omega
    clear hq
    generalize (q : Int) = y at *
    go_enter Try.func84, Try.ntmps84
    obtain ⟨c0, c1, c2, c3, c4, c5⟩ := mod_cells HX.out
    go_wp2_with (first | (go_at_call 106; (with_reducible refine C1.out.mono ?_); rintro e w1 ⟨rfl, hb1⟩) | (go_at_call 105; (with_reducible refine (C2.out _ _).mono ?_); rintro e w2 ⟨rfl, rfl⟩))
    go_ret
    exact ⟨by first | rfl | (simp [hq3]; done), HB.out.trans (hb1.mono HB.out.size)⟩
theorem where_2 (h : RdM (· < w.heap.size) w ea en ec ia im ic ca cn cc da dn dc ra rn rc m) (hc : chkM m = 0) :
    Calls Try.prog 84 #[.int .u8 2, mV (bs m.name) ea en ec ia im ic ca cn cc da dn dc ra rn rc] w fun e w' => e = .returned (.int .i64 (wv m 2)) ∧ Below w.heap.size w w' := by
  have b0 := below_new w (.cells (mCs (bs m.name) ea en ec ia im ic ca cn cc da dn dc ra rn rc) 45)
  have HB := Lib.hid b0
  have HX := Lib.hid (Whole.new w 45 (mCs (bs m.name) ea en ec ia im ic ca cn cc da dn dc ra rn rc))
  have C1 := Lib.hid (wrongName_any (h.go b0 b0.size) hc)
  clear h b0 hc
  unfold wv
  generalize nameF m = q at *
  generalize bs m.name = x at *
  go_enter Try.func84, Try.ntmps84
  obtain ⟨c0, c1, c2, c3, c4, c5⟩ := mod_cells HX.out
  go_wp2_with (go_at_call 107; (with_reducible refine C1.out.mono ?_); rintro e w1 ⟨rfl, hb1⟩)
  go_ret
  exact ⟨rfl, HB.out.trans (hb1.mono HB.out.size)⟩
theorem where_3 (h : RdM (· < w.heap.size) w ea en ec ia im ic ca cn cc da dn dc ra rn rc m) (hc : chkM m = 0) :
    Calls Try.prog 84 #[.int .u8 3, mV (bs m.name) ea en ec ia im ic ca cn cc da dn dc ra rn rc] w fun e w' => e = .returned (.int .i64 (wv m 3)) ∧ Below w.heap.size w w' := by
  have b0 := below_new w (.cells (mCs (bs m.name) ea en ec ia im ic ca cn cc da dn dc ra rn rc) 45)
  have HB := Lib.hid b0
  have HX := Lib.hid (Whole.new w 45 (mCs (bs m.name) ea en ec ia im ic ca cn cc da dn dc ra rn rc))
  have C1 := Lib.hid (secondText_any (h.go b0 b0.size) hc)
  clear h b0 hc
  unfold wv
  generalize twiceF m = q at *
  generalize bs m.name = x at *
  go_enter Try.func84, Try.ntmps84
  obtain ⟨c0, c1, c2, c3, c4, c5⟩ := mod_cells HX.out
  go_wp2_with (go_at_call 108; (with_reducible refine C1.out.mono ?_); rintro e w1 ⟨rfl, hb1⟩)
  go_ret
  exact ⟨rfl, HB.out.trans (hb1.mono HB.out.size)⟩
theorem where_4 (h : RdM (· < w.heap.size) w ea en ec ia im ic ca cn cc da dn dc ra rn rc m) :
    Calls Try.prog 84 #[.int .u8 4, mV (bs m.name) ea en ec ia im ic ca cn cc da dn dc ra rn rc] w fun e w' => e = .returned (.int .i64 (wv m 4)) ∧ Below w.heap.size w w' := by
  have b0 := below_new w (.cells (mCs (bs m.name) ea en ec ia im ic ca cn cc da dn dc ra rn rc) 45)
  have HB := Lib.hid b0
  have HX := Lib.hid (Whole.new w 45 (mCs (bs m.name) ea en ec ia im ic ca cn cc da dn dc ra rn rc))
  have C2 := Lib.hid (fun b u => wholly_any b u)
  obtain ⟨l1, l2, l3, l4, l5⟩ := h.lens
  obtain ⟨E, hE⟩ : ∃ E, E = wv m 4 := ⟨_, rfl⟩
  rw [← hE]
  have hE2 : E = if cn = 0 ∨ cn < en then 0 else -1 := by
    rw [hE]
    show (if m.code.length = 0 ∨ m.code.length < m.exps.length then (0 : Int) else -1) = _
    rw [l1, l3]
  clear h b0 l1 l2 l3 l4 l5 hE
  generalize bs m.name = x at *
  by_cases h0 : cn = 0
  · rw [if_pos (Or.inl h0)] at hE2
    subst hE2 h0
    go_enter Try.func84, Try.ntmps84
    obtain ⟨c0, c1, c2, c3, c4, c5⟩ := mod_cells HX.out
    go_wp2_with (go_at_call 105; (with_reducible refine (C2.out _ _).mono ?_); rintro e w2 ⟨rfl, rfl⟩)
    go_ret
    exact ⟨rfl, HB.out⟩
  have h0' : (cn : Int) ≠ 0 := by omega
  by_cases h1 : cn < en
  · rw [if_pos (Or.inr h1)] at hE2
    subst hE2
    have h1' : (cn : Int) < en := by omega
    clear h0 h1
    go_enter Try.func84, Try.ntmps84
    obtain ⟨c0, c1, c2, c3, c4, c5⟩ := mod_cells HX.out
    go_wp2_with (go_at_call 105; (with_reducible refine (C2.out _ _).mono ?_); rintro e w2 ⟨rfl, rfl⟩)
    go_ret
    exact ⟨by first | rfl | (simp [h0', h1']; done), HB.out⟩
  · rw [if_neg (by omega)] at hE2
    subst hE2
    have h1' : ¬ (cn : Int) < en := by omega
    clear h0 h1
    go_enter Try.func84, Try.ntmps84
    obtain ⟨c0, c1, c2, c3, c4, c5⟩ := mod_cells HX.out
    go_wp2_with (go_at_call 105; (with_reducible refine (C2.out _ _).mono ?_); rintro e w2 ⟨rfl, rfl⟩)
    go_ret
    exact ⟨by first | rfl | (simp [h0', h1']; done), HB.out⟩
theorem where_5 (h : RdM (· < w.heap.size) w ea en ec ia im ic ca cn cc da dn dc ra rn rc m) (hf : FineM m) :
    Calls Try.prog 84 #[.int .u8 5, mV (bs m.name) ea en ec ia im ic ca cn cc da dn dc ra rn rc] w fun e w' => e = .returned (.int .i64 (wv m 5)) ∧ Below w.heap.size w w' := by
  have b0 := below_new w (.cells (mCs (bs m.name) ea en ec ia im ic ca cn cc da dn dc ra rn rc) 45)
  have HB := Lib.hid b0
  have HX := Lib.hid (Whole.new w 45 (mCs (bs m.name) ea en ec ia im ic ca cn cc da dn dc ra rn rc))
  obtain ⟨l1, l2, l3, l4, l5⟩ := h.lens
  have C1 := Lib.hid (idxWords_any (h.go b0 b0.size).cd (p := wordB m) (fun k hk u _ => isForbidden_any ((m.code.getD k 0 : Nat) : Int) (by have := hf.code _ (mem_getD (l := m.code) (d := 0) (i := k) (by omega)); omega) u))
  obtain ⟨E, hE⟩ : ∃ E, E = wv m 5 := ⟨_, rfl⟩
  rw [← hE]
  have hE2 : ff (wordB m) cn = E := by
    rw [hE]
    show _ = ff (wordB m) m.code.length
    rw [l3]
  rw [hE2] at C1
  clear h b0 hf l1 l2 l3 l4 l5 hE hE2
  generalize bs m.name = x at *
  go_enter Try.func84, Try.ntmps84
  obtain ⟨c0, c1, c2, c3, c4, c5⟩ := mod_cells HX.out
  go_wp2_with (go_at_call 109; (with_reducible refine C1.out.mono ?_); rintro e w1 ⟨rfl, hb1⟩)
  go_ret
  exact ⟨rfl, HB.out.trans (hb1.mono HB.out.size)⟩
theorem where_6 (h : RdM (· < w.heap.size) w ea en ec ia im ic ca cn cc da dn dc ra rn rc m) (hc : chkM m = 0) (hf : FineM m) :
    Calls Try.prog 84 #[.int .u8 6, mV (bs m.name) ea en ec ia im ic ca cn cc da dn dc ra rn rc] w fun e w' => e = .returned (.int .i64 (wv m 6)) ∧ Below w.heap.size w w' := by
  have b0 := below_new w (.cells (mCs (bs m.name) ea en ec ia im ic ca cn cc da dn dc ra rn rc) 45)
  have HB := Lib.hid b0
  have HX := Lib.hid (Whole.new w 45 (mCs (bs m.name) ea en ec ia im ic ca cn cc da dn dc ra rn rc))
  obtain ⟨l1, l2, l3, l4, l5⟩ := h.lens
  have C1 := Lib.hid (wrongPlace_any (h.go b0 b0.size) hc hf)
  obtain ⟨E, hE⟩ : ∃ E, E = wv m 6 := ⟨_, rfl⟩
  rw [← hE]
  have hE2 : ff (placeB m) rn = E := by
    rw [hE]
    show _ = ff (placeB m) m.rels.length
    rw [l5]
  rw [hE2] at C1
  clear h b0 hc hf l1 l2 l3 l4 l5 hE hE2
  generalize bs m.name = x at *
  go_enter Try.func84, Try.ntmps84
  obtain ⟨c0, c1, c2, c3, c4, c5⟩ := mod_cells HX.out
  go_wp2_with (go_at_call 111; (with_reducible refine C1.out.mono ?_); rintro e w1 ⟨rfl, hb1⟩)
  go_ret
  exact ⟨rfl, HB.out.trans (hb1.mono HB.out.size)⟩
theorem where_7 (h : RdM (· < w.heap.size) w ea en ec ia im ic ca cn cc da dn dc ra rn rc m) (hc : chkM m = 0) (hf : FineM m) (hpl : wv m 6 = -1) :
    Calls Try.prog 84 #[.int .u8 7, mV (bs m.name) ea en ec ia im ic ca cn cc da dn dc ra rn rc] w fun e w' => e = .returned (.int .i64 (wv m 7)) ∧ Below w.heap.size w w' := by
  have b0 := below_new w (.cells (mCs (bs m.name) ea en ec ia im ic ca cn cc da dn dc ra rn rc) 45)
  have HB := Lib.hid b0
  have X1 := Whole.new w 45 (mCs (bs m.name) ea en ec ia im ic ca cn cc da dn dc ra rn rc)
  have HX := Lib.hid X1
  obtain ⟨l1, l2, l3, l4, l5⟩ := h.lens
  have hP : ∀ k, k < m.rels.length → placeB m k = false := ff_neg.1 (by have e : ff (placeB m) m.rels.length = -1 := hpl; omega)
  have h2 := h.go b0 b0.size
  have C1 := Lib.hid (idxKinds_any h2.rl (P := w.heap.size) (p := kindB m) (fun k hk u hu => by
    have hk' : k < m.rels.length := by omega
    have h7 := kinds_7 hc hk'
    have hp := (placeB_no.1 (hP k hk')).1
    rw [kind_open h7]
    have hs := fun u' => section_any (w := u') (x := bs m.name) (ea := ea) (en := en) (ec := ec) (ia := ia) (im := im) (ic := ic) (ca := ca) (cn := cn) (cc := cc) (da := da) (dn := dn) (dc := dc) (ra := ra) (rn := rn) (rc := rc) ((rl m k).kind : Int)
    have up : ∀ g, g < (w.alloc (.cells (mCs (bs m.name) ea en ec ia im ic ca cn cc da dn dc ra rn rc) 45)).heap.size → g < u.heap.size := fun g hg => Nat.lt_of_lt_of_le hg hu.size
    have hw : ∀ l : List Nat, (∀ x ∈ l, x < 4294967296) → l.getD (rl m k).at_ 0 ≤ 4294967295 := fun l hl => by
      by_cases hlt : (rl m k).at_ < l.length
      · have := hl _ (mem_getD (l := l) (d := 0) hlt)
        omega
      · rw [List.getD_eq_getElem?_getD, List.getElem?_eq_none (by omega)]
        simp
    rw [ofD_inC h7] at hs ⊢
    cases hi : inC (rl m k).kind
    · rw [hi] at hs hp
      exact where1_aux (X1.belowS hu) _ _ _ ((h2.dt.below hu).mono up) (by rw [← l4]; exact hp) (hw _ hf.data) hs
    · rw [hi] at hs hp
      exact where1_aux (X1.belowS hu) _ _ _ ((h2.cd.below hu).mono up) (by rw [← l3]; exact hp) (hw _ hf.code) hs))
  obtain ⟨E, hE⟩ : ∃ E, E = wv m 7 := ⟨_, rfl⟩
  rw [← hE]
  have hE2 : ff (kindB m) rn = E := by
    rw [hE]
    show _ = ff (kindB m) m.rels.length
    rw [l5]
  rw [hE2] at C1
  clear h h2 X1 b0 hc hf hpl hP l1 l2 l3 l4 l5 hE hE2
  generalize bs m.name = x at *
  go_enter Try.func84, Try.ntmps84
  obtain ⟨c0, c1, c2, c3, c4, c5⟩ := mod_cells HX.out
  go_wp2_with (go_at_call 69; (with_reducible refine C1.out.mono ?_); rintro e w1 ⟨rfl, hb1⟩)
  go_ret
  exact ⟨rfl, HB.out.trans (hb1.mono HB.out.size)⟩
theorem where_8 (h : RdM (· < w.heap.size) w ea en ec ia im ic ca cn cc da dn dc ra rn rc m) (hf : FineM m) :
    Calls Try.prog 84 #[.int .u8 8, mV (bs m.name) ea en ec ia im ic ca cn cc da dn dc ra rn rc] w fun e w' => e = .returned (.int .i64 (wv m 8)) ∧ Below w.heap.size w w' := by
  have b0 := below_new w (.cells (mCs (bs m.name) ea en ec ia im ic ca cn cc da dn dc ra rn rc) 45)
  have HB := Lib.hid b0
  have X1 := Whole.new w 45 (mCs (bs m.name) ea en ec ia im ic ca cn cc da dn dc ra rn rc)
  have HX := Lib.hid X1
  obtain ⟨l1, l2, l3, l4, l5⟩ := h.lens
  have h2 := h.go b0 b0.size
  have C1 := Lib.hid (idxWhich_any h2.rl (P := w.heap.size) (p := whichB m) (fun k hk u hu => by
    have hr := hf.rels _ (mem_getD (l := m.rels) (d := ⟨0, 0, 0⟩) (i := k) (by omega))
    rw [which_cho, l2, l3, l4]
    exact where2_any (X1.belowS hu) _ _ _ (by omega) (by have := hr.2.2; omega)))
  obtain ⟨E, hE⟩ : ∃ E, E = wv m 8 := ⟨_, rfl⟩
  rw [← hE]
  have hE2 : ff (whichB m) rn = E := by
    rw [hE]
    show _ = ff (whichB m) m.rels.length
    rw [l5]
  rw [hE2] at C1
  clear h h2 X1 b0 hf l1 l2 l3 l4 l5 hE hE2
  generalize bs m.name = x at *
  go_enter Try.func84, Try.ntmps84
  obtain ⟨c0, c1, c2, c3, c4, c5⟩ := mod_cells HX.out
  go_wp2_with (go_at_call 69; (with_reducible refine C1.out.mono ?_); rintro e w1 ⟨rfl, hb1⟩)
  go_ret
  exact ⟨rfl, HB.out.trans (hb1.mono HB.out.size)⟩
theorem where_9 (h : RdM (· < w.heap.size) w ea en ec ia im ic ca cn cc da dn dc ra rn rc m) (hc : chkM m = 0) (hf : FineM m) :
    Calls Try.prog 84 #[.int .u8 9, mV (bs m.name) ea en ec ia im ic ca cn cc da dn dc ra rn rc] w fun e w' => e = .returned (.int .i64 (wv m 9)) ∧ Below w.heap.size w w' := by
  have b0 := below_new w (.cells (mCs (bs m.name) ea en ec ia im ic ca cn cc da dn dc ra rn rc) 45)
  have HB := Lib.hid b0
  have HX := Lib.hid (Whole.new w 45 (mCs (bs m.name) ea en ec ia im ic ca cn cc da dn dc ra rn rc))
  obtain ⟨l1, l2, l3, l4, l5⟩ := h.lens
  have C1 := Lib.hid (looseCall_any (h.go b0 b0.size) hc hf)
  obtain ⟨E, hE⟩ : ∃ E, E = wv m 9 := ⟨_, rfl⟩
  rw [← hE]
  have hE2 : ff (looseB m) cn = E := by
    rw [hE]
    show _ = ff (looseB m) m.code.length
    rw [l3]
  rw [hE2] at C1
  clear h b0 hc hf l1 l2 l3 l4 l5 hE hE2
  generalize bs m.name = x at *
  go_enter Try.func84, Try.ntmps84
  obtain ⟨c0, c1, c2, c3, c4, c5⟩ := mod_cells HX.out
  go_wp2_with (go_at_call 117; (with_reducible refine C1.out.mono ?_); rintro e w1 ⟨rfl, hb1⟩)
  go_ret
  exact ⟨rfl, HB.out.trans (hb1.mono HB.out.size)⟩
end
end Go.Proofs.Ytajidaicojekdaa.VR
