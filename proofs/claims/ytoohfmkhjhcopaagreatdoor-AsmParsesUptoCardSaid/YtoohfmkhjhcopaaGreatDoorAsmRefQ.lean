/-
  What the reference's Parse tells. Nothing here is a statement of the seed.
-/
import Derived.Test.YtoohfmkhjhcopaaGreatDoorAsmRefW
import Derived.Test.YtoohfmkhjhcopaaGreatDoorAsmRefN
import Derived.Test.YtoohfmkhjhcopaaGreatDoorAsmParse
import Derived.Deep.RegionHeld3
import Derived.RegionTactic
import Derived.BigRegion
set_option linter.unusedSimpArgs false
set_option linter.unusedVariables false
namespace Go.Proofs.YtoohfmkhjhcopaaGreatDoor.AF
open Go.RowKit WM IM WF IF AM NR

theorem bd_iff' {B : Nat} {a w : World} : Below B a w.drew ↔ Below B a w := ⟨fun h => ⟨h.os, h.tape, h.output, h.size, h.block⟩, fun h => h.drew⟩
theorem mn_next {l : List UInt8} {k : Int} {P : ByteArray} (h : ∀ i, pC l = some i → k ≤ i.1) (h0 : (wsOf l)[0]? = some P.data.toList) (hne : P ≠ bs (mn k)) : ∀ i, pC l = some i → k + 1 ≤ i.1 := by
  intro i hi
  have h1 := h i hi
  obtain ⟨_, h3, _, _⟩ := cand_eq hi
  rw [h0] at h3
  rcases Int.lt_or_eq_of_le h1 with h2 | h2
  · omega
  · exfalso
    apply hne
    rw [h2, ← Option.some.inj h3, bs_of]
/-! the words' registers, one after another -/
def Uf (o : Int) (j : Nat) : Bool := if j = 0 then uD o else if j = 1 then uA o else if j = 2 then uB o else uI o
def kf (o : Int) : Nat → Nat
  | 0 => 1
  | j + 1 => kf o j + b2 (Uf o j)
def rf (ws : List (List UInt8)) (o : Int) (j m : Nat) : Int := if m < j then (if Uf o m then rv ws (kf o m) else 0) else 0
def upd (r : Nat → Int) (j : Nat) (v : Int) (m : Nat) : Int := if m = j then v else r m
theorem rf_no (ws : List (List UInt8)) (o : Int) (j : Nat) (h : Uf o j = false ∨ rv ws (kf o j) = 0) : rf ws o (j + 1) = rf ws o j := by
  funext m
  unfold rf
  by_cases e : m = j
  · subst e
    have h1 : m < m + 1 := by omega
    have h2 : ¬ m < m := by omega
    rw [if_pos h1, if_neg h2]
    rcases h with h | h
    · rw [h]; rfl
    · rw [h]; split <;> rfl
  · by_cases h2 : m < j
    · have h1 : m < j + 1 := by omega
      rw [if_pos h1, if_pos h2]
    · have h1 : ¬ m < j + 1 := by omega
      rw [if_neg h1, if_neg h2]
theorem rf_yes (ws : List (List UInt8)) (o : Int) (j : Nat) (h : Uf o j = true) : rf ws o (j + 1) = upd (rf ws o j) j (rv ws (kf o j)) := by
  funext m
  unfold upd
  by_cases e : m = j
  · subst e
    have h1 : m < m + 1 := by omega
    rw [if_pos rfl]
    unfold rf
    rw [if_pos h1, h]
    rfl
  · rw [if_neg e]
    unfold rf
    by_cases h2 : m < j
    · have h1 : m < j + 1 := by omega
      rw [if_pos h1, if_pos h2]
    · have h1 : ¬ m < j + 1 := by omega
      rw [if_neg h1, if_neg h2]
theorem rf_bd (ws : List (List UInt8)) (o : Int) (j m : Nat) : 0 ≤ rf ws o j m ∧ rf ws o j m ≤ 255 := by
  unfold rf
  have := rv_bd ws (kf o m)
  split
  · split <;> omega
  · omega
theorem cand_rf (ws : List (List UInt8)) (o : Int) : cand ws o = (o, rf ws o 3 0, rf ws o 3 1, rf ws o 3 2, if uI o then nv ws (kf o 3) else 0) := rfl
structure Qs (w1 W : World) (g6 : Nat) (U : Nat → Bool) (o d a b m : Int) (r : Nat → Int) : Prop where
  below : Below w1.heap.size w1 W
  base : w1.heap.size ≤ g6
  h6 : Blk W g6 51 #[.bool (U 0), .bool (U 1), .bool (U 2), .bool (U 3)]
  h7 : Blk W (g6 + 1) 24 #[.int .u8 o, .int .u8 d, .int .u8 a, .int .u8 b, .int .i32 m]
  h9 : Blk W (g6 + 1 + 1) 61 #[.int .u8 (r 0), .int .u8 (r 1), .int .u8 (r 2)]
section
variable {w1 W : World} {g6 : Nat} {U : Nat → Bool} {o d a b m : Int} {r : Nat → Int}
theorem Qs.start {w3 : World} (hb : Below w1.heap.size w1 w3) (x0 x1 x2 x3 : Bool) (hU : U 0 = x0 ∧ U 1 = x1 ∧ U 2 = x2 ∧ U 3 = x3) (hr : r 0 = 0 ∧ r 1 = 0 ∧ r 2 = 0) :
    Qs w1 (((w3.alloc (.cells #[.bool x0, .bool x1, .bool x2, .bool x3] 51)).alloc (.cells #[.int .u8 o, .int .u8 0, .int .u8 0, .int .u8 0, .int .i32 0] 24)).alloc (.cells #[.int .u8 0, .int .u8 0, .int .u8 0] 61)) w3.heap.size U o 0 0 0 0 r := by
  obtain ⟨rfl, rfl, rfl, rfl⟩ := hU
  obtain ⟨r0, r1, r2⟩ := hr
  refine ⟨ball (ball (ball hb)), hb.size, blk_below (blk_below (Blk.new _ _ _) (below_new _ _)) (below_new _ _), ?_, ?_⟩
  · have h := blk_below (Blk.new (w3.alloc (.cells #[.bool (U 0), .bool (U 1), .bool (U 2), .bool (U 3)] 51)) 24 #[.int .u8 o, .int .u8 0, .int .u8 0, .int .u8 0, .int .i32 0]) (below_new _ (.cells #[.int .u8 0, .int .u8 0, .int .u8 0] 61))
    simpa using h
  · rw [r0, r1, r2]
    have h := Blk.new ((w3.alloc (.cells #[.bool (U 0), .bool (U 1), .bool (U 2), .bool (U 3)] 51)).alloc (.cells #[.int .u8 o, .int .u8 0, .int .u8 0, .int .u8 0, .int .i32 0] 24)) 61 #[.int .u8 0, .int .u8 0, .int .u8 0]
    simpa using h
theorem Qs.load6 (h : Qs w1 W g6 U o d a b m r) (j : Nat) (hj : j ≤ 3) : W.cell? ⟨g6, j, none⟩ = some (.bool (U j)) := by
  rw [h.h6.cell j]
  have : j = 0 ∨ j = 1 ∨ j = 2 ∨ j = 3 := by omega
  rcases this with rfl | rfl | rfl | rfl <;> rfl
theorem Qs.load9 (h : Qs w1 W g6 U o d a b m r) (j : Nat) (hj : j < 3) : W.cell? ⟨g6 + 1 + 1, j, none⟩ = some (.int .u8 (r j)) := by
  rw [h.h9.cell j]
  have : j = 0 ∨ j = 1 ∨ j = 2 := by omega
  rcases this with rfl | rfl | rfl <;> rfl
theorem Qs.store9 (h : Qs w1 W g6 U o d a b m r) (j : Nat) (hj : j < 3) (v : Int) : Qs w1 (W.setCell ⟨g6 + 1 + 1, j, none⟩ (.int .u8 v)) g6 U o d a b m (upd r j v) := by
  refine ⟨bset h.below (by have := h.base; simp; omega), h.base, blk_other h.h6 _ _ (by simp; omega), blk_other h.h7 _ _ (by simp), ?_⟩
  have h9 := h.h9.set_ j (.int .u8 v)
  have : j = 0 ∨ j = 1 ∨ j = 2 := by omega
  rcases this with rfl | rfl | rfl <;> simpa [upd] using h9
end
section
variable {w1 W : World} {g6 : Nat} {U : Nat → Bool} {o d a b m : Int} {r : Nat → Int}
theorem Qs.drew (h : Qs w1 W g6 U o d a b m r) : Qs w1 W.drew g6 U o d a b m r := ⟨h.below.drew, h.base, h.h6, h.h7, h.h9⟩
theorem Qs.fill (h : Qs w1 W g6 U o d a b m r) (x y z : Int) : Qs w1 (((W.setCell ⟨g6 + 1, 1, none⟩ (.int .u8 x)).setCell ⟨g6 + 1, 2, none⟩ (.int .u8 y)).setCell ⟨g6 + 1, 3, none⟩ (.int .u8 z)) g6 U o x y z m r := by
  have hb := h.base
  refine ⟨bset (bset (bset h.below (by simp; omega)) (by simp; omega)) (by simp; omega), hb, blk_other (blk_other (blk_other h.h6 _ _ (by simp)) _ _ (by simp)) _ _ (by simp), ?_, blk_other (blk_other (blk_other h.h9 _ _ (by simp)) _ _ (by simp)) _ _ (by simp)⟩
  have h7 := ((h.h7.set_ 1 (.int .u8 x)).set_ 2 (.int .u8 y)).set_ 3 (.int .u8 z)
  simpa using h7
theorem Qs.imm (h : Qs w1 W g6 U o d a b m r) (v : Int) : Qs w1 (W.setCell ⟨g6 + 1, 4, none⟩ (.int .i32 v)) g6 U o d a b v r := by
  have hb := h.base
  refine ⟨bset h.below (by simp; omega), hb, blk_other h.h6 _ _ (by simp), ?_, blk_other h.h9 _ _ (by simp)⟩
  have h7 := h.h7.set_ 4 (.int .i32 v)
  simpa using h7
end
theorem cand_hit {l : List UInt8} {k : Int} (hk : 0 ≤ k) (h : chkI (cand (wsOf l) k) = 0) (h2 : prI (cand (wsOf l) k) = l) : pC l = some (cand (wsOf l) k) := by
  refine pC_iff.2 ⟨(chkI_ok hk ?_ ?_ ?_).1 h, h2⟩
  · show 0 ≤ (if uD k then rv (wsOf l) 1 else 0); split; exact (rv_bd _ _).1; omega
  · show 0 ≤ (if uA k then rv (wsOf l) (kA k) else 0); split; exact (rv_bd _ _).1; omega
  · show 0 ≤ (if uB k then rv (wsOf l) (kB k) else 0); split; exact (rv_bd _ _).1; omega
theorem cand_next {l : List UInt8} {k : Int} (h : ∀ i, pC l = some i → k ≤ i.1) (hno : chkI (cand (wsOf l) k) = 0 → prI (cand (wsOf l) k) ≠ l) : ∀ i, pC l = some i → k + 1 ≤ i.1 := by
  intro i hi
  have h1 := h i hi
  obtain ⟨h2, _, h4, h5⟩ := cand_eq hi
  rcases Int.lt_or_eq_of_le h1 with h3 | h3
  · omega
  · exfalso
    rw [← h3] at h2
    refine hno ?_ ?_
    · rw [h2]
      have h4' := h4
      unfold iOk InsOk at h4'
      exact (chkI_ok (by omega) (by omega) (by omega) (by omega)).2 h4
    · rw [h2]; exact h5
theorem ws_len : ∀ (n : Nat) (l : List UInt8), l.length ≤ n → ∀ q ∈ wsOf l, q.length ≤ n
  | n, l, hn, q, hq => by
    by_cases h : (32 : UInt8) ∈ l
    · rw [ws_yes h] at hq
      rcases List.mem_cons.1 hq with rfl | hq
      · exact Nat.le_trans (pre_len _ _) hn
      · have := post_lt h
        exact ws_len n (post 32 l) (by omega) q hq
    · rw [ws_no h] at hq
      rw [List.mem_singleton.1 hq]
      exact hn
termination_by n l => l.length
theorem cand_fit (ws : List (List UInt8)) {k : Int} (hk : 0 ≤ k ∧ k ≤ 255) : Fit (cand ws k).1 (cand ws k).2.1 (cand ws k).2.2.1 (cand ws k).2.2.2.1 (cand ws k).2.2.2.2 := by
  have d := rf_bd ws k 3 0
  have a := rf_bd ws k 3 1
  have b := rf_bd ws k 3 2
  have m : -2147483648 ≤ (if uI k then nv ws (kf k 3) else 0) ∧ (if uI k then nv ws (kf k 3) else 0) ≤ 2147483647 := by
    split
    · exact nv_bd _ _
    · omega
  rw [cand_rf]
  unfold Fit
  exact ⟨hk, d, a, b, m⟩
set_option maxHeartbeats 4000000 in
set_option maxRecDepth 100000 in
theorem refParseX (l : List UInt8) (hl : l.length ≤ 1048576) (w : World) :
    Calls Tryz.prog 14 #[.string (bs l)] w fun e w' => e = .returned (parV (pC l)) ∧ Below w.heap.size w w' := by
  have CW := words_any l hl
  have HI := Lib.hid (show ∀ i, pC l = some i → (0 : Int) ≤ i.1 from fun i hi => by obtain ⟨_, _, h, _⟩ := cand_eq hi; exact h.1)
  generalize hS : bs l = S at *
  have HS := Lib.hid hS
  clear hS
  go_enter Tryz.func14, Tryz.ntmps14
  go_wp2_with (go_at_call 27; refine (CW _).mono ?_; rintro e w1 ⟨v, rfl, hrow, hb⟩)
  obtain ⟨g, off, cap, rfl, hg, hcap, hcm, hcell⟩ := (Reads.of_owns hrow).there.cells (by intro h; have := congrArg List.length h; rw [strs_len] at this; exact ws_ne l (List.length_eq_zero_iff.1 this))
  obtain ⟨⟨hg0, _⟩, hg1⟩ := hg
  have hR0 := blk_below (Blk.new w 24 #[.int .u8 0, .int .u8 0, .int .u8 0, .int .u8 0, .int .i32 0]) hb
  have hwb := end_alloc hb
  rw [strs_len] at *
  clear hrow hb
  unfold maxLen at hcm
  have HC : Hid (∀ (j : Nat) (p : List UInt8), (wsOf l)[j]? = some p → ∀ u, Below w1.heap.size w1 u → u.cell? ⟨g, off + j, none⟩ = some (.string (bs p))) := fun j p hj u hu => by
    have hjl : j < (wsOf l).length := by
      rcases Nat.lt_or_ge j (wsOf l).length with h | h
      · exact h
      · rw [List.getElem?_eq_none h] at hj; cases hj
    refine (hu.cell (p := ⟨g, off + j, none⟩) hg1).trans ?_
    rw [hcell j hjl]
    unfold strs
    rw [List.getElem?_map, hj]
    rfl
  obtain ⟨p0, hp0⟩ : ∃ p0, (wsOf l)[0]? = some p0 := by
    cases h : wsOf l with
    | nil => exact absurd h (ws_ne l)
    | cons a b => exact ⟨a, rfl⟩
  have hn0 : 0 < (wsOf l).length := List.length_pos_iff.2 (ws_ne l)
  have hnm : ∀ q ∈ wsOf l, q.length ≤ 1048576 := ws_len 1048576 l hl
  have HNM := Lib.hid hnm
  clear hcell CW hnm
  have HP0 := Lib.hid hp0
  clear hp0
  generalize hN : (wsOf l).length = N at *
  have HN := Lib.hid hN
  clear hN
  go_loopw [5] (fun o wr => ∃ k : Int, o = .int .u8 k ∧ 0 ≤ k ∧ k ≤ 22 ∧ Hid (∀ i, pC l = some i → k ≤ i.1) ∧ Below w1.heap.size w1 wr) (fun o _ => 22 - (intOf o).toNat)
  case atStart => exact ⟨0, rfl, by omega, by omega, HI, Below.refl _ _⟩
  case round =>
    obtain ⟨k, rfl, hk0, hk1, HK, hbr⟩ := hrel
    by_cases hk : k ≤ 21
    · have hc0 : wr.cell? ⟨g, off, none⟩ = some (.string (bs p0)) := HC.out 0 p0 HP0.out _ hbr
      have CM := Lib.hid (refMnem_any k (by omega))
      have HC0 : Hid (∀ u, Below w1.heap.size w1 u → u.cell? ⟨g, off, none⟩ = some (.string (bs p0))) := fun u hu => HC.out 0 p0 HP0.out u hu
      by_cases e : bs p0 = bs (mn k)
      · have heq : ((bs p0).toList == (bs (mn k)).toList) = true := by rw [e]; simp
        have HE := Lib.hid e
        have CU0 := refUses_any k (by omega)
        clear e
        generalize bs p0 = P0 at *
        generalize bs (mn k) = M at *
        have hU : Hid (Uf k 0 = uD k ∧ Uf k 1 = uA k ∧ Uf k 2 = uB k ∧ Uf k 3 = uI k) := ⟨rfl, rfl, rfl, rfl⟩
        generalize uD k = x0 at *
        generalize uA k = x1 at *
        generalize uB k = x2 at *
        generalize uI k = x3 at *
        have CU := Lib.hid CU0
        clear CU0
        go_wp2_with fail
        go_region_held3 (fun u => u.cell? ⟨g, off, none⟩ = some (.string P0) ∧ Below w1.heap.size w1 u)
          (first | (simp [*, bd_iff']; done) | (simp [*, bd_iff']; omega))
          (first | (go_at_call 11; refine (inw CM.out w1 _ (by simp [*, bd_iff'])).mono ?_; rintro e w2 ⟨rfl, hb2⟩; have hc2 : w2.cell? ⟨g, off, none⟩ = some (.string P0) := HC0.out _ hb2))
        go_wp2_with (go_at_call 24; refine (inw CU.out w1 _ hb2).mono ?_; rintro e w3 ⟨rfl, hb3⟩)
        have hQ0 := Qs.start (o := k) (U := Uf k) (r := rf (wsOf l) k 0) hb3 x0 x1 x2 x3 hU.out ⟨rfl, rfl, rfl⟩
        have hst : w1.heap.size ≤ w3.heap.size := hb3.size
        clear hb2 hc2 hb3 hc0
        go_loopw [8, 10] (fun kk n wr => ∃ (j q : Nat), j ≤ 3 ∧ q ≤ j + 1 ∧ n = .int .i64 (j : Int) ∧ kk = .int .i64 (q : Int) ∧ Hid (q = kf k j) ∧ Qs w1 wr w3.heap.size (Uf k) k 0 0 0 0 (rf (wsOf l) k j)) (fun _ n _ => 3 - (intOf n).toNat)
        case atStart => exact ⟨0, 1, by omega, by omega, rfl, rfl, rfl, hQ0⟩
        case round =>
          obtain ⟨j, q, hj, hq, rfl, rfl, HQ, hQ⟩ := hrel
          by_cases hj3 : j < 3
          · have hj3' : (j : Int) < 3 := by omega
            have l6 := hQ.load6 j (by omega)
            have l9 := hQ.load9 j hj3
            have f9 : ∀ i, wr.frozen? ⟨w3.heap.size + 1 + 1, i, none⟩ = false := hQ.h9.frozen
            have HQs := Lib.hid hQ
            have hbw := hQ.below
            clear hQ0 hQ
            cases hu : Uf k j with
            | false =>
              rw [hu] at l6
              have HX := Lib.hid (show kf k (j + 1) = kf k j by show kf k j + b2 (Uf k j) = _; rw [hu]; rfl)
              have HRR := Lib.hid (rf_no (wsOf l) k j (Or.inl hu))
              go_wp2_with fail
              exact ⟨⟨j + 1, q, by omega, by omega, by go_num, rfl, by show _ = _; rw [HX.out]; exact HQ.out, by rw [HRR.out]; exact HQs.out⟩, by simp [intOf]; omega⟩
            | true =>
              rw [hu] at l6
              have HX := Lib.hid (show kf k (j + 1) = kf k j + 1 by show kf k j + b2 (Uf k j) = _; rw [hu]; rfl)
              have HRR := Lib.hid (rf_yes (wsOf l) k j hu)
              by_cases hqN : q < N
              · have hqN' : (q : Int) < N := by omega
                have hql : q < (wsOf l).length := by rw [HN.out]; exact hqN
                have hpq : (wsOf l)[q]? = some (wsOf l)[q] := List.getElem?_eq_getElem hql
                have hcq := HC.out q _ hpq wr hbw
                have hpl := HNM.out _ (List.getElem_mem hql)
                by_cases h2 : (bs (wsOf l)[q]).size = 2
                · have h2' : (((bs (wsOf l)[q]).size : Int) == 2) = true := by rw [h2]; rfl
                  have h21 : 1 < (bs (wsOf l)[q]).size := by omega
                  have hv : Hid (((bt (bs (wsOf l)[q]) 1) - 48) % 256 = rv (wsOf l) (kf k j)) := by
                    show _ = _
                    rw [← HQ.out]
                    unfold rv bt
                    rw [hpq]
                    simp only
                    rw [if_pos (by rw [← bs_size]; exact h2), bs_list]
                  have hbt := bt_at (bs (wsOf l)[q]) 1 h21
                  clear hpq hpl
                  generalize bs (wsOf l)[q] = P at *
                  go_wp2_with fail
                  exact ⟨⟨j + 1, q + 1, by omega, by omega, by go_num, by go_num, by show _ = _; rw [HX.out, ← HQ.out], by rw [HRR.out, ← hv.out]; exact HQs.out.store9 j hj3 _⟩, by simp [intOf]; omega⟩
                · have h2' : (((bs (wsOf l)[q]).size : Int) == 2) = false := by simp; omega
                  have HR2 := Lib.hid (rf_no (wsOf l) k j (Or.inr (by
                    rw [← HQ.out]
                    unfold rv
                    rw [hpq]
                    simp only
                    rw [if_neg (by rw [← bs_size]; exact h2)])))
                  clear hpq hpl h2
                  generalize bs (wsOf l)[q] = P at *
                  go_wp2_with fail
                  exact ⟨⟨j + 1, q + 1, by omega, by omega, by go_num, by go_num, by show _ = _; rw [HX.out, ← HQ.out], by rw [HR2.out]; exact HQs.out⟩, by simp [intOf]; omega⟩
              · have hqN' : ¬ (q : Int) < N := by omega
                have HR2 := Lib.hid (rf_no (wsOf l) k j (Or.inr (by
                  rw [← HQ.out]
                  unfold rv
                  rw [List.getElem?_eq_none (by rw [HN.out]; omega)])))
                go_wp2_with fail
                exact ⟨⟨j + 1, q + 1, by omega, by omega, by go_num, by go_num, by show _ = _; rw [HX.out, ← HQ.out], by rw [HR2.out]; exact HQs.out⟩, by simp [intOf]; omega⟩
          · obtain rfl : j = 3 := by omega
            have a0 := hQ.load9 0 (by omega)
            have a1 := hQ.load9 1 (by omega)
            have a2 := hQ.load9 2 (by omega)
            obtain ⟨⟨c0, c1, c2, c3, c4⟩, f7, hl7⟩ := blk5 hQ.h7
            have l63 := hQ.load6 3 (by omega)
            have HQs := Lib.hid hQ
            have hbw := hQ.below
            clear hQ0 hQ
            obtain ⟨r0, e0⟩ : ∃ x, x = rf (wsOf l) k 3 0 := ⟨_, rfl⟩
            obtain ⟨r1, e1⟩ : ∃ x, x = rf (wsOf l) k 3 1 := ⟨_, rfl⟩
            obtain ⟨r2, e2⟩ : ∃ x, x = rf (wsOf l) k 3 2 := ⟨_, rfl⟩
            have hcand0 := Lib.hid (show cand (wsOf l) k = (k, r0, r1, r2, if Uf k 3 then nv (wsOf l) q else 0) by rw [cand_rf, e0, e1, e2, HQ.out]; rfl)
            rw [← e0] at a0
            rw [← e1] at a1
            rw [← e2] at a2
            have HF := Lib.hid (HQs.out.fill r0 r1 r2).drew
            clear e0 e1 e2
            go_wp2_with fail
            go_region
            generalize (((wr.setCell ⟨w3.heap.size + 1, 1, none⟩ (.int .u8 r0)).setCell ⟨w3.heap.size + 1, 2, none⟩ (.int .u8 r1)).setCell ⟨w3.heap.size + 1, 3, none⟩ (.int .u8 r2)).drew = wq at *
            clear a0 a1 a2 c0 c1 c2 c3 c4 f7 hl7 l63 HQs hbw
            have l63 := HF.out.load6 3 (by omega)
            obtain ⟨⟨c0, c1, c2, c3, c4⟩, f7, hl7⟩ := blk5 HF.out.h7
            have hbq := HF.out.below
            cases hu : Uf k 3 with
            | false =>
              rw [hu] at l63
              have hcand := Lib.hid (show cand (wsOf l) k = (k, r0, r1, r2, 0) by rw [hcand0.out, hu]; rfl)
              have CP := Lib.hid (show Says Tryz.prog 9 #[insV k r0 r1 r2 0] (.tuple #[.string (bs (prK (cand (wsOf l) k))), .int .i64 (chkI (cand (wsOf l) k))]) by have C := refPrint_any (cand (wsOf l) k) (cand_fit (wsOf l) (by omega)); rw [hcand.out] at C ⊢; exact C)
              by_cases hchk : chkI (cand (wsOf l) k) = 0
              · by_cases hpr : prI (cand (wsOf l) k) = l
                · have hpc := Lib.hid (cand_hit hk0 hchk hpr)
                  have hprk : bs (prK (cand (wsOf l) k)) = S := by unfold prK; rw [if_pos hchk, hpr]; exact HS.out
                  rw [hchk, hprk] at CP
                  clear hchk hpr hprk
                  have hSS : (S.toList == S.toList) = true := by simp
                  go_wp2_with (first | (go_at_call 9; refine (CP.out _).mono ?_; rintro e w4 ⟨rfl, hb4⟩; have hbn := btr HF.out.below hb4; have hI4 := blk_below HF.out.h7 hb4; obtain ⟨⟨d0, d1, d2, d3, d4⟩, fd, ld⟩ := blk5 hI4; have hR4 := blk_below hR0 hbn; obtain ⟨⟨e0, e1, e2, e3, e4⟩, fe, le⟩ := blk5 hR4))
                  rw [hpc.out, hcand.out]
                  refine bodyPost_ret (results_ins (x0 := .int .u8 k) (x1 := .int .u8 r0) (x2 := .int .u8 r1) (x3 := .int .u8 r2) (x4 := .int .i32 0) (v := .int .i64 0) rfl rfl rfl ?_) rfl ⟨rfl, ?_⟩
                  · exact (fin5 (btr hwb hbn) hR4 _ _ _ _ _).1
                  · exact (fin5 (btr hwb hbn) hR4 _ _ _ _ _).2
                · have HK2 := Lib.hid (cand_next HK.out (fun _ => hpr))
                  have hT : ((bs (prK (cand (wsOf l) k))).toList == S.toList) = false := by
                    unfold prK
                    rw [if_pos hchk, ← HS.out, bs_toList, bs_toList]
                    simpa using hpr
                  rw [hchk] at CP
                  clear hchk hpr
                  generalize bs (prK (cand (wsOf l) k)) = X at *
                  go_wp2_with (first | (go_at_call 9; refine (CP.out _).mono ?_; rintro e w4 ⟨rfl, hb4⟩; have hbn := btr HF.out.below hb4; have hI4 := blk_below HF.out.h7 hb4; obtain ⟨⟨d0, d1, d2, d3, d4⟩, fd, ld⟩ := blk5 hI4; have hR4 := blk_below hR0 hbn; obtain ⟨⟨e0, e1, e2, e3, e4⟩, fe, le⟩ := blk5 hR4))
                  exact ⟨⟨k + 1, rfl, by omega, by omega, HK2, hbn⟩, by simp [intOf]; omega⟩
              · have HK2 := Lib.hid (cand_next HK.out (fun h => absurd h hchk))
                have hT : (chkI (cand (wsOf l) k) == 0) = false := by simpa using hchk
                clear hchk
                generalize bs (prK (cand (wsOf l) k)) = X at *
                generalize chkI (cand (wsOf l) k) = KK at *
                go_wp2_with (first | (go_at_call 9; refine (CP.out _).mono ?_; rintro e w4 ⟨rfl, hb4⟩; have hbn := btr HF.out.below hb4; have hI4 := blk_below HF.out.h7 hb4; obtain ⟨⟨d0, d1, d2, d3, d4⟩, fd, ld⟩ := blk5 hI4; have hR4 := blk_below hR0 hbn; obtain ⟨⟨e0, e1, e2, e3, e4⟩, fe, le⟩ := blk5 hR4))
                exact ⟨⟨k + 1, rfl, by omega, by omega, HK2, hbn⟩, by simp [intOf]; omega⟩
            | true =>
              rw [hu] at l63
              by_cases hqN : q < N
              · have hqN' : (q : Int) < N := by omega
                have hql : q < (wsOf l).length := by rw [HN.out]; exact hqN
                have hpq : (wsOf l)[q]? = some (wsOf l)[q] := List.getElem?_eq_getElem hql
                have hcq := HC.out q _ hpq wq hbq
                have CN := Lib.hid (number_any ((wsOf l)[q]) (HNM.out _ (List.getElem_mem hql)))
                have hcand1 : cand (wsOf l) k = (k, r0, r1, r2, num ((wsOf l)[q])) := by
                  rw [hcand0.out, hu]
                  unfold nv
                  rw [hpq]
                  rfl
                have hcand := Lib.hid hcand1
                clear hcand1 hpq
                generalize bs (wsOf l)[q] = P at *
                generalize num ((wsOf l)[q]) = v4 at *
                have HF4 := Lib.hid (HF.out.imm v4)
                have CP := Lib.hid (show Says Tryz.prog 9 #[insV k r0 r1 r2 v4] (.tuple #[.string (bs (prK (cand (wsOf l) k))), .int .i64 (chkI (cand (wsOf l) k))]) by have C := refPrint_any (cand (wsOf l) k) (cand_fit (wsOf l) (by omega)); rw [hcand.out] at C ⊢; exact C)
                by_cases hchk : chkI (cand (wsOf l) k) = 0
                · by_cases hpr : prI (cand (wsOf l) k) = l
                  · have hpc := Lib.hid (cand_hit hk0 hchk hpr)
                    have hprk : bs (prK (cand (wsOf l) k)) = S := by unfold prK; rw [if_pos hchk, hpr]; exact HS.out
                    rw [hchk, hprk] at CP
                    clear hchk hpr hprk
                    have hSS : (S.toList == S.toList) = true := by simp
                    go_wp2_with (first | (go_at_call 28; refine (CN.out _).mono ?_; rintro e w9 ⟨rfl, rfl⟩) | (go_at_call 9; refine (CP.out _).mono ?_; rintro e w4 ⟨rfl, hb4⟩; have hbn := btr HF4.out.below hb4; have hI4 := blk_below HF4.out.h7 hb4; obtain ⟨⟨d0, d1, d2, d3, d4⟩, fd, ld⟩ := blk5 hI4; have hR4 := blk_below hR0 hbn; obtain ⟨⟨e0, e1, e2, e3, e4⟩, fe, le⟩ := blk5 hR4))
                    rw [hpc.out, hcand.out]
                    refine bodyPost_ret (results_ins (x0 := .int .u8 k) (x1 := .int .u8 r0) (x2 := .int .u8 r1) (x3 := .int .u8 r2) (x4 := .int .i32 v4) (v := .int .i64 0) rfl rfl rfl ?_) rfl ⟨rfl, ?_⟩
                    · exact (fin5 (btr hwb hbn) hR4 _ _ _ _ _).1
                    · exact (fin5 (btr hwb hbn) hR4 _ _ _ _ _).2
                  · have HK2 := Lib.hid (cand_next HK.out (fun _ => hpr))
                    have hT : ((bs (prK (cand (wsOf l) k))).toList == S.toList) = false := by
                      unfold prK
                      rw [if_pos hchk, ← HS.out, bs_toList, bs_toList]
                      simpa using hpr
                    rw [hchk] at CP
                    clear hchk hpr
                    generalize bs (prK (cand (wsOf l) k)) = X at *
                    go_wp2_with (first | (go_at_call 28; refine (CN.out _).mono ?_; rintro e w9 ⟨rfl, rfl⟩) | (go_at_call 9; refine (CP.out _).mono ?_; rintro e w4 ⟨rfl, hb4⟩; have hbn := btr HF4.out.below hb4; have hI4 := blk_below HF4.out.h7 hb4; obtain ⟨⟨d0, d1, d2, d3, d4⟩, fd, ld⟩ := blk5 hI4; have hR4 := blk_below hR0 hbn; obtain ⟨⟨e0, e1, e2, e3, e4⟩, fe, le⟩ := blk5 hR4))
                    exact ⟨⟨k + 1, rfl, by omega, by omega, HK2, hbn⟩, by simp [intOf]; omega⟩
                · have HK2 := Lib.hid (cand_next HK.out (fun h => absurd h hchk))
                  have hT : (chkI (cand (wsOf l) k) == 0) = false := by simpa using hchk
                  clear hchk
                  generalize bs (prK (cand (wsOf l) k)) = X at *
                  generalize chkI (cand (wsOf l) k) = KK at *
                  go_wp2_with (first | (go_at_call 28; refine (CN.out _).mono ?_; rintro e w9 ⟨rfl, rfl⟩) | (go_at_call 9; refine (CP.out _).mono ?_; rintro e w4 ⟨rfl, hb4⟩; have hbn := btr HF4.out.below hb4; have hI4 := blk_below HF4.out.h7 hb4; obtain ⟨⟨d0, d1, d2, d3, d4⟩, fd, ld⟩ := blk5 hI4; have hR4 := blk_below hR0 hbn; obtain ⟨⟨e0, e1, e2, e3, e4⟩, fe, le⟩ := blk5 hR4))
                  exact ⟨⟨k + 1, rfl, by omega, by omega, HK2, hbn⟩, by simp [intOf]; omega⟩
              · have hqN' : ¬ (q : Int) < N := by omega
                have hcand := Lib.hid (show cand (wsOf l) k = (k, r0, r1, r2, 0) by
                  rw [hcand0.out, hu]
                  unfold nv
                  rw [List.getElem?_eq_none (by rw [HN.out]; omega)]
                  rfl)
                have CP := Lib.hid (show Says Tryz.prog 9 #[insV k r0 r1 r2 0] (.tuple #[.string (bs (prK (cand (wsOf l) k))), .int .i64 (chkI (cand (wsOf l) k))]) by have C := refPrint_any (cand (wsOf l) k) (cand_fit (wsOf l) (by omega)); rw [hcand.out] at C ⊢; exact C)
                by_cases hchk : chkI (cand (wsOf l) k) = 0
                · by_cases hpr : prI (cand (wsOf l) k) = l
                  · have hpc := Lib.hid (cand_hit hk0 hchk hpr)
                    have hprk : bs (prK (cand (wsOf l) k)) = S := by unfold prK; rw [if_pos hchk, hpr]; exact HS.out
                    rw [hchk, hprk] at CP
                    clear hchk hpr hprk
                    have hSS : (S.toList == S.toList) = true := by simp
                    go_wp2_with (first | (go_at_call 9; refine (CP.out _).mono ?_; rintro e w4 ⟨rfl, hb4⟩; have hbn := btr HF.out.below hb4; have hI4 := blk_below HF.out.h7 hb4; obtain ⟨⟨d0, d1, d2, d3, d4⟩, fd, ld⟩ := blk5 hI4; have hR4 := blk_below hR0 hbn; obtain ⟨⟨e0, e1, e2, e3, e4⟩, fe, le⟩ := blk5 hR4))
                    rw [hpc.out, hcand.out]
                    refine bodyPost_ret (results_ins (x0 := .int .u8 k) (x1 := .int .u8 r0) (x2 := .int .u8 r1) (x3 := .int .u8 r2) (x4 := .int .i32 0) (v := .int .i64 0) rfl rfl rfl ?_) rfl ⟨rfl, ?_⟩
                    · exact (fin5 (btr hwb hbn) hR4 _ _ _ _ _).1
                    · exact (fin5 (btr hwb hbn) hR4 _ _ _ _ _).2
                  · have HK2 := Lib.hid (cand_next HK.out (fun _ => hpr))
                    have hT : ((bs (prK (cand (wsOf l) k))).toList == S.toList) = false := by
                      unfold prK
                      rw [if_pos hchk, ← HS.out, bs_toList, bs_toList]
                      simpa using hpr
                    rw [hchk] at CP
                    clear hchk hpr
                    generalize bs (prK (cand (wsOf l) k)) = X at *
                    go_wp2_with (first | (go_at_call 9; refine (CP.out _).mono ?_; rintro e w4 ⟨rfl, hb4⟩; have hbn := btr HF.out.below hb4; have hI4 := blk_below HF.out.h7 hb4; obtain ⟨⟨d0, d1, d2, d3, d4⟩, fd, ld⟩ := blk5 hI4; have hR4 := blk_below hR0 hbn; obtain ⟨⟨e0, e1, e2, e3, e4⟩, fe, le⟩ := blk5 hR4))
                    exact ⟨⟨k + 1, rfl, by omega, by omega, HK2, hbn⟩, by simp [intOf]; omega⟩
                · have HK2 := Lib.hid (cand_next HK.out (fun h => absurd h hchk))
                  have hT : (chkI (cand (wsOf l) k) == 0) = false := by simpa using hchk
                  clear hchk
                  generalize bs (prK (cand (wsOf l) k)) = X at *
                  generalize chkI (cand (wsOf l) k) = KK at *
                  go_wp2_with (first | (go_at_call 9; refine (CP.out _).mono ?_; rintro e w4 ⟨rfl, hb4⟩; have hbn := btr HF.out.below hb4; have hI4 := blk_below HF.out.h7 hb4; obtain ⟨⟨d0, d1, d2, d3, d4⟩, fd, ld⟩ := blk5 hI4; have hR4 := blk_below hR0 hbn; obtain ⟨⟨e0, e1, e2, e3, e4⟩, fe, le⟩ := blk5 hR4))
                  exact ⟨⟨k + 1, rfl, by omega, by omega, HK2, hbn⟩, by simp [intOf]; omega⟩
      · have HK2 := Lib.hid (mn_next HK.out (P := bs p0) (by rw [bs_list]; exact HP0.out) e)
        have hne : ((bs p0).toList == (bs (mn k)).toList) = false := by
          rw [bs_toList, bs_toList]
          simpa using fun h : p0 = mn k => e (by rw [h])
        clear e
        generalize bs p0 = P0 at *
        generalize bs (mn k) = M at *
        go_wp2_with fail
        go_region_held3 (fun u => u.cell? ⟨g, off, none⟩ = some (.string P0) ∧ Below w1.heap.size w1 u)
          (first | (simp [*, bd_iff']; done) | (simp [*, bd_iff']; omega))
          (first | (go_at_call 11; refine (inw CM.out w1 _ (by simp [*, bd_iff'])).mono ?_; rintro e w2 ⟨rfl, hb2⟩; have hc2 : w2.cell? ⟨g, off, none⟩ = some (.string P0) := HC0.out _ hb2))
        go_wp2_with fail
        exact ⟨⟨k + 1, rfl, by omega, by omega, HK2, hb2⟩, by simp [intOf]; omega⟩
    · obtain rfl : k = 22 := by omega
      have hno : pC l = none := by
        cases h : pC l with
        | none => rfl
        | some i =>
          exfalso
          have h1 := HK.out i h
          obtain ⟨_, _, h2, _⟩ := cand_eq h
          have := h2.2.1
          omega
      rw [hno]
      obtain ⟨⟨k0, k1, k2, k3, k4⟩, hf, hlt⟩ := blk5 (blk_below hR0 hbr)
      go_wp2_with fail
      refine bodyPost_ret (results_ins (x0 := .int .u8 0) (x1 := .int .u8 0) (x2 := .int .u8 0) (x3 := .int .u8 0) (x4 := .int .i32 0) (v := .int .i64 60) rfl rfl rfl ?_) rfl ⟨rfl, ?_⟩
      · exact (fin5 (btr hwb hbr) (blk_below hR0 hbr) _ _ _ _ _).1
      · exact (fin5 (btr hwb hbr) (blk_below hR0 hbr) _ _ _ _ _).2
end Go.Proofs.YtoohfmkhjhcopaaGreatDoor.AF
