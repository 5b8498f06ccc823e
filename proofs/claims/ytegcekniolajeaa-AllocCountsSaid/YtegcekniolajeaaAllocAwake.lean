/-
  Whether two rows are one; the longest, as the document's own answer tells it; what every right program finds. Nothing here is a statement of the seed.
-/
import Derived.Test.YtegcekniolajeaaAllocFind
set_option linter.unusedSimpArgs false
set_option linter.unusedVariables false
namespace Go.Proofs.Ytegcekniolajeaa.AF
open Go.RowKit AL NR

set_option maxHeartbeats 1000000 in
theorem same_any (l : List Bool) (v v2 : Value) (w : World) (h : Reads (· < w.heap.size) w v (bls l)) (h2 : Reads (· < w.heap.size) w v2 (bls l)) (hl : l.length ≤ 400) :
    Calls Try.prog 12 #[v, v2] w fun e w' => e = .returned (.bool true) ∧ Below w.heap.size w w' := by
  by_cases h0 : l = []
  · subst h0
    obtain ⟨a, cap, rfl⟩ := reads_nil h
    obtain ⟨a2, cap2, rfl⟩ := reads_nil h2
    clear h h2
    go_enter Try.func12, Try.ntmps12
    go_wp2_with fail
    go_loopw [5] (fun x wr => x = .int .i64 0 ∧ w = wr) (fun _ _ => 0)
    case atStart => exact ⟨rfl, rfl⟩
    case round =>
      obtain ⟨rfl, rfl⟩ := hrel
      go_wp2_with fail
      go_ret
      exact ⟨rfl, Below.refl _ _⟩
  · have hne : bls l ≠ [] := by intro e; have := congrArg List.length e; rw [bls_len] at this; simp at this; exact h0 this
    obtain ⟨g, off, cap, rfl, hg, hlc, hcm, hc⟩ := h.cells hne
    obtain ⟨g2, off2, cap2, rfl, hg2, hlc2, hcm2, hc2⟩ := h2.cells hne
    have C := Lib.hid (reads_cell (G := (· < w.heap.size)) hc)
    have C2 := Lib.hid (reads_cell (G := (· < w.heap.size)) hc2)
    clear h h2 hc hc2 hne h0
    rw [bls_len] at *
    generalize l.length = m at *
    have hm3 : (m : Int) ≤ 400 := by omega
    go_enter Try.func12, Try.ntmps12
    go_wp2_with fail
    go_loopw [5] (fun x wr => ∃ i : Nat, i ≤ m ∧ x = .int .i64 (i : Int) ∧ Below w.heap.size w wr) (fun x _ => m - (intOf x).toNat)
    case atStart => exact ⟨0, by omega, rfl, Below.refl _ _⟩
    case round =>
      obtain ⟨i, hi, rfl, hb⟩ := hrel
      by_cases hlt : i < m
      · have hlt' : (i : Int) < m := by omega
        have hi0 : (0 : Int) ≤ i := by omega
        have c1 := (hb.cell (p := ⟨g, off + i, none⟩) hg).trans (C.out i hlt)
        have c2 := (hb.cell (p := ⟨g2, off2 + i, none⟩) hg2).trans (C2.out i hlt)
        generalize l.getD i false = b at *
        have hne : (b != b) = false := by cases b <;> rfl
        go_wp2_with fail
        go_quiet (fail)
        go_wp2_with fail
        go_roundw
        case rel => exact ⟨i + 1, by omega, by go_num, below_drewN hb _⟩
        case measure => simp [intOf]; omega
      · obtain rfl : i = m := by omega
        go_wp2_with fail
        go_ret
        exact ⟨rfl, hb⟩
/-- pairs in memory -/
structure Prs (G : Nat → Prop) (w : World) (v : Value) (l : List Pr) : Prop where
  form : ∃ a cap, v = .slice a l.length cap ∧ l.length ≤ cap ∧ cap ≤ maxLen ∧ (l = [] ∨ ∃ g, a = some ⟨g, 0, none⟩ ∧ G g ∧ ∀ i (h : i < l.length), w.cell? ⟨g, i * 2, none⟩ = some (.int .i64 ((l.getD i (0, 0)).1 : Int)) ∧ w.cell? ⟨g, i * 2 + 1, none⟩ = some (.int .i64 ((l.getD i (0, 0)).2 : Int)))
theorem Prs.of_owns {B : Nat} {w : World} {v : Value} {l : List Pr} {n : Nat} (h : w.ownsRow B 33 2 v n (prs l)) : Prs (fun g => B ≤ g ∧ g < w.heap.size) w v l := by
  have hl := h.1
  rw [prs_len] at hl
  have hn : n = l.length := by omega
  subst hn
  refine ⟨?_⟩
  rcases h.2 with ⟨rfl, h0⟩ | ⟨g, cap, cur, rfl, hg, hcell, hcap, hcm, hsz, hcur⟩
  · exact ⟨none, 0, by rw [h0], by omega, by simp [maxLen], Or.inl (List.length_eq_zero_iff.1 h0)⟩
  · refine ⟨_, cap, rfl, hcap, hcm, Or.inr ⟨g, rfl, ⟨hg, (Array.getElem?_eq_some_iff.1 hcell).1⟩, fun i hi => ?_⟩⟩
    have h1 := prs_at l i hi
    have e : ∀ j, j < l.length * 2 → w.cell? ⟨g, j, none⟩ = (prs l)[j]? := fun j hj => by
      rw [← hcur, List.getElem?_take_of_lt hj]
      rw [cell_of_row w g j cur _ (0, 0) hcell]
      simp
    rw [e _ (by omega), e _ (by omega), h1.1, h1.2]
    simp [hi]
theorem Prs.kept {G : Nat → Prop} {w w' : World} {v : Value} {l : List Pr} (h : Prs G w v l) (hk : ∀ g, G g → g < w.heap.size → w'.heap[g]? = w.heap[g]?) : Prs G w' v l := by
  obtain ⟨a, cap, e, h1, h2, h3⟩ := h.form
  refine ⟨a, cap, e, h1, h2, ?_⟩
  rcases h3 with h3 | ⟨g, ea, hg, hc⟩
  · exact Or.inl h3
  · refine Or.inr ⟨g, ea, hg, fun i hi => ?_⟩
    obtain ⟨c0, c1⟩ := hc i hi
    have hlt := World.block_lt_of_cell? w _ c0
    rw [World.cell?_of_block (w := w) (a := ⟨g, i * 2, none⟩) (hk g hg hlt), World.cell?_of_block (w := w) (a := ⟨g, i * 2 + 1, none⟩) (hk g hg hlt)]
    exact ⟨c0, c1⟩
theorem Prs.belowS {G : Nat → Prop} {w w' : World} {v : Value} {l : List Pr} (h : Prs G w v l) (hb : Below w.heap.size w w') : Prs G w' v l := h.kept (fun g _ hg => hb.block g hg)
theorem big_at (l : List Pr) (i : Nat) (h : i < l.length) : big (l.take (i + 1)) = max (big (l.take i)) (l.getD i (0, 0)).2 := by
  rw [List.take_add_one, big_append, List.getElem?_eq_getElem h]
  simp [big, h]
theorem getD_bd {l : List Bool} {i : Nat} : ((R l).getD i (0, 0)).2 ≤ l.length ∧ ((R l).getD i (0, 0)).1 ≤ l.length := by
  by_cases h : i < (R l).length
  · have := R_bd l (R l)[i] (List.getElem_mem h)
    simp [h]; omega
  · simp at h; simp [h]
theorem max_if (a b : Nat) : (if a < b then (b : Int) else (a : Int)) = ((max a b : Nat) : Int) := by split <;> omega
set_option maxHeartbeats 1000000 in
theorem refLongest_any (l : List Bool) (v : Value) (w : World) (h : Reads (· < w.heap.size) w v (bls l)) (hl : l.length ≤ 400) :
    Calls Try.prog 16 #[v] w fun e w' => e = .returned (.int .i64 (big (R l) : Int)) ∧ Below w.heap.size w w' := by
  have CR := Lib.hid (refRuns_any l v w h hl)
  obtain ⟨a, c, rfl, _⟩ := h.shape
  have hRl := R_len l
  have HB := Lib.hid (fun i => getD_bd (l := l) (i := i))
  rw [bls_len] at *
  clear h
  have HM := Lib.hid (fun i hi => big_at (R l) i hi)
  generalize hq : R l = rs at *
  have HQ := Lib.hid hq
  clear hq
  go_enter Try.func16, Try.ntmps16
  go_wp2_with (go_at_call 14; refine CR.out.mono ?_; rintro e w1 ⟨u, rfl, hown, hb⟩; rw [HQ.out] at hown; obtain ⟨b, cap, rfl, hlc, hcm, hcs⟩ := (Prs.of_owns hown).form; have HC := Lib.hid hcs; clear hown hcs)
  unfold maxLen at hcm
  have hr3 : (rs.length : Int) ≤ 400 := by omega
  go_loopw [4, 5] (fun x y wr => ∃ i : Nat, i ≤ rs.length ∧ y = .int .i64 (i : Int) ∧ x = .int .i64 ((big (rs.take i) : Nat) : Int) ∧ w1 = wr) (fun _ y _ => rs.length - (intOf y).toNat)
  case atStart => exact ⟨0, by omega, rfl, rfl, rfl⟩
  case round =>
    obtain ⟨i, hi, rfl, rfl, rfl⟩ := hrel
    by_cases hlt : i < rs.length
    · rcases HC.out with h0 | ⟨g, rfl, _, hc⟩
      · subst h0; simp at hlt
      · obtain ⟨c0, c1⟩ := hc i hlt
        have HM1 := Lib.hid (HM.out i hlt)
        have hlt' : (i : Int) < rs.length := by omega
        have hi0 : (0 : Int) ≤ i := by omega
        clear hc
        generalize rs.getD i (0, 0) = p at *
        go_wp2_with fail
        go_roundw
        case rel => exact ⟨i + 1, by omega, by go_num, by rw [HM1.out]; exact congrArg (Value.int .i64) (max_if _ _), by first | rfl | trivial⟩
        case measure => simp [intOf]; omega
    · obtain rfl : i = rs.length := by omega
      go_wp2_with fail
      go_ret
      exact ⟨ret_int (by simp), hb⟩
theorem four_reads (w : World) : Reads (· < (w.alloc (.cells #[.bool false, .bool true, .bool false, .bool false] 4)).heap.size) (w.alloc (.cells #[.bool false, .bool true, .bool false, .bool false] 4)) (.slice (some ⟨w.heap.size, 0, none⟩) 4 4) (bls [false, true, false, false]) := by
  refine ⟨_, 4, rfl, by decide, by simp [maxLen], (fun h => by cases h), Or.inr ⟨w.heap.size, 0, rfl, by simp, fun j hj => ?_⟩⟩
  rw [Nat.zero_add, cell_of_row _ w.heap.size j _ _ (0, 0) (heap_alloc_new w _)]
  simp [bls]
set_option maxHeartbeats 1000000 in
theorem awake_any (w : World) : Calls Try.prog 9 #[] w fun e w' => e = .returned (.bool true) ∧ Below w.heap.size w w' := by
  have HR := Lib.hid (four_reads w)
  have F2 := Lib.hid (fun u (h : Reads (· < u.heap.size) u (.slice (some ⟨w.heap.size, 0, none⟩) 4 4) (bls [false, true, false, false])) => find_any [false, true, false, false] _ u h (by decide) 2 (by decide))
  have F3 := Lib.hid (fun u (h : Reads (· < u.heap.size) u (.slice (some ⟨w.heap.size, 0, none⟩) 4 4) (bls [false, true, false, false])) => find_any [false, true, false, false] _ u h (by decide) 3 (by decide))
  have L := Lib.hid (fun u (h : Reads (· < u.heap.size) u (.slice (some ⟨w.heap.size, 0, none⟩) 4 4) (bls [false, true, false, false])) => longest_any [false, true, false, false] _ u h (by decide))
  change Hid (∀ (u : World) (_ : Reads (· < u.heap.size) u (.slice (some ⟨w.heap.size, 0, none⟩) 4 4) (bls [false, true, false, false])), Calls _ _ _ u fun e w' => e = .returned (.tuple #[.int .i64 2, .int .i64 0]) ∧ _) at F2
  change Hid (∀ (u : World) (_ : Reads (· < u.heap.size) u (.slice (some ⟨w.heap.size, 0, none⟩) 4 4) (bls [false, true, false, false])), Calls _ _ _ u fun e w' => e = .returned (.tuple #[.int .i64 0, .int .i64 7]) ∧ _) at F3
  change Hid (∀ (u : World) (_ : Reads (· < u.heap.size) u (.slice (some ⟨w.heap.size, 0, none⟩) 4 4) (bls [false, true, false, false])), Calls _ _ _ u fun e w' => e = .returned (.int .i64 2) ∧ _) at L
  have hb0 := below_new w (.cells #[.bool false, .bool true, .bool false, .bool false] 4)
  go_enter Try.func9, Try.ntmps9
  go_wp2_with fail
  generalize w.alloc (.cells #[.bool false, .bool true, .bool false, .bool false] 4) = W at *
  go_wp2_with fail
  (go_at_call 10; (with_reducible refine (F2.out _ HR.out).mono ?_); rintro e w1 ⟨rfl, hb⟩; have HR1 := Lib.hid ((HR.out.below hb).mono (G' := (· < w1.heap.size)) (fun g hg => Nat.lt_of_lt_of_le hg hb.size)); have B1 := Lib.hid (below_of hb0 hb); clear hb)
  go_wp2_with fail
  (go_at_call 10; (with_reducible refine (F3.out _ HR1.out).mono ?_); rintro e w2 ⟨rfl, hb⟩; have HR2 := Lib.hid ((HR1.out.below hb).mono (G' := (· < w2.heap.size)) (fun g hg => Nat.lt_of_lt_of_le hg hb.size)); have B2 := Lib.hid (below_of B1.out hb); clear hb)
  go_wp2_with fail
  (go_at_call 15; (with_reducible refine (L.out _ HR2.out).mono ?_); rintro e w3 ⟨rfl, hb⟩; have B3 := Lib.hid (below_of B2.out hb); clear hb)
  go_wp2_with fail
  go_ret
  exact ⟨rfl, B3.out⟩
end Go.Proofs.Ytegcekniolajeaa.AF
