/-
  The runs as the document's own answer tells them; pairs in memory. Nothing here is a statement of the seed.
-/
import Derived.Test.YtegcekniolajeaaAllocRef
set_option linter.unusedSimpArgs false
set_option linter.unusedVariables false
namespace Go.Proofs.Ytegcekniolajeaa.AF
open Go.RowKit AL NR

theorem below_own {W w0 w1 : World} {B : Nat} {e : TypeId} {size n : Nat} {xs : List Value} {v : Value} (hb : Below W.heap.size W w0) (hg : w0.grownBy w1 v.ownBlock) (hown : w0.ownsRow B e size v n xs) (hB : W.heap.size ≤ B) : Below W.heap.size W w1 := by
  refine hb.grown hg hb.size (fun g hg' => ?_)
  rcases hown.2 with ⟨rfl, _⟩ | ⟨g', cap, cur, rfl, hg2, _⟩
  · simp [Value.ownBlock] at hg'
  · simp [Value.ownBlock] at hg'
    omega
theorem infoPr : (Try.prog.info? 33).map (fun i => (i.zero, i.size, i.bytes)) = some (some (.agg #[.int .i64 0, .int .i64 0]), 2, 16) := by kernel_rfl
def prs (l : List Pr) : List Value := l.flatMap fun p => [Value.int .i64 (p.1 : Int), Value.int .i64 (p.2 : Int)]
theorem prs_len : ∀ l : List Pr, (prs l).length = l.length * 2
  | [] => rfl
  | p :: r => by
    have := prs_len r
    simp only [prs, List.flatMap_cons, List.length_append, List.length_cons] at this ⊢
    rw [this]; simp; omega
theorem prs_append (a b : List Pr) : prs (a ++ b) = prs a ++ prs b := by simp [prs]
theorem prs_snoc (a : List Pr) (f c : Nat) : prs a ++ [.int .i64 (f : Int), .int .i64 (c : Int)] = prs (a ++ [(f, c)]) := by simp [prs]
theorem prs_at : ∀ (l : List Pr) (k : Nat) (h : k < l.length), (prs l)[k * 2]? = some (.int .i64 (l[k].1 : Int)) ∧ (prs l)[k * 2 + 1]? = some (.int .i64 (l[k].2 : Int))
  | p :: r, 0, _ => by simp [prs]
  | p :: r, k + 1, h => by
    have := prs_at r k (by simpa using h)
    simp only [prs, List.flatMap_cons] at this ⊢
    have e : (k + 1) * 2 = k * 2 + 1 + 1 := by omega
    rw [e]
    simpa using this
/-- are we in a run, behind the place ahead? -/
def pv (l : List Bool) : Nat → Bool
  | 0 => false
  | k + 1 => !(l.getD k false)
theorem run_step {l : List Bool} {i : Nat} (h : i < l.length) : (l.getD i false = true → nx (pv l i) i (l.drop i) = nx (pv l (i + 1)) (i + 1) (l.drop (i + 1))) ∧
    (l.getD i false = false → pv l i = true → nx (pv l i) i (l.drop i) = nx (pv l (i + 1)) (i + 1) (l.drop (i + 1))) ∧
    (l.getD i false = false → pv l i = false → nx (pv l i) i (l.drop i) = (i, ld (l.drop i)) :: nx (pv l (i + 1)) (i + 1) (l.drop (i + 1)) ∧ 1 ≤ ld (l.drop i) ∧ i + ld (l.drop i) ≤ l.length) := by
  have hle := ld_le (l.drop i)
  rw [List.length_drop] at hle
  rw [List.drop_eq_getElem_cons h] at hle ⊢
  have e : l.getD i false = l[i] := by simp [h]
  have ep : pv l (i + 1) = !l[i] := by show (!(l.getD i false)) = _; rw [e]
  rw [e, ep]
  generalize l[i] = b at *
  refine ⟨fun hb => ?_, fun hb hp => ?_, fun hb hp => ?_⟩
  · subst hb; exact nx_used _ _ _
  · subst hb; rw [hp]; exact nx_in _ _
  · subst hb; rw [hp]
    refine ⟨?_, by simp [ld], by simp only [ld] at hle ⊢; omega⟩
    rw [nx_new]
    simp only [ld]
    rw [Nat.add_comm]; rfl
theorem run_start (l : List Bool) : nx (pv l 0) 0 (l.drop 0) = R l := rfl
theorem run_done (l : List Bool) : nx (pv l l.length) l.length (l.drop l.length) = [] := by rw [List.drop_length]; exact nx_nil _ _
/-- what tells the runs -/
def RunsP (l : List Bool) (w : World) (e : Ending) (w' : World) : Prop := ∃ v, e = .returned v ∧ w'.ownsRow w.heap.size 33 2 v (R l).length (prs (R l)) ∧ Below w.heap.size w w'
set_option maxHeartbeats 4000000 in
theorem refRuns_any (l : List Bool) (v : Value) (w : World) (h : Reads (· < w.heap.size) w v (bls l)) (hl : l.length ≤ 400) : Calls Try.prog 14 #[v] w (RunsP l w) := by
  obtain ⟨i0, hi, hz0, hz1, hz2⟩ := info_parts infoPr
  have HD := Lib.hid (run_done l)
  have HZ := Lib.hid (run_start l)
  have HR := Lib.hid (R_len l)
  by_cases h0 : l = []
  · subst h0
    obtain ⟨a, cap, rfl⟩ := reads_nil h
    clear h
    go_enter Try.func14, Try.ntmps14
    go_wp2_with fail
    go_loopw [3, 4] (fun x y wr => x = .slice none 0 0 ∧ y = .int .i64 0 ∧ w = wr) (fun _ _ _ => 0)
    case atStart => exact ⟨rfl, rfl, rfl⟩
    case round =>
      obtain ⟨rfl, rfl, rfl⟩ := hrel
      go_wp2_with fail
      go_ret
      exact ⟨_, rfl, World.ownsRow_nil _ _ _ _, Below.refl _ _⟩
  · have hne : bls l ≠ [] := by intro e; have := congrArg List.length e; rw [bls_len] at this; simp at this; exact h0 this
    obtain ⟨g, off, cap, rfl, hg, hlc, hcm, hc⟩ := h.cells hne
    have C := Lib.hid (reads_cell (G := (· < w.heap.size)) hc)
    have HF := Lib.hid (fun (u : World) (hb : Below w.heap.size w u) i n (hi : i ≤ l.length) (hn : n ≤ 9223372036854775807) => refFree_any l _ u (h.below hb) (by omega) i n hi hn)
    have HS := Lib.hid (fun i (hi : i < l.length) => run_step (l := l) hi)
    clear h hc hne h0
    rw [bls_len] at *
    generalize l.length = m at *
    have hm3 : (m : Int) ≤ 400 := by omega
    unfold maxLen at hcm
    go_enter Try.func14, Try.ntmps14
    go_wp2_with fail
    go_loopw [3, 4] (fun x y wr => ∃ (i : Nat) (out : List Pr), i ≤ m ∧ out.length ≤ i ∧ y = .int .i64 (i : Int) ∧ Hid (wr.ownsRow w.heap.size 33 2 x out.length (prs out)) ∧ Hid (out ++ nx (pv l i) i (l.drop i) = R l) ∧ Below w.heap.size w wr) (fun _ y _ => m - (intOf y).toNat)
    case atStart => exact ⟨0, [], by omega, by simp, rfl, Lib.hid (World.ownsRow_nil _ _ _ _), Lib.hid HZ.out, Below.refl _ _⟩
    case round =>
      obtain ⟨i, out, hi', hoi, rfl, hown, hnx, hb⟩ := hrel
      by_cases hlt : i < m
      · have hlt' : (i : Int) < m := by omega
        have hi0 : (0 : Int) ≤ i := by omega
        have hcc := (hb.cell (p := ⟨g, off + i, none⟩) hg).trans (C.out i hlt)
        have hs := HS.out i hlt
        generalize l.getD i false = b at *
        cases b
        · cases hp : pv l i
          · obtain ⟨hs1, hs2, hs3⟩ := hs.2.2 rfl hp
            rw [hp] at hnx hs1
            have e : Hid ((out ++ [(i, ld (l.drop i))]) ++ nx (pv l (i + 1)) (i + 1) (l.drop (i + 1)) = R l) := Lib.hid (by have := hnx.out; rw [hs1] at this; rw [← this]; simp)
            have CF := Lib.hid (fun n hn => HF.out wr hb i n hi' hn)
            generalize ld (l.drop i) = D at *
            have hD : (D : Int) ≤ 400 := by omega
            have hpp : Hid (i = 0 ∨ (0 < i ∧ l.getD (i - 1) false = true)) := Lib.hid (by
              cases i with
              | zero => exact Or.inl rfl
              | succ k => right; refine ⟨by omega, ?_⟩; simp only [pv] at hp; simpa using hp)
            have hcp : Hid (0 < i → wr.cell? ⟨g, off + (i - 1), none⟩ = some (.bool (l.getD (i - 1) false))) := Lib.hid (fun h => (hb.cell (p := ⟨g, off + (i - 1), none⟩) hg).trans (C.out (i - 1) (by omega)))
            clear hs hs1 hp
            have h63 : (out.length + 1) * 16 ≤ 140737488355328 := by omega
            rcases hpp.out with h0 | ⟨h0, hq⟩
            · have h0' : (i : Int) ≤ 0 := by omega
              clear h0 hcp hpp
              go_wp2_with fail
              go_loopw [5] (fun x wr' => ∃ n : Nat, 1 ≤ n ∧ n ≤ D ∧ x = .int .i64 (n : Int) ∧ wr = wr') (fun x _ => D - (intOf x).toNat)
              case atStart => exact ⟨1, by omega, by omega, rfl, rfl⟩
              case round =>
                obtain ⟨n, hn1, hn2, rfl, rfl⟩ := hrel
                have c := Lib.hid (CF.out (n + 1) (by omega))
                by_cases hnd : n < D
                · rw [decide_eq_true (by omega)] at c
                  have hnd' : (n : Int) + 1 ≤ 400 := by omega
                  go_wp2_with (go_at_call 22; refine c.out.mono ?_; rintro e1 w1 ⟨rfl, rfl⟩)
                  go_roundw
                  case rel => exact ⟨n + 1, by omega, by omega, by go_num, by first | rfl | trivial⟩
                  case measure => simp [intOf]; omega
                · obtain rfl : n = D := by omega
                  rw [decide_eq_false (by omega)] at c
                  have hnd' : (n : Int) + 1 ≤ 401 := by omega
                  go_wp2_with (first | (go_at_call 22; refine c.out.mono ?_; rintro e1 w1 ⟨rfl, rfl⟩) | (at_builtin; refine wpList_append_own _ rfl _ _ 31 rfl w.heap.size 33 i0 (.agg #[.int .i64 0, .int .i64 0]) 2 16 Try.underlying31 hi hz0 hz1 hz2 rfl (by decide) _ _ _ rfl (hown.out.alloc _) ⟨wr.heap.size, 0, none⟩ 1 1 [.int .i64 (i : Int), .int .i64 (n : Int)] rfl rfl (cell_two_new _ _ _ _) (by intro u hu; simp at hu; rcases hu with rfl | rfl <;> rfl) (by unfold maxLen; omega) h63 (by have := hb.size; simp; omega) ?_; intro v' w1 hown' hgrow _; have hb' := below_own (hb.alloc hb.size _) hgrow (hown.out.alloc _) (Nat.le_refl _); have HO := Lib.hid hown'; clear hown' hgrow))
                  go_roundw
                  case rel => exact ⟨i + 1, out ++ [(i, n)], by omega, by simp; omega, by go_num, Lib.hid (by rw [prs_snoc] at HO; simpa using HO.out), e, hb'⟩
                  case measure => simp [intOf]; omega
            · have hc1 := hcp.out h0
              rw [hq] at hc1
              have h0' : (0 : Int) < i := by omega
              clear h0 hq hcp hpp
              go_wp2_with fail
              go_loopw [5] (fun x wr' => ∃ n : Nat, 1 ≤ n ∧ n ≤ D ∧ x = .int .i64 (n : Int) ∧ wr = wr') (fun x _ => D - (intOf x).toNat)
              case atStart => exact ⟨1, by omega, by omega, rfl, rfl⟩
              case round =>
                obtain ⟨n, hn1, hn2, rfl, rfl⟩ := hrel
                have c := Lib.hid (CF.out (n + 1) (by omega))
                by_cases hnd : n < D
                · rw [decide_eq_true (by omega)] at c
                  have hnd' : (n : Int) + 1 ≤ 400 := by omega
                  go_wp2_with (go_at_call 22; refine c.out.mono ?_; rintro e1 w1 ⟨rfl, rfl⟩)
                  go_roundw
                  case rel => exact ⟨n + 1, by omega, by omega, by go_num, by first | rfl | trivial⟩
                  case measure => simp [intOf]; omega
                · obtain rfl : n = D := by omega
                  rw [decide_eq_false (by omega)] at c
                  have hnd' : (n : Int) + 1 ≤ 401 := by omega
                  go_wp2_with (first | (go_at_call 22; refine c.out.mono ?_; rintro e1 w1 ⟨rfl, rfl⟩) | (at_builtin; refine wpList_append_own _ rfl _ _ 31 rfl w.heap.size 33 i0 (.agg #[.int .i64 0, .int .i64 0]) 2 16 Try.underlying31 hi hz0 hz1 hz2 rfl (by decide) _ _ _ rfl (hown.out.alloc _) ⟨wr.heap.size, 0, none⟩ 1 1 [.int .i64 (i : Int), .int .i64 (n : Int)] rfl rfl (cell_two_new _ _ _ _) (by intro u hu; simp at hu; rcases hu with rfl | rfl <;> rfl) (by unfold maxLen; omega) h63 (by have := hb.size; simp; omega) ?_; intro v' w1 hown' hgrow _; have hb' := below_own (hb.alloc hb.size _) hgrow (hown.out.alloc _) (Nat.le_refl _); have HO := Lib.hid hown'; clear hown' hgrow))
                  go_roundw
                  case rel => exact ⟨i + 1, out ++ [(i, n)], by omega, by simp; omega, by go_num, Lib.hid (by rw [prs_snoc] at HO; simpa using HO.out), e, hb'⟩
                  case measure => simp [intOf]; omega
          · have hne0 : 0 < i := by cases i with
              | zero => cases hp
              | succ k => omega
            have hq : l.getD (i - 1) false = false := by cases i with
              | zero => cases hp
              | succ k => simp only [pv] at hp; simpa using hp
            have hc1 := (hb.cell (p := ⟨g, off + (i - 1), none⟩) hg).trans (C.out (i - 1) (by omega))
            rw [hq] at hc1
            have e : Hid (out ++ nx (pv l (i + 1)) (i + 1) (l.drop (i + 1)) = R l) := Lib.hid (by have := hnx.out; rw [hs.2.1 rfl hp] at this; exact this)
            have h0' : (0 : Int) < i := by omega
            clear hs hp hq hne0 hnx
            go_wp2_with fail
            go_roundw
            case rel => exact ⟨i + 1, out, by omega, by omega, by go_num, hown, e, hb⟩
            case measure => simp [intOf]; omega
        · have e : Hid (out ++ nx (pv l (i + 1)) (i + 1) (l.drop (i + 1)) = R l) := Lib.hid (by have := hnx.out; rw [hs.1 rfl] at this; exact this)
          clear hs hnx
          go_wp2_with fail
          go_roundw
          case rel => exact ⟨i + 1, out, by omega, by omega, by go_num, hown, e, hb⟩
          case measure => simp [intOf]; omega
      · obtain rfl : i = m := by omega
        have e : out = R l := by have := hnx.out; simp only [HD.out, List.append_nil] at this; exact this
        go_wp2_with fail
        go_ret
        refine ⟨_, rfl, ?_, hb⟩
        rw [← e]
        exact hown.out
end Go.Proofs.Ytegcekniolajeaa.AF
