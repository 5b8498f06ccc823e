/-
  A module copied, as the program does. Nothing here is a statement of the seed.
-/
import Derived.Test.YtdlinlkdielmkaaObjRel
set_option linter.unusedSimpArgs false
set_option linter.unusedVariables false
namespace Go.Proofs.Ytdlinlkdielmkaa.OR
open Go.RowKit WM NR OM
set_option maxHeartbeats 4000000
set_option maxRecDepth 10000
theorem cloneTexts_any {w : World} {a : Option Addr} {n c : Nat} {l : List (List UInt8)} (hr : Reads (· < w.heap.size) w (.slice a n c) (strs l)) (hl : n ≤ 65536) :
    Calls Try.prog 48 #[.slice a n c] w fun e w' => ∃ v, e = .returned v ∧ w'.ownsRow w.heap.size 9 1 v n (strs l) ∧ Below w.heap.size w w' := by
  obtain ⟨i0, hi, hz0, hz1, hz2⟩ := info_parts infoStr
  obtain ⟨n1, m1, m2⟩ := reads_len hr
  obtain ⟨a', cap, e, h1, h2, h3, h4⟩ := hr
  simp only [Value.slice.injEq] at e
  obtain ⟨rfl, en, rfl⟩ := e
  rw [strs_len] at n1
  have hnil := fun (u : World) (n c : Nat) => Lib.run_eql_slice_nil (P := Try.prog) u 22 9 a n c 0 0 Try.underlying22
  cases a with
  | none =>
    have hc0 := h3 rfl
    subst hc0
    have hn0 : n = 0 := by omega
    subst hn0
    have hl0 : l = [] := List.length_eq_zero_iff.1 (by omega)
    subst hl0
    clear h3 h4 hl h1 h2 en m1 m2
    go_enter Try.func48, Try.ntmps48
    go_wp2_with fail
    go_ret
    exact ⟨_, rfl, World.ownsRow_nil _ _ _ _, Below.refl _ _⟩
  | some p =>
    have hp : ∀ j u, (strs l)[j]? = some u → (w.alloc (.cells #[] 9)).cell? (p.add j) = some u := by
      intro j u hj
      have hlt := (List.getElem?_eq_some_iff.1 hj).1
      rcases h4 with h4 | ⟨g, off, ea, hg, hc⟩
      · rw [h4] at hj; simp at hj
      · obtain rfl := Option.some.inj ea
        rw [Addr.add_lit, World.cell?_of_block (w := w) (Below.heap_alloc w _ _ hg), hc j hlt, hj]
    have HP := Lib.hid hp
    have hown := World.ownsRow_lit (e := 9) (base := w.heap.size) (size := 1) w #[] 0 (Nat.le_refl _) (by simp [maxLen]) rfl
    have hnm : 0 + n ≤ maxLen := by unfold maxLen; omega
    have hnb : (0 + n) * 16 ≤ 140737488355328 := by omega
    have hln : (strs l).length = n * 1 := by rw [strs_len]; omega
    clear h3 h4 hp h1 en m1 m2
    go_enter Try.func48, Try.ntmps48
    go_wp2_with (at_builtin; refine wpList_append_own _ rfl _ _ 22 rfl w.heap.size 9 i0 (.string ⟨#[]⟩) 1 16 Try.underlying22 hi hz0 hz1 hz2 rfl (by decide) _ _ _ rfl hown p n c (strs l) rfl hln HP.out (strs_one _) hnm hnb (by simp) ?_)
    intro v' w1 hown1 hgrow _
    go_wp2_with fail
    go_ret
    exact ⟨_, rfl, by simpa using hown1, (below_new w _).grown hgrow (by simp) (fun g hg => (hown.lt g hg).1)⟩
theorem cloneWords_any {w : World} {a : Option Addr} {n c : Nat} {l : List Nat} (hr : Reads (· < w.heap.size) w (.slice a n c) (u32s l)) (hl : n ≤ 65536) :
    Calls Try.prog 49 #[.slice a n c] w fun e w' => ∃ v, e = .returned v ∧ w'.ownsRow w.heap.size 43 1 v n (u32s l) ∧ Below w.heap.size w w' := by
  obtain ⟨i0, hi, hz0, hz1, hz2⟩ := info_parts infoWord
  obtain ⟨n1, m1, m2⟩ := reads_len hr
  obtain ⟨a', cap, e, h1, h2, h3, h4⟩ := hr
  simp only [Value.slice.injEq] at e
  obtain ⟨rfl, en, rfl⟩ := e
  rw [u32s_len] at n1
  have hnil := fun (u : World) (n c : Nat) => Lib.run_eql_slice_nil (P := Try.prog) u 23 43 a n c 0 0 Try.underlying23
  cases a with
  | none =>
    have hc0 := h3 rfl
    subst hc0
    have hn0 : n = 0 := by omega
    subst hn0
    have hl0 : l = [] := List.length_eq_zero_iff.1 (by omega)
    subst hl0
    clear h3 h4 hl h1 h2 en m1 m2
    go_enter Try.func49, Try.ntmps49
    go_wp2_with fail
    go_ret
    exact ⟨_, rfl, World.ownsRow_nil _ _ _ _, Below.refl _ _⟩
  | some p =>
    have hp : ∀ j u, (u32s l)[j]? = some u → (w.alloc (.cells #[] 43)).cell? (p.add j) = some u := by
      intro j u hj
      have hlt := (List.getElem?_eq_some_iff.1 hj).1
      rcases h4 with h4 | ⟨g, off, ea, hg, hc⟩
      · rw [h4] at hj; simp at hj
      · obtain rfl := Option.some.inj ea
        rw [Addr.add_lit, World.cell?_of_block (w := w) (Below.heap_alloc w _ _ hg), hc j hlt, hj]
    have HP := Lib.hid hp
    have hown := World.ownsRow_lit (e := 43) (base := w.heap.size) (size := 1) w #[] 0 (Nat.le_refl _) (by simp [maxLen]) rfl
    have hnm : 0 + n ≤ maxLen := by unfold maxLen; omega
    have hnb : (0 + n) * 4 ≤ 140737488355328 := by omega
    have hln : (u32s l).length = n * 1 := by rw [u32s_len]; omega
    clear h3 h4 hp h1 en m1 m2
    go_enter Try.func49, Try.ntmps49
    go_wp2_with (at_builtin; refine wpList_append_own _ rfl _ _ 23 rfl w.heap.size 43 i0 (.int .u32 0) 1 4 Try.underlying23 hi hz0 hz1 hz2 rfl (by decide) _ _ _ rfl hown p n c (u32s l) rfl hln HP.out (u32s_one _) hnm hnb (by simp) ?_)
    intro v' w1 hown1 hgrow _
    go_wp2_with fail
    go_ret
    exact ⟨_, rfl, by simpa using hown1, (below_new w _).grown hgrow (by simp) (fun g hg => (hown.lt g hg).1)⟩
theorem cloneRels_any {w : World} {a : Option Addr} {n c : Nat} {l : List Rl} (hr : ReadsR (· < w.heap.size) w (.slice a n c) l) (hl : n ≤ 65536) :
    Calls Try.prog 50 #[.slice a n c] w fun e w' => ∃ v, e = .returned v ∧ w'.ownsRow w.heap.size 48 3 v n (relC l) ∧ Below w.heap.size w w' := by
  obtain ⟨i0, hi, hz0, hz1, hz2⟩ := info_parts infoRel
  obtain ⟨n1, m1, m2⟩ := hr.len
  have h3 : a = none → c = 0 := by
    obtain ⟨a', cap, e, _, _, h3, _⟩ := hr
    simp only [Value.slice.injEq] at e
    obtain ⟨rfl, _, rfl⟩ := e
    exact h3
  have hnil := fun (u : World) (n c : Nat) => Lib.run_eql_slice_nil (P := Try.prog) u 24 48 a n c 0 0 Try.underlying24
  cases a with
  | none =>
    have hc0 := h3 rfl
    subst hc0
    have hn0 : n = 0 := by omega
    subst hn0
    have hl0 : l = [] := List.length_eq_zero_iff.1 (by omega)
    subst hl0
    clear h3 hl m1 m2 hr
    go_enter Try.func50, Try.ntmps50
    go_wp2_with fail
    go_ret
    exact ⟨_, rfl, World.ownsRow_nil _ _ _ _, Below.refl _ _⟩
  | some p =>
    have HP := Lib.hid (hr.below (below_new w (.cells #[] 48))).cells
    have hown := World.ownsRow_lit (e := 48) (base := w.heap.size) (size := 3) w #[] 0 (Nat.le_refl _) (by simp [maxLen]) rfl
    have hnm : 0 + n ≤ maxLen := by unfold maxLen; omega
    have hnb : (0 + n) * 6 ≤ 140737488355328 := by omega
    have hln : (relC l).length = n * 3 := by rw [relC_len]; omega
    clear h3 hr m1 m2
    go_enter Try.func50, Try.ntmps50
    go_wp2_with (at_builtin; refine wpList_append_own _ rfl _ _ 24 rfl w.heap.size 48 i0 (.agg #[.int .u8 0, .int .u16 0, .int .u16 0]) 3 6 Try.underlying24 hi hz0 hz1 hz2 rfl (by decide) _ _ _ rfl hown p n c (relC l) rfl hln HP.out (relC_one _) hnm hnb (by simp) ?_)
    intro v' w1 hown1 hgrow _
    go_wp2_with fail
    go_ret
    exact ⟨_, rfl, by simpa using hown1, (below_new w _).grown hgrow (by simp) (fun g hg => (hown.lt g hg).1)⟩
end Go.Proofs.Ytdlinlkdielmkaa.OR
