/-
  The reference's tables: what is told of them, copies, numbers. Nothing here is a statement of the seed.
-/
import Derived.Test.YtkmjacpcpchjoaaPageOps
set_option linter.unusedSimpArgs false
set_option linter.unusedVariables false
namespace Go.Proofs.Ytkmjacpcpchjoaa.PF
open Go.RowKit PM PR

theorem refGet_any {g c : Nat} {l : List Pg} {w : World} (hr : Row w g l) (h256 : l.length ≤ 256) (i : Int) : Calls Try.prog 58 #[.agg #[.slice (some ⟨g, 0, none⟩) l.length c], .int .i64 i] w fun e w' => e = .returned (pV (gP l i)) ∧ Below w.heap.size w w' := by
  by_cases h0 : i < 0
  · rw [show gP l i = zero by unfold gP; rw [if_pos h0]]
    show Calls _ _ _ _ fun e w' => e = .returned (pgV 0 false false 0 0) ∧ _
    clear hr
    go_enter Try.func58, Try.ntmps58
    go_wp2_with fail
    exact bodyPost_ret (v := pgV 0 false false 0 0) (by simp [results, Try.results58, go_sem]) rfl ⟨rfl, two_new _ _ _⟩
  · obtain ⟨k, rfl⟩ := Int.eq_ofNat_of_zero_le (show 0 ≤ i by omega)
    rw [show gP l (k : Int) = l.getD k zero by unfold gP; rw [if_neg h0]; rfl]
    have hg1 := hr.lt
    have hg2 : g < w.heap.size + 1 := by omega
    have hg3 : g < w.heap.size + 1 + 1 := by omega
    by_cases hk : k < l.length
    · obtain ⟨c0, c1, c2, c3, c4⟩ := hr.five hk rfl
      generalize l.getD k zero = q at *
      obtain ⟨st, ex, wr, ow, ep⟩ := q
      show Calls _ _ _ _ fun e w' => e = .returned (pgV st ex wr ow ep) ∧ _
      simp only at c0 c1 c2 c3 c4
      have hki : (k : Int) < l.length := by omega
      have hk0 : (0 : Int) ≤ k := by omega
      clear hr
      generalize l.length = n at *
      go_enter Try.func58, Try.ntmps58
      go_wp2_with fail
      exact bodyPost_ret (v := pgV st ex wr ow ep) (by simp [results, Try.results58, go_sem]) rfl ⟨rfl, two_new _ _ _⟩
    · rw [show l.getD k zero = zero by rw [List.getD_eq_getElem?_getD, List.getElem?_eq_none (by omega)]; rfl]
      show Calls _ _ _ _ fun e w' => e = .returned (pgV 0 false false 0 0) ∧ _
      have hki : (l.length : Int) ≤ k := by omega
      have hk0 : (0 : Int) ≤ k := by omega
      clear hr
      generalize l.length = n at *
      go_enter Try.func58, Try.ntmps58
      go_wp2_with fail
      exact bodyPost_ret (v := pgV 0 false false 0 0) (by simp [results, Try.results58, go_sem]) rfl ⟨rfl, two_new _ _ _⟩
/-- the reference's copy -/
def CopiedR (l : List Pg) (w : World) (e : Ending) (w' : World) : Prop := ∃ g c, e = .returned (.agg #[.slice (some ⟨g, 0, none⟩) l.length c]) ∧ Row w' g l ∧ w.heap.size ≤ g ∧ l.length ≤ c ∧ c ≤ maxLen ∧ Below w.heap.size w w'
theorem own_empty2 (w : World) (o o' : Obj) : (((w.alloc o).alloc o').alloc (.cells #[] 69)).ownsRow w.heap.size 69 5 (.slice (some ⟨w.heap.size + 1 + 1, 0, none⟩) 0 0) 0 [] :=
  ⟨rfl, Or.inr ⟨w.heap.size + 1 + 1, 0, #[], rfl, by omega, by have := heap_alloc_new ((w.alloc o).alloc o') (.cells #[] 69); simpa using this, Nat.le_refl _, by simp [maxLen], rfl, rfl⟩⟩
theorem copied_any {g c : Nat} {l : List Pg} {w : World} (hr : Row w g l) (h256 : l.length ≤ 256) : Calls Try.prog 86 #[.agg #[.slice (some ⟨g, 0, none⟩) l.length c]] w (CopiedR l w) := by
  obtain ⟨i0, hi, hz0, hz1, hz2⟩ := info_parts infoPg
  have hn := Lib.hid (Row.news (((hr.alloc (.cells #[.slice (some ⟨g, 0, none⟩) l.length c] 30)).alloc (.cells #[.slice none 0 0] 30)).alloc (.cells #[] 69)))
  have hl := Lib.hid (cs_len l)
  have HO := Lib.hid (own_empty2 w (.cells #[.slice (some ⟨g, 0, none⟩) l.length c] 30) (.cells #[.slice none 0 0] 30))
  have hB3 : Below w.heap.size w (((w.alloc (.cells #[.slice (some ⟨g, 0, none⟩) l.length c] 30)).alloc (.cells #[.slice none 0 0] 30)).alloc (.cells #[] 69)) := (two_new _ _ _).alloc (by simp; omega) _
  go_enter Try.func86, Try.ntmps86
  go_wp2_with (at_builtin; refine wpList_append_own _ rfl _ _ 28 rfl w.heap.size 69 i0 _ 5 16 Try.underlying28 hi hz0 hz1 hz2 rfl (by decide) (.slice (some ⟨w.heap.size + 1 + 1, 0, none⟩) 0 0) 0 [] rfl HO.out ⟨g, 0, none⟩ l.length c (cs l) rfl hl.out hn.out (cs_one l) (by unfold maxLen; omega) (by omega) (by simp; omega) ?_; intro v' w1 hown hgrow hnil; obtain ⟨g', c', rfl, hrow, hg', hc1, hc2, hb⟩ := copied_of hB3 hown hgrow (by intro g h; simp [Value.ownBlock] at h; omega) hnil (by simp); have HR := Lib.hid hrow; have hk1 := hgrow.block (w.heap.size + 1) (by simp) (by simp [Value.ownBlock]); have hs1 := hgrow.size; simp at hs1; have hc9 := World.cell?_of_block (a := ⟨w.heap.size + 1, 0, none⟩) hk1; have hB9 : Whole w1 (w.heap.size + 1) 30 #[.slice none 0 0] := (by have := (Whole.new (w.alloc (.cells #[.slice (some ⟨g, 0, none⟩) l.length c] 30)) 30 #[.slice none 0 0]).alloc (.cells #[] 69); simp at this; exact hk1.trans this); have hc8 := hB9.cell 0; have hf8 := hB9.frozen 0; have HB := Lib.hid hB9; clear hown hgrow hnil hrow hk1 hc9 hB9)
  have hb9 := HB.out.set_ 0 (.slice (some ⟨g', 0, none⟩) l.length c')
  have hc10 := hb9.cell 0
  simp at hc10
  refine bodyPost_ret (v := .agg #[.slice (some ⟨g', 0, none⟩) l.length c']) (by simp [results, Try.results86, go_sem, hc10]) rfl ?_
  exact ⟨g', c', rfl, HR.out.far (HR.out.choose_spec.ne_ HB.out (by decide)) _, hg', hc1, hc2, hb.setCell (by simp) _⟩
end Go.Proofs.Ytkmjacpcpchjoaa.PF
