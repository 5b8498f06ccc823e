/-
  The table, call by call. Nothing here is a statement of the seed.
-/
import Derived.Test.YtkmjacpcpchjoaaPageChgA
import Derived.Test.YtkmjacpcpchjoaaPageChgB
set_option linter.unusedSimpArgs false
set_option linter.unusedVariables false
namespace Go.Proofs.Ytkmjacpcpchjoaa.PF
open Go.RowKit PM PR

theorem len_tb {p g : Nat} {l : List Pg} {w : World} (h : Tb w p g l) : Calls Try.prog 20 #[.pointer (some ⟨p, 0, none⟩)] w fun e w' => e = .returned (.int .i64 (l.length : Int)) ∧ w = w' := by
  obtain ⟨c, h256, hlc, hcm, hcell⟩ := h.cell
  clear h
  go_enter Try.func20, Try.ntmps20
  go_wp2_with fail
  go_ret
  exact ⟨rfl, rfl⟩
theorem len_nil (w : World) : Calls Try.prog 20 #[.pointer none] w fun e w' => e = .returned (.int .i64 0) ∧ w = w' := by
  go_enter Try.func20, Try.ntmps20
  go_wp2_with fail
  go_ret
  exact ⟨rfl, rfl⟩
theorem get_nil (i : Int) (w : World) : Calls Try.prog 30 #[.pointer none, .int .i64 i] w fun e w' => e = .returned (pgV 0 false false 0 0) ∧ Below w.heap.size w w' := by
  by_cases h : i < 0
  · go_enter Try.func30, Try.ntmps30
    go_wp2_with fail
    exact bodyPost_ret (v := pgV 0 false false 0 0) (by simp [results, Try.results30, go_sem]) rfl ⟨rfl, below_new _ _⟩
  · have h0 : 0 ≤ i := by omega
    go_enter Try.func30, Try.ntmps30
    go_wp2_with (go_at_call 20; refine (len_nil _).mono ?_; rintro e w1 ⟨rfl, rfl⟩)
    exact bodyPost_ret (v := pgV 0 false false 0 0) (by simp [results, Try.results30, go_sem]) rfl ⟨rfl, below_new _ _⟩
/-- the page i, or none -/
def gP (l : List Pg) (i : Int) : Pg := if i < 0 then zero else l.getD i.toNat zero
theorem get_tb {p g : Nat} {l : List Pg} {w : World} (h : Tb w p g l) (i : Int) : Calls Try.prog 30 #[.pointer (some ⟨p, 0, none⟩), .int .i64 i] w fun e w' => e = .returned (pV (gP l i)) ∧ Below w.heap.size w w' := by
  by_cases h0 : i < 0
  · rw [show gP l i = zero by unfold gP; rw [if_pos h0]]
    show Calls _ _ _ _ fun e w' => e = .returned (pgV 0 false false 0 0) ∧ _
    clear h
    go_enter Try.func30, Try.ntmps30
    go_wp2_with fail
    exact bodyPost_ret (v := pgV 0 false false 0 0) (by simp [results, Try.results30, go_sem]) rfl ⟨rfl, below_new _ _⟩
  · obtain ⟨k, rfl⟩ := Int.eq_ofNat_of_zero_le (show 0 ≤ i by omega)
    rw [show gP l (k : Int) = l.getD k zero by unfold gP; rw [if_neg h0]; rfl]
    obtain ⟨c, h256, hlc, hcm, hcell⟩ := h.cell
    obtain ⟨glt, plt, hpg⟩ := h.lt
    have wlt : p < w.heap.size + 1 := by omega
    have wglt : g < w.heap.size + 1 := by omega
    have HL := Lib.hid (fun u hu => len_tb (w := u) (h.belowS hu))
    by_cases hk : k < l.length
    · obtain ⟨c0, c1, c2, c3, c4⟩ := h.row.five hk rfl
      generalize l.getD k zero = q at *
      obtain ⟨st, ex, wr, ow, ep⟩ := q
      show Calls _ _ _ _ fun e w' => e = .returned (pgV st ex wr ow ep) ∧ _
      simp only at c0 c1 c2 c3 c4
      have hki : (k : Int) < l.length := by omega
      have hk0 : (0 : Int) ≤ k := by omega
      clear h
      generalize l.length = n at *
      unfold maxLen at hcm
      go_enter Try.func30, Try.ntmps30
      go_wp2_with (go_at_call 20; refine (HL.out _ (below_new w _)).mono ?_; rintro e w1 ⟨rfl, rfl⟩)
      exact bodyPost_ret (v := pgV st ex wr ow ep) (by simp [results, Try.results30, go_sem]) rfl ⟨rfl, below_new _ _⟩
    · rw [show l.getD k zero = zero by rw [List.getD_eq_getElem?_getD, List.getElem?_eq_none (by omega)]; rfl]
      show Calls _ _ _ _ fun e w' => e = .returned (pgV 0 false false 0 0) ∧ _
      have hki : (l.length : Int) ≤ k := by omega
      have hk0 : (0 : Int) ≤ k := by omega
      clear h
      generalize l.length = n at *
      go_enter Try.func30, Try.ntmps30
      go_wp2_with (go_at_call 20; refine (HL.out _ (below_new w _)).mono ?_; rintro e w1 ⟨rfl, rfl⟩)
      exact bodyPost_ret (v := pgV 0 false false 0 0) (by simp [results, Try.results30, go_sem]) rfl ⟨rfl, below_new _ _⟩
end Go.Proofs.Ytkmjacpcpchjoaa.PF
