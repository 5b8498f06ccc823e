/-
  Where a word lies: a page's words, cut out; the page and the word's place. Nothing here is a statement of the seed.
-/
import Derived.Test.YtkmjacpcpchjoaaMemLeaf
import Derived.Deep.RegionWith
set_option linter.unusedSimpArgs false
set_option linter.unusedVariables false
namespace Go.Proofs.Ytkmjacpcpchjoaa.MF
open Go.RowKit PM PR PF MM MR

theorem wrap32_small (x : Int) (h0 : 0 ≤ x) (h : x < 4294967296) : IntKind.u32.wrap x = x := by
  unfold IntKind.wrap
  simp [IntKind.bits, IntKind.signed]
  omega
theorem below_drew_next {W w2 : World} (h : Below W.drew.heap.size W.drew w2) : Below W.heap.size W w2 := (Below.refl _ _).drew.trans (h.mono (Nat.le_refl _))
section
variable {w : World} {p t g gw : Nat} {M : Mm}
theorem cut_nil (i : Int) (w : World) : Calls Try.prog 77 #[.pointer none, .int .i64 i] w fun e w' => e = .returned (.slice none 0 0) ∧ w = w' := by
  go_enter Try.func77, Try.ntmps77
  go_wp2_with fail
  go_ret
  exact ⟨rfl, rfl⟩
theorem cut_no (h : Pm w p t g gw M) (i : Int) (hi : i < 0 ∨ (M.pg.length : Int) ≤ i) : Calls Try.prog 77 #[.pointer (some ⟨p, 0, none⟩), .int .i64 i] w fun e w' => e = .returned (.slice none 0 0) ∧ w = w' := by
  obtain ⟨d, h4, hd1, hd2, c8, c9, _, _⟩ := h.cells
  have h16 := h.ok.w16
  have hp := h.ok.p256
  clear h
  by_cases h0 : i < 0
  · clear c9 h16
    go_enter Try.func77, Try.ntmps77
    go_wp2_with fail
    go_ret
    exact ⟨rfl, rfl⟩
  · have hi2 : (M.pg.length : Int) ≤ i := by omega
    rw [h16] at c9
    generalize M.pg.length = n at *
    have hn : (n : Int) ≤ 256 := by omega
    have hn0 : (0 : Int) ≤ n := by omega
    go_enter Try.func77, Try.ntmps77
    go_wp2_with fail
    go_ret
    exact ⟨rfl, rfl⟩
theorem cut_yes (h : Pm w p t g gw M) (i : Nat) (hi : i < M.pg.length) : Calls Try.prog 77 #[.pointer (some ⟨p, 0, none⟩), .int .i64 (i : Int)] w fun e w' => e = .returned (.slice (some ⟨gw, i * 16, none⟩) 16 16) ∧ w = w' := by
  obtain ⟨d, h4, hd1, hd2, c8, c9, _, _⟩ := h.cells
  have h16 := h.ok.w16
  have hp := h.ok.p256
  clear h
  rw [h16] at c9 hd1
  generalize M.pg.length = n at *
  have hn : (n : Int) ≤ 256 := by omega
  have hn0 : (0 : Int) ≤ n := by omega
  have hi1 : (i : Int) < n := by omega
  have hi0 : (0 : Int) ≤ i := by omega
  clear h16 h4
  unfold maxLen at hd2
  go_enter Try.func77, Try.ntmps77
  go_wp2_with fail
  go_ret
  exact ⟨by show Ending.returned (Value.slice (some ⟨gw, i * 16, none⟩) (i * 16 + 16 - i * 16) (i * 16 + 16 - i * 16)) = _; rw [show i * 16 + 16 - i * 16 = 16 by omega], rfl⟩
theorem find_nil (a : Int) (ha : 0 ≤ a ∧ a ≤ 4294967295) (w : World) : Calls Try.prog 47 #[.pointer none, .int .u32 a] w fun e w' => e = .returned (.tuple #[pgV 0 false false 0 0, .pointer none]) ∧ Below w.heap.size w w' := by
  have CP := Lib.hid (fun w => pageOf_any a ha w)
  generalize pageOf a = i at *
  have CC := Lib.hid (fun w => cut_nil i w)
  go_enter Try.func47, Try.ntmps47
  go_wp2_with (first | (go_at_call 15; (with_reducible refine (CP.out _).mono ?_); rintro e w1 ⟨rfl, rfl⟩) | (go_at_call 77; (with_reducible refine (CC.out _).mono ?_); rintro e w1 ⟨rfl, rfl⟩))
  exact bodyPost_ret (v := .tuple #[pgV 0 false false 0 0, .pointer none]) (by simp [results, Try.results47, go_sem]) rfl ⟨rfl, below_new _ _⟩
theorem find_no (h : Pm w p t g gw M) (a : Int) (ha : 0 ≤ a ∧ a ≤ 4294967295) (hn : thereB M a = false) : Calls Try.prog 47 #[.pointer (some ⟨p, 0, none⟩), .int .u32 a] w fun e w' => e = .returned (.tuple #[pgV 0 false false 0 0, .pointer none]) ∧ Below w.heap.size w w' := by
  have CP := Lib.hid (fun w => pageOf_any a ha w)
  have hi := not_there h.ok hn ha.1
  have CC := Lib.hid (fun u (hb : Below w.heap.size w u) => cut_no (h.belowS hb) (pageOf a) hi)
  clear hi hn h
  generalize pageOf a = i at *
  go_enter Try.func47, Try.ntmps47
  go_wp2_with (first | (go_at_call 15; (with_reducible refine (CP.out _).mono ?_); rintro e w1 ⟨rfl, rfl⟩) | (go_at_call 77; (with_reducible refine (CC.out _ (below_new _ _)).mono ?_); rintro e w1 ⟨rfl, rfl⟩))
  exact bodyPost_ret (v := .tuple #[pgV 0 false false 0 0, .pointer none]) (by simp [results, Try.results47, go_sem]) rfl ⟨rfl, below_new _ _⟩
set_option maxHeartbeats 1000000 in
theorem find_yes (h : Pm w p t g gw M) (i j : Nat) (hi : i < M.pg.length) (hj : j < 16) : Calls Try.prog 47 #[.pointer (some ⟨p, 0, none⟩), .int .u32 (80 + ((i : Int) * 16 + j))] w fun e w' =>
    e = .returned (.tuple #[pV (M.pg.getD i zero), .pointer (some ⟨gw, i * 16 + j, none⟩)]) ∧ Below w.heap.size w w' := by
  have h256 := h.ok.p256
  have ha : 0 ≤ 80 + ((i : Int) * 16 + j) ∧ 80 + ((i : Int) * 16 + j) ≤ 4294967295 := by omega
  have CP := Lib.hid (fun w => pageOf_any _ ha w)
  rw [show pageOf (80 + ((i : Int) * 16 + j)) = (i : Int) by unfold pageOf; rw [if_neg (by omega)]; omega] at CP
  have CC := Lib.hid (fun u (hb : Below w.heap.size w u) => cut_yes (h.belowS hb) i hi)
  have CG := Lib.hid (fun u (hb : Below w.heap.size w u) => get_tb (h.belowS hb).tb (i : Int))
  rw [show gP M.pg (i : Int) = M.pg.getD i zero by unfold gP; rw [if_neg (by omega)]; rfl] at CG
  generalize M.pg.getD i zero = q at *
  obtain ⟨st, ex, wr, ow, ep⟩ := q
  show Calls _ _ _ _ fun e w' => e = .returned (.tuple #[pgV st ex wr ow ep, _]) ∧ _
  change Hid (∀ u, Below w.heap.size w u → Calls _ _ _ u fun e w' => e = .returned (pgV st ex wr ow ep) ∧ _) at CG
  obtain ⟨d, h4, hd1, hd2, c8, c9, _, _⟩ := h.cells
  have hplt := h.lt.1
  have hi0 : (0 : Int) ≤ i := by omega
  have hi1 : (i : Int) < 256 := by omega
  have hj0 : (0 : Int) ≤ j := by omega
  have hj1 : (j : Int) < 16 := by omega
  have hm1 : IntKind.u32.wrap (80 + ((i : Int) * 16 + j) - 80) = i * 16 + j := wrap32_small _ (by omega) (by omega) |>.trans (by omega)
  have hm2 : ((i : Int) * 16 + j).tmod 16 = j := by rw [Int.tmod_eq_emod_of_nonneg (by omega)]; omega
  clear h hd1 hd2 c9 h4 h256 hi hj ha
  go_enter Try.func47, Try.ntmps47
  go_wp2_with (first | (go_at_call 15; (with_reducible refine (CP.out _).mono ?_); rintro e w1 ⟨rfl, rfl⟩) | (go_at_call 77; (with_reducible refine (CC.out _ (below_new _ _)).mono ?_); rintro e w1 ⟨rfl, rfl⟩))
  have hW := Whole.new w 69 #[.int .u8 0, .bool false, .bool false, .int .u16 0, .int .u64 0]
  have hb0 := below_new w (.cells #[.int .u8 0, .bool false, .bool false, .int .u16 0, .int .u64 0] 69)
  generalize hWW : w.alloc (.cells #[.int .u8 0, .bool false, .bool false, .int .u16 0, .int .u64 0] 69) = W at *
  have c8' : W.cell? ⟨p, 8, none⟩ = some (.pointer (some ⟨t, 0, none⟩)) := (hb0.cell (p := ⟨p, 8, none⟩) hplt).trans c8
  have hbd : Below w.heap.size w W.drew := hb0.drew
  clear hWW c8 CP CC
  go_region_with (go_at_call 30; (with_reducible refine (CG.out _ hbd).mono ?_); rintro e w2 ⟨rfl, hb2⟩; have hb9 := below_drew_next hb2; have hW2 := hW.belowS hb9; have B2 := Lib.hid (below_of hb0 hb9); have e0 := hW2.cell 0; have e1 := hW2.cell 1; have e2 := hW2.cell 2; have e3 := hW2.cell 3; have e4 := hW2.cell 4; have f0 := hW2.frozen 0; have f1 := hW2.frozen 1; have f2 := hW2.frozen 2; have f3 := hW2.frozen 3; have f4 := hW2.frozen 4; simp only [List.getElem?_toArray, List.getElem?_cons_zero, List.getElem?_cons_succ] at e0 e1 e2 e3 e4; have hlt2 := hW2.lt; clear hb2 hb9)
  all_goals
    go_wp2_with fail
    refine bodyPost_ret (v := .tuple #[pgV st ex wr ow ep, .pointer (some ⟨gw, i * 16 + j, none⟩)]) (by simp [results, Try.results47, go_sem, e0, e1, e2, e3, e4, hlt2]) rfl ?_
    exact ⟨rfl, ((((B2.out.setCell (Nat.le_refl _) _).setCell (Nat.le_refl _) _).setCell (Nat.le_refl _) _).setCell (Nat.le_refl _) _).setCell (Nat.le_refl _) _⟩
end
end Go.Proofs.Ytkmjacpcpchjoaa.MF
