/-
  Which pages are not free: the program's. Nothing here is a statement of the seed.
-/
import Derived.Test.YthpdpocglfafaaaPageNew
set_option linter.unusedSimpArgs false
set_option linter.unusedVariables false
namespace Go.Proofs.Ythpdpocglfafaaa.PF
open Go.RowKit PM PR

theorem infoBool : (Try.prog.info? 4).map (fun i => (i.zero, i.size, i.bytes)) = some (some (.bool false), 1, 1) := by kernel_rfl
def usedL (l : List Pg) : List Value := l.map fun p => .bool (usedB p)
/-- the first k are told -/
def halfU (l : List Pg) (k : Nat) : List Value := usedL (l.take k) ++ List.replicate (l.length - k) (.bool false)
theorem usedL_len (l : List Pg) : (usedL l).length = l.length := by simp [usedL]
theorem halfU_len (l : List Pg) (k : Nat) (hk : k ≤ l.length) : (halfU l k).length = l.length := by simp [halfU, usedL]; omega
theorem halfU_end (l : List Pg) : halfU l l.length = usedL l := by simp [halfU]
theorem halfU_zero (l : List Pg) : halfU l 0 = List.replicate l.length (.bool false) := by simp [halfU, usedL]
theorem halfU_set (l : List Pg) (k : Nat) (hk : k < l.length) : (halfU l k).set k (.bool (usedB (l.getD k zero))) = halfU l (k + 1) := by
  unfold halfU
  have hl : (usedL (l.take k)).length = k := by simp [usedL]; omega
  rw [List.set_append_right _ _ (by omega), hl, Nat.sub_self, show l.length - k = (l.length - (k + 1)) + 1 by omega, List.replicate_succ, getD_in hk, List.take_succ_eq_append_getElem hk]
  simp only [usedL, List.map_append, List.append_assoc]
  rfl
theorem halfU_at (l : List Pg) (k : Nat) (hk : k < l.length) : ∃ v, (halfU l k)[k]? = some v := ⟨_, List.getElem?_eq_getElem (by rw [halfU_len l k (by omega)]; exact hk)⟩
def UsedR (l : List Pg) (w : World) (e : Ending) (w' : World) : Prop := ∃ g, e = .returned (.slice (some ⟨g, 0, none⟩) l.length l.length) ∧ Whole w' g 4 (usedL l).toArray ∧ w.heap.size ≤ g ∧ Below w.heap.size w w'
set_option maxHeartbeats 1000000 in
theorem used_tb {p g : Nat} {l : List Pg} {w : World} (h : Tb w p g l) : Calls Try.prog 23 #[.pointer (some ⟨p, 0, none⟩)] w (UsedR l w) := by
  obtain ⟨i0, hi, hz0, hz1, hz2⟩ := info_parts infoBool
  have h256 := h.1
  have HT := Lib.hid h
  clear h
  generalize hn : l.length = n at *
  have HN := Lib.hid hn
  have CL := Lib.hid (fun u hu => len_tb (w := u) (HT.out.belowS hu))
  rw [hn] at CL
  clear hn
  go_enter Try.func23, Try.ntmps23
  go_wp2_with (first | (go_at_call 21; refine (CL.out _ (Below.refl _ _)).mono ?_; rintro e w1 ⟨rfl, rfl⟩) | (at_make; refine wpList_make_full _ rfl _ _ 46 rfl w.heap.size 4 i0 _ 1 Try.underlying46 hi hz0 hz1 _ _ _ _ n rfl rfl (by omega) (by omega) (by rw [hz2]; omega) (by unfold maxLen; omega) (Nat.le_refl _) ?_; intro w1 hown1 hgrow1))
  have hb1 : Below w.heap.size w w1 := (Below.refl _ _).grown hgrow1 (Nat.le_refl _) (fun k hk => by cases hk)
  have hB1 : Hid (Whole w1 w.heap.size 4 (halfU l 0).toArray) := by
    rw [show n * 1 = n by omega, show (Value.bool false).cells = #[.bool false] from rfl, toList_madeCells_one] at hown1
    rcases hown1.2 with ⟨e, _⟩ | ⟨g', cap, cur, e, _, hh, _, _, hsz, hcur⟩
    · cases e
    · simp only [Value.slice.injEq, Option.some.injEq, Addr.mk.injEq, true_and] at e
      obtain ⟨⟨rfl, _⟩, rfl⟩ := e
      have : cur = (halfU l 0).toArray := by
        apply Array.ext'
        rw [halfU_zero, HN.out, ← hcur, List.take_of_length_le (by rw [Array.length_toList, hsz]; exact Nat.le_refl _)]
      rw [← this]
      exact Lib.hid hh
  clear hown1 hgrow1
  go_wp2_with fail
  go_loopw [10] (fun i wr => ∃ k : Nat, k ≤ n ∧ i = .int .i64 (k : Int) ∧ Below w.heap.size w wr ∧ Hid (Whole wr w.heap.size 4 (halfU l k).toArray)) (fun i _ => n - (intOf i).toNat)
  case atStart => exact ⟨0, by omega, rfl, hb1, hB1⟩
  case round =>
    obtain ⟨k, hk, rfl, hb, hB⟩ := hrel
    by_cases hlt : k < n
    · have hlt' : (k : Int) < n := by omega
      have hkl : k < l.length := by rw [HN.out]; exact hlt
      have hC := Lib.hid (get_tb (HT.out.belowS hb) (k : Int))
      rw [show gP l (k : Int) = l.getD k zero by unfold gP; rw [if_neg (by omega)]; rfl] at hC
      have hU := Lib.hid (isUsed_any (l.getD k zero))
      have hset := Lib.hid (halfU_set l k hkl)
      obtain ⟨v0, hv0⟩ := halfU_at l k hkl
      have HV := Lib.hid hv0
      clear hv0 hkl
      generalize usedB (l.getD k zero) = q at *
      generalize l.getD k zero = x at *
      obtain ⟨st, ex, wr', ow, ep⟩ := x
      change Hid (Says _ _ #[pgV st ex wr' ow ep] _) at hU
      have hlb := hB.out.lt
      have hs := hb.size
      go_wp2_with (first | (go_at_call 22; refine hC.out.mono ?_; rintro e w2 ⟨rfl, hb2⟩; have hbb2 := below_of hb hb2) | (go_at_call 36; refine (hU.out _).mono ?_; rintro e w3 ⟨rfl, hb3⟩; have hB3 := (hB.out.belowS hb2).belowS hb3; have hc3 := hB3.cell k; have hf3 := hB3.frozen k; rw [List.getElem?_toArray, HV.out] at hc3; have HB3 := Lib.hid hB3; clear hB3))
      go_roundw
      case rel => exact ⟨k + 1, by omega, by go_num, (below_of hbb2 hb3).setCell (Nat.le_refl _) _, Lib.hid (by have := HB3.out.set_ k (.bool q); rw [List.setIfInBounds_toArray, hset.out] at this; exact this)⟩
      case measure => simp [intOf]; omega
    · obtain rfl : k = n := by omega
      go_wp2_with fail
      go_ret
      exact ⟨w.heap.size, by rw [HN.out]; rfl, by rw [← halfU_end, HN.out]; exact hB.out, Nat.le_refl _, hb⟩
theorem used_nil (w : World) : Calls Try.prog 23 #[.pointer none] w fun e w' => e = .returned (.slice (some ⟨w.heap.size, 0, none⟩) 0 0) ∧ Below w.heap.size w w' := by
  obtain ⟨i0, hi, hz0, hz1, hz2⟩ := info_parts infoBool
  go_enter Try.func23, Try.ntmps23
  go_wp2_with (first | (go_at_call 21; refine (len_nil _).mono ?_; rintro e w1 ⟨rfl, rfl⟩) | (at_make; refine wpList_make_full _ rfl _ _ 46 rfl w.heap.size 4 i0 _ 1 Try.underlying46 hi hz0 hz1 _ _ _ _ 0 rfl rfl (by omega) (by omega) (by rw [hz2]; omega) (by unfold maxLen; omega) (Nat.le_refl _) ?_; intro w1 hown1 hgrow1))
  have hb1 : Below w.heap.size w w1 := (Below.refl _ _).grown hgrow1 (Nat.le_refl _) (fun k hk => by cases hk)
  clear hown1 hgrow1
  go_wp2_with fail
  refine wp_loop_rounds 1 ?_
  rw [rounds_succ]
  go_wp2_with fail
  go_ret
  exact ⟨rfl, hb1⟩
end Go.Proofs.Ythpdpocglfafaaa.PF
