/-
  The tree in memory: a place is settled, room is taken. Nothing here is a statement of the seed.
-/
import Derived.Test.YtegcekniolajeaaAllocRef
import Derived.BigRegion
import Derived.BigGuardPart
set_option linter.unusedSimpArgs false
set_option linter.unusedVariables false
namespace Go.Proofs.Ytegcekniolajeaa.AF
open Go.RowKit AL NR

/-- block g holds the tree T -/
def TrW (w : World) (g : Nat) (T : List Nat) : Prop := w.heap[g]? = some (.cells (n64s T).toArray 3 (0, 0))
section
variable {w w' : World} {g : Nat} {T : List Nat}
theorem TrW.lt (h : TrW w g T) : g < w.heap.size := (Array.getElem?_eq_some_iff.1 h).1
theorem TrW.cell (h : TrW w g T) {i : Nat} (hi : i < T.length) : w.cell? ⟨g, i, none⟩ = some (.int .i64 ((at0 T i : Nat) : Int)) := by
  rw [cell_of_row w g i _ _ (0, 0) h, List.getElem?_toArray, n64s_at T i hi]
  simp [at0, hi]
theorem TrW.frozen (h : TrW w g T) (i : Nat) : w.frozen? ⟨g, i, none⟩ = false := frozen_of_row w g i _ _ h
theorem TrW.set (h : TrW w g T) (i v : Nat) : TrW (w.setCell ⟨g, i, none⟩ (.int .i64 (v : Int))) g (T.set i v) := by
  have := heap_setCell_same w g i _ _ (.int .i64 (v : Int)) h
  show (w.setCell ⟨g, i, none⟩ (.int .i64 (v : Int))).heap[g]? = _
  rw [this, ← n64s_set]
  simp
theorem TrW.same (h : TrW w g T) (e : w'.heap[g]? = w.heap[g]?) : TrW w' g T := by show w'.heap[g]? = _; rw [e]; exact h
end
theorem grown_set (w : World) (g i : Nat) (v : Value) : w.grownBy (w.setCell ⟨g, i, none⟩ v) (some g) :=
  ⟨rfl, rfl, rfl, by simp, fun k _ hk => heap_setCell_other w ⟨g, i, none⟩ k v (fun e => hk (by simp [e]))⟩
theorem max_if' (a b : Nat) : (if a < b then (b : Int) else (a : Int)) = ((max a b : Nat) : Int) := by split <;> omega
set_option maxHeartbeats 1000000 in
theorem settle_any {w : World} {g : Nat} {T : List Nat} (h : TrW w g T) (hl : T.length ≤ 2000) (i : Nat) (hi : 2 * i + 1 < T.length) :
    Calls Try.prog 26 #[.slice (some ⟨g, 0, none⟩) T.length T.length, .int .i64 (i : Int)] w fun e w' => e = .returned (.tuple #[]) ∧ TrW w' g (T.set i (max (at0 T (2 * i)) (at0 T (2 * i + 1)))) ∧ w.grownBy w' (some g) := by
  have c0 := h.cell (i := i) (by omega)
  have c1 := h.cell (i := 2 * i) (by omega)
  have c2 := h.cell (i := 2 * i + 1) (by omega)
  have f0 := h.frozen i
  have HT := Lib.hid h
  clear h
  generalize hA : at0 T (2 * i) = A at *
  generalize hB : at0 T (2 * i + 1) = B at *
  generalize at0 T i = C at *
  clear hA hB
  generalize hm : T.length = m at *
  clear hm
  have hi' : 2 * (i : Int) + 1 < m := by omega
  have hm3 : (m : Int) ≤ 2000 := by omega
  have hi0 : (0 : Int) ≤ i := by omega
  go_enter Try.func26, Try.ntmps26
  go_region
  go_end0
  rw [max_if']
  have hg := grown_set w g i (.int .i64 ((max A B : Nat) : Int))
  exact ⟨rfl, (HT.out.set i (max A B)).same rfl, ⟨hg.os, hg.tape, hg.output, hg.size, hg.block⟩⟩
/-- what a taking leaves -/
def TakeP (T : List Nat) (d : Nat) (n : Int) (g : Nat) (w : World) (e : Ending) (w' : World) : Prop := ∃ b T', e = .returned (.bool b) ∧ TrW w' g T' ∧ w.grownBy w' (some g) ∧ Tree T' d ∧ (∀ i, at0 T' i ≤ 400) ∧
  (b = true → 1 ≤ n ∧ tk (leaves T d) n.toNat = some (leaves T' d)) ∧ (b = false → n < 1 ∨ tk (leaves T d) n.toNat = none)
theorem take_low (a : Option Addr) (m c : Nat) (n : Int) (hn : n < 1) (w : World) : Calls Try.prog 27 #[.slice a m c, .int .i64 n] w fun e w' => e = .returned (.bool false) ∧ w = w' := by
  go_enter Try.func27, Try.ntmps27
  go_wp2_with fail
  go_ret
  exact ⟨rfl, rfl⟩
theorem take_none {w : World} {g m : Nat} {x : Nat} (h : w.cell? ⟨g, 1, none⟩ = some (.int .i64 (x : Int))) (hm : 2 ≤ m) (n : Int) (hn : 1 ≤ n) (hx : (x : Int) < n) :
    Calls Try.prog 27 #[.slice (some ⟨g, 0, none⟩) m m, .int .i64 n] w fun e w' => e = .returned (.bool false) ∧ w = w' := by
  have hm' : (2 : Int) ≤ m := by omega
  go_enter Try.func27, Try.ntmps27
  go_wp2_with fail
  go_ret
  exact ⟨rfl, rfl⟩
theorem at_le {T : List Nat} {i v : Nat} (h : ∀ j, at0 T j ≤ 400) (hi : i < T.length) (hv : v ≤ 400) : ∀ j, at0 (T.set i v) j ≤ 400 := fun j => by
  rw [at_set T i j v hi]
  split
  · exact hv
  · exact h j
set_option maxHeartbeats 2000000 in
theorem take_some {w : World} {g d : Nat} {T : List Nat} (h : TrW w g T) (ht : Tree T d) (hb : ∀ i, at0 T i ≤ 400) (hl : T.length ≤ 2000) (n : Nat) (hn : 1 ≤ n) (hx : n ≤ at0 T 1) :
    Calls Try.prog 27 #[.slice (some ⟨g, 0, none⟩) T.length T.length, .int .i64 (n : Int)] w (TakeP T d n g w) := by
  have hp := pow_pos2 d
  have hlen := ht.len
  have h1 := h.cell (i := 1) (by omega)
  have hn4 := hb 1
  have HW := Lib.hid (way_start (d := d) hx)
  have HWL := Lib.hid (fun i (hw : AL.Way T d n i) => way_lt hw)
  have HWS := Lib.hid (fun i (hw : AL.Way T d n i) (hi : i < 2 ^ d) => way_step ht hw hi)
  have HWE := Lib.hid (fun i (hw : AL.Way T d n i) (hi : 2 ^ d ≤ i) => way_end ht hw hi)
  have HC := Lib.hid (fun i (hi : i < T.length) => h.cell hi)
  have HF := Lib.hid (fun i => h.frozen i)
  have HT := Lib.hid h
  have HTT := Lib.hid ht
  have HB := Lib.hid hb
  have HS := Lib.hid (fun (u : World) (T' : List Nat) (hu : TrW u g T') (hl' : T'.length ≤ 2000) i hi => settle_any hu hl' i hi)
  clear h ht hb
  generalize hx1 : at0 T 1 = x1 at *
  clear hx1
  generalize hm : T.length = m at *
  have HM := Lib.hid hm
  clear hm
  generalize hH : 2 ^ d = H at *
  have HH := Lib.hid hH
  clear hH
  have hm1 : (m : Int) ≤ 2 * H := by omega
  have hm2 : 2 * (H : Int) ≤ m := by omega
  have hm3 : (m : Int) ≤ 2000 := by omega
  have hm4 : (2 : Int) ≤ m := by omega
  have HLEN := Lib.hid hlen
  clear hlen
  have hx' : (n : Int) ≤ x1 := by omega
  have hn' : (1 : Int) ≤ n := by omega
  go_enter Try.func27, Try.ntmps27
  go_wp2_with fail
  go_loopw [5] (fun x wr => ∃ i : Nat, x = .int .i64 (i : Int) ∧ w = wr ∧ Hid (AL.Way T d n i)) (fun x _ => m - (intOf x).toNat)
  case atStart => exact ⟨1, rfl, rfl, HW⟩
  case round =>
    obtain ⟨i, rfl, rfl, hw⟩ := hrel
    have hwl := HWL.out i hw.out
    have hw1 := hw.out.1
    by_cases hlt : i < H
    · have hlt' : (i : Int) < H := by omega
      have hi1 : (1 : Int) ≤ i := by omega
      have hc := HC.out (2 * i) (by omega)
      have hs := Lib.hid (HWS.out i hw.out hlt)
      have hh : (i : Int) < (m : Int) / 2 := by omega
      rw [Nat.mul_comm 2 i] at hc
      rw [Nat.mul_comm 2 i] at hs
      generalize at0 T (i * 2) = y at *
      have hy : Hid (y = at0 T (i * 2)) ∨ True := Or.inr trivial
      clear hy
      by_cases hyn : y < n
      · have e := Lib.hid (hs.out.1 hyn)
        have hyn' : (y : Int) < n := by omega
        clear hs hyn
        go_wp2_with fail
        go_roundw
        case rel => exact ⟨i * 2 + 1, by go_num, by first | rfl | trivial, e⟩
        case measure => simp [intOf]; omega
      · have e := Lib.hid (hs.out.2 (by omega))
        have hyn' : (n : Int) ≤ y := by omega
        clear hs hyn
        go_wp2_with fail
        go_roundw
        case rel => exact ⟨i * 2, by go_num, by first | rfl | trivial, e⟩
        case measure => simp [intOf]; omega
    · have hlt' : (H : Int) ≤ i := by omega
      have hh : (m : Int) / 2 ≤ i := by omega
      have hi2 : i < m := by have := HLEN.out; omega
      have hc := HC.out i hi2
      have hf := HF.out i
      have he := HWE.out i hw.out (by omega)
      have hxn : n ≤ at0 T i := hw.out.2.1
      have hx4 := HB.out i
      have hoff := Lib.hid (off_start HTT.out (i := i) (by rw [HH.out]; omega) (by rw [HH.out]; omega) (at0 T i - n))
      have hB1 := Lib.hid (at_le (T := T) (i := i) (v := at0 T i - n) HB.out (by rw [HM.out]; exact hi2) (by omega))
      have hT1 := Lib.hid (HT.out.set i (at0 T i - n))
      have hsub : ((at0 T i - n : Nat) : Int) = (at0 T i : Int) - n := by omega
      rw [hsub] at hT1
      have hE := Lib.hid he
      have hl1 : (T.set i (at0 T i - n)).length = m := by rw [List.length_set, HM.out]
      clear he hsub
      generalize T.set i (at0 T i - n) = T1 at *
      generalize at0 T i = y at *
      have hyn : (n : Int) ≤ y := by omega
      have hy4 : (y : Int) ≤ 400 := by omega
      have hi2' : (i : Int) < m := by omega
      have hg1 := Lib.hid (grown_set w g i (.int .i64 ((y : Int) - n)))
      go_wp2_with fail
      generalize w.setCell ⟨g, i, none⟩ (.int .i64 ((y : Int) - n)) = W1 at *
      go_loopw [5] (fun x wr => ∃ (i : Nat) (T' : List Nat), 1 ≤ i ∧ i < m ∧ x = .int .i64 (i : Int) ∧ T'.length = m ∧ w.grownBy wr (some g) ∧ Hid (TrW wr g T' ∧ Off T' d i ∧ leaves T' d = leaves T1 d ∧ ∀ j, at0 T' j ≤ 400)) (fun x _ => (intOf x).toNat)
      case atStart => exact ⟨i, T1, by omega, by omega, rfl, hl1, hg1.out, Lib.hid ⟨hT1.out, hoff.out, rfl, hB1.out⟩⟩
      case round =>
        obtain ⟨i, T', hi1, him, rfl, hl', hg', hI⟩ := hrel
        by_cases hgt : 1 < i
        · have hgt' : (1 : Int) < i := by omega
          obtain ⟨hI1, hI2, hI3, hI4⟩ := hI.out
          have hset := Lib.hid (HS.out wr T' hI1 (by omega) (i / 2) (by omega))
          rw [hl'] at hset
          have hq : ((i / 2 : Nat) : Int) = (i : Int) / 2 := by omega
          rw [hq] at hset
          have ho := Lib.hid (off_step hI2 hgt (by rw [HH.out]; omega))
          have hlv := Lib.hid (leaves_up (T := T') (d := d) (i := i / 2) (v := max (at0 T' (2 * (i / 2))) (at0 T' (2 * (i / 2) + 1))) (by rw [HH.out]; omega))
          have hB2 := Lib.hid (at_le (T := T') (i := i / 2) (v := max (at0 T' (2 * (i / 2))) (at0 T' (2 * (i / 2) + 1))) hI4 (by omega) (by have := hI4 (2 * (i / 2)); have := hI4 (2 * (i / 2) + 1); omega))
          have hl2 : (T'.set (i / 2) (max (at0 T' (2 * (i / 2))) (at0 T' (2 * (i / 2) + 1)))).length = m := by rw [List.length_set]; exact hl'
          clear hI1 hI2 hI4 hq
          generalize T'.set (i / 2) (max (at0 T' (2 * (i / 2))) (at0 T' (2 * (i / 2) + 1))) = T2 at *
          have hLE := Lib.hid (hlv.out.trans hI3)
          clear hI3 hlv
          go_wp2_with (go_at_call 26; (with_reducible refine hset.out.mono ?_); rintro e2 w2 ⟨rfl, ht2, hg2⟩; have HT2 := Lib.hid ht2; have HG2 := Lib.hid (grown_trans hg' hg2); clear ht2 hg2)
          go_roundw
          case rel => exact ⟨i / 2, T2, by omega, by omega, by go_num, hl2, HG2.out, Lib.hid ⟨HT2.out, ho.out, hLE.out, hB2.out⟩⟩
          case measure => simp [intOf]; omega
        · have hgt' : ¬ (1 : Int) < i := by omega
          obtain ⟨hI1, hI2, hI3, hI4⟩ := hI.out
          have htr := Lib.hid (off_end hI2 (by omega))
          go_wp2_with fail
          go_ret
          refine ⟨true, T', rfl, hI1, hg', htr.out, hI4, fun _ => ⟨by omega, ?_⟩, (fun h => by cases h)⟩
          rw [Int.toNat_natCast, hI3]
          exact hE.out
theorem take_any {w : World} {g d : Nat} {T : List Nat} (h : TrW w g T) (ht : Tree T d) (hb : ∀ i, at0 T i ≤ 400) (hl : T.length ≤ 2000) (n : Int) :
    Calls Try.prog 27 #[.slice (some ⟨g, 0, none⟩) T.length T.length, .int .i64 n] w (TakeP T d n g w) := by
  have hp := pow_pos2 d
  have hlen := ht.len
  by_cases h1 : n < 1
  · refine (take_low _ _ _ n h1 w).mono ?_
    rintro e w' ⟨rfl, rfl⟩
    exact ⟨false, T, rfl, h, ⟨rfl, rfl, rfl, Nat.le_refl _, fun _ _ _ => rfl⟩, ht, hb, (fun h => by cases h), fun _ => Or.inl h1⟩
  · obtain ⟨N, rfl⟩ := Int.eq_ofNat_of_zero_le (show 0 ≤ n by omega)
    by_cases h2 : N ≤ at0 T 1
    · exact take_some h ht hb hl N (by omega) h2
    · refine (take_none (h.cell (i := 1) (by omega)) (by omega) (N : Int) (by omega) (by omega)).mono ?_
      rintro e w' ⟨rfl, rfl⟩
      exact ⟨false, T, rfl, h, ⟨rfl, rfl, rfl, Nat.le_refl _, fun _ _ _ => rfl⟩, ht, hb, (fun h => by cases h), fun _ => Or.inr (by rw [Int.toNat_natCast]; exact root_not ht (by omega))⟩
end Go.Proofs.Ytegcekniolajeaa.AF
