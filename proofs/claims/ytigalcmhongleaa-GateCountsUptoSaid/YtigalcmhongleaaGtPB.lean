/-
  The program's gateOf, hasOwner and the first gate that is free. Nothing here is a statement of the seed.
-/
import Derived.Test.YtigalcmhongleaaGtPA
set_option linter.unusedSimpArgs false
set_option linter.unusedVariables false
namespace Go.Proofs.Ytigalcmhongleaa.GK
open Go.RowKit WM NR OM OR GA
set_option maxHeartbeats 4000000
set_option maxRecDepth 10000
theorem bs_list (l : List UInt8) : (bs l).toList = l := by rw [Lib.toList_data]; rfl
theorem dr {B : Nat} {a w : World} (h : Below B a w) (n : Nat) : Below B a (w.drewN n) := ⟨h.os, h.tape, h.output, h.size, h.block⟩
theorem below_of' {B : Nat} {a b c : World} (h : Below B a b) (k : Below b.heap.size b c) (hs : B ≤ b.heap.size) : Below B a c := h.trans (k.mono hs)
section
variable {w : World} {f : Tb} {p : Nat}
theorem gateOf_any (hW : Whole w p 53 (tC f)) (hok : Ok f) (m : List UInt8) :
    Calls Try.prog 26 #[.pointer (some ⟨p, 0, none⟩), .string (bs m)] w fun e u => e = .returned (.int .i64 (place f m)) ∧ Below w.heap.size w u := by
  have b1 := below_new w (.cells #[.string (bs m)] 9)
  have HB := Lib.hid b1
  have HX := Lib.hid (hW.belowS b1)
  have C := Lib.hid (idx_nm (f := f) (q := w.heap.size) HX.out (P := hasB f m) (fun k hk u hu => by
    have hz : u.cell? ⟨w.heap.size, 0, none⟩ = some (.string (bs m)) := ((Whole.new w 9 #[.string (bs m)]).belowS hu).cell 0
    have h := clo_nm (w := u) (x := bs (f k).nm) (o := (f k).ow) (k := (f k).bs) hz
    rw [zero_iff hok hk, bs_list, bs_list] at h
    rw [hasB_of, show decide ((f k).nm = m) = ((f k).nm == m) by by_cases e : (f k).nm = m <;> simp [e]]
    exact h))
  have hW6 := HX.out.lt
  clear hW hok b1
  generalize bs m = X at *
  change Calls _ _ _ _ fun e u => e = .returned (.int .i64 (fst8 (hasB f m))) ∧ _
  generalize fst8 (hasB f m) = G at *
  go_enter Try.func26, Try.ntmps26
  go_upto_region 1 with fail
  generalize w.alloc (.cells #[.string X] 9) = W at *
  go_wp2_with (go_at_call 35; (with_reducible refine C.out.mono ?_); rintro e w1 ⟨rfl, hb1⟩)
  go_ret
  exact ⟨rfl, below_of HB.out hb1⟩
theorem contains_any {fn2 : Value} {P : Nat → Bool} (C : Calls Try.prog 35 #[.slice (some ⟨p, 0, none⟩) 8 8, fn2] w fun e u => e = .returned (.int .i64 (fst8 P)) ∧ Below w.heap.size w u) :
    Calls Try.prog 37 #[.slice (some ⟨p, 0, none⟩) 8 8, fn2] w fun e u => e = .returned (.bool (decide (0 ≤ fst8 P))) ∧ Below w.heap.size w u := by
  have C := Lib.hid C
  generalize fst8 P = G at *
  go_enter Try.func37, Try.ntmps37
  go_wp2_with (go_at_call 35; (with_reducible refine C.out.mono ?_); rintro e w1 ⟨rfl, hb1⟩)
  go_ret
  exact ⟨rfl, hb1⟩
theorem hasOwner_any (hW : Whole w p 53 (tC f)) (o : Int) :
    Calls Try.prog 27 #[.pointer (some ⟨p, 0, none⟩), .int .u16 o] w fun e u => e = .returned (.bool (ownB f o)) ∧ Below w.heap.size w u := by
  have b1 := below_new w (.cells #[.int .u16 o] 26)
  have HB := Lib.hid b1
  have HX := Lib.hid (hW.belowS b1)
  have C := Lib.hid (contains_any (idx_ow (f := f) (q := w.heap.size) HX.out (P := fun g => decide ((f g).ow = o)) (fun k hk u hu => by
    have hz : u.cell? ⟨w.heap.size, 0, none⟩ = some (.int .u16 o) := ((Whole.new w 26 #[.int .u16 o]).belowS hu).cell 0
    exact clo_ow (w := u) (x := bs (f k).nm) (o := (f k).ow) (k := (f k).bs) hz)))
  have hW6 := HX.out.lt
  clear hW b1
  change Calls _ _ _ _ fun e u => e = .returned (.bool (decide (0 ≤ fst8 fun g => decide ((f g).ow = o)))) ∧ _
  generalize decide (0 ≤ fst8 fun g => decide ((f g).ow = o)) = G at *
  go_enter Try.func27, Try.ntmps27
  go_upto_region 1 with fail
  generalize w.alloc (.cells #[.int .u16 o] 26) = W at *
  go_wp2_with (go_at_call 37; (with_reducible refine C.out.mono ?_); rintro e w1 ⟨rfl, hb1⟩)
  go_ret
  exact ⟨rfl, below_of HB.out hb1⟩
/-- the first gate that has none -/
theorem index_any (hW : Whole w p 53 (tC f)) (hok : Ok f) :
    Calls Try.prog 29 #[.slice (some ⟨p, 0, none⟩) 8 8, .agg #[.string ⟨#[]⟩, .int .u16 0, .int .u32 0]] w fun e u => e = .returned (.int .i64 (firstB f)) ∧ Below w.heap.size w u := by
  have HB := Lib.hid (below_new w (.cells #[.string ⟨#[]⟩, .int .u16 0, .int .u32 0] 35))
  have HZ := Lib.hid (Whole.new w 35 #[.string ⟨#[]⟩, .int .u16 0, .int .u32 0])
  have HW := Lib.hid (hW.belowS HB.out)
  have HO := Lib.hid hok
  clear hW hok
  obtain ⟨E, hE⟩ : ∃ E, E = firstB f := ⟨_, rfl⟩
  rw [← hE]
  have HE := Lib.hid (show E = fst8 fun g => decide ((f g).ow = 0) from hE)
  clear hE
  go_enter Try.func29, Try.ntmps29
  go_upto_region 1 with fail
  generalize w.alloc (.cells #[.string ⟨#[]⟩, .int .u16 0, .int .u32 0] 35) = W at *
  have z6 := HW.out.lt
  obtain ⟨d0, d1, d2⟩ : W.cell? ⟨w.heap.size, 0, none⟩ = some (.string ⟨#[]⟩) ∧ W.cell? ⟨w.heap.size, 1, none⟩ = some (.int .u16 0) ∧ W.cell? ⟨w.heap.size, 2, none⟩ = some (.int .u32 0) := ⟨HZ.out.cell 0, HZ.out.cell 1, HZ.out.cell 2⟩
  have d3 := HZ.out.lt
  go_upto_region 2 with fail
  go_loopw [8] (fun i wr => ∃ k : Nat, k ≤ 8 ∧ i = .int .i64 (k : Int) ∧ Hid (∀ j, j < k → decide ((f j).ow = 0) = false) ∧ Below W.heap.size W wr) (fun i _ => 8 - (intOf i).toNat)
  case atStart => exact ⟨0, by omega, rfl, Lib.hid (fun j hj => by omega), Below.refl _ _⟩
  case round =>
    obtain ⟨k, hk, rfl, hp, hbl⟩ := hrel
    clear d0 d1 d2 d3 z6
    have z6 := (HW.out.belowS hbl).lt
    have hZr := HZ.out.belowS hbl
    obtain ⟨d0, d1, d2⟩ : wr.cell? ⟨w.heap.size, 0, none⟩ = some (.string ⟨#[]⟩) ∧ wr.cell? ⟨w.heap.size, 1, none⟩ = some (.int .u16 0) ∧ wr.cell? ⟨w.heap.size, 2, none⟩ = some (.int .u32 0) := ⟨hZr.cell 0, hZr.cell 1, hZr.cell 2⟩
    have d3 := hZr.lt
    have HBr := Lib.hid (below_of' HB.out hbl HB.out.size)
    clear hZr
    by_cases hlt : k < 8
    · have hlt' : (k : Int) < 8 := by omega
      obtain ⟨y0, y1, y2⟩ := box_at (HW.out.belowS hbl) hlt
      have HF := Lib.hid (fun hh => fst8_yes (p := fun g => decide ((f g).ow = 0)) hlt hh hp.out)
      have HN := Lib.hid (fun hh : decide ((f k).ow = 0) = false => (fun j (hj : j < k + 1) => if h : j < k then hp.out j h else by rw [show j = k by omega]; exact hh))
      have eN := eql_z' (bs (f k).nm) (f k).ow (f k).bs
      rw [zero_iff HO.out hlt] at eN
      clear hp
      by_cases b1 : (f k).ow = 0
      · have hh := Lib.hid (show E = k by rw [HE.out, HF.out (decide_eq_true b1)])
        rw [decide_eq_true b1] at eN
        clear HN HF HE b1
        generalize bs (f k).nm = X at *
        generalize (f k).ow = O at *
        generalize (f k).bs = K at *
        go_upto_region 4 with fail
        go_quiet (fail)
        go_wp2_with fail
        go_ret
        exact ⟨ret_int hh.out.symm, dr HBr.out _⟩
      · have hp2 := Lib.hid (HN.out (decide_eq_false b1))
        rw [decide_eq_false b1] at eN
        clear HN HF HE b1
        generalize bs (f k).nm = X at *
        generalize (f k).ow = O at *
        generalize (f k).bs = K at *
        go_upto_region 4 with fail
        go_quiet (fail)
        go_wp2_with fail
        go_roundw
        case rel => exact ⟨k + 1, by omega, by go_num, hp2, dr hbl _⟩
        case measure => simp [intOf]; omega
    · obtain rfl : k = 8 := by omega
      have hh := Lib.hid (HE.out.trans (fst8_no hp.out))
      clear hp
      go_wp2_with fail
      go_ret
      exact ⟨ret_int hh.out.symm, HBr.out⟩
end
end Go.Proofs.Ytigalcmhongleaa.GK
