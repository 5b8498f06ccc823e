/-
  The program's table as it lies, and the searches in it. Nothing here is a statement of the seed.
-/
import Derived.Test.YtigalcmhongleaaGtMath
import Derived.Lib.Strings
import Derived.Deep.CutRange
import Derived.Deep.MidRow
import Derived.BigQuiet
import Derived.BigRegion
import Derived.Deep.QuietTactic
set_option linter.unusedSimpArgs false
set_option linter.unusedVariables false
namespace Go.Proofs.Ytigalcmhongleaa.GK
open Go.RowKit WM NR OM OR GA
set_option maxHeartbeats 4000000
set_option maxRecDepth 10000
/-- a gate that has no owner is the zero one; all others are as binds may be -/
structure Ok (f : Tb) : Prop where
  z : ∀ k, k < 8 → (f k).ow = 0 → f k = b0
  b : ∀ k, k < 8 → BdOk (f k)
theorem Ok.zero : Ok zeroT := ⟨fun _ _ _ => rfl, fun _ _ => ⟨⟨Int.le_refl 0, by show (0:Int) ≤ 65535; decide⟩, ⟨Int.le_refl 0, by show (0:Int) ≤ 4294967295; decide⟩⟩⟩
theorem Ok.set {f : Tb} {b : Bd} {g : Nat} (h : Ok f) (hb : BdOk b) (hz : b.ow = 0 → b = b0) : Ok (setT f g b) := by
  refine ⟨fun k hk => ?_, fun k hk => ?_⟩
  · by_cases e : k = g
    · rw [e, setT_same]; exact hz
    · rw [setT_other e]; exact h.z k hk
  · by_cases e : k = g
    · rw [e, setT_same]; exact hb
    · rw [setT_other e]; exact h.b k hk
/-- the program's table: one block behind a pointer -/
def PT : (Nat → Prop) → World → Value → Tb → Prop := fun S u v f => ∃ p, v = .pointer (some ⟨p, 0, none⟩) ∧ S p ∧ (∀ g, S g → g = p) ∧ Whole u p 53 (tC f) ∧ Ok f
theorem PT.lt {S : Nat → Prop} {u : World} {v : Value} {f : Tb} (h : PT S u v f) : ∀ g, S g → g < u.heap.size := by
  obtain ⟨p, _, _, h1, h2, _⟩ := h
  intro g hg
  rw [h1 g hg]; exact h2.lt
theorem PT.keep {S : Nat → Prop} {u u' : World} {v : Value} {f : Tb} (h : PT S u v f) (hk : ∀ g, S g → u'.heap[g]? = u.heap[g]?) : PT S u' v f := by
  obtain ⟨p, h0, hp, h1, h2, h3⟩ := h
  exact ⟨p, h0, hp, h1, h2.as (hk p hp), h3⟩
/-- a bind held against the one of a gate that has none -/
theorem eql_z (x : ByteArray) (o k : Int) (u : World) : (binOp .eql 35 (.agg #[.string x, .int .u16 o, .int .u32 k]) (.agg #[.string ⟨#[]⟩, .int .u16 0, .int .u32 0])).run Try.prog u = .ok (.bool (decide (x.toList = [] ∧ o = 0 ∧ k = 0))) u := by
  rw [run_eql_struct, show (10000:Nat) = 9999+1 from rfl, run_equalIn_agg u 9999 _ _ _ (by kernel_rfl) (by kernel_rfl)]
  rw [show (Try.prog.fieldsOf 35) = _ from by unfold Program.fieldsOf; rw [Try.underlying35]]
  simp [Op.eqFields, go_sem, Try.underlying9, Try.underlying26, Try.underlying27]
  cases hx : x.toList <;> by_cases h2 : o = 0 <;> by_cases h3 : k = 0 <;> simp [h2, h3]
theorem neq_z (x : ByteArray) (o k : Int) (u : World) : (binOp .neq 35 (.agg #[.string x, .int .u16 o, .int .u32 k]) (.agg #[.string ⟨#[]⟩, .int .u16 0, .int .u32 0])).run Try.prog u = .ok (.bool (!decide (x.toList = [] ∧ o = 0 ∧ k = 0))) u := by
  have h := eql_z x o k u
  rw [run_eql_struct] at h
  rw [run_neq_struct]
  cases e : (Op.equalIn 10000 35 (.agg #[.string x, .int .u16 o, .int .u32 k]) (.agg #[.string ⟨#[]⟩, .int .u16 0, .int .u32 0])).run Try.prog u with
  | ok r w3 =>
    rw [e] at h
    simp only [Result.andThen_ok, Result.ok.injEq, Value.bool.injEq] at h ⊢
    exact ⟨by rw [h.1], h.2⟩
  | halt x w3 => rw [e] at h; simp [Result.andThen] at h
theorem eql_z' (x : ByteArray) (o k : Int) (u : World) : (binOp .eql 35 (.agg #[.string ⟨#[]⟩, .int .u16 0, .int .u32 0]) (.agg #[.string x, .int .u16 o, .int .u32 k])).run Try.prog u = .ok (.bool (decide (x.toList = [] ∧ o = 0 ∧ k = 0))) u := by
  rw [run_eql_struct, show (10000:Nat) = 9999+1 from rfl, run_equalIn_agg u 9999 _ _ _ (by kernel_rfl) (by kernel_rfl)]
  rw [show (Try.prog.fieldsOf 35) = _ from by unfold Program.fieldsOf; rw [Try.underlying35]]
  simp [Op.eqFields, go_sem, Try.underlying9, Try.underlying26, Try.underlying27]
  have e1 : (0 = o) = (o = 0) := propext eq_comm
  have e2 : (0 = k) = (k = 0) := propext eq_comm
  simp only [e1, e2]
  cases hx : x.toList <;> by_cases h2 : o = 0 <;> by_cases h3 : k = 0 <;> simp [h2, h3]
theorem bs_nil {l : List UInt8} : (bs l).toList = [] ↔ l = [] := by rw [Lib.toList_data]; exact Iff.rfl
theorem zero_iff {f : Tb} (h : Ok f) {k : Nat} (hk : k < 8) : decide ((bs (f k).nm).toList = [] ∧ (f k).ow = 0 ∧ (f k).bs = 0) = decide ((f k).ow = 0) := by
  by_cases e : (f k).ow = 0
  · rw [decide_eq_true e, h.z k hk e]
    exact decide_eq_true ⟨bs_nil.2 rfl, rfl, rfl⟩
  · rw [decide_eq_false e]
    exact decide_eq_false (fun q => e q.2.1)
section
variable {w : World} {f : Tb} {p : Nat}
theorem hasB_of {f : Tb} (m : List UInt8) (k : Nat) : hasB f m k = ((!decide ((f k).ow = 0)) && decide ((f k).nm = m)) := by unfold hasB; simp
/-- the closure of gateOf -/
theorem clo_nm {q : Nat} {X : ByteArray} {x : ByteArray} {o k : Int} (h : w.cell? ⟨q, 0, none⟩ = some (.string X)) :
    Calls Try.prog 36 #[.agg #[.string x, .int .u16 o, .int .u32 k], .pointer (some ⟨q, 0, none⟩)] w fun e u => e = .returned (.bool ((!decide (x.toList = [] ∧ o = 0 ∧ k = 0)) && (x.toList == X.toList))) ∧ Below w.heap.size w u := by
  have HB := Lib.hid (below_new w (.cells #[.string x, .int .u16 o, .int .u32 k] 35))
  have HZ := Lib.hid (Whole.new w 35 #[.string x, .int .u16 o, .int .u32 k])
  have y1 := (HB.out.cell (p := ⟨q, 0, none⟩) (World.block_lt_of_cell? w _ h)).trans h
  clear h
  have eN := neq_z x o k
  obtain ⟨B, hB⟩ : ∃ B, B = decide (x.toList = [] ∧ o = 0 ∧ k = 0) := ⟨_, rfl⟩
  rw [← hB] at eN ⊢
  clear hB
  go_enter Try.func36, Try.ntmps36
  go_upto_region 1 with fail
  generalize w.alloc (.cells #[.string x, .int .u16 o, .int .u32 k] 35) = W at *
  obtain ⟨d0, d1, d2⟩ : W.cell? ⟨w.heap.size, 0, none⟩ = some (.string x) ∧ W.cell? ⟨w.heap.size, 1, none⟩ = some (.int .u16 o) ∧ W.cell? ⟨w.heap.size, 2, none⟩ = some (.int .u32 k) := ⟨HZ.out.cell 0, HZ.out.cell 1, HZ.out.cell 2⟩
  have d3 := HZ.out.lt
  cases B
  · go_wp2_with fail
    go_ret
    exact ⟨rfl, HB.out⟩
  · go_wp2_with fail
    go_ret
    exact ⟨rfl, HB.out⟩
theorem clo_ow {q : Nat} {O : Int} {x : ByteArray} {o k : Int} (h : w.cell? ⟨q, 0, none⟩ = some (.int .u16 O)) :
    Calls Try.prog 38 #[.agg #[.string x, .int .u16 o, .int .u32 k], .pointer (some ⟨q, 0, none⟩)] w fun e u => e = .returned (.bool (decide (o = O))) ∧ Below w.heap.size w u := by
  have HB := Lib.hid (below_new w (.cells #[.string x, .int .u16 o, .int .u32 k] 35))
  have HZ := Lib.hid (Whole.new w 35 #[.string x, .int .u16 o, .int .u32 k])
  have y1 := (HB.out.cell (p := ⟨q, 0, none⟩) (World.block_lt_of_cell? w _ h)).trans h
  clear h
  rw [show decide (o = O) = (o == O) by by_cases e : o = O <;> simp [e]]
  go_enter Try.func38, Try.ntmps38
  go_upto_region 1 with fail
  generalize w.alloc (.cells #[.string x, .int .u16 o, .int .u32 k] 35) = W at *
  obtain ⟨d0, d1, d2⟩ : W.cell? ⟨w.heap.size, 0, none⟩ = some (.string x) ∧ W.cell? ⟨w.heap.size, 1, none⟩ = some (.int .u16 o) ∧ W.cell? ⟨w.heap.size, 2, none⟩ = some (.int .u32 k) := ⟨HZ.out.cell 0, HZ.out.cell 1, HZ.out.cell 2⟩
  have d3 := HZ.out.lt
  go_wp2_with fail
  go_ret
  exact ⟨rfl, HB.out⟩
/-- the first gate that a closure says yes to -/
theorem idx_nm {q : Nat} (hW : Whole w p 53 (tC f)) {P : Nat → Bool} (hc : ∀ k, k < 8 → ∀ u : World, Below w.heap.size w u → Calls Try.prog 36 #[bdV (f k), .pointer (some ⟨q, 0, none⟩)] u fun e u2 => e = .returned (.bool (P k)) ∧ Below u.heap.size u u2) :
    Calls Try.prog 35 #[.slice (some ⟨p, 0, none⟩) 8 8, .func (.func 36) #[] #[.pointer (some ⟨q, 0, none⟩)]] w fun e u => e = .returned (.int .i64 (fst8 P)) ∧ Below w.heap.size w u := by
  have HW := Lib.hid hW
  have HC := Lib.hid hc
  clear hW hc
  obtain ⟨E, hE⟩ : ∃ E, E = fst8 P := ⟨_, rfl⟩
  rw [← hE]
  have HE := Lib.hid hE
  clear hE
  go_enter Try.func35, Try.ntmps35
  go_wp2_with fail
  go_loopw [8] (fun i wr => ∃ k : Nat, k ≤ 8 ∧ i = .int .i64 (k : Int) ∧ Hid (∀ j, j < k → P j = false) ∧ Below w.heap.size w wr) (fun i _ => 8 - (intOf i).toNat)
  case atStart => exact ⟨0, by omega, rfl, Lib.hid (fun j hj => by omega), Below.refl _ _⟩
  case round =>
    obtain ⟨k, hk, rfl, hp, hbl⟩ := hrel
    by_cases hlt : k < 8
    · have hlt' : (k : Int) < 8 := by omega
      obtain ⟨y0, y1, y2⟩ := box_at (HW.out.belowS hbl) hlt
      have y6 := (HW.out.belowS hbl).lt
      have CL := Lib.hid (HC.out k hlt wr hbl)
      generalize f k = B at *
      obtain ⟨nm, o, bb⟩ := B
      simp only at y0 y1 y2
      have CL : Hid (Calls Try.prog 36 #[.agg #[.string (bs nm), .int .u16 o, .int .u32 bb], .pointer (some ⟨q, 0, none⟩)] wr fun e u2 => e = .returned (.bool (P k)) ∧ Below wr.heap.size wr u2) := CL
      generalize bs nm = X at *
      obtain ⟨b, hb⟩ : ∃ b, b = P k := ⟨_, rfl⟩
      rw [← hb] at CL
      cases b
      case true =>
        have hh := Lib.hid (HE.out.trans (fst8_yes hlt hb.symm hp.out))
        clear hb hp
        go_wp2_with (go_at_call 36; (with_reducible refine CL.out.mono ?_); rintro e w1 ⟨rfl, hb1⟩)
        go_ret
        exact ⟨ret_int hh.out.symm, below_of hbl hb1⟩
      case false =>
        have hp2 := Lib.hid (fun j (hj : j < k + 1) => if h : j < k then hp.out j h else by rw [show j = k by omega]; exact hb.symm)
        clear hb hp
        go_wp2_with (go_at_call 36; (with_reducible refine CL.out.mono ?_); rintro e w1 ⟨rfl, hb1⟩)
        go_roundw
        case rel => exact ⟨k + 1, by omega, by go_num, hp2, below_of hbl hb1⟩
        case measure => simp [intOf]; omega
    · obtain rfl : k = 8 := by omega
      have hh := Lib.hid (HE.out.trans (fst8_no hp.out))
      clear hp
      go_wp2_with fail
      go_ret
      exact ⟨ret_int hh.out.symm, hbl⟩
theorem idx_ow {q : Nat} (hW : Whole w p 53 (tC f)) {P : Nat → Bool} (hc : ∀ k, k < 8 → ∀ u : World, Below w.heap.size w u → Calls Try.prog 38 #[bdV (f k), .pointer (some ⟨q, 0, none⟩)] u fun e u2 => e = .returned (.bool (P k)) ∧ Below u.heap.size u u2) :
    Calls Try.prog 35 #[.slice (some ⟨p, 0, none⟩) 8 8, .func (.func 38) #[] #[.pointer (some ⟨q, 0, none⟩)]] w fun e u => e = .returned (.int .i64 (fst8 P)) ∧ Below w.heap.size w u := by
  have HW := Lib.hid hW
  have HC := Lib.hid hc
  clear hW hc
  obtain ⟨E, hE⟩ : ∃ E, E = fst8 P := ⟨_, rfl⟩
  rw [← hE]
  have HE := Lib.hid hE
  clear hE
  go_enter Try.func35, Try.ntmps35
  go_wp2_with fail
  go_loopw [8] (fun i wr => ∃ k : Nat, k ≤ 8 ∧ i = .int .i64 (k : Int) ∧ Hid (∀ j, j < k → P j = false) ∧ Below w.heap.size w wr) (fun i _ => 8 - (intOf i).toNat)
  case atStart => exact ⟨0, by omega, rfl, Lib.hid (fun j hj => by omega), Below.refl _ _⟩
  case round =>
    obtain ⟨k, hk, rfl, hp, hbl⟩ := hrel
    by_cases hlt : k < 8
    · have hlt' : (k : Int) < 8 := by omega
      obtain ⟨y0, y1, y2⟩ := box_at (HW.out.belowS hbl) hlt
      have y6 := (HW.out.belowS hbl).lt
      have CL := Lib.hid (HC.out k hlt wr hbl)
      generalize f k = B at *
      obtain ⟨nm, o, bb⟩ := B
      simp only at y0 y1 y2
      have CL : Hid (Calls Try.prog 38 #[.agg #[.string (bs nm), .int .u16 o, .int .u32 bb], .pointer (some ⟨q, 0, none⟩)] wr fun e u2 => e = .returned (.bool (P k)) ∧ Below wr.heap.size wr u2) := CL
      generalize bs nm = X at *
      obtain ⟨b, hb⟩ : ∃ b, b = P k := ⟨_, rfl⟩
      rw [← hb] at CL
      cases b
      case true =>
        have hh := Lib.hid (HE.out.trans (fst8_yes hlt hb.symm hp.out))
        clear hb hp
        go_wp2_with (go_at_call 38; (with_reducible refine CL.out.mono ?_); rintro e w1 ⟨rfl, hb1⟩)
        go_ret
        exact ⟨ret_int hh.out.symm, below_of hbl hb1⟩
      case false =>
        have hp2 := Lib.hid (fun j (hj : j < k + 1) => if h : j < k then hp.out j h else by rw [show j = k by omega]; exact hb.symm)
        clear hb hp
        go_wp2_with (go_at_call 38; (with_reducible refine CL.out.mono ?_); rintro e w1 ⟨rfl, hb1⟩)
        go_roundw
        case rel => exact ⟨k + 1, by omega, by go_num, hp2, below_of hbl hb1⟩
        case measure => simp [intOf]; omega
    · obtain rfl : k = 8 := by omega
      have hh := Lib.hid (HE.out.trans (fst8_no hp.out))
      clear hp
      go_wp2_with fail
      go_ret
      exact ⟨ret_int hh.out.symm, hbl⟩
end
end Go.Proofs.Ytigalcmhongleaa.GK
