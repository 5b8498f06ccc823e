/-
  What the small functions of package valid tell. Nothing here is a statement of the seed.
-/
import Derived.Test.YtajidaicojekdaaValM
import Derived.Test.YtajidaicojekdaaObjK
import Derived.Test.YtajidaicojekdaaIsaA
import Derived.RegionTactic
set_option linter.unusedSimpArgs false
set_option linter.unusedVariables false
namespace Go.Proofs.Ytajidaicojekdaa.VR
open Go.RowKit WM NR OM OR VM
set_option maxHeartbeats 4000000
set_option maxRecDepth 10000
/-- does a kind name a word of data, as the program asks? -/
def ofD (k : Int) : Bool := decide (k = 4 ∨ k = 5 ∨ k = 6)
theorem ofD_inC {k : Nat} (h : k ≤ 7) : ofD (k : Int) = !inC k := by
  rcases (show k = 0 ∨ k = 1 ∨ k = 2 ∨ k = 3 ∨ k = 4 ∨ k = 5 ∨ k = 6 ∨ k = 7 by omega) with rfl | rfl | rfl | rfl | rfl | rfl | rfl | rfl <;> rfl
theorem wholly_any (b : Bool) (w : World) : Calls Try.prog 105 #[.bool b] w fun e w' => e = .returned (.int .i64 (if b then 0 else -1)) ∧ w = w' := by
  cases b
  all_goals
    go_enter Try.func105, Try.ntmps105
    go_wp2_with fail
    go_ret
    exact ⟨rfl, rfl⟩
theorem isOfData_any (k : Int) (w : World) : Calls Try.prog 141 #[.int .u8 k] w fun e w' => e = .returned (.bool (ofD k)) ∧ w = w' := by
  by_cases h4 : k = 4
  · subst h4
    go_enter Try.func141, Try.ntmps141
    go_wp2_with fail
    go_ret
    exact ⟨rfl, rfl⟩
  by_cases h5 : k = 5
  · subst h5
    go_enter Try.func141, Try.ntmps141
    go_wp2_with fail
    go_ret
    exact ⟨rfl, rfl⟩
  have e : ofD k = decide (k = 6) := by
    unfold ofD
    exact decide_eq_decide.2 (by omega)
  rw [e]
  clear e
  go_enter Try.func141, Try.ntmps141
  go_wp2_with fail
  go_ret
  exact ⟨ret_bool (by rw [Bool.eq_iff_iff]; simp [h4, h5]), rfl⟩
theorem spotOf_any (k a b : Int) (w : World) : Calls Try.prog 139 #[.agg #[.int .u8 k, .int .u16 a, .int .u16 b]] w fun e w' => e = .returned (.agg #[.bool (ofD k), .int .u16 a]) ∧ Below w.heap.size w w' := by
  have C := Lib.hid (fun u => isOfData_any k u)
  have HB := Lib.hid (fun (x y : Value) => ((below_new w (.cells #[.int .u8 k, .int .u16 a, .int .u16 b] 76)).alloc (by simp) (.cells #[x, y] 187)).drew)
  generalize ofD k = d at *
  go_enter Try.func139, Try.ntmps139
  go_wp2_with fail
  go_region_with (go_at_call 141; (with_reducible refine (C.out _).mono ?_); rintro e w1 ⟨rfl, rfl⟩)
  all_goals
    go_wp2_with fail
    exact bodyPost_ret (v := .agg #[.bool d, .int .u16 a]) (by simp [results, Try.results139, go_sem]) rfl ⟨rfl, HB.out _ _⟩
/-- what a module's box leaves of a call that only reads it -/
theorem section_any {w : World} {x : ByteArray} {ea : Option Addr} {en ec : Nat} {ia : Option Addr} {im ic : Nat} {ca : Option Addr} {cn cc : Nat} {da : Option Addr} {dn dc : Nat} {ra : Option Addr} {rn rc : Nat} (k : Int) :
    Calls Try.prog 114 #[mV x ea en ec ia im ic ca cn cc da dn dc ra rn rc, .int .u8 k] w fun e w' => e = .returned (if ofD k then .slice da dn dc else .slice ca cn cc) ∧ Below w.heap.size w w' := by
  have C := Lib.hid (fun u => isOfData_any k u)
  have HB := Lib.hid (below_new w (.cells (mCs x ea en ec ia im ic ca cn cc da dn dc ra rn rc) 45))
  generalize ofD k = d at *
  cases d
  all_goals
    go_enter Try.func114, Try.ntmps114
    go_wp2_with (go_at_call 141; (with_reducible refine (C.out _).mono ?_); rintro e w1 ⟨rfl, rfl⟩)
    go_ret
    exact ⟨rfl, HB.out⟩
end Go.Proofs.Ytajidaicojekdaa.VR
