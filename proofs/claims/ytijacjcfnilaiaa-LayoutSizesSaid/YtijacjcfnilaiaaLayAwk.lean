/-
  The closed case that each law of layer 12 asks beside its own. Nothing here is a statement of the seed.
-/
import Derived.Test.YtijacjcfnilaiaaLayProg3
set_option linter.unusedSimpArgs false
set_option linter.unusedVariables false
namespace Go.Proofs.Ytijacjcfnilaiaa.YR
open Go.RowKit WM NR OM OR YM
set_option maxHeartbeats 4000000
set_option maxRecDepth 10000
abbrev m17 : Md := ⟨[], [], [], List.replicate 17 0, [], []⟩
abbrev z17 : Array Value := #[.int .u32 0, .int .u32 0, .int .u32 0, .int .u32 0, .int .u32 0, .int .u32 0, .int .u32 0, .int .u32 0, .int .u32 0, .int .u32 0, .int .u32 0, .int .u32 0, .int .u32 0, .int .u32 0, .int .u32 0, .int .u32 0, .int .u32 0]
theorem make17 : ∀ w, (Instr.makeSlice 23 (.int .i64 17) (.int .i64 17)).run Try.prog w = .ok (.slice (some ⟨w.heap.size, 0, none⟩) 17 17) (w.alloc (.cells z17 36)) := fun _ => by kernel_rfl
theorem reads_new {u : World} {xs : List Value} {t : TypeId} (hl : xs.length ≤ maxLen) : Reads (· < (u.alloc (.cells xs.toArray t)).heap.size) (u.alloc (.cells xs.toArray t)) (.slice (some ⟨u.heap.size, 0, none⟩) xs.length xs.length) xs := by
  refine ⟨_, _, rfl, Nat.le_refl _, hl, (fun h => by cases h), Or.inr ⟨u.heap.size, 0, rfl, by simp, fun j hj => ?_⟩⟩
  rw [Nat.zero_add, (Whole.new u t xs.toArray).cell j]
  simp
theorem rd17 (w : World) : RdM (· < (w.alloc (.cells z17 36)).heap.size) (w.alloc (.cells z17 36)) none 0 0 none 0 0 (some ⟨w.heap.size, 0, none⟩) 17 17 none 0 0 none 0 0 m17 :=
  ⟨Reads.nil _ _, Reads.nil _ _, reads_new (u := w) (xs := u32s (List.replicate 17 0)) (by simp [u32s, maxLen]), Reads.nil _ _, ReadsR.nil _ _⟩
theorem awake_any (w : World) : Calls Try.prog 15 #[] w fun e w' => e = .returned (.bool true) ∧ Below w.heap.size w w' := by
  have b1 := below_new w (.cells z17 36)
  have s1 : (w.alloc (.cells z17 36)).heap.size = w.heap.size + 1 := by simp
  have C1 : Hid (∀ u : World, Below (w.alloc (.cells z17 36)).heap.size (w.alloc (.cells z17 36)) u → Calls Try.prog 9 #[mV ⟨#[]⟩ none 0 0 none 0 0 (some ⟨w.heap.size, 0, none⟩) 17 17 none 0 0 none 0 0] u fun e w' => e = .returned (planV 2 0) ∧ Below u.heap.size u w') := Lib.hid (fun u hb => of_any ((rd17 w).go hb hb.size) (by omega))
  have C2 : Hid (∀ u : World, Calls Try.prog 16 #[planV 2 0, .int .i64 3] u fun e w' => e = .returned (.tuple #[placeV 128 160, .int .i64 0]) ∧ Below u.heap.size u w') := Lib.hid (fun u => by
    have := at_any 2 0 3 (by omega) (by omega) (by omega) u
    unfold resAt at this
    rw [show atP 2 0 3 = (128, 160, 0) by decide] at this
    exact this)
  have make := make17
  have HX := Whole.new (w.alloc (.cells z17 36)) 26 (mCs ⟨#[]⟩ none 0 0 none 0 0 (some ⟨w.heap.size, 0, none⟩) 17 17 none 0 0 none 0 0)
  rw [s1] at HX
  have HX := Lib.hid HX
  have HA := Lib.hid (below_new (w.alloc (.cells z17 36)) (.cells (mCs ⟨#[]⟩ none 0 0 none 0 0 (some ⟨w.heap.size, 0, none⟩) 17 17 none 0 0 none 0 0) 26))
  have HB := Lib.hid (b1.trans (HA.out.mono b1.size))
  clear b1 s1
  go_enter Try.func15, Try.ntmps15
  go_upto_region 2 with fail
  clear make
  generalize (w.alloc (.cells z17 36)).alloc (.cells (mCs ⟨#[]⟩ none 0 0 none 0 0 (some ⟨w.heap.size, 0, none⟩) 17 17 none 0 0 none 0 0) 26) = W at *
  obtain ⟨c0, c1, c2, c3, c4, c5⟩ := mod_cells HX.out
  have c6 := HX.out.lt
  go_upto_region 3 with (first | (go_at_call 9; (with_reducible refine (C1.out _ HA.out).mono ?_); rintro e w1 ⟨rfl, hb⟩; have HX1 := Lib.hid (HX.out.belowS hb); have HA1 := Lib.hid (HA.out.trans (hb.mono HA.out.size)); have HB1 := Lib.hid (HB.out.trans (hb.mono HB.out.size)); clear hb) | (go_at_call 16; (with_reducible refine (C2.out _).mono ?_); rintro e w2 ⟨rfl, hb⟩; have HX2 := Lib.hid (HX1.out.belowS hb); have HA2 := Lib.hid (HA1.out.trans (hb.mono HA1.out.size)); have HB2 := Lib.hid (HB1.out.trans (hb.mono HB1.out.size)); clear hb))
  have b4 := below_new w2 (.cells #[.int .u32 128, .int .u32 160] 38)
  have PP := Lib.hid (Whole.new w2 38 #[.int .u32 128, .int .u32 160])
  have HX3 := Lib.hid (HX2.out.belowS b4)
  have HA3 := Lib.hid (HA2.out.trans (b4.mono HA2.out.size))
  have HB3 := Lib.hid (HB2.out.trans (b4.mono HB2.out.size))
  clear b4 HX HX1 HX2 HA HA1 HA2 HB HB1 HB2 c0 c1 c2 c3 c4 c5 c6
  generalize w2.alloc (.cells #[.int .u32 128, .int .u32 160] 38) = W2 at *
  obtain ⟨c0, c1, c2, c3, c4, c5⟩ := mod_cells HX3.out
  have c6 := HX3.out.lt
  go_wp2_with (go_at_call 9; (with_reducible refine (C1.out _ HA3.out).mono ?_); rintro e w3 ⟨rfl, hb⟩; have PP4 := Lib.hid (PP.out.belowS hb); have HB4 := Lib.hid (HB3.out.trans (hb.mono HB3.out.size)); obtain ⟨d0, d1⟩ := two_cells PP4.out; have d6 := PP4.out.lt; clear hb)
  go_ret
  exact ⟨rfl, HB4.out⟩
end Go.Proofs.Ytijacjcfnilaiaa.YR
