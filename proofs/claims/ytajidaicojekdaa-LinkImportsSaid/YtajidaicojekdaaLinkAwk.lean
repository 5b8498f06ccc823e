/-
  The closed case that each law of layer 16 asks beside its own. Nothing here is a statement of the seed.
-/
import Derived.Test.YtajidaicojekdaaLinkProg
import Derived.Deep.QuietTactic
set_option linter.unusedSimpArgs false
set_option linter.unusedVariables false
namespace Go.Proofs.Ytajidaicojekdaa.KF
open Go.RowKit WM NR OM OR VM YM YR RM RF KM
set_option maxHeartbeats 4000000
set_option maxRecDepth 10000
abbrev m1 : Md := ⟨[], [], [[102]], [2281701376, 2415919104], [], [⟨0, 0, 0⟩]⟩
theorem img1 : imgE m1 80 96 [17] = 0 ∧ imgL m1 80 96 [17] = [2281701393, 2415919104, 0, 0, 0, 0, 0, 0, 0, 0, 0, 0, 0, 0, 0, 0] ∧ nW m1 = 16 := by decide +kernel
theorem fine1 : FineM m1 := ⟨by simp, by simp, by simp⟩
theorem new_reads {u : World} {xs : List Value} {t : TypeId} (hl : xs.length ≤ maxLen) : Reads (· < (u.alloc (.cells xs.toArray t)).heap.size) (u.alloc (.cells xs.toArray t)) (.slice (some ⟨u.heap.size, 0, none⟩) xs.length xs.length) xs := by
  refine ⟨_, _, rfl, Nat.le_refl _, hl, (fun h => by cases h), Or.inr ⟨u.heap.size, 0, rfl, by simp, fun j hj => ?_⟩⟩
  rw [Nat.zero_add, (Whole.new u t xs.toArray).cell j]
  simp
theorem new_rel {u : World} {t : TypeId} {k a i : Nat} : ReadsR (· < (u.alloc (.cells #[.int .u8 (k : Int), .int .u16 (a : Int), .int .u16 (i : Int)] t)).heap.size) (u.alloc (.cells #[.int .u8 (k : Int), .int .u16 (a : Int), .int .u16 (i : Int)] t)) (.slice (some ⟨u.heap.size, 0, none⟩) 1 1) [⟨k, a, i⟩] := by
  have h := Whole.new u t #[.int .u8 (k : Int), .int .u16 (a : Int), .int .u16 (i : Int)]
  refine ⟨_, _, rfl, Nat.le_refl _, by simp [maxLen], (fun h => by cases h), Or.inr ⟨u.heap.size, 0, rfl, by simp, fun j hj => ?_⟩⟩
  obtain rfl : j = 0 := by simp at hj; omega
  exact ⟨h.cell 0, h.cell 1, h.cell 2⟩
abbrev w1 (w : World) : World := w.alloc (.cells #[.int .u32 2281701376, .int .u32 2415919104] 46)
abbrev w2 (w : World) : World := (w1 w).alloc (.cells #[.string ⟨#[102]⟩] 9)
abbrev w3 (w : World) : World := (w2 w).alloc (.cells #[.int .u8 0, .int .u16 0, .int .u16 0] 76)
abbrev cs1 (n : Nat) : Array Value := mCs ⟨#[]⟩ none 0 0 (some ⟨n + 1, 0, none⟩) 1 1 (some ⟨n, 0, none⟩) 2 2 none 0 0 (some ⟨n + 1 + 1, 0, none⟩) 1 1
theorem size_w (w : World) : (w1 w).heap.size = w.heap.size + 1 ∧ (w2 w).heap.size = w.heap.size + 1 + 1 ∧ (w3 w).heap.size = w.heap.size + 1 + 1 + 1 := by simp
theorem rd1 (w : World) : RdM (· < (w3 w).heap.size) (w3 w) none 0 0 (some ⟨w.heap.size + 1, 0, none⟩) 1 1 (some ⟨w.heap.size, 0, none⟩) 2 2 none 0 0 (some ⟨w.heap.size + 1 + 1, 0, none⟩) 1 1 m1 := by
  obtain ⟨s1, s2, s3⟩ := size_w w
  have b12 := below_new (w1 w) (.cells #[.string ⟨#[102]⟩] 9)
  have b23 := below_new (w2 w) (.cells #[.int .u8 0, .int .u16 0, .int .u16 0] 76)
  have b13 := b12.trans (b23.mono b12.size)
  have r1 := new_reads (u := w) (t := 46) (xs := u32s [2281701376, 2415919104]) (by simp [u32s, maxLen])
  have r2 := new_reads (u := w1 w) (t := 9) (xs := strs [[102]]) (by simp [strs, maxLen])
  have r3 := new_rel (u := w2 w) (t := 76) (k := 0) (a := 0) (i := 0)
  refine ⟨Reads.nil _ _, ?_, ?_, Reads.nil _ _, ?_⟩
  · rw [s1] at r2
    exact (r2.below b23).mono fun g hg => Nat.lt_of_lt_of_le hg b23.size
  · exact (r1.below b13).mono fun g hg => Nat.lt_of_lt_of_le hg b13.size
  · rw [s2] at r3
    exact r3
/-- what Image tells of it -/
theorem img_of (w u : World) (hb : Below (w3 w).heap.size (w3 w) u) :
    Calls Try.prog 20 #[.agg (cs1 w.heap.size), plV 80 96, .slice (some ⟨u.heap.size, 0, none⟩) 1 1] (u.alloc (.cells #[.int .u32 17] 46)) fun e w' =>
      ∃ g off cap, e = .returned (.tuple #[.slice (some ⟨g, off, none⟩) 16 cap, .int .i64 0]) ∧ 16 ≤ cap ∧ w'.cell? ⟨g, off, none⟩ = some (.int .u32 2281701393) ∧ w'.cell? ⟨g, off + 1, none⟩ = some (.int .u32 2415919104) ∧ w'.cell? ⟨g, off + 2, none⟩ = some (.int .u32 0) ∧
        Below (u.alloc (.cells #[.int .u32 17] 46)).heap.size (u.alloc (.cells #[.int .u32 17] 46)) w' := by
  have hb2 := hb.alloc hb.size (.cells #[.int .u32 17] 46)
  obtain ⟨i1, i2, i3⟩ := img1
  have R : Slots (u.alloc (.cells #[.int .u32 17] 46)) (.slice (some ⟨u.heap.size, 0, none⟩) 1 1) [17] := ⟨new_reads (u := u) (t := 46) (xs := u32s [17]) (by simp [u32s, maxLen])⟩
  refine (KP.image_any ((rd1 w).go hb2 hb2.size) fine1 (by omega) 80 96 (by omega) (by omega) [17] _ R (by simp)).mono ?_
  rintro e w' ⟨q, rfl, hi, hbl⟩
  have hy := hi.yes i1
  rw [i1, i2, i3] at *
  have hr := Reads.of_owns hy
  obtain ⟨g, off, cap, rfl, _, h1, h2, hc⟩ := hr.cells (by simp [u32s])
  exact ⟨g, off, cap, rfl, h1, hc 0 (by simp [u32s]), hc 1 (by simp [u32s]), hc 2 (by simp [u32s]), hbl⟩
theorem awk16 : IF.Says Try.prog 9 #[] (.bool true) := by
  intro w
  have C := Lib.hid (fun u hb => img_of w u hb)
  have b1 := below_new w (.cells #[.int .u32 2281701376, .int .u32 2415919104] 46)
  have b2 := b1.alloc b1.size (.cells #[.string ⟨#[102]⟩] 9)
  have b3 := b2.alloc b2.size (.cells #[.int .u8 0, .int .u16 0, .int .u16 0] 76)
  have s3 := (size_w w).2.2
  have hX := Whole.new (w3 w) 45 (cs1 w.heap.size)
  rw [s3] at hX
  have HX := Lib.hid hX
  have h34 := below_new (w3 w) (.cells (cs1 w.heap.size) 45)
  have hY := Whole.new w 46 #[.int .u32 2281701376, .int .u32 2415919104]
  have HY := Lib.hid (((hY.alloc (.cells #[.string ⟨#[102]⟩] 9)).alloc (.cells #[.int .u8 0, .int .u16 0, .int .u16 0] 76)).alloc (.cells (cs1 w.heap.size) 45))
  have H34 := Lib.hid h34
  have HB := Lib.hid (b3.trans (h34.mono b3.size))
  clear b1 b2 b3 s3 hX h34 hY
  go_enter Try.func9, Try.ntmps9
  go_upto_region 2 with fail
  generalize (w3 w).alloc (.cells (cs1 w.heap.size) 45) = W at *
  obtain ⟨c0, c1, c2, c3, c4, c5⟩ := mod_cells HX.out
  have c6 := HX.out.lt
  have HW := Lib.hid (below_new W (.cells #[.int .u32 17] 46))
  go_upto_region 3 with (go_at_call 20; (with_reducible refine (C.out _ H34.out).mono ?_); rintro e w9 ⟨g, off, cap, rfl, hcap, d0, d1, d2, hb⟩; have H49 := Lib.hid (HW.out.trans (hb.mono HW.out.size)); clear hb)
  clear c0 c1 c2 c3 c4 c5 c6
  have HX9 := Lib.hid (HX.out.belowS H49.out)
  have HY9 := Lib.hid (HY.out.belowS H49.out)
  have HB9 := Lib.hid (HB.out.trans (H49.out.mono HB.out.size))
  obtain ⟨c0, c1, c2, c3, c4, c5⟩ := mod_cells HX9.out
  have c6 := HX9.out.lt
  have e1 : w9.cell? ⟨w.heap.size, 1, none⟩ = some (.int .u32 2415919104) := HY9.out.cell 1
  have e2 := HY9.out.lt
  go_quiet (fail)
  go_wp2_with fail
  go_ret
  exact ⟨rfl, below_drewN HB9.out _⟩
end Go.Proofs.Ytajidaicojekdaa.KF
