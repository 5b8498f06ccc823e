/-
  What the program's functions of layer 13 tell. Nothing here is a statement of the seed.
-/
import Derived.Test.YtleggfofgpiabaaSymFew
import Derived.Test.YtleggfofgpiabaaSymPAdd
import Derived.Test.YtleggfofgpiabaaSymPC
import Derived.Test.YtleggfofgpiabaaSymCo
import Derived.Test.YtleggfofgpiabaaSymPH
import Derived.Test.YtleggfofgpiabaaSymPI
set_option linter.unusedSimpArgs false
set_option linter.unusedVariables false
namespace Go.Proofs.Ytleggfofgpiabaa.SP
open Go.RowKit WM NR OM OR SM SR
set_option maxHeartbeats 4000000
set_option maxRecDepth 10000
abbrev T1 : Tb := ⟨[[109]], [⟨[102], [109], 2, 0, 0⟩, ⟨[103], [109], 2, 1, 0⟩]⟩
abbrev T2 : Tb := ⟨[[109]], [⟨[102], [109], 2, 0, 0⟩, ⟨[103], [109], 2, 1, 1⟩]⟩
theorem aw1 : addM ⟨[], []⟩ [109] 2 [[102], [103]] = (T1, 0) := by kernel_rfl
theorem aw2 : findM T1.L [103] = (⟨[103], [109], 2, 1, 0⟩, 0) := by kernel_rfl
theorem aw3 : countM T1 [[103]] 1 = (T2, 0) := by kernel_rfl
theorem aw4 : removeM T2 [109] = (T2, 26) := by kernel_rfl
theorem awG1 : SM.Good T1 := by have := good_add good_nil [109] 2 [[102], [103]]; rw [aw1] at this; exact this
theorem awG2 : SM.Good T2 := by have := good_count awG1 [[103]] 1 (Or.inl rfl); rw [aw3] at this; exact this
theorem awRd {S : Nat → Prop} {w : World} (hS : ∀ g, S g → g < w.heap.size) (xs : List (List UInt8)) (hx : xs.length ≤ 8) {cs : Array Value} (hc : cs = (strs xs).toArray) : Reads (fun g => ¬ S g ∧ g < (w.alloc (.cells cs 9)).heap.size) (w.alloc (.cells cs 9)) (.slice (some ⟨w.heap.size, 0, none⟩) xs.length xs.length) (strs xs) := by
  subst hc
  have hl : (strs xs).length = xs.length := by rw [strs_len]
  refine ⟨_, xs.length, by rw [hl], by rw [hl]; exact Nat.le_refl _, by unfold maxLen; omega, fun h => (by cases h), Or.inr ⟨w.heap.size, 0, rfl, ⟨fun h => absurd (hS _ h) (by omega), by simp⟩, fun j hj => ?_⟩⟩
  rw [Nat.zero_add]
  have := (Whole.new w 9 (strs xs).toArray).cell j
  rw [this]
  simp
theorem awake_any (w : World) : Calls Try.prog 8 #[] w fun e w' => e = .returned (.bool true) ∧ Below w.heap.size w w' := by
  have C1 := Lib.hid (new_any w)
  go_enter Try.func8, Try.ntmps8
  go_upto_region 2 with (go_at_call 4; (with_reducible refine C1.out.mono ?_); rintro e w1 ⟨v, S, rfl, hp, hS, hb1⟩)
  obtain ⟨a, be, bm, fm, rfl, hp⟩ := hp
  have hb2 : Below w1.heap.size w1 (w1.alloc (.cells #[.string ⟨#[102]⟩, .string ⟨#[103]⟩] 9)) := (Below.refl _ _).alloc (Nat.le_refl _) _
  have hrd := awRd (S := S) (w := w1) hp.lt [[102], [103]] (by decide) (cs := #[.string ⟨#[102]⟩, .string ⟨#[103]⟩]) rfl
  have hb12 := hb1.trans (hb2.mono hb1.size)
  have C2 : Hid (Calls Try.prog 5 #[.pointer (some ⟨a, 0, none⟩), .string ⟨#[109]⟩, .int .i64 2, .slice (some ⟨w1.heap.size, 0, none⟩) 2 2] (w1.alloc (.cells #[.string ⟨#[102]⟩, .string ⟨#[103]⟩] 9)) fun e u => e = .returned (.int .i64 0) ∧ Chg S (w1.alloc (.cells #[.string ⟨#[102]⟩, .string ⟨#[103]⟩] 9)) (.pointer (some ⟨a, 0, none⟩)) T1 u) := by
    have := add_any (S := S) ⟨a, be, bm, fm, rfl, hp.below hb2⟩ good_nil (by decide) [109] (by decide) 2 (by decide) hrd (by decide)
    rw [aw1] at this
    exact Lib.hid this
  clear hrd C1 hb2
  have HS := Lib.hid hS
  have HB12 := Lib.hid hb12
  clear hS hp hb12
  go_upto_region 4 with (go_at_call 5; (with_reducible refine C2.out.mono ?_); rintro e w3 ⟨rfl, S3, hp3, hS3, hF3⟩)
  have HP3 := Lib.hid hp3
  have HS3 := Lib.hid (fun g (hg : S3 g) => show w.heap.size ≤ g from (hS3 g hg).elim (HS.out g) (fun h => Nat.le_trans HB12.out.size h))
  have HB3 := Lib.hid (OR.Below.fr HB12.out hF3 HB12.out.size HS.out)
  have C3 : Hid (Calls Try.prog 18 #[.pointer (some ⟨a, 0, none⟩), .string ⟨#[103]⟩] w3 fun e u => e = .returned (.tuple #[.agg #[.string ⟨#[103]⟩, .string ⟨#[109]⟩, .int .i64 2, .int .i64 1, .int .i64 0], .int .i64 0]) ∧ Below w3.heap.size w3 u) := by
    have := find_any hp3 awG1 (by decide) [103] (by decide)
    rw [aw2] at this
    exact Lib.hid this
  clear hp3 hS3 hF3 C2
  go_upto_region 5 with (go_at_call 18; (with_reducible refine C3.out.mono ?_); rintro e w4 ⟨rfl, hb4⟩)
  have hb5 : Below w4.heap.size w4 (w4.alloc (.cells #[.string ⟨#[103]⟩, .string ⟨#[109]⟩, .int .i64 2, .int .i64 1, .int .i64 0] 33)) := (Below.refl _ _).alloc (Nat.le_refl _) _
  have HB5 := Lib.hid (hb4.trans (hb5.mono hb4.size))
  have C4 : Hid (∀ u, Calls Try.prog 7 #[.agg #[.string ⟨#[103]⟩, .string ⟨#[109]⟩, .int .i64 2, .int .i64 1, .int .i64 0]] u fun e w' => e = .returned (.int .u32 17) ∧ Below u.heap.size u w') := Lib.hid (fun u => slot_any ⟨#[103]⟩ ⟨#[109]⟩ 2 1 0 (by decide) (by decide) u)
  have C5 : Hid (∀ u, Below w3.heap.size w3 u → Calls Try.prog 19 #[.pointer (some ⟨a, 0, none⟩), .slice (some ⟨u.heap.size, 0, none⟩) 1 1] (u.alloc (.cells #[.string ⟨#[103]⟩] 9)) fun e u' => e = .returned (.int .i64 0) ∧ Chg S3 (u.alloc (.cells #[.string ⟨#[103]⟩] 9)) (.pointer (some ⟨a, 0, none⟩)) T2 u') := Lib.hid (fun u hu => by
    have hPT : PT S3 u (.pointer (some ⟨a, 0, none⟩)) T1 := HP3.out.keep hu.size (fun g hg => hu.block g (HP3.out.lt g hg))
    have hrd := awRd (S := S3) (w := u) hPT.lt [[103]] (by decide) (cs := #[.string ⟨#[103]⟩]) rfl
    have hb : Below u.heap.size u (u.alloc (.cells #[.string ⟨#[103]⟩] 9)) := (Below.refl _ _).alloc (Nat.le_refl _) _
    have := hold_any (hPT.keep hb.size (fun g hg => hb.block g (hPT.lt g hg))) awG1 (by decide) hrd (by decide) (by decide)
    rw [aw3] at this
    exact this)
  have C6 : Hid (∀ u S', PT S' u (.pointer (some ⟨a, 0, none⟩)) T2 → Calls Try.prog 20 #[.pointer (some ⟨a, 0, none⟩), .string ⟨#[109]⟩] u fun e u' => e = .returned (.int .i64 26) ∧ Chg S' u (.pointer (some ⟨a, 0, none⟩)) T2 u') := Lib.hid (fun u S' h => by
    have := remove_any h awG2 (by decide) [109] (by decide)
    rw [aw4] at this
    exact this)
  have hq : ∀ u, (binOp .eql 33 (.agg #[.string ⟨#[103]⟩, .string ⟨#[109]⟩, .int .i64 2, .int .i64 1, .int .i64 0]) (.agg #[.string ⟨#[103]⟩, .string ⟨#[109]⟩, .int .i64 2, .int .i64 1, .int .i64 0])).run Try.prog u = .ok (.bool true) u := fun u => by kernel_rfl
  clear hb4 hb5 C3
  go_wp2_with (first
    | (go_at_call 7; (with_reducible refine (C4.out _).mono ?_); rintro e w6 ⟨rfl, hb6⟩; have HB6 := Lib.hid (HB5.out.trans (hb6.mono HB5.out.size)); clear hb6)
    | (go_at_call 19; (with_reducible refine (C5.out _ HB6.out).mono ?_); rintro e w8 ⟨rfl, S8, hp8, hS8, hF8⟩; have HP8 := Lib.hid hp8; have HS8 := Lib.hid hS8; have HF8 := Lib.hid hF8; clear hp8 hS8 hF8)
    | (go_at_call 20; (with_reducible refine (C6.out _ _ HP8.out).mono ?_); rintro e w9 ⟨rfl, S9, hp9, hS9, hF9⟩; have HF9 := Lib.hid hF9; clear hp9 hS9 hF9))
  go_ret
  have hb7 : Below w6.heap.size w6 (w6.alloc (.cells #[.string ⟨#[103]⟩] 9)) := (Below.refl _ _).alloc (Nat.le_refl _) _
  have b6 := HB3.out.trans (HB6.out.mono HB3.out.size)
  have b7 := b6.trans (hb7.mono b6.size)
  have b8 := OR.Below.fr b7 HF8.out b7.size HS3.out
  exact ⟨ret_bool rfl, OR.Below.fr b8 HF9.out b8.size (fun g hg => (HS8.out g hg).elim (HS3.out g) (fun h => Nat.le_trans b7.size h))⟩
end Go.Proofs.Ytleggfofgpiabaa.SP
