/-
  The closed cases that each law of layer 11 asks beside its own. Nothing here is a statement of the seed.
-/
import Derived.Test.YtdfafllldanfiaaGreatValTop
set_option linter.unusedSimpArgs false
set_option linter.unusedVariables false
namespace Go.Proofs.YtdfafllldanfiaaGreat.VR
open Go.RowKit WM NR OM OR VM
set_option maxHeartbeats 4000000
set_option maxRecDepth 10000
abbrev mK (l : List Nat) : Md := ⟨[109], [], [], l, [], []⟩
theorem vld_k1 : vld (mK [0]) = (0, 0) := by decide +kernel
theorem vld_k2 : vld (mK []) = (4, 0) := by decide +kernel
theorem vld_k3 : vld (mK [0, 2281701381]) = (9, 1) := by decide +kernel
theorem chk_k4 : chkV zeroM = 20 := by decide +kernel
theorem fine_k (l : List Nat) (h : ∀ x ∈ l, x < 4294967296) : FineM (mK l) := ⟨h, fun _ h => (by cases h), fun _ h => (by cases h)⟩
theorem fineZ : FineM zeroM := ⟨fun _ h => (by cases h), fun _ h => (by cases h), fun _ h => (by cases h)⟩
theorem rdZ (G : Nat → Prop) (w : World) : RdM G w none 0 0 none 0 0 none 0 0 none 0 0 none 0 0 zeroM := ⟨Reads.nil _ _, Reads.nil _ _, Reads.nil _ _, Reads.nil _ _, ReadsR.nil _ _⟩
theorem rdK {G : Nat → Prop} {w : World} {l : List Nat} {a : Option Addr} {n c : Nat} (h : Reads G w (.slice a n c) (u32s l)) : RdM G w none 0 0 none 0 0 a n c none 0 0 none 0 0 (mK l) := ⟨Reads.nil _ _, Reads.nil _ _, h, Reads.nil _ _, ReadsR.nil _ _⟩
theorem reads_new {u : World} {xs : List Value} {t : TypeId} (hl : xs.length ≤ maxLen) : Reads (· < (u.alloc (.cells xs.toArray t)).heap.size) (u.alloc (.cells xs.toArray t)) (.slice (some ⟨u.heap.size, 0, none⟩) xs.length xs.length) xs := by
  refine ⟨_, _, rfl, Nat.le_refl _, hl, (fun h => by cases h), Or.inr ⟨u.heap.size, 0, rfl, by simp, fun j hj => ?_⟩⟩
  rw [Nat.zero_add, (Whole.new u t xs.toArray).cell j]
  simp
theorem awake_any (w : World) : Calls Tryz.prog 5 #[] w fun e w' => e = .returned (.bool true) ∧ Below w.heap.size w w' := by
  have C1 : Hid (∀ u : World, Calls Tryz.prog 7 #[.agg #[.string ⟨#[109]⟩, .slice none 0 0, .slice none 0 0, .slice (some ⟨u.heap.size, 0, none⟩) 1 1, .slice none 0 0, .slice none 0 0]] (u.alloc (.cells #[.int .u32 0] 40)) fun e w' => e = .returned (.tuple #[.int .u8 0, .int .i64 0]) ∧ Below (u.alloc (.cells #[.int .u32 0] 40)).heap.size (u.alloc (.cells #[.int .u32 0] 40)) w') := Lib.hid (fun u => by
    have := module_any (rdK (l := [0]) (reads_new (u := u) (t := 40) (xs := u32s [0]) (by simp [u32s, maxLen]))) (fine_k _ (by simp))
    rw [vld_k1] at this
    exact this)
  have C2 : Hid (∀ u : World, Calls Tryz.prog 7 #[.agg #[.string ⟨#[109]⟩, .slice none 0 0, .slice none 0 0, .slice none 0 0, .slice none 0 0, .slice none 0 0]] u fun e w' => e = .returned (.tuple #[.int .u8 4, .int .i64 0]) ∧ Below u.heap.size u w') := Lib.hid (fun u => by
    have := module_any (w := u) (rdK (l := []) (Reads.nil _ _)) (fine_k _ (by simp))
    rw [vld_k2] at this
    exact this)
  have C3 : Hid (∀ u : World, Calls Tryz.prog 7 #[.agg #[.string ⟨#[109]⟩, .slice none 0 0, .slice none 0 0, .slice (some ⟨u.heap.size, 0, none⟩) 2 2, .slice none 0 0, .slice none 0 0]] (u.alloc (.cells #[.int .u32 0, .int .u32 2281701381] 40)) fun e w' => e = .returned (.tuple #[.int .u8 9, .int .i64 1]) ∧ Below (u.alloc (.cells #[.int .u32 0, .int .u32 2281701381] 40)).heap.size (u.alloc (.cells #[.int .u32 0, .int .u32 2281701381] 40)) w') := Lib.hid (fun u => by
    have := module_any (rdK (l := [0, 2281701381]) (reads_new (u := u) (t := 40) (xs := u32s [0, 2281701381]) (by simp [u32s, maxLen]))) (fine_k _ (by simp))
    rw [vld_k3] at this
    exact this)
  have C4 : Hid (∀ u : World, Calls Tryz.prog 9 #[.agg #[.string ⟨#[]⟩, .slice none 0 0, .slice none 0 0, .slice none 0 0, .slice none 0 0, .slice none 0 0]] u fun e w' => e = .returned (.int .i64 20) ∧ Below u.heap.size u w') := Lib.hid (fun u => by
    have := vcheck_any (rdZ (· < u.heap.size) u) fineZ
    rw [chk_k4] at this
    exact this)
  go_enter Tryz.func5, Tryz.ntmps5
  go_wp2_with (first | (go_at_call 7; (with_reducible refine (C1.out _).mono ?_); rintro e w1 ⟨rfl, hb1⟩; have hB1 := (below_new w (.cells #[.int .u32 0] 40)).trans (hb1.mono (below_new w (.cells #[.int .u32 0] 40)).size); clear hb1) | (go_at_call 7; (with_reducible refine (C2.out _).mono ?_); rintro e w2 ⟨rfl, hb2⟩; have hB2 := hB1.trans (hb2.mono hB1.size); clear hb2) | (go_at_call 7; (with_reducible refine (C3.out _).mono ?_); rintro e w3 ⟨rfl, hb3⟩; have hB3 := (hB2.alloc hB2.size (.cells #[.int .u32 0, .int .u32 2281701381] 40)).trans (hb3.mono (hB2.alloc hB2.size (.cells #[.int .u32 0, .int .u32 2281701381] 40)).size); clear hb3) | (go_at_call 9; (with_reducible refine (C4.out _).mono ?_); rintro e w4 ⟨rfl, hb4⟩; have hB4 := hB3.trans (hb4.mono hB3.size); clear hb4))
  go_ret
  exact ⟨rfl, hB4⟩
end Go.Proofs.YtdfafllldanfiaaGreat.VR
