/-
  The laws of layer 15, walked: each answers true.
-/
import Derived.Test.YtdnjilnnlgphhaaRelRef
import Derived.Test.YtdnjilnnlgphhaaRelRefV
import Derived.Test.YtdnjilnnlgphhaaIsaTgt
set_option linter.unusedSimpArgs false
set_option linter.unusedVariables false
namespace Go.Proofs.Ytdnjilnnlgphhaa.RF
open Go.RowKit WM IM WF IF RM

/-- the closed cases that each law of layer 15 asks beside its own -/
theorem awakeS : Says Try.prog 11 #[] (.bool true) := by
  intro w
  have CV := Lib.hid (fun u => value_any 2 0 128 160 3 [] (.slice none 0 0) u (Slots.nil u) (by omega) (by omega) (by omega) (by omega))
  have e1 : valA 2 3 128 160 [] = 163 := by decide
  have e2 : valE 2 3 [] = 0 := by decide
  rw [e1, e2] at CV
  have C1 := Lib.hid (apply_any 285212672 2 163 (by omega) (by omega) (by omega))
  have e3 : apW 285212672 2 163 = 285212835 := by decide
  have e4 : apE 285212672 2 163 = 0 := by decide
  rw [e3, e4] at C1
  have C2 := Lib.hid (apply_any 2281701376 0 1048576 (by omega) (by omega) (by omega))
  have e5 : apE 2281701376 0 1048576 = 30 := by decide
  have e6 : apW 2281701376 0 1048576 = 0 := by unfold apW; rw [e5]; rfl
  rw [e5, e6] at C2
  clear e1 e2 e3 e4 e5 e6
  go_enter Try.func11, Try.ntmps11
  go_wp2_with (first | (go_at_call 9; refine (CV.out _).mono ?_; rintro e w1 ⟨rfl, hb⟩) | (go_at_call 12; first | ((with_reducible refine (inw C1.out w _ hb).mono ?_); rintro e w2 ⟨rfl, hb⟩) | ((with_reducible refine (inw C2.out w _ hb).mono ?_); rintro e w2 ⟨rfl, hb⟩)))
  go_ret
  exact ⟨rfl, hb⟩
end Go.Proofs.Ytdnjilnnlgphhaa.RF
namespace Go.Proofs.Ytdnjilnnlgphhaa.WK
open Go.RowKit WM IM WF IF RM RF

theorem RelocValues_walk (k a i c d : Int) (l : List Nat) (v : Value) (hk : 0 ≤ k ∧ k ≤ 255) (hi : 0 ≤ i ∧ i ≤ 65535) (hc : 0 ≤ c ∧ c ≤ 4294967295) (hd : 0 ≤ d ∧ d ≤ 4294967295) (w : World) (R : Slots w v l) :
    Calls Try.prog 3 #[relV k a i, plV c d, v] w fun e w' => e = .returned (.bool true) ∧ Below w.heap.size w w' := by
  have C1 := Lib.hid (fun u (hb : Below w.heap.size w u) => value_any k a c d i l v u (R.below hb) hk hc hd hi)
  have C2 := Lib.hid (fun u (hb : Below w.heap.size w u) => (refValue_any k a c d i l v u (R.below hb) hk hc hd hi).mono fun e w' ⟨he, h⟩ => (⟨he, hb.trans (h.mono hb.size)⟩ : _ ∧ Below w.heap.size w w'))
  have C3 := Lib.hid awakeS
  have hb0 := fun o1 o2 => ((Below.refl w.heap.size w).alloc (Nat.le_refl _) o1).alloc (by simp) o2
  generalize valA k i c d l = X at *
  generalize valE k i l = E at *
  have tok : True := trivial
  clear R
  go_enter Try.func3, Try.ntmps3
  go_wp2_with (first | (go_at_call 9; refine (C1.out _ (hb0 _ _)).mono ?_; rintro e w1 ⟨rfl, h1⟩; obtain ⟨hcc, hff⟩ := bcell h1; have hz : w.heap.size + 1 < w1.heap.size := (by have := h1.size; simp at this; omega); have hzz : w.heap.size < w1.heap.size := Nat.lt_of_succ_lt hz; have hb := (hb0 _ _).trans (h1.mono (hb0 _ _).size)) | (go_at_call 10; refine (C2.out _ hb).mono ?_; rintro e w2 ⟨rfl, hb⟩) | (go_at_call 11; refine (inw C3.out w _ hb).mono ?_; rintro e w3 ⟨rfl, hb⟩))
  go_ret
  exact ⟨rfl, hb⟩
theorem RelocApplies_walk (x k v : Int) (hx : 0 ≤ x ∧ x ≤ 4294967295) (hk : 0 ≤ k ∧ k ≤ 255) (hv : 0 ≤ v ∧ v ≤ 4294967295) (w : World) :
    Calls Try.prog 4 #[.int .u32 x, .int .u8 k, .int .u32 v] w fun e w' => e = .returned (.bool true) ∧ Below w.heap.size w w' := by
  have C1 := Lib.hid (apply_any x k v hx hk hv)
  have C2 := Lib.hid (refApply_any x k v hx hk hv)
  have C3 := Lib.hid awakeS
  have C4 := Lib.hid (fun w => reach_any k w hk)
  have C5 := Lib.hid (fun w => refReach_any k w hk)
  generalize apW x k v = X at *
  generalize apE x k v = E at *
  generalize rch k = r at *
  clear hx hk hv
  have hb := Below.refl w.heap.size w
  go_enter Try.func4, Try.ntmps4
  go_wp2_with (first | (go_at_call 12; refine (inw C1.out w _ hb).mono ?_; rintro e w1 ⟨rfl, hb⟩) | (go_at_call 13; refine (inw C2.out w _ hb).mono ?_; rintro e w2 ⟨rfl, hb⟩) | (go_at_call 14; refine (C4.out _).mono ?_; rintro e w' ⟨rfl, rfl⟩) | (go_at_call 15; refine (C5.out _).mono ?_; rintro e w' ⟨rfl, rfl⟩) | (go_at_call 11; refine (inw C3.out w _ hb).mono ?_; rintro e w3 ⟨rfl, hb⟩))
  go_ret
  exact ⟨rfl, hb⟩
theorem RelocUndoes_walk (x k : Int) (hx : 0 ≤ x ∧ x ≤ 4294967295) (hk : 0 ≤ k ∧ k ≤ 255) (w : World) :
    Calls Try.prog 5 #[.int .u32 x, .int .u8 k] w fun e w' => e = .returned (.bool true) ∧ Below w.heap.size w w' := by
  have C1 := Lib.hid (undo_any x k hx hk)
  have C2 := Lib.hid (refUndo_any x k hx hk)
  have C3 := Lib.hid awakeS
  generalize unW x k = X at *
  generalize unE x k = E at *
  clear hx hk
  have hb := Below.refl w.heap.size w
  go_enter Try.func5, Try.ntmps5
  go_wp2_with (first | (go_at_call 16; refine (inw C1.out w _ hb).mono ?_; rintro e w1 ⟨rfl, hb⟩) | (go_at_call 17; refine (inw C2.out w _ hb).mono ?_; rintro e w2 ⟨rfl, hb⟩) | (go_at_call 11; refine (inw C3.out w _ hb).mono ?_; rintro e w3 ⟨rfl, hb⟩))
  go_ret
  exact ⟨rfl, hb⟩
end Go.Proofs.Ytdnjilnnlgphhaa.WK
