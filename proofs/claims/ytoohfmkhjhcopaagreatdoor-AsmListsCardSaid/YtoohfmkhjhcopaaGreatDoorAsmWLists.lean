/-
  The law AsmLists, walked.
-/
import Derived.Test.YtoohfmkhjhcopaaGreatDoorAsmRefL
import Derived.Test.YtoohfmkhjhcopaaGreatDoorAsmAwake
set_option linter.unusedSimpArgs false
set_option linter.unusedVariables false
namespace Go.Proofs.YtoohfmkhjhcopaaGreatDoor.WK
open Go.RowKit WM IM WF IF AM AF NR

theorem AsmLists_walk (l : List Nat) (v : Value) (w : World) (hr : Reads (· < w.heap.size) w v (u32s l)) (hw : ∀ x ∈ l, x < 4294967296) (T : Tab w) :
    Calls Tryz.prog 5 #[v] w fun e w' => e = .returned (.bool true) ∧ Below w.heap.size w w' := by
  have HT : Hid (∀ u, Below w.heap.size w u → Tab u) := fun u hb => T.below hb
  have hA : SaysT 12 #[] (.bool true) := fun w T => awake_any w T
  have HA := Lib.hid hA
  clear T hA
  obtain ⟨a, cap, rfl, hcap, hcm⟩ := hr.shape
  rw [u32s_len] at *
  unfold maxLen at hcm
  have HR : Hid (∀ u, Below w.heap.size w u → Reads (· < u.heap.size) u (.slice a l.length cap) (u32s l)) := fun u hb => (hr.below hb).mono fun g hg => Nat.lt_of_lt_of_le hg hb.size
  clear hr
  have hbr := Below.refl w.heap.size w
  by_cases hl : l.length ≤ 2000
  · have C1 : Hid (∀ u, Below w.heap.size w u → Calls Tryz.prog 15 #[.slice a l.length cap] u fun e w' => e = .returned (.string (bs (wls (LI l)))) ∧ Below w.heap.size w w') :=
      fun u hb => (list_any l _ u (HT.out u hb) (HR.out u hb) (by omega) hw).mono fun e w' ⟨he, h2⟩ => ⟨he, btr hb h2⟩
    have C2 : Hid (∀ u, Below w.heap.size w u → Calls Tryz.prog 16 #[.slice a l.length cap] u fun e w' => e = .returned (.string (bs (wls (LI l)))) ∧ Below w.heap.size w w') :=
      fun u hb => (refList_any l _ u (HR.out u hb) (by omega) hw).mono fun e w' ⟨he, h2⟩ => ⟨he, btr hb h2⟩
    clear hw HR
    generalize bs (wls (LI l)) = X at *
    generalize l.length = n at *
    go_enter Tryz.func5, Tryz.ntmps5
    go_wp2_with (first | (go_at_call 15; refine (C1.out _ hbr).mono ?_; rintro e w1 ⟨rfl, hb1⟩) | (go_at_call 16; refine (C2.out _ hb1).mono ?_; rintro e w2 ⟨rfl, hb2⟩) | (go_at_call 12; refine (HA.out _ (HT.out _ hb2)).mono ?_; rintro e w3 ⟨rfl, hb3⟩))
    go_ret
    exact ⟨rfl, btr hb2 hb3⟩
  · clear hw HR
    generalize l.length = n at *
    go_enter Tryz.func5, Tryz.ntmps5
    go_wp2_with (go_at_call 12; refine (HA.out _ (HT.out _ hbr)).mono ?_; rintro e w3 ⟨rfl, hb3⟩)
    go_ret
    exact ⟨rfl, hb3⟩
end Go.Proofs.YtoohfmkhjhcopaaGreatDoor.WK
