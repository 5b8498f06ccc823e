/-
  The law AsmAgain, walked.
-/
import Derived.Test.YtoohfmkhjhcopaaGreatDoorAsmSame
set_option linter.unusedSimpArgs false
set_option linter.unusedVariables false
namespace Go.Proofs.YtoohfmkhjhcopaaGreatDoor.WK
open Go.RowKit WM IM WF IF AM AF NR

theorem aA : SaysT 12 #[] (.bool true) := fun w T => awake_any w T
theorem again_far (n cap : Nat) (a : Option Addr) (hcap : n ≤ cap) (hcm : cap ≤ 2 ^ 63 - 1) (hn : 1000 < n) (w : World) (T : Tab w) :
    Calls Tryz.prog 6 #[.slice a n cap] w fun e w' => e = .returned (.bool true) ∧ Below w.heap.size w w' := by
  have HA := Lib.hid aA
  have HT := Lib.hid T
  clear T
  go_enter Tryz.func6, Tryz.ntmps6
  go_wp2_with (go_at_call 12; refine (HA.out _ HT.out).mono ?_; rintro e w3 ⟨rfl, hb3⟩)
  go_ret
  exact ⟨rfl, hb3⟩
theorem again_many (n cap : Nat) (a : Option Addr) (hcap : n ≤ cap) (hcm : cap ≤ 2 ^ 63 - 1) (hn : 512 < n) (hn2 : n ≤ 1000) (X : ByteArray) (w : World) (T : Tab w)
    (C1 : Calls Tryz.prog 15 #[.slice a n cap] w fun e w' => e = .returned (.string X) ∧ Below w.heap.size w w')
    (C2 : ∀ u, Tab u → Calls Tryz.prog 17 #[.string X] u fun e w' => e = .returned (.tuple #[.slice none 0 0, .int .i64 512, .int .i64 5]) ∧ Below u.heap.size u w') :
    Calls Tryz.prog 6 #[.slice a n cap] w fun e w' => e = .returned (.bool true) ∧ Below w.heap.size w w' := by
  have HA := Lib.hid aA
  have HT : Hid (∀ u, Below w.heap.size w u → Tab u) := fun u hb => T.below hb
  have H1 := Lib.hid C1
  have H2 := Lib.hid C2
  clear T C1 C2
  go_enter Tryz.func6, Tryz.ntmps6
  go_wp2_with (first | (go_at_call 15; refine H1.out.mono ?_; rintro e w1 ⟨rfl, hb1⟩) | (go_at_call 17; refine (H2.out _ (HT.out _ hb1)).mono ?_; rintro e w2 ⟨rfl, hb2⟩; have hb3 := btr hb1 hb2) | (go_at_call 12; refine (HA.out _ (HT.out _ hb3)).mono ?_; rintro e w3 ⟨rfl, hb4⟩))
  go_ret
  exact ⟨rfl, btr hb3 hb4⟩
theorem again_few (n cap : Nat) (a : Option Addr) (hcap : n ≤ cap) (hcm : cap ≤ 2 ^ 63 - 1) (hn : n ≤ 512) (X : ByteArray) (w : World) (T : Tab w) (P : World → Value → Prop)
    (C1 : Calls Tryz.prog 15 #[.slice a n cap] w fun e w' => e = .returned (.string X) ∧ Below w.heap.size w w')
    (C2 : ∀ u, Below w.heap.size w u → Calls Tryz.prog 17 #[.string X] u fun e w' => ∃ v, e = .returned (.tuple #[v, .int .i64 0, .int .i64 0]) ∧ P w' v ∧ Below w.heap.size w w')
    (C3 : ∀ u v, P u v → Calls Tryz.prog 18 #[.slice a n cap, v] u fun e w' => e = .returned (.bool true) ∧ Below u.heap.size u w') :
    Calls Tryz.prog 6 #[.slice a n cap] w fun e w' => e = .returned (.bool true) ∧ Below w.heap.size w w' := by
  have HA := Lib.hid aA
  have HT : Hid (∀ u, Below w.heap.size w u → Tab u) := fun u hb => T.below hb
  have H1 := Lib.hid C1
  have H2 := Lib.hid C2
  have H3 := Lib.hid C3
  clear T C1 C2 C3
  go_enter Tryz.func6, Tryz.ntmps6
  go_wp2_with (first | (go_at_call 15; refine H1.out.mono ?_; rintro e w1 ⟨rfl, hb1⟩) | (go_at_call 17; refine (H2.out _ hb1).mono ?_; rintro e w2 ⟨v, rfl, hp, hb2⟩; have HP := Lib.hid hp; clear hp) | (go_at_call 18; refine (H3.out _ _ HP.out).mono ?_; rintro e w3 ⟨rfl, hb3⟩; have hb4 := btr hb2 hb3) | (go_at_call 12; refine (HA.out _ (HT.out _ hb4)).mono ?_; rintro e w4 ⟨rfl, hb5⟩))
  go_ret
  exact ⟨rfl, btr hb4 hb5⟩
theorem AsmAgain_walk (l : List Nat) (v : Value) (w : World) (hr : Reads (· < w.heap.size) w v (u32s l)) (hw : ∀ x ∈ l, x < 4294967296) (T : Tab w) :
    Calls Tryz.prog 6 #[v] w fun e w' => e = .returned (.bool true) ∧ Below w.heap.size w w' := by
  obtain ⟨a, cap, rfl, hcap, hcm⟩ := hr.shape
  rw [u32s_len] at *
  unfold maxLen at hcm
  by_cases h1 : l.length ≤ 1000
  · have C1 := list_any l _ w T hr (by omega) hw
    have bd := LI_bd hw
    have hlen : (wls (LI l)).length ≤ 25 * l.length := by have := wls_len (LI l) bd; rwa [LI_len] at this
    by_cases h2 : l.length ≤ 512
    · refine again_few l.length cap a hcap hcm h2 (bs (wls (LI l))) w T (fun u v => ∃ B, Reads (· < u.heap.size) u v (u32s l) ∧ Reads (· < u.heap.size) u (.slice a l.length cap) (u32s l) ∧ B = u.heap.size) C1 ?_ ?_
      · intro u hb
        refine (assemble_good (wls (LI l)) (by omega) (again_fine _ _ bd) (by rw [again_wds _ _ bd, LI_len]; exact h2) u (T.below hb)).mono ?_
        rintro e w' ⟨v, he, hrow, hb2⟩
        rw [again_wds _ _ bd, li_vals, LI_len] at hrow
        have hb3 := btr hb hb2
        refine ⟨v, he, ⟨_, ?_, (hr.below hb3).mono fun g hg => Nat.lt_of_lt_of_le hg hb3.size, rfl⟩, hb3⟩
        exact (Reads.of_owns hrow).there.mono fun g hg => hg.2
      · rintro u v ⟨_, r1, r2, _⟩
        exact same_any l _ _ u r2 r1
    · refine again_many l.length cap a hcap hcm (by omega) h1 (bs (wls (LI l))) w T C1 ?_
      intro u Tu
      refine (assemble_any (wls (LI l)) (by omega) u Tu).mono ?_
      rintro e w' ⟨hb, hp⟩
      rcases hp with ⟨v, _, hl, _, _⟩ | ⟨init, x, r, k, hL, hbad, he⟩
      · rw [again_wds _ _ bd, LI_len] at hl
        omega
      · obtain ⟨rfl, hx⟩ := again_bad bd hL hbad
        rw [hx] at he
        exact ⟨he, hb⟩
  · exact again_far l.length cap a hcap hcm (by omega) w T
end Go.Proofs.YtoohfmkhjhcopaaGreatDoor.WK
