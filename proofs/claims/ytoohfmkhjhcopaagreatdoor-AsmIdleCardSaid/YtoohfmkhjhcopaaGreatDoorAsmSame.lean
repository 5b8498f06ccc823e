/-
  Two slices that read alike: the law's test. Nothing here is a statement of the seed.
-/
import Derived.Test.YtoohfmkhjhcopaaGreatDoorAsmMath5
import Derived.Test.YtoohfmkhjhcopaaGreatDoorAsmList
import Derived.Deep.RegionHeld3
set_option linter.unusedSimpArgs false
set_option linter.unusedVariables false
namespace Go.Proofs.YtoohfmkhjhcopaaGreatDoor.AF
open Go.RowKit WM IM WF IF AM NR

theorem bd_iff {B : Nat} {a w : World} : Below B a w.drew ↔ Below B a w := ⟨fun h => ⟨h.os, h.tape, h.output, h.size, h.block⟩, fun h => h.drew⟩
theorem li_vals (l : List Nat) : (LI l).map (Value.int .u32) = u32s l := by simp [LI, u32s]
theorem same_any (l : List Nat) (va vb : Value) (w : World) (ha : Reads (· < w.heap.size) w va (u32s l)) (hb : Reads (· < w.heap.size) w vb (u32s l)) :
    Calls Tryz.prog 18 #[va, vb] w fun e w' => e = .returned (.bool true) ∧ Below w.heap.size w w' := by
  obtain ⟨a, cap, rfl, hcap, hcm⟩ := ha.shape
  obtain ⟨b, cap2, rfl, hcap2, hcm2⟩ := hb.shape
  rw [u32s_len] at *
  unfold maxLen at hcm hcm2
  have HA := Lib.hid ha
  have HB := Lib.hid hb
  clear ha hb
  generalize hn : l.length = n at *
  have HN := Lib.hid hn
  clear hn
  go_enter Tryz.func18, Tryz.ntmps18
  go_wp2_with fail
  go_loopw [5] (fun i wr => ∃ k : Nat, k ≤ n ∧ i = .int .i64 (k : Int) ∧ Below w.heap.size w wr) (fun i _ => n - (intOf i).toNat)
  case atStart => exact ⟨0, by omega, rfl, Below.refl _ _⟩
  case round =>
    obtain ⟨k, hk, rfl, hbl⟩ := hrel
    by_cases hlt : k < n
    · have hlt' : (k : Int) < n := by omega
      have hkl : k < l.length := by rw [HN.out]; exact hlt
      have hne : u32s l ≠ [] := by intro h; have := congrArg List.length h; simp [u32s] at this; subst this; simp at hkl
      obtain ⟨g, off, cap', hv, hg, hcap', hcm', hc⟩ := (HA.out.below hbl).cells hne
      obtain ⟨g2, off2, cap2', hv2, hg2, hcap2', hcm2', hc2⟩ := (HB.out.below hbl).cells hne
      simp only [Value.slice.injEq, true_and, u32s_len] at hv hv2
      obtain ⟨rfl, e3, rfl⟩ := hv
      obtain ⟨rfl, e4, rfl⟩ := hv2
      clear e3 e4
      have c1 := hc k (by rw [u32s_len]; exact hkl)
      have c2 := hc2 k (by rw [u32s_len]; exact hkl)
      rw [u32s_at l k hkl] at c1 c2
      clear hc hc2 hne
      generalize (l[k] : Nat) = x at *
      go_wp2_with fail
      go_region_held3 (fun u => u.cell? ⟨g, off + k, none⟩ = some (.int .u32 (x : Int)) ∧ u.cell? ⟨g2, off2 + k, none⟩ = some (.int .u32 (x : Int)) ∧ Below w.heap.size w u)
        (first | (simp [*, bd_iff]; done) | (simp [*, bd_iff]; omega))
        (fail)
      go_wp2_with fail
      exact ⟨⟨k + 1, by omega, by go_num, hbl.drew⟩, by simp [intOf]; omega⟩
    · obtain rfl : k = n := by omega
      go_wp2_with fail
      go_ret
      exact ⟨rfl, hbl⟩
end Go.Proofs.YtoohfmkhjhcopaaGreatDoor.AF
