/-
  Whether two harts are one, the reference. Nothing here is a statement of the seed.
-/
import Derived.Test.YtihcellcdkhadaaGreatHartEq
import Derived.Laws.StructEq
set_option linter.unusedSimpArgs false
set_option linter.unusedVariables false
namespace Go.Proofs.YtihcellcdkhadaaGreat.HF
open Go.RowKit PM PR PF MM MR MF HM HR
set_option maxHeartbeats 2000000
set_option maxRecDepth 10000
theorem refSame_any {w : World} (pc : Int) (R : Nat → Int) {a : Option Addr} {n c : Nat} {l : List Int} (why ep home : Int) (pc2 : Int) (R2 : Nat → Int) {a2 : Option Addr} {n2 c2 : Nat} {l2 : List Int} (why2 ep2 home2 : Int) (h1 : Rs w.heap.size w a n c l) (h2 : Rs w.heap.size w a2 n2 c2 l2) :
    Calls Tryz.prog 10 #[hV pc R a n c why ep home, hV pc2 R2 a2 n2 c2 why2 ep2 home2] w fun e w' => e = .returned (.bool (decide (One pc R l why ep home pc2 R2 l2 why2 ep2 home2))) ∧ Below w.heap.size w w' := by
  have hb0 : Below w.heap.size w ((w.alloc (.cells (hCs pc R a n c why ep home) 30)).alloc (.cells (hCs pc2 R2 a2 n2 c2 why2 ep2 home2) 30)) := bl2 ..
  have B1 := (Whole.new w 30 (hCs pc R a n c why ep home)).alloc (.cells (hCs pc2 R2 a2 n2 c2 why2 ep2 home2) 30)
  have B2 := Whole.new (w.alloc (.cells (hCs pc R a n c why ep home) 30)) 30 (hCs pc2 R2 a2 n2 c2 why2 ep2 home2)
  simp only [World.size_alloc] at B2
  obtain ⟨H1, H1c, H1m⟩ := h1.len
  obtain ⟨H2, H2c, H2m⟩ := h2.len
  unfold maxLen at H1m H2m
  have BX := Lib.hid (And.intro B1 B2)
  have HB0 := Lib.hid hb0
  have HA := Lib.hid (h1.below hb0)
  have HZ := Lib.hid (h2.below hb0)
  have hq := r8_neq R R2
  clear h1 h2 hb0 B1 B2
  by_cases e0 : pc = pc2
  case neg =>
    have HD := Lib.hid (decide_eq_false (show ¬ One pc R l why ep home pc2 R2 l2 why2 ep2 home2 from fun h => e0 h.1))
    have en : (pc != pc2) = true := by simpa using e0
    clear H1 H2
    go_enter Tryz.func10, Tryz.ntmps10
    go_wp2_with fail
    go_ret
    exact ⟨by rw [HD.out]; rfl, HB0.out⟩
  obtain rfl := e0
  by_cases e1 : r8 R = r8 R2
  case neg =>
    have HD := Lib.hid (decide_eq_false (show ¬ One pc R l why ep home pc R2 l2 why2 ep2 home2 from fun h => e1 h.2.1))
    rw [show (r8 R == r8 R2) = false by simpa using e1] at hq
    clear e1
    clear H1 H2
    go_enter Tryz.func10, Tryz.ntmps10
    go_wp2_with fail
    go_ret
    exact ⟨by rw [HD.out]; rfl, HB0.out⟩
  rw [show (r8 R == r8 R2) = true by simpa using e1] at hq
  have E1 := Lib.hid e1
  clear e1
  by_cases e2 : why = why2
  case neg =>
    have HD := Lib.hid (decide_eq_false (show ¬ One pc R l why ep home pc R2 l2 why2 ep2 home2 from fun h => e2 h.2.2.2.1))
    have en : (why != why2) = true := by simpa using e2
    clear H1 H2
    go_enter Tryz.func10, Tryz.ntmps10
    go_wp2_with fail
    go_ret
    exact ⟨by rw [HD.out]; rfl, HB0.out⟩
  obtain rfl := e2
  by_cases e3 : ep = ep2
  case neg =>
    have HD := Lib.hid (decide_eq_false (show ¬ One pc R l why ep home pc R2 l2 why ep2 home2 from fun h => e3 h.2.2.2.2.1))
    have en : (ep != ep2) = true := by simpa using e3
    clear H1 H2
    go_enter Tryz.func10, Tryz.ntmps10
    go_wp2_with fail
    go_ret
    exact ⟨by rw [HD.out]; rfl, HB0.out⟩
  obtain rfl := e3
  by_cases e4 : home = home2
  case neg =>
    have HD := Lib.hid (decide_eq_false (show ¬ One pc R l why ep home pc R2 l2 why ep home2 from fun h => e4 h.2.2.2.2.2))
    have en : (home != home2) = true := by simpa using e4
    clear H1 H2
    go_enter Tryz.func10, Tryz.ntmps10
    go_wp2_with fail
    go_ret
    exact ⟨by rw [HD.out]; rfl, HB0.out⟩
  obtain rfl := e4
  by_cases e5 : n = n2
  case neg =>
    have HD := Lib.hid (decide_eq_false (show ¬ One pc R l why ep home pc R2 l2 why ep home from fun h => e5 (by rw [← H1, ← H2, h.2.2.1])))
    have en : ((n : Int) != (n2 : Int)) = true := by simp; omega
    clear e5
    clear H1 H2
    go_enter Tryz.func10, Tryz.ntmps10
    go_wp2_with fail
    go_ret
    exact ⟨by rw [HD.out]; rfl, HB0.out⟩
  obtain rfl := e5
  have HL := Lib.hid (And.intro H1 H2)
  have ON := Lib.hid (show (l = l2 → One pc R l why ep home pc R2 l2 why ep home) ∧ (¬ l = l2 → ¬ One pc R l why ep home pc R2 l2 why ep home) from ⟨fun h => ⟨rfl, E1.out, h, rfl, rfl, rfl⟩, fun h1 h2 => h1 h2.2.2.1⟩)
  clear H1 H2
  have HW0 : Hid (w.heap.size < ((w.alloc (.cells (hCs pc R a n c why ep home) 30)).alloc (.cells (hCs pc R2 a2 n c2 why ep home) 30)).heap.size ∧ w.heap.size + 1 < ((w.alloc (.cells (hCs pc R a n c why ep home) 30)).alloc (.cells (hCs pc R2 a2 n c2 why ep home) 30)).heap.size) := Lib.hid (by simp only [World.size_alloc]; omega)
  go_enter Tryz.func10, Tryz.ntmps10
  go_wp2_with fail
  generalize ((w.alloc (.cells (hCs pc R a n c why ep home) 30)).alloc (.cells (hCs pc R2 a2 n c2 why ep home) 30)) = W at *
  go_loopw [5] (fun i wr => ∃ k : Nat, k ≤ n ∧ i = .int .i64 (k : Int) ∧ Hid (l.take k = l2.take k) ∧ Below W.heap.size W wr) (fun i _ => n - (intOf i).toNat)
  case atStart => exact ⟨0, by omega, rfl, Lib.hid rfl, Below.refl _ _⟩
  case round =>
    obtain ⟨k, hk, rfl, hp, hbl⟩ := hrel
    have X1 := BX.out.1.belowS hbl
    have X2 := BX.out.2.belowS hbl
    have s9 := X1.cell 9
    have t9 := X2.cell 9
    simp at s9 t9
    have HS := HB0.out.size
    by_cases hlt : k < n
    · have hlt' : (k : Int) < n := by omega
      obtain ⟨g, off, rfl, q1, m1⟩ := rd_at HA.out (hbl.mono HS) hlt
      obtain ⟨g2, off2, rfl, q2, m2⟩ := rd_at HZ.out (hbl.mono HS) hlt
      by_cases e : l.getD k 0 = l2.getD k 0
      · have hp2 := Lib.hid (take_on hp.out (by rw [HL.out.1]; exact hlt) (by rw [HL.out.2]; exact hlt) e)
        rw [← e] at m2
        clear e hp X1 X2 HS
        generalize l.getD k 0 = x at *
        go_wp2_with fail
        go_quiet (fail)
        go_wp2_with fail
        go_roundw
        case rel => exact ⟨k + 1, by omega, by go_num, hp2, below_drewN hbl _⟩
        case measure => simp [intOf]; omega
      · have hne := Lib.hid (show ¬ l = l2 from fun h => e (by rw [h]))
        generalize l.getD k 0 = x at *
        generalize l2.getD k 0 = y at *
        have exy : (x == y) = false := by simpa using e
        clear hp X1 X2 HS
        go_wp2_with fail
        go_quiet (fail)
        go_wp2_with fail
        go_ret
        exact ⟨by rw [decide_eq_false (ON.out.2 hne.out)]; rfl, below_drewN (HB0.out.trans (hbl.mono HB0.out.size)) _⟩
    · obtain rfl : k = n := by omega
      have hp2 := Lib.hid (show l = l2 by have := hp.out; rw [List.take_of_length_le (by rw [HL.out.1]; omega), List.take_of_length_le (by rw [HL.out.2]; omega)] at this; exact this)
      clear hp X1 X2 HS
      go_wp2_with fail
      go_ret
      exact ⟨by rw [decide_eq_true (ON.out.1 hp2.out)]; rfl, HB0.out.trans (hbl.mono HB0.out.size)⟩
end Go.Proofs.YtihcellcdkhadaaGreat.HF
