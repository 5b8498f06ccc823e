/-
  The reference's Parse: words, numbers. Nothing here is a statement of the seed.
-/
import Derived.Test.YtoohfmkhjhcopaaGreatDoorAsmRefP
import Derived.Test.YtoohfmkhjhcopaaGreatDoorAsmMath6
set_option linter.unusedSimpArgs false
set_option linter.unusedVariables false
namespace Go.Proofs.YtoohfmkhjhcopaaGreatDoor.AF
open Go.RowKit WM IM WF IF AM NR

def strs (l : List (List UInt8)) : List Value := l.map fun p => Value.string (bs p)
theorem strs_len (l : List (List UInt8)) : (strs l).length = l.length := by simp [strs]
theorem infoStr : (Tryz.prog.info? 9).map (fun i => (i.zero, i.size, i.bytes)) = some (some (.string .empty), 1, 16) := by kernel_rfl
theorem oneC (w : World) (u : Value) (t : TypeId) : ∀ j x, [u][j]? = some x → (w.alloc (.cells #[u] t)).cell? ((⟨w.heap.size, 0, none⟩ : Addr).add j) = some x := by
  intro j x hj
  cases j with
  | zero => simp at hj; subst hj; exact (Blk.new _ _ _).cell 0
  | succ j => simp at hj
theorem strs_snoc {w : World} {B : Nat} {v : Value} {xs : List (List UInt8)} {c : List UInt8} (h : w.ownsRow B 9 1 v (xs.length + 1) (strs xs ++ [.string (bs c)])) :
    w.ownsRow B 9 1 v (xs ++ [c]).length (strs (xs ++ [c])) := by
  rw [show strs (xs ++ [c]) = strs xs ++ [.string (bs c)] by simp [strs], List.length_append]
  exact h
set_option maxHeartbeats 1000000 in
theorem words_any (l : List UInt8) (hl : l.length ≤ 1048576) (w : World) :
    Calls Tryz.prog 27 #[.string (bs l)] w fun e w' => ∃ v, e = .returned v ∧ w'.ownsRow w.heap.size 9 1 v (wsOf l).length (strs (wsOf l)) ∧ Below w.heap.size w w' := by
  obtain ⟨i0, hi, hz0, hz1, hz2⟩ := info_parts infoStr
  have hs : (bs l).size ≤ 1048576 := by rw [bs_size]; exact hl
  have M1 : Hid (∀ A q os, Wm l A q os → A ≤ q ∧ os.length ≤ A ∧ q ≤ (bs l).size + 1) := fun A q os h => by rw [bs_size]; exact ⟨h.1, h.2.1, h.2.2.1⟩
  have M2 : Hid (∀ A q os, Wm l A q os → q < (bs l).size → bt (bs l) q ≠ 32 → Wm l A (q + 1) os) := fun A q os h h1 h2 => wm_no h (by rw [bs_size] at h1; exact h1) h2
  have M3 : Hid (∀ A q os, Wm l A q os → q < (bs l).size → bt (bs l) q = 32 → ∃ p, (bs l).extract A q = bs p ∧ Wm l (q + 1) (q + 1) (os ++ [p])) := fun A q os h h1 h2 => by
    obtain ⟨p, a, _, b⟩ := wm_yes h (by rw [bs_size] at h1; exact h1) h2
    exact ⟨p, a, b⟩
  have M4 : Hid (∀ A q os, Wm l A q os → q = (bs l).size → ∃ p, (bs l).extract A q = bs p ∧ Wm l (q + 1) (q + 1) (os ++ [p])) := fun A q os h h1 => by
    obtain ⟨p, a, _, b⟩ := wm_last h (by rw [bs_size] at h1; exact h1)
    exact ⟨p, a, b⟩
  have M5 : Hid (∀ A q os, Wm l A q os → (bs l).size < q → os = wsOf l) := fun A q os h h1 => wm_end h (by rw [bs_size] at h1; exact h1)
  have M0 : Wm l 0 0 [] := wm_start
  generalize hM : Wm l = M at *
  generalize wsOf l = Z at *
  generalize bs l = S at *
  clear hM hl
  go_enter Tryz.func27, Tryz.ntmps27
  go_wp2_with fail
  go_loopw [3, 4, 5] (fun o f i wr => ∃ (A q : Nat) (os : List (List UInt8)) (v : Value), v = o ∧ f = .int .i64 (A : Int) ∧ i = .int .i64 (q : Int) ∧ M A q os ∧ wr.ownsRow w.heap.size 9 1 v os.length (strs os) ∧ Below w.heap.size w wr) (fun o f i _ => S.size + 1 - (intOf i).toNat)
  case atStart => exact ⟨0, 0, [], _, rfl, rfl, rfl, M0, World.ownsRow_nil _ _ _ _, Below.refl _ _⟩
  case round =>
    obtain ⟨A, q, os, v, rfl, rfl, rfl, hm, hown, hb⟩ := hrel
    obtain ⟨b1, b2, b3⟩ := M1.out _ _ _ hm
    have hM := Lib.hid hm
    clear hm
    have hbase := hb.size
    have hnb : (os.length + 1) * 16 ≤ 140737488355328 := by omega
    have hnm : os.length + 1 ≤ maxLen := by unfold maxLen; omega
    by_cases hend : S.size < q
    · have hX := M5.out _ _ _ hM.out hend
      subst hX
      have hq : ¬ (q : Int) ≤ S.size := by omega
      clear hnb hnm
      have HO := Lib.hid hown
      go_wp2_with fail
      go_ret
      exact ⟨_, rfl, HO.out, hb⟩
    · have hq : (q : Int) ≤ S.size := by omega
      have hA : (A : Int) ≤ q := by omega
      by_cases hlt : q < S.size
      · have hlt' : (q : Int) < S.size := by omega
        have hne : ((q : Int) == S.size) = false := by simp; omega
        by_cases e : bt S q = 32
        · have ht : (((S[q]'hlt).toNat : Int) == 32) = true := by rw [bt_at, e]; rfl
          obtain ⟨p, hp, hM2⟩ := M3.out _ _ _ hM.out hlt e
          have HM2 := Lib.hid hM2
          clear hM2 e
          go_wp2_with (at_builtin; refine wpList_append_own _ rfl _ _ 56 rfl w.heap.size 9 i0 (.string .empty) 1 16 Tryz.underlying56 hi hz0 hz1 hz2 rfl (by decide) _ _ _ rfl (hown.alloc _) ⟨wr.heap.size, 0, none⟩ 1 1 [.string (bs p)] rfl rfl (oneC _ _ _) ?c2 hnm hnb ?c5 ?_)
          case c2 => intro u hu; simp at hu; subst hu; rfl
          case c5 => simp; omega
          intro v' w1 hown1 hgrow _
          have HO := Lib.hid (strs_snoc hown1)
          have HB := (hb.alloc hb.size (.cells #[.string (bs p)] 9)).grown hgrow (Nat.le_trans hb.size (by simp)) (fun g hg => (hown.lt g hg).1)
          clear hown1 hown
          go_wp2_with fail
          exact ⟨⟨q + 1, q + 1, _, _, rfl, by go_num, by go_num, HM2.out, HO.out, HB⟩, by simp [intOf]; omega⟩
        · have ht : (((S[q]'hlt).toNat : Int) == 32) = false := by rw [bt_at]; simpa using e
          have HM2 := Lib.hid (M2.out _ _ _ hM.out hlt e)
          clear e
          go_wp2_with fail
          exact ⟨⟨A, q + 1, _, _, rfl, rfl, by go_num, HM2.out, hown, hb⟩, by simp [intOf]; omega⟩
      · obtain rfl : q = S.size := by omega
        obtain ⟨p, hp, hM2⟩ := M4.out _ _ _ hM.out rfl
        have HM2 := Lib.hid hM2
        clear hM2
        go_wp2_with (at_builtin; refine wpList_append_own _ rfl _ _ 56 rfl w.heap.size 9 i0 (.string .empty) 1 16 Tryz.underlying56 hi hz0 hz1 hz2 rfl (by decide) _ _ _ rfl (hown.alloc _) ⟨wr.heap.size, 0, none⟩ 1 1 [.string (bs p)] rfl rfl (oneC _ _ _) ?d2 hnm hnb ?d5 ?_)
        case d2 => intro u hu; simp at hu; subst hu; rfl
        case d5 => simp; omega
        intro v' w1 hown1 hgrow _
        have HO := Lib.hid (strs_snoc hown1)
        have HB := (hb.alloc hb.size (.cells #[.string (bs p)] 9)).grown hgrow (Nat.le_trans hb.size (by simp)) (fun g hg => (hown.lt g hg).1)
        clear hown1 hown
        go_wp2_with fail
        exact ⟨⟨S.size + 1, S.size + 1, _, _, rfl, by go_num, by go_num, HM2.out, HO.out, HB⟩, by simp [intOf]⟩
end Go.Proofs.YtoohfmkhjhcopaaGreatDoor.AF
