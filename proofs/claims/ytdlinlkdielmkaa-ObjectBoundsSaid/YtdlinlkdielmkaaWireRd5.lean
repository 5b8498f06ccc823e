/-
  A reader's call Words.
-/
import Derived.Test.YtdlinlkdielmkaaWireRd4
set_option linter.unusedSimpArgs false
set_option linter.unusedVariables false
namespace Go.Proofs.Ytdlinlkdielmkaa.NR
open Go.RowKit WM

theorem takeW_take : ∀ (n : Nat) (t : List UInt8), takeW n (t.take (4 * n)) = takeW n t
  | 0, t => rfl
  | n + 1, t => by
    rw [takeW, takeW, List.take_take, show min 4 (4 * (n + 1)) = 4 by omega, List.drop_take, show 4 * (n + 1) - 4 = 4 * n by omega, takeW_take n (t.drop 4)]
theorem rdWords_bytes (m : Nat) (l a b : List UInt8) (k : Nat) (h : rdBytes m 4 l = (k, a, b)) : ∃ n, a.length = 4 * n ∧ rdWords m l = (k, takeW n a, b) := by
  unfold rdBytes at h
  unfold rdWords
  split at h
  · rename_i h1
    rw [if_pos h1]
    split at h
    · rename_i h2
      rw [if_pos (by omega)]
      obtain ⟨rfl, h3⟩ := Prod.mk.inj h
      obtain ⟨rfl, rfl⟩ := Prod.mk.inj h3
      refine ⟨(rdVar m l).2.1, by rw [List.length_take]; omega, ?_⟩
      rw [Nat.mul_comm _ 4, takeW_take]
    · rename_i h2
      rw [if_neg (by omega)]
      obtain ⟨rfl, h3⟩ := Prod.mk.inj h
      obtain ⟨rfl, rfl⟩ := Prod.mk.inj h3
      exact ⟨0, rfl, rfl⟩
  · rename_i h1
    rw [if_neg h1]
    obtain ⟨rfl, h3⟩ := Prod.mk.inj h
    obtain ⟨rfl, rfl⟩ := Prod.mk.inj h3
    exact ⟨0, rfl, rfl⟩
theorem rdBytes_short (m size : Nat) (l : List UInt8) : (rdBytes m size l).2.1.length ≤ l.length := by
  unfold rdBytes
  split
  · rename_i h1
    split
    · have := (vr_good m 5 0 0 l h1).2.2
      have e : (rdVar m l).2.2.length < l.length := this
      simp only [List.length_take]
      omega
    · simp
  · simp
def IsWords (w : World) (p : Nat) (r : Nat × List Nat × List UInt8) (en : Ending) (w' : World) : Prop :=
  ∃ v', en = .returned v' ∧ w'.ownsRow w.heap.size 43 1 v' r.2.1.length (u32s r.2.1) ∧ w.grownBy w' (some p) ∧ Rd w' p r.2.2 r.1
end Go.Proofs.Ytdlinlkdielmkaa.NR
