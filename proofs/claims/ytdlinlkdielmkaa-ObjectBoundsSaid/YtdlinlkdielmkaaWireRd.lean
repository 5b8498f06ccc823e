/-
  A reader: its block, what its calls do to it, one by one.
-/
import Derived.Test.YtdlinlkdielmkaaWireFn4
import Derived.BigRegion
set_option linter.unusedSimpArgs false
set_option linter.unusedVariables false
namespace Go.Proofs.Ytdlinlkdielmkaa.NR
open Go.RowKit WM

/-- the reader in block p: what is left, the first error -/
def Rd (w : World) (p : Nat) (l : List UInt8) (e : Nat) : Prop :=
  ∃ v, w.heap[p]? = some (.cells #[v, .int .i64 (e : Int)] 95 (0, 0)) ∧ Reads (· < p) w v (u8s l)
theorem Rd.lt {w : World} {p : Nat} {l : List UInt8} {e : Nat} (h : Rd w p l e) : p < w.heap.size := by
  obtain ⟨v, h, _⟩ := h
  exact lt_of_block h
theorem Rd.keep {w w' : World} {p : Nat} {l : List UInt8} {e : Nat} (h : Rd w p l e) (hk : Below w.heap.size w w') : Rd w' p l e := by
  obtain ⟨v, h1, h2⟩ := h
  exact ⟨v, by rw [hk.block p (lt_of_block h1)]; exact h1, h2.keep fun g _ hg => hk.block g hg⟩
/-- it stays when blocks behind it turn -/
theorem Rd.far {w w' : World} {p B : Nat} {l : List UInt8} {e : Nat} (h : Rd w p l e) (hk : Below B w w') (hp : p < B) : Rd w' p l e := by
  obtain ⟨v, h1, h2⟩ := h
  exact ⟨v, by rw [hk.block p hp]; exact h1, h2.keep fun g hg _ => hk.block g (Nat.lt_trans hg hp)⟩
theorem err_any (w : World) (p : Nat) (l : List UInt8) (e : Nat) (h : Rd w p l e) :
    Calls Try.prog 42 #[.pointer (some ⟨p, 0, none⟩)] w fun en w' => en = .returned (.int .i64 (e : Int)) ∧ w = w' := by
  obtain ⟨v, h1, h2⟩ := h
  have hc : w.cell? ⟨p, 1, none⟩ = some (.int .i64 (e : Int)) := block_cell h1 1
  clear h1 h2
  go_enter Try.func42, Try.ntmps42
  go_wp2
  go_ret
  exact ⟨rfl, rfl⟩
theorem err_nil (w : World) : Calls Try.prog 42 #[.pointer none] w fun en w' => en = .returned (.int .i64 1) ∧ w = w' := by
  go_enter Try.func42, Try.ntmps42
  go_wp2
  go_ret
  exact ⟨rfl, rfl⟩
/-- a call that makes a reader -/
def IsReader (l : List UInt8) (w : World) (e : Ending) (w' : World) : Prop :=
  ∃ p, e = .returned (.pointer (some ⟨p, 0, none⟩)) ∧ w.heap.size ≤ p ∧ Rd w' p l 0 ∧ Below w.heap.size w w'
theorem new_any (l : List UInt8) (v : Value) (w : World) (hr : Reads (· < w.heap.size) w v (u8s l)) (hl : l.length ≤ 140737488355328) :
    Calls Try.prog 40 #[v] w (IsReader l w) := by
  have C := Lib.hid (clone_any l v w hr hl)
  clear hr
  go_enter Try.func40, Try.ntmps40
  go_wp2_with fail
  refine C.out.mono ?_
  rintro e w1 ⟨v1, rfl, hown, hb⟩
  have hrd := ((Reads.of_owns hown).there).mono (G' := fun g => g < w1.heap.size) (fun g hg => hg.2)
  have hb2 := below_of hb (below_new w1 (.cells #[v1, .int .i64 0] 95))
  have hr2 := hrd.alloc (.cells #[v1, .int .i64 0] 95)
  have hh : (w1.alloc (.cells #[v1, .int .i64 0] 95)).heap[w1.heap.size]? = some (.cells #[v1, .int .i64 0] 95 (0, 0)) := heap_alloc_new w1 _
  obtain ⟨a1, c1, rfl, _, _⟩ := hrd.shape
  have HH := Lib.hid hh
  have hs := hb.size
  clear hh hown hrd
  go_wp2_with fail
  go_ret
  exact ⟨_, rfl, hs, ⟨_, HH.out, hr2⟩, hb2⟩
theorem fail_any (w : World) (p : Nat) (l : List UInt8) (e : Nat) (h : Rd w p l e) (k : Nat) :
    Calls Try.prog 87 #[.pointer (some ⟨p, 0, none⟩), .int .i64 (k : Int)] w fun en w' => en = .returned (.tuple #[]) ∧ w.grownBy w' (some p) ∧ Rd w' p [] k := by
  obtain ⟨v, h1, h2⟩ := h
  have hc0 : w.cell? ⟨p, 0, none⟩ = some v := block_cell h1 0
  have hc1 : w.cell? ⟨p, 1, none⟩ = some (.int .i64 (e : Int)) := block_cell h1 1
  have hf0 := block_free h1 0
  have hf1 := block_free h1 1
  have H := Lib.hid h1
  obtain ⟨a, c, rfl, _, _⟩ := h2.shape
  clear h1 h2
  go_enter Try.func87, Try.ntmps87
  go_wp2_with fail
  go_end0
  refine ⟨rfl, ?_, ?_⟩
  · exact grown_trans (b := w.setCell ⟨p, 0, none⟩ (.slice none 0 0)) ⟨rfl, rfl, rfl, by simp, fun g hg hr => Below.heap_setCell _ _ _ _ (fun e => hr (by rw [e]))⟩ ⟨rfl, rfl, rfl, by simp, fun g hg hr => Below.heap_setCell _ _ _ _ (fun e => hr (by rw [e]))⟩
  · exact ⟨.slice none 0 0, block_set (block_set H.out 0 (.slice none 0 0)) 1 (.int .i64 (k : Int)), Reads.nil _ _⟩
end Go.Proofs.Ytdlinlkdielmkaa.NR
