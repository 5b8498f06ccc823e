/-
  Words as digits: what Hex and Parse tell, of package word and of the reference.
-/
import Derived.Test.YtoohfmkhjhcopaaDoorWordFn
import Derived.Laws.BytesArg
set_option linter.unusedSimpArgs false
set_option linter.unusedVariables false
namespace Go.Proofs.YtoohfmkhjhcopaaDoor.WF
open Go.RowKit WM

def Blk (w : World) (g : Nat) (t : TypeId) (cs : Array Value) : Prop := w.heap[g]? = some (.cells cs t (0, 0))
section
variable {w w' : World} {g : Nat} {t : TypeId} {cs : Array Value}
theorem Blk.cell (h : Blk w g t cs) (i : Nat) : w.cell? ⟨g, i, none⟩ = cs[i]? := cell_of_row w g i cs t (0, 0) h
theorem Blk.frozen (h : Blk w g t cs) (i : Nat) : w.frozen? ⟨g, i, none⟩ = false := by
  unfold Blk at h
  simp [World.frozen?, h]
theorem Blk.new (w : World) (t : TypeId) (cs : Array Value) : Blk (w.alloc (.cells cs t)) w.heap.size t cs := heap_alloc_new w _
theorem Blk.drewN (h : Blk w g t cs) (n : Nat) : Blk (w.drewN n) g t cs := h
theorem Blk.set_ (h : Blk w g t cs) (i : Nat) (u : Value) : Blk (w.setCell ⟨g, i, none⟩ u) g t (cs.setIfInBounds i u) := by
  unfold Blk at h ⊢
  simp [World.setCell, Array.getElem?_modify, h]
theorem below_drewN {B : Nat} {a w : World} (h : Below B a w) (n : Nat) : Below B a (w.drewN n) := ⟨h.os, h.tape, h.output, h.size, h.block⟩
end

def hexd (d : Nat) : Int := if d < 10 then 48 + (d : Int) else 87 + (d : Int)
def hexCells (x k : Nat) : Array Value := ((List.range 8).map (fun j => Value.int .u8 (if 8 - k ≤ j then hexd (cutN x (4 * (7 - j)) 4) else 0))).toArray
def hexL (x : Nat) : List Int := (List.range 8).map (fun j => hexd (cutN x (4 * (7 - j)) 4))

theorem hexd_at (d : Nat) (h : d < 16) : ((({ data := #[48, 49, 50, 51, 52, 53, 54, 55, 56, 57, 97, 98, 99, 100, 101, 102] } : ByteArray)[d]'h).toNat : Int) = hexd d := by
  have h' : d = 0 ∨ d = 1 ∨ d = 2 ∨ d = 3 ∨ d = 4 ∨ d = 5 ∨ d = 6 ∨ d = 7 ∨ d = 8 ∨ d = 9 ∨ d = 10 ∨ d = 11 ∨ d = 12 ∨ d = 13 ∨ d = 14 ∨ d = 15 := by omega
  rcases h' with rfl | rfl | rfl | rfl | rfl | rfl | rfl | rfl | rfl | rfl | rfl | rfl | rfl | rfl | rfl | rfl <;> rfl
theorem hexCells_size (x k : Nat) : (hexCells x k).size = 8 := by simp [hexCells]
theorem hexCells_at (x k j : Nat) (h : j < 8) : (hexCells x k)[j]? = some (Value.int .u8 (if 8 - k ≤ j then hexd (cutN x (4 * (7 - j)) 4) else 0)) := by
  simp [hexCells, h]
theorem hexCells_succ (x k : Nat) (h : k < 8) : (hexCells x k).setIfInBounds (7 - k) (.int .u8 (hexd (cutN x (4 * k) 4))) = hexCells x (k + 1) := by
  apply Array.ext_getElem?
  intro j
  by_cases hj : j < 8
  · rw [Array.getElem?_setIfInBounds, hexCells_at x (k + 1) j hj, hexCells_at x k j hj, hexCells_size]
    by_cases e : 7 - k = j
    · subst e
      rw [if_pos rfl, if_pos (by omega), if_pos (by omega), show 7 - (7 - k) = k by omega]
    · rw [if_neg e]
      by_cases e2 : 8 - k ≤ j
      · rw [if_pos e2, if_pos (by omega)]
      · rw [if_neg e2, if_neg (by omega)]
  · rw [Array.getElem?_eq_none (by simp [hexCells_size]; omega), Array.getElem?_eq_none (by rw [hexCells_size]; omega)]
theorem hexCells_zero (x : Nat) : hexCells x 0 = #[.int .u8 0, .int .u8 0, .int .u8 0, .int .u8 0, .int .u8 0, .int .u8 0, .int .u8 0, .int .u8 0] := by
  simp [hexCells, List.range, List.range.loop]
theorem hexCells_end (x j : Nat) (h : j < 8) : (hexCells x 8)[j]? = some (Value.int .u8 ((hexL x).getD j 0)) := by
  rw [hexCells_at x 8 j h, if_pos (by omega)]
  simp [hexL, h]

theorem infoU8 : (Tryd.prog.info? 5).map (fun i => (i.zero, i.size, i.bytes)) = some (some (.int .u8 0), 1, 1) := by kernel_rfl
/-- the digits that the reference has laid when its counter stands at 7 - k -/
def hexPre (x k : Nat) : List Value := (List.range k).map (fun j => Value.int .u8 (hexd (cutN x (4 * (7 - j)) 4)))
theorem hexPre_succ (x k : Nat) : hexPre x (k + 1) = hexPre x k ++ [.int .u8 (hexd (cutN x (4 * (7 - k)) 4))] := by
  simp [hexPre, List.range_succ]
theorem hexPre_end (x : Nat) : hexPre x 8 = (hexL x).map (Value.int .u8) := by simp [hexPre, hexL]

end Go.Proofs.YtoohfmkhjhcopaaDoor.WF
