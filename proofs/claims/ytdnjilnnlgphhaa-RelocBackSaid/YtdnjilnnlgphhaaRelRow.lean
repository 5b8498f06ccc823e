/-
  Slices that are only read, told by what they read as: over any program. Frames: which blocks a call may turn.
-/
import Derived.Test.YtdnjilnnlgphhaaProg
import Derived.Test.YtdnjilnnlgphhaaIsaMath
import Derived.WalkKit
import Derived.WalkSmall
import Derived.BigQuiet
import Derived.Lib.Hide
import Derived.Lib.OthersKept
import Derived.Lib.Strings
import Derived.Lib.AppendStr
import Derived.Lib.SlBytesRow
import Derived.Laws.AppendOwn
import Derived.Laws.AppendOwnNone
set_option linter.unusedSimpArgs false
set_option linter.unusedVariables false
namespace Go.Proofs.Ytdnjilnnlgphhaa.NR
open Go.RowKit

def u8s (l : List UInt8) : List Value := l.map fun c => Value.int .u8 (c.toNat : Int)
def u32s (l : List Nat) : List Value := l.map fun (n : Nat) => Value.int .u32 (n : Int)
theorem u8s_len (l : List UInt8) : (u8s l).length = l.length := by simp [u8s]
theorem u32s_len (l : List Nat) : (u32s l).length = l.length := by simp [u32s]
theorem u8s_at (l : List UInt8) (j : Nat) (h : j < l.length) : (u8s l)[j]? = some (.int .u8 (l[j].toNat : Int)) := by simp [u8s, h]
theorem u32s_at (l : List Nat) (j : Nat) (h : j < l.length) : (u32s l)[j]? = some (.int .u32 (l[j] : Int)) := by simp [u32s, h]
theorem u8s_append (a b : List UInt8) : u8s (a ++ b) = u8s a ++ u8s b := by simp [u8s]
theorem u32s_append (a b : List Nat) : u32s (a ++ b) = u32s a ++ u32s b := by simp [u32s]
theorem u8s_take (l : List UInt8) (k : Nat) : u8s (l.take k) = (u8s l).take k := by simp [u8s]
theorem u8s_drop (l : List UInt8) (k : Nat) : u8s (l.drop k) = (u8s l).drop k := by simp [u8s]
theorem u8s_one (l : List UInt8) : ∀ u ∈ u8s l, u.oneCell' = true := by
  intro u hu
  obtain ⟨_, _, rfl⟩ := List.mem_map.1 hu
  rfl
theorem u32s_one (l : List Nat) : ∀ u ∈ u32s l, u.oneCell' = true := by
  intro u hu
  obtain ⟨_, _, rfl⟩ := List.mem_map.1 hu
  rfl
theorem strCells_bs (s : ByteArray) : Lib.strCells s = u8s s.data.toList := rfl

/-- the slice v reads as these cells, in blocks of which G holds -/
def Reads (G : Nat → Prop) (w : World) (v : Value) (xs : List Value) : Prop :=
  ∃ a cap, v = .slice a xs.length cap ∧ xs.length ≤ cap ∧ cap ≤ maxLen ∧ (a = none → cap = 0) ∧
    (xs = [] ∨ ∃ g off, a = some ⟨g, off, none⟩ ∧ G g ∧ ∀ j, j < xs.length → w.cell? ⟨g, off + j, none⟩ = xs[j]?)
section
variable {G : Nat → Prop} {w w' : World} {v : Value} {xs : List Value}
theorem Reads.keep (h : Reads G w v xs) (hk : ∀ g, G g → g < w.heap.size → w'.heap[g]? = w.heap[g]?) : Reads G w' v xs := by
  obtain ⟨a, cap, e, h1, h2, h3, h4⟩ := h
  refine ⟨a, cap, e, h1, h2, h3, ?_⟩
  rcases h4 with h4 | ⟨g, off, ea, hg, hc⟩
  · exact Or.inl h4
  · by_cases h0 : xs = []
    · exact Or.inl h0
    · refine Or.inr ⟨g, off, ea, hg, fun j hj => ?_⟩
      have hc0 := hc j hj
      rw [List.getElem?_eq_getElem hj] at hc0
      have hlt := World.block_lt_of_cell? w _ hc0
      rw [World.cell?_of_block (w := w) (a := ⟨g, off + j, none⟩) (hk g hg hlt)]
      exact hc j hj
theorem Reads.mono {G' : Nat → Prop} (h : Reads G w v xs) (hG : ∀ g, G g → G' g) : Reads G' w v xs := by
  obtain ⟨a, cap, e, h1, h2, h3, h4⟩ := h
  refine ⟨a, cap, e, h1, h2, h3, ?_⟩
  rcases h4 with h4 | ⟨g, off, ea, hg, hc⟩
  · exact Or.inl h4
  · exact Or.inr ⟨g, off, ea, hG g hg, hc⟩
/-- it lies among the blocks that are there -/
theorem Reads.there (h : Reads G w v xs) : Reads (fun g => G g ∧ g < w.heap.size) w v xs := by
  obtain ⟨a, cap, e, h1, h2, h3, h4⟩ := h
  refine ⟨a, cap, e, h1, h2, h3, ?_⟩
  rcases h4 with h4 | ⟨g, off, ea, hg, hc⟩
  · exact Or.inl h4
  · by_cases h0 : xs = []
    · exact Or.inl h0
    · refine Or.inr ⟨g, off, ea, ⟨hg, ?_⟩, hc⟩
      have hj : 0 < xs.length := List.length_pos_iff.2 h0
      have hc0 := hc 0 hj
      rw [List.getElem?_eq_getElem hj] at hc0
      exact World.block_lt_of_cell? w _ hc0
theorem Reads.drewN (h : Reads G w v xs) (n : Nat) : Reads G (w.drewN n) v xs := h.keep fun _ _ _ => rfl
theorem Reads.alloc (h : Reads G w v xs) (o : Obj) : Reads G (w.alloc o) v xs := h.keep fun g _ hg => Below.heap_alloc w o g hg
theorem Reads.below {B : Nat} (h : Reads (· < B) w v xs) (hb : Below B w w') : Reads (· < B) w' v xs := h.keep fun g hg _ => hb.block g hg
theorem Reads.of_owns {B : Nat} {e : TypeId} {n : Nat} (h : w.ownsRow B e 1 v n xs) : Reads (fun g => B ≤ g ∧ v.ownBlock = some g) w v xs := by
  have hl : xs.length = n := by simpa using h.1
  rcases h.2 with ⟨rfl, h0⟩ | ⟨g, cap, cur, rfl, hg, hcell, hcap, hcm, hsz, hcur⟩
  · have hx : xs = [] := List.length_eq_zero_iff.1 (by omega)
    subst hx
    exact ⟨none, 0, rfl, Nat.le_refl _, by simp [maxLen], fun _ => rfl, Or.inl rfl⟩
  · subst hl
    refine ⟨_, cap, rfl, hcap, hcm, (fun h => by cases h), Or.inr ⟨g, 0, rfl, ⟨hg, rfl⟩, fun j hj => ?_⟩⟩
    rw [Nat.zero_add]
    exact h.cellAt j (by simpa using hj)
theorem Reads.nil (G : Nat → Prop) (w : World) : Reads G w (.slice none 0 0) [] := ⟨none, 0, rfl, Nat.le_refl _, by simp [maxLen], fun _ => rfl, Or.inl rfl⟩
/-- what a slice of n is like -/
theorem Reads.shape (h : Reads G w v xs) : ∃ a cap, v = .slice a xs.length cap ∧ xs.length ≤ cap ∧ cap ≤ maxLen := by
  obtain ⟨a, cap, e, h1, h2, _⟩ := h
  exact ⟨a, cap, e, h1, h2⟩
theorem Reads.form (h : Reads G w v xs) : ∃ a n c, v = .slice a n c := by
  obtain ⟨a, cap, e, _⟩ := h
  exact ⟨a, _, cap, e⟩
theorem Reads.cells (h : Reads G w v xs) (h0 : xs ≠ []) : ∃ g off cap, v = .slice (some ⟨g, off, none⟩) xs.length cap ∧ G g ∧ xs.length ≤ cap ∧ cap ≤ maxLen ∧ ∀ j, j < xs.length → w.cell? ⟨g, off + j, none⟩ = xs[j]? := by
  obtain ⟨a, cap, e, h1, h2, h3, h4⟩ := h
  rcases h4 with h4 | ⟨g, off, ea, hg, hc⟩
  · exact absurd h4 h0
  · subst ea
    exact ⟨g, off, cap, e, hg, h1, h2, hc⟩
end

end Go.Proofs.Ytdnjilnnlgphhaa.NR
