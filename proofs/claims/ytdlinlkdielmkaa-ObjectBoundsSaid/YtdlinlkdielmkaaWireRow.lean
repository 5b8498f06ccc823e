/-
  Slices that are only read, told by what they read as: over any program. Frames: which blocks a call may turn.
-/
import Derived.Test.YtdlinlkdielmkaaProg
import Derived.Test.YtdlinlkdielmkaaWireMath
import Derived.WalkKit
import Derived.WalkSmall
import Derived.BigQuiet
import Derived.Deep.QuietTactic
import Derived.Lib.Hide
import Derived.Lib.OthersKept
import Derived.Lib.Strings
import Derived.Lib.AppendStr
import Derived.Lib.SlBytesRow
import Derived.Laws.AppendOwn
import Derived.Laws.AppendOwnNone
set_option linter.unusedSimpArgs false
set_option linter.unusedVariables false
namespace Go.Proofs.Ytdlinlkdielmkaa.NR
open Go.RowKit

def bs (l : List UInt8) : ByteArray := ⟨l.toArray⟩
theorem bs_list (l : List UInt8) : (bs l).data.toList = l := rfl
theorem bs_of (s : ByteArray) : bs s.data.toList = s := rfl
theorem bs_size (l : List UInt8) : (bs l).size = l.length := by simp [bs, ByteArray.size]
theorem size_list (s : ByteArray) : s.data.toList.length = s.size := by rw [Array.length_toList]; rfl
theorem ret_bool {a b : Bool} (h : a = b) : Ending.returned (.bool a) = .returned (.bool b) := by rw [h]
theorem ret_int {k : IntKind} {a b : Int} (h : a = b) : Ending.returned (.int k a) = .returned (.int k b) := by rw [h]
def u8s (l : List UInt8) : List Value := l.map fun c => Value.int .u8 (c.toNat : Int)
def u32s (l : List Nat) : List Value := l.map fun (n : Nat) => Value.int .u32 (n : Int)
theorem u8s_len (l : List UInt8) : (u8s l).length = l.length := by simp [u8s]
theorem u32s_len (l : List Nat) : (u32s l).length = l.length := by simp [u32s]
theorem u8s_at (l : List UInt8) (j : Nat) (h : j < l.length) : (u8s l)[j]? = some (.int .u8 (l[j].toNat : Int)) := by simp [u8s, h]
theorem u32s_at (l : List Nat) (j : Nat) (h : j < l.length) : (u32s l)[j]? = some (.int .u32 (l[j] : Int)) := by simp [u32s, h]
theorem u8s_append (a b : List UInt8) : u8s (a ++ b) = u8s a ++ u8s b := by simp [u8s]
theorem u32s_append (a b : List Nat) : u32s (a ++ b) = u32s a ++ u32s b := by simp [u32s]
theorem u8s_take (l : List UInt8) (k : Nat) : u8s (l.take k) = (u8s l).take k := by simp [u8s]
theorem u8s_drop (l : List UInt8) (k : Nat) : u8s (l.drop k) = (u8s l).drop k := by simp [u8s]
theorem u8s_one (l : List UInt8) : ∀ u ∈ u8s l, u.oneCell' = true := by
  intro u hu
  obtain ⟨_, _, rfl⟩ := List.mem_map.1 hu
  rfl
theorem u32s_one (l : List Nat) : ∀ u ∈ u32s l, u.oneCell' = true := by
  intro u hu
  obtain ⟨_, _, rfl⟩ := List.mem_map.1 hu
  rfl
theorem strCells_bs (s : ByteArray) : Lib.strCells s = u8s s.data.toList := rfl

/-- the slice v reads as these cells, in blocks of which G holds -/
def Reads (G : Nat → Prop) (w : World) (v : Value) (xs : List Value) : Prop :=
  ∃ a cap, v = .slice a xs.length cap ∧ xs.length ≤ cap ∧ cap ≤ maxLen ∧ (a = none → cap = 0) ∧
    (xs = [] ∨ ∃ g off, a = some ⟨g, off, none⟩ ∧ G g ∧ ∀ j, j < xs.length → w.cell? ⟨g, off + j, none⟩ = xs[j]?)
section
variable {G : Nat → Prop} {w w' : World} {v : Value} {xs : List Value}
theorem Reads.keep (h : Reads G w v xs) (hk : ∀ g, G g → g < w.heap.size → w'.heap[g]? = w.heap[g]?) : Reads G w' v xs := by
  obtain ⟨a, cap, e, h1, h2, h3, h4⟩ := h
  refine ⟨a, cap, e, h1, h2, h3, ?_⟩
  rcases h4 with h4 | ⟨g, off, ea, hg, hc⟩
  · exact Or.inl h4
  · by_cases h0 : xs = []
    · exact Or.inl h0
    · refine Or.inr ⟨g, off, ea, hg, fun j hj => ?_⟩
      have hc0 := hc j hj
      rw [List.getElem?_eq_getElem hj] at hc0
      have hlt := World.block_lt_of_cell? w _ hc0
      rw [World.cell?_of_block (w := w) (a := ⟨g, off + j, none⟩) (hk g hg hlt)]
      exact hc j hj
theorem Reads.mono {G' : Nat → Prop} (h : Reads G w v xs) (hG : ∀ g, G g → G' g) : Reads G' w v xs := by
  obtain ⟨a, cap, e, h1, h2, h3, h4⟩ := h
  refine ⟨a, cap, e, h1, h2, h3, ?_⟩
  rcases h4 with h4 | ⟨g, off, ea, hg, hc⟩
  · exact Or.inl h4
  · exact Or.inr ⟨g, off, ea, hG g hg, hc⟩
/-- it lies among the blocks that are there -/
theorem Reads.there (h : Reads G w v xs) : Reads (fun g => G g ∧ g < w.heap.size) w v xs := by
  obtain ⟨a, cap, e, h1, h2, h3, h4⟩ := h
  refine ⟨a, cap, e, h1, h2, h3, ?_⟩
  rcases h4 with h4 | ⟨g, off, ea, hg, hc⟩
  · exact Or.inl h4
  · by_cases h0 : xs = []
    · exact Or.inl h0
    · refine Or.inr ⟨g, off, ea, ⟨hg, ?_⟩, hc⟩
      have hj : 0 < xs.length := List.length_pos_iff.2 h0
      have hc0 := hc 0 hj
      rw [List.getElem?_eq_getElem hj] at hc0
      exact World.block_lt_of_cell? w _ hc0
theorem Reads.drewN (h : Reads G w v xs) (n : Nat) : Reads G (w.drewN n) v xs := h.keep fun _ _ _ => rfl
theorem Reads.alloc (h : Reads G w v xs) (o : Obj) : Reads G (w.alloc o) v xs := h.keep fun g _ hg => Below.heap_alloc w o g hg
theorem Reads.below {B : Nat} (h : Reads (· < B) w v xs) (hb : Below B w w') : Reads (· < B) w' v xs := h.keep fun g hg _ => hb.block g hg
theorem Reads.of_owns {B : Nat} {e : TypeId} {n : Nat} (h : w.ownsRow B e 1 v n xs) : Reads (fun g => B ≤ g ∧ v.ownBlock = some g) w v xs := by
  have hl : xs.length = n := by simpa using h.1
  rcases h.2 with ⟨rfl, h0⟩ | ⟨g, cap, cur, rfl, hg, hcell, hcap, hcm, hsz, hcur⟩
  · have hx : xs = [] := List.length_eq_zero_iff.1 (by omega)
    subst hx
    exact ⟨none, 0, rfl, Nat.le_refl _, by simp [maxLen], fun _ => rfl, Or.inl rfl⟩
  · subst hl
    refine ⟨_, cap, rfl, hcap, hcm, (fun h => by cases h), Or.inr ⟨g, 0, rfl, ⟨hg, rfl⟩, fun j hj => ?_⟩⟩
    rw [Nat.zero_add]
    exact h.cellAt j (by simpa using hj)
theorem Reads.nil (G : Nat → Prop) (w : World) : Reads G w (.slice none 0 0) [] := ⟨none, 0, rfl, Nat.le_refl _, by simp [maxLen], fun _ => rfl, Or.inl rfl⟩
/-- what a slice of n is like -/
theorem Reads.shape (h : Reads G w v xs) : ∃ a cap, v = .slice a xs.length cap ∧ xs.length ≤ cap ∧ cap ≤ maxLen := by
  obtain ⟨a, cap, e, h1, h2, _⟩ := h
  exact ⟨a, cap, e, h1, h2⟩
theorem Reads.form (h : Reads G w v xs) : ∃ a n c, v = .slice a n c := by
  obtain ⟨a, cap, e, _⟩ := h
  exact ⟨a, _, cap, e⟩
theorem Reads.cells (h : Reads G w v xs) (h0 : xs ≠ []) : ∃ g off cap, v = .slice (some ⟨g, off, none⟩) xs.length cap ∧ G g ∧ xs.length ≤ cap ∧ cap ≤ maxLen ∧ ∀ j, j < xs.length → w.cell? ⟨g, off + j, none⟩ = xs[j]? := by
  obtain ⟨a, cap, e, h1, h2, h3, h4⟩ := h
  rcases h4 with h4 | ⟨g, off, ea, hg, hc⟩
  · exact absurd h4 h0
  · subst ea
    exact ⟨g, off, cap, e, hg, h1, h2, hc⟩
end

section
variable {P : Program} {G : Nat → Prop} {w : World} {v : Value} {xs : List Value} {t : TypeId}
/-- a piece of it -/
theorem Reads.sub (h : Reads G w v xs) (lo hi : Nat) (h1 : lo ≤ hi) (h2 : hi ≤ xs.length) (cap : Nat) (a : Option Addr) (hv : v = .slice a xs.length cap) :
    Reads G w (sliced a lo hi cap 1) ((xs.take hi).drop lo) := by
  obtain ⟨a', cap', e, h3, h4, h5, h6⟩ := h
  rw [hv] at e
  simp only [Value.slice.injEq, true_and] at e
  obtain ⟨rfl, rfl⟩ := e
  have hl : ((xs.take hi).drop lo).length = hi - lo := by rw [List.length_drop, List.length_take, Nat.min_eq_left h2]
  refine ⟨_, cap - lo, by rw [hl]; rfl, by rw [hl]; omega, by omega, ?_, ?_⟩
  · intro hn
    split at hn
    · omega
    · cases a with
      | none => have := h5 rfl; omega
      | some p => cases hn
  · by_cases h0 : lo = hi
    · exact Or.inl (List.length_eq_zero_iff.1 (by omega))
    · refine Or.inr ?_
      rcases h6 with h6 | ⟨g, off, ea, hg, hc⟩
      · subst h6; simp at h2; omega
      · subst ea
        refine ⟨g, off + lo, ?_, hg, fun j hj => ?_⟩
        · rw [if_neg (by omega), Nat.mul_one]
          simp only [Option.map_some, Option.some.injEq]
          unfold Addr.add
          split
          · subst_vars; simp
          · rfl
        · rw [Nat.add_assoc, hc (lo + j) (by omega), List.getElem?_drop, List.getElem?_take_of_lt (by omega)]
theorem Reads.drop (h : Reads G w v xs) (ht : P.underlying t = some (.slice (P.elem t))) (hz : ∀ u, (sizeOf (P.elem t)).run P u = .ok 1 u) (k : Nat) (hk : k ≤ xs.length) :
    ∃ v', (∀ (K : IntKind) (u : World), (Instr.slice t v (some (.int K (k : Int))) none none).run P u = .ok v' u) ∧ Reads G w v' (xs.drop k) := by
  have h' := h
  obtain ⟨a, cap, rfl, h1, _⟩ := h
  refine ⟨sliced a k xs.length cap 1, fun K u => ?_, ?_⟩
  · rw [run_slice_l (P := P) u t a xs.length cap ht K (k : Int) (by omega) (by omega), hz]
    rfl
  · have := Reads.sub h' k xs.length hk (Nat.le_refl _) cap a rfl
    rwa [List.take_length] at this
theorem Reads.take (h : Reads G w v xs) (ht : P.underlying t = some (.slice (P.elem t))) (hz : ∀ u, (sizeOf (P.elem t)).run P u = .ok 1 u) (k : Nat) (hk : k ≤ xs.length) :
    ∃ v', (∀ (K : IntKind) (u : World), (Instr.slice t v none (some (.int K (k : Int))) none).run P u = .ok v' u) ∧ Reads G w v' (xs.take k) := by
  have h' := h
  obtain ⟨a, cap, rfl, h1, _⟩ := h
  refine ⟨sliced a 0 k cap 1, fun K u => ?_, ?_⟩
  · rw [run_slice_h (P := P) u t a xs.length cap ht K (k : Int) (by omega) (by omega), hz]
    rfl
  · have := Reads.sub h' 0 k (by omega) hk cap a rfl
    rwa [List.drop_zero] at this
theorem Reads.cut (h : Reads G w v xs) (ht : P.underlying t = some (.slice (P.elem t))) (hz : ∀ u, (sizeOf (P.elem t)).run P u = .ok 1 u) (lo hi : Nat) (hl : lo ≤ hi) (hk : hi ≤ xs.length) :
    ∃ v', (∀ (K K' : IntKind) (u : World), (Instr.slice t v (some (.int K (lo : Int))) (some (.int K' (hi : Int))) none).run P u = .ok v' u) ∧ Reads G w v' ((xs.take hi).drop lo) := by
  have h' := h
  obtain ⟨a, cap, rfl, h1, _⟩ := h
  refine ⟨sliced a lo hi cap 1, fun K K' u => ?_, ?_⟩
  · rw [run_slice_lh (P := P) u t a xs.length cap ht K K' (lo : Int) (hi : Int) (by omega) (by omega) (by omega), hz]
    rfl
  · exact Reads.sub h' lo hi hl hk cap a rfl
/-- its bytes as a text -/
theorem Reads.text {l : List UInt8} {src dst e : TypeId} (h : Reads G w v (u8s l)) (hs : P.underlying src = some (.slice e)) (he : P.underlying e = some (.int .u8)) (hd : P.underlying dst = some .string) :
    (convert src dst v).run P w = .ok (.string (bs l)) w := by
  obtain ⟨a, cap, rfl, h1, h2, h3, h4⟩ := h
  rw [u8s_len] at *
  rcases h4 with h4 | ⟨g, off, rfl, hg, hc⟩
  · have : l = [] := by cases l with
      | nil => rfl
      | cons x t => simp [u8s] at h4
    subst this
    rw [run_convert_bytes_string (P := P) w src dst e a _ cap hs he hd]
    cases a with
    | none => simp [Conv.bytesToString, loadCells, loadCellsFrom]; rfl
    | some p => 
      exact run_bytesToString (P := P) w p 0 cap [] (by simp [loadCells, loadCellsFrom])
  · have := Lib.run_convert_whole (P := P) w src e dst hs he hd g off (bs l) (fun i hi => ?_) cap
    · rw [bs_size] at this; exact this
    · rw [bs_size] at hi
      rw [hc i hi, u8s_at l i hi]
      rfl
end

/-! frames -/
theorem grown_refl (w : World) (row : Option Nat) : w.grownBy w row := ⟨rfl, rfl, rfl, Nat.le_refl _, fun _ _ _ => rfl⟩
theorem grown_trans {a b c : World} {row : Option Nat} (h : a.grownBy b row) (k : b.grownBy c row) : a.grownBy c row :=
  ⟨k.os.trans h.os, k.tape.trans h.tape, k.output.trans h.output, Nat.le_trans h.size k.size, fun i hi hr => (k.block i (Nat.lt_of_lt_of_le hi h.size) hr).trans (h.block i hi hr)⟩
theorem grown_below {a b : World} (row : Option Nat) (h : Below a.heap.size a b) : a.grownBy b row := ⟨h.os, h.tape, h.output, h.size, fun k hk _ => h.block k hk⟩
/-- behind a call that made memory, and turned one block at the most -/
theorem grown_then {a b c : World} {row : Option Nat} (h : a.grownBy b row) (k : Below a.heap.size b c) : a.grownBy c row :=
  ⟨k.os.trans h.os, k.tape.trans h.tape, k.output.trans h.output, Nat.le_trans h.size k.size, fun i hi hr => (k.block i hi).trans (h.block i hi hr)⟩
theorem below_then {a b c : World} {B p : Nat} (h : Below B a b) (k : b.grownBy c (some p)) (hp : B ≤ p) (hB : B ≤ b.heap.size) : Below B a c :=
  h.trans ⟨k.os, k.tape, k.output, k.size, fun i hi => k.block i (by omega) (fun e => by have := Option.some.inj e; omega)⟩
theorem below_of {w0 a b : World} (h : Below w0.heap.size w0 a) (k : Below a.heap.size a b) : Below w0.heap.size w0 b := h.trans (k.mono h.size)
theorem below_new (w : World) (o : Obj) : Below w.heap.size w (w.alloc o) := (Below.refl _ _).alloc (Nat.le_refl _) o
theorem owns_below {w w' : World} {B : Nat} {e : TypeId} {size n : Nat} {v : Value} {xs : List Value} (h : w.ownsRow B e size v n xs) (k : Below w.heap.size w w') : w'.ownsRow B e size v n xs :=
  h.kept (grown_below none k) (by cases hv : v.ownBlock <;> simp)
theorem owns_base {w : World} {B B' : Nat} {e : TypeId} {size n : Nat} {v : Value} {xs : List Value} (h : w.ownsRow B e size v n xs) (hB : B' ≤ B) : w.ownsRow B' e size v n xs := by
  obtain ⟨h1, h2⟩ := h
  refine ⟨h1, ?_⟩
  rcases h2 with h2 | ⟨g, cap, cur, e, hg, h3⟩
  · exact Or.inl h2
  · exact Or.inr ⟨g, cap, cur, e, Nat.le_trans hB hg, h3⟩
end Go.Proofs.Ytdlinlkdielmkaa.NR
