/-
  Joined texts: MemRef, MemRef2. Nothing here is a statement of the seed.
-/
import Derived.Test.YtihcellcdkhadaaMemA
import Derived.Deep.CutRange
set_option linter.unusedSimpArgs false
set_option linter.unusedVariables false
/-
  The reference's memory: words, gates, what harts are told; a word, a gate turned. Nothing here is a statement of the seed.
-/
namespace Go.Proofs.Ytihcellcdkhadaa.MF
open Go.RowKit PM PR PF MM MR

section
variable {w : World} {gr c gw d : Nat} {M : Mm}
end
end Go.Proofs.Ytihcellcdkhadaa.MF

/-
  What harts are told of the reference's memory. Nothing here is a statement of the seed.
-/
namespace Go.Proofs.Ytihcellcdkhadaa.MF
open Go.RowKit PM PR PF MM MR

/-- a box with the reference's memory in the block b, a page in the block B3 -/
def Bx (w w3 : World) (b B3 : Nat) (cs ps : Array Value) : Prop := Whole w3 b 41 cs ∧ Whole w3 B3 54 ps ∧ w.heap.size ≤ B3 ∧ Below w.heap.size w w3
theorem bx_new {w W w2 : World} {b : Nat} {cs : Array Value} (h : Whole W b 41 cs) (hb0 : Below w.heap.size w W) (hb : Below W.heap.size W w2) (st : Int) (ex wr : Bool) (ow ep : Int) :
    Bx w (w2.alloc (.cells #[.int .u8 st, .bool ex, .bool wr, .int .u16 ow, .int .u64 ep] 54)) b w2.heap.size cs #[.int .u8 st, .bool ex, .bool wr, .int .u16 ow, .int .u64 ep] :=
  ⟨(h.belowS hb).alloc _, Whole.new _ _ _, Nat.le_trans hb0.size hb.size, below_of (below_of hb0 hb) (below_new _ _)⟩
theorem bx_set {w W w2 : World} {b B3 : Nat} {cs : Array Value} (hB : W.heap.size = B3) (h : Whole W b 41 cs) (hb0 : Below w.heap.size w W)
    (hb : Below (W.alloc (.cells #[.int .u8 0, .bool false, .bool false, .int .u16 0, .int .u64 0] 54)).heap.size (W.alloc (.cells #[.int .u8 0, .bool false, .bool false, .int .u16 0, .int .u64 0] 54)) w2) (st : Int) (ex wr : Bool) (ow ep : Int) :
    Bx w (((((w2.setCell ⟨B3, 0, none⟩ (.int .u8 st)).setCell ⟨B3, 1, none⟩ (.bool ex)).setCell ⟨B3, 2, none⟩ (.bool wr)).setCell ⟨B3, 3, none⟩ (.int .u16 ow)).setCell ⟨B3, 4, none⟩ (.int .u64 ep)) b B3 cs #[.int .u8 st, .bool ex, .bool wr, .int .u16 ow, .int .u64 ep] := by
  subst hB
  have hne : b ≠ W.heap.size := by have := h.lt; omega
  have P := (Whole.new W 54 #[.int .u8 0, .bool false, .bool false, .int .u16 0, .int .u64 0]).belowS hb
  refine ⟨(((((((h.alloc _).belowS hb).far hne _).far hne _).far hne _).far hne _).far hne _), ?_, hb0.size, (((((below_of hb0 (below_of (below_new _ _) hb)).setCell hb0.size _).setCell hb0.size _).setCell hb0.size _).setCell hb0.size _).setCell hb0.size _⟩
  exact ((((P.set_ 0 _).set_ 1 _).set_ 2 _).set_ 3 _).set_ 4 _
theorem page_cells {w : World} {b : Nat} {st ow ep : Int} {ex wr : Bool} (h : Whole w b 54 #[.int .u8 st, .bool ex, .bool wr, .int .u16 ow, .int .u64 ep]) : w.cell? ⟨b, 0, none⟩ = some (.int .u8 st) ∧ w.cell? ⟨b, 1, none⟩ = some (.bool ex) ∧ w.cell? ⟨b, 2, none⟩ = some (.bool wr) ∧ w.cell? ⟨b, 3, none⟩ = some (.int .u16 ow) ∧ w.cell? ⟨b, 4, none⟩ = some (.int .u64 ep) :=
  ⟨h.cell 0, h.cell 1, h.cell 2, h.cell 3, h.cell 4⟩
/-- the box's cells, and the page's owner -/
abbrev RP (b B3 : Nat) (G : Nat → Int) (gr n c gw m d : Nat) (ow : Int) (w : World) : Prop :=
  w.cell? ⟨b, 0, none⟩ = some (.int .u32 (G 0)) ∧ w.cell? ⟨b, 1, none⟩ = some (.int .u32 (G 1)) ∧ w.cell? ⟨b, 2, none⟩ = some (.int .u32 (G 2)) ∧ w.cell? ⟨b, 3, none⟩ = some (.int .u32 (G 3)) ∧ w.cell? ⟨b, 4, none⟩ = some (.int .u32 (G 4)) ∧ w.cell? ⟨b, 5, none⟩ = some (.int .u32 (G 5)) ∧
    w.cell? ⟨b, 6, none⟩ = some (.int .u32 (G 6)) ∧ w.cell? ⟨b, 7, none⟩ = some (.int .u32 (G 7)) ∧ w.cell? ⟨b, 8, none⟩ = some (.slice (some ⟨gr, 0, none⟩) n c) ∧ w.cell? ⟨b, 9, none⟩ = some (.slice (some ⟨gw, 0, none⟩) m d) ∧ w.cell? ⟨B3, 3, none⟩ = some (.int .u16 ow)
theorem rp_of {w : World} {b B3 : Nat} {G : Nat → Int} {gr n c gw m d : Nat} {st ow ep : Int} {ex wr : Bool} (h : Whole w b 41 (rCs G gr n c gw m d)) (k : Whole w B3 54 #[.int .u8 st, .bool ex, .bool wr, .int .u16 ow, .int .u64 ep]) : RP b B3 G gr n c gw m d ow w := by
  obtain ⟨c0, c1, c2, c3, c4, c5, c6, c7, c8, c9⟩ := box_cells h
  exact ⟨c0, c1, c2, c3, c4, c5, c6, c7, c8, c9, k.cell 3⟩
theorem rp_go {w u : World} {b B3 : Nat} {G : Nat → Int} {gr n c gw m d : Nat} {ow : Int} (h : RP b B3 G gr n c gw m d ow w) (h1 : b < w.heap.size) (h2 : B3 < w.heap.size) (hb : Below w.heap.size w u) : RP b B3 G gr n c gw m d ow u := by
  have c := fun i => hb.cell (p := ⟨b, i, none⟩) h1
  obtain ⟨c0, c1, c2, c3, c4, c5, c6, c7, c8, c9, p⟩ := h
  exact ⟨(c _).trans c0, (c _).trans c1, (c _).trans c2, (c _).trans c3, (c _).trans c4, (c _).trans c5, (c _).trans c6, (c _).trans c7, (c _).trans c8, (c _).trans c9, (hb.cell (p := ⟨B3, 3, none⟩) h2).trans p⟩
section
variable {w : World} {gr c gw d : Nat} {M : Mm}
end
end Go.Proofs.Ytihcellcdkhadaa.MF
