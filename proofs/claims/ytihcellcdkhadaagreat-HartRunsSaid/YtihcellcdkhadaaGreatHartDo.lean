/-
  One instruction: what a hart's do makes of it, by the operation. Nothing here is a statement of the seed.
-/
import Derived.Test.YtihcellcdkhadaaGreatHartFn4
import Derived.Deep.RegionHeld3
import Derived.Deep.CutRange
set_option linter.unusedSimpArgs false
set_option linter.unusedVariables false
namespace Go.Proofs.YtihcellcdkhadaaGreat.HF
open Go.RowKit PM PR PF MM MR MF HM HR
set_option maxHeartbeats 2000000
set_option maxRecDepth 10000
/-- the box with a hart and the box with an instruction, as they lie -/
abbrev HI (b : Nat) (pc : Int) (R : Nat → Int) (a : Option Addr) (n c : Nat) (why ep home o d x y m : Int) (u : World) : Prop := u.cell? ⟨b, 0, none⟩ = some (.int .u32 pc) ∧ u.cell? ⟨b, 1, none⟩ = some (.int .u32 (R 0)) ∧ u.cell? ⟨b, 2, none⟩ = some (.int .u32 (R 1)) ∧ u.cell? ⟨b, 3, none⟩ = some (.int .u32 (R 2)) ∧ u.cell? ⟨b, 4, none⟩ = some (.int .u32 (R 3)) ∧ u.cell? ⟨b, 5, none⟩ = some (.int .u32 (R 4)) ∧ u.cell? ⟨b, 6, none⟩ = some (.int .u32 (R 5)) ∧ u.cell? ⟨b, 7, none⟩ = some (.int .u32 (R 6)) ∧ u.cell? ⟨b, 8, none⟩ = some (.int .u32 (R 7)) ∧ u.cell? ⟨b, 9, none⟩ = some (.slice a n c) ∧ u.cell? ⟨b, 10, none⟩ = some (.int .u8 why) ∧ u.cell? ⟨b, 11, none⟩ = some (.int .u64 ep) ∧ u.cell? ⟨b, 12, none⟩ = some (.int .u32 home) ∧ u.cell? ⟨b + 1, 0, none⟩ = some (.int .u8 o) ∧ u.cell? ⟨b + 1, 1, none⟩ = some (.int .u8 d) ∧ u.cell? ⟨b + 1, 2, none⟩ = some (.int .u8 x) ∧ u.cell? ⟨b + 1, 3, none⟩ = some (.int .u8 y) ∧ u.cell? ⟨b + 1, 4, none⟩ = some (.int .i32 m)
theorem hi_go {b : Nat} {pc : Int} {R : Nat → Int} {a : Option Addr} {n c : Nat} {why ep home o d x y m : Int} {w u : World} (h : HI b pc R a n c why ep home o d x y m w) (hb : b + 1 < w.heap.size) (k : Below w.heap.size w u) : HI b pc R a n c why ep home o d x y m u := by
  have c0 := fun i => k.cell (p := ⟨b, i, none⟩) (by show b < w.heap.size; omega)
  have c1 := fun i => k.cell (p := ⟨b + 1, i, none⟩) hb
  obtain ⟨h0, h1, h2, h3, h4, h5, h6, h7, h8, h9, h10, h11, h12, i0, i1, i2, i3, i4⟩ := h
  exact ⟨(c0 _).trans h0, (c0 _).trans h1, (c0 _).trans h2, (c0 _).trans h3, (c0 _).trans h4, (c0 _).trans h5, (c0 _).trans h6, (c0 _).trans h7, (c0 _).trans h8, (c0 _).trans h9, (c0 _).trans h10, (c0 _).trans h11, (c0 _).trans h12, (c1 _).trans i0, (c1 _).trans i1, (c1 _).trans i2, (c1 _).trans i3, (c1 _).trans i4⟩
theorem hi_of {w : World} {b : Nat} {pc : Int} {R : Nat → Int} {a : Option Addr} {n c : Nat} {why ep home o d x y m : Int} (h : Whole w b 30 (hCs pc R a n c why ep home)) (h' : Whole w (b + 1) 76 #[.int .u8 o, .int .u8 d, .int .u8 x, .int .u8 y, .int .i32 m]) : HI b pc R a n c why ep home o d x y m w :=
  ⟨h.cell 0, h.cell 1, h.cell 2, h.cell 3, h.cell 4, h.cell 5, h.cell 6, h.cell 7, h.cell 8, h.cell 9, h.cell 10, h.cell 11, h.cell 12, h'.cell 0, h'.cell 1, h'.cell 2, h'.cell 3, h'.cell 4⟩
/-! the ends of blocks, one at a time -/
theorem q_te {K : Act → World → Prop} {Q : Exit → Act → World → Prop} {k : Nat} {a : Act} {w : World} (h : Q (.exit k) a w) : Exit.then K Q (.exit k) a w := h
theorem q_tr {K : Act → World → Prop} {Q : Exit → Act → World → Prop} {a : Act} {w : World} (h : Q .ret a w) : Exit.then K Q .ret a w := h
theorem q_br {i : Nat} {Q : Exit → Act → World → Prop} {a : Act} {w : World} (h : Q .ret a w) : Exit.inBlock i Q .ret a w := h
theorem q_be {i : Nat} {Q : Exit → Act → World → Prop} {a : Act} {w : World} (h : Q .normal a w) : Exit.inBlock i Q (.exit i) a w := by simpa [Exit.inBlock] using h
theorem q_bn {i k : Nat} {Q : Exit → Act → World → Prop} {a : Act} {w : World} (hne : (k == i) = false) (h : Q (.exit k) a w) : Exit.inBlock i Q (.exit k) a w := by
  have : ¬ k = i := by simpa using hne
  simpa [Exit.inBlock, this] using h
theorem want_it {c : Bool} {p q : Prop} (h : c = true) (hp : p) : if c = true then p else q := by rw [if_pos h]; exact hp
/-! stores of a whole hart, of a whole note: one step each -/
theorem ws_H {op : Oper} {a : Act} {w : World} {K : Act → World → Prop} {Q : Exit → Act → World → Prop} {x y : Operand} (ho : op.op = .store 30 x y) (hd : op.dst = none) {b : Nat} {cs : Array Value} (hW : Whole w b 30 cs) (hs : cs.size = 13) {pc r0 r1 r2 r3 r4 r5 r6 r7 : Int} {sa : Option Addr} {n c : Nat} {why ep home : Int} (hx : a.eval x = .pointer (some ⟨b, 0, none⟩)) (hy : a.eval y = h8 pc r0 r1 r2 r3 r4 r5 r6 r7 sa n c why ep home) (h : K a (putH w b pc r0 r1 r2 r3 r4 r5 r6 r7 sa n c why ep home)) : op.wp Tryz.prog a w K Q := by
  refine wp_store_mid _ x y ho b 0 _ hx hy (fun j hj => ?_) infoHart (by simp [Value.oneCell']) ?_
  · have hj' : j < cs.size := by rw [hs]; exact hj
    exact ⟨by rw [hW.cell, Nat.zero_add, Array.getElem?_eq_getElem hj']; rfl, hW.frozen _⟩
  · rw [hd]; exact h
theorem ws_N {op : Oper} {a : Act} {w : World} {K : Act → World → Prop} {Q : Exit → Act → World → Prop} {x y : Operand} (ho : op.op = .store 41 x y) (hd : op.dst = none) {b : Nat} {cs : Array Value} (hW : Whole w b 41 cs) (hs : cs.size = 4) {sf st : Bool} {p q : Int} (hx : a.eval x = .pointer (some ⟨b, 0, none⟩)) (hy : a.eval y = nV sf st p q) (h : K a (putN w b sf st p q)) : op.wp Tryz.prog a w K Q := by
  refine wp_store_mid _ x y ho b 0 _ hx hy (fun j hj => ?_) infoN (by simp [Value.oneCell']) ?_
  · have hj' : j < cs.size := by rw [hs]; exact hj
    exact ⟨by rw [hW.cell, Nat.zero_add, Array.getElem?_eq_getElem hj']; rfl, hW.frozen _⟩
  · rw [hd]; exact h
/-- behind a call of do's: the results' blocks -/
theorem do_mid {w u w5 : World} {B p t g gw : Nat} {cs i : Array Value} {a a' : Option Addr} {n c n' c' : Nat} {r : Res} (hlt : p < w.heap.size ∧ t < w.heap.size ∧ g < w.heap.size ∧ gw < w.heap.size) (kOwn : ∀ k, (Value.slice a n c).ownBlock = some k → k < w.heap.size)
    (hb : Below (w4 w cs i).heap.size (w4 w cs i) u) (hf : Fr (fun i => MS p g gw i ∨ (Value.slice a n c).ownBlock = some i) u w5) : Ends w5 (w.heap.size + 1 + 1) ∧ Fr (fun i => MS p g gw i ∨ (Value.slice a n c).ownBlock = some i) w w5 := by
  obtain ⟨⟨⟨c1, x1, s1⟩, ⟨c2, x2, s2⟩⟩, B0⟩ := w4_ends hb
  have no : ∀ q, w.heap.size ≤ q → ¬ (MS p g gw q ∨ (Value.slice a n c).ownBlock = some q) := by
    intro q hq
    rintro ((e | e | e) | e)
    · omega
    · omega
    · omega
    · have := kOwn _ e; omega
  exact ⟨⟨⟨c1, x1.fr hf (no _ (by omega)), s1⟩, ⟨c2, x2.fr hf (no _ (by omega)), s2⟩⟩, (Fr.of_below B0).trans hf (fun i hi => Or.inl hi)⟩
end Go.Proofs.YtihcellcdkhadaaGreat.HF
