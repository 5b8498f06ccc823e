/-
  Memories in memory: a block of words; the program's memory and its blocks; the reference's value. Nothing here is a statement of the seed.
-/
import Derived.Test.YtkmjacpcpchjoaaMemMath
import Derived.Test.YtkmjacpcpchjoaaPageDo
import Derived.Test.YtkmjacpcpchjoaaIsaEnc
set_option linter.unusedSimpArgs false
set_option linter.unusedVariables false
namespace Go.Proofs.Ytkmjacpcpchjoaa.MR
open Go.RowKit PM PR PF MM

def wcs (l : List Int) : List Value := l.map fun x => .int .u32 x
theorem wcs_len (l : List Int) : (wcs l).length = l.length := by simp [wcs]
theorem wcs_at {l : List Int} {k : Nat} (h : k < l.length) : (wcs l)[k]? = some (.int .u32 (l.getD k 0)) := by simp [wcs, h]
theorem wcs_set (l : List Int) (k : Nat) (x : Int) : (wcs l).set k (.int .u32 x) = wcs (l.set k x) := by simp [wcs, List.map_set]
/-- block g holds the words l, and more room perhaps -/
def Wr (w : World) (g : Nat) (l : List Int) : Prop := ∃ r : List Value, Whole w g 26 (wcs l ++ r).toArray
section
variable {w w' : World} {g k : Nat} {l : List Int}
theorem Wr.lt (h : Wr w g l) : g < w.heap.size := h.elim fun _ h => h.lt
theorem Wr.cell (h : Wr w g l) (hk : k < l.length) : w.cell? ⟨g, k, none⟩ = some (.int .u32 (l.getD k 0)) := by
  obtain ⟨r, h⟩ := h
  rw [h.cell, List.getElem?_toArray, List.getElem?_append_left (by rw [wcs_len]; exact hk), wcs_at hk]
theorem Wr.frozen (h : Wr w g l) (i : Nat) : w.frozen? ⟨g, i, none⟩ = false := h.elim fun _ h => h.frozen i
theorem Wr.below {B : Nat} (h : Wr w g l) (hb : Below B w w') (hg : g < B) : Wr w' g l := h.elim fun r h => ⟨r, h.below hb hg⟩
theorem Wr.belowS (h : Wr w g l) (hb : Below w.heap.size w w') : Wr w' g l := h.elim fun r h => ⟨r, h.belowS hb⟩
theorem Wr.fr {S : Nat → Prop} (h : Wr w g l) (hb : Fr S w w') (hg : ¬ S g) : Wr w' g l := h.elim fun r h => ⟨r, h.fr hb hg⟩
theorem Wr.alloc (h : Wr w g l) (o : Obj) : Wr (w.alloc o) g l := h.elim fun r h => ⟨r, h.alloc o⟩
theorem Wr.far (h : Wr w g l) {p : Addr} (hp : g ≠ p.block) (u : Value) : Wr (w.setCell p u) g l := h.elim fun r h => ⟨r, h.far hp u⟩
theorem Wr.set_ (h : Wr w g l) (hk : k < l.length) (x : Int) : Wr (w.setCell ⟨g, k, none⟩ (.int .u32 x)) g (l.set k x) := by
  obtain ⟨r, h⟩ := h
  refine ⟨r, ?_⟩
  have := h.set_ k (.int .u32 x)
  rw [List.setIfInBounds_toArray, List.set_append_left _ _ (by rw [wcs_len]; exact hk), wcs_set] at this
  exact this
theorem Wr.ne_ {t : TypeId} {cs : Array Value} (h : Wr w g l) (h' : Whole w k t cs) (hne : t ≠ 26) : k ≠ g := h.elim fun r h => h'.ne_ h hne
theorem Wr.ne_row {L : List Pg} (h : Wr w g l) (h' : Row w k L) : k ≠ g := h'.elim fun r h' => h.ne_ h' (by decide)
end
/-! the program's memory -/
abbrev pCs (G : Nat → Int) (t gw m d : Nat) : Array Value := #[.int .u32 (G 0), .int .u32 (G 1), .int .u32 (G 2), .int .u32 (G 3), .int .u32 (G 4), .int .u32 (G 5), .int .u32 (G 6), .int .u32 (G 7), .pointer (some ⟨t, 0, none⟩), .slice (some ⟨gw, 0, none⟩) m d]
/-- a memory at p: its table at t, the pages in g, the words in gw -/
structure Pm (w : World) (p t g gw : Nat) (M : Mm) : Prop where
  ok : MOk M
  tb : Tb w t g M.pg
  wr : Wr w gw M.ws
  top : ∃ d, M.ws.length ≤ d ∧ d ≤ maxLen ∧ Whole w p 80 (pCs M.gt t gw M.ws.length d)
/-- the blocks of a memory that calls may turn -/
abbrev MS (p g gw : Nat) : Nat → Prop := fun i => i = p ∨ i = g ∨ i = gw
section
variable {w w' : World} {p t g gw : Nat} {M : Mm}
theorem Pm.ne (h : Pm w p t g gw M) : p ≠ t ∧ p ≠ g ∧ p ≠ gw ∧ t ≠ g ∧ t ≠ gw ∧ g ≠ gw := by
  obtain ⟨_, h1, h2, d, _, _, h3⟩ := h
  obtain ⟨_, h4, c, _, _, h5⟩ := id h1
  exact ⟨h3.ne_ h5 (by decide), h4.elim fun r h4 => h3.ne_ h4 (by decide), h2.ne_ h3 (by decide), h1.lt.2.2, h2.ne_ h5 (by decide), h2.ne_row h4⟩
theorem Pm.lt (h : Pm w p t g gw M) : p < w.heap.size ∧ t < w.heap.size ∧ g < w.heap.size ∧ gw < w.heap.size := ⟨h.top.elim fun d h => h.2.2.lt, h.tb.lt.2.1, h.tb.lt.1, h.wr.lt⟩
theorem Pm.belowS (h : Pm w p t g gw M) (hb : Below w.heap.size w w') : Pm w' p t g gw M := by
  obtain ⟨h0, h1, h2, d, h4, h5, h3⟩ := h
  exact ⟨h0, h1.belowS hb, h2.belowS hb, d, h4, h5, h3.belowS hb⟩
theorem Pm.fr {S : Nat → Prop} (h : Pm w p t g gw M) (hb : Fr S w w') (hp : ¬ S p) (ht : ¬ S t) (hg : ¬ S g) (hw : ¬ S gw) : Pm w' p t g gw M := by
  obtain ⟨h0, h1, h2, d, h4, h5, h3⟩ := h
  exact ⟨h0, h1.fr hb hg ht, h2.fr hb hw, d, h4, h5, h3.fr hb hp⟩
/-- the pages turned -/
theorem Pm.pages {l : List Pg} (h : Pm w p t g gw M) (hf : Fr (fun i => i = g) w w') (hl : l.length = M.pg.length) (hF : FineL l) (hr : Row w' g l) : Pm w' p t g gw (withP M l) := by
  have hn := h.ne
  obtain ⟨h0, h1, h2, d, h4, h5, h3⟩ := h
  exact ⟨h0.withP hl hF, h1.turn hf hn.2.2.2.1 hl hr, h2.fr hf hn.2.2.2.2.2.symm, d, h4, h5, h3.fr hf hn.2.1⟩
/-- a word turned -/
theorem Pm.word (h : Pm w p t g gw M) {k : Nat} (hk : k < M.ws.length) (x : Int) : Pm (w.setCell ⟨gw, k, none⟩ (.int .u32 x)) p t g gw ⟨M.gt, M.pg, M.ws.set k x⟩ := by
  have hn := h.ne
  obtain ⟨h0, h1, h2, d, h4, h5, h3⟩ := h
  refine ⟨⟨h0.p256, by simpa using h0.w16, h0.fine⟩, ?_, h2.set_ hk x, d, by simpa using h4, h5, ?_⟩
  · obtain ⟨t1, t2, c, t3, t4, t5⟩ := h1
    exact ⟨t1, t2.far hn.2.2.2.2.2 _, c, t3, t4, t5.far hn.2.2.2.2.1 _⟩
  · have := h3.far (p := ⟨gw, k, none⟩) hn.2.2.1 (.int .u32 x)
    simpa using this
theorem setG_cs (G : Nat → Int) (t gw m d k : Nat) (hk : k < 8) (x : Int) : (pCs G t gw m d).setIfInBounds k (.int .u32 x) = pCs (setG G k x) t gw m d := by
  rcases (show k = 0 ∨ k = 1 ∨ k = 2 ∨ k = 3 ∨ k = 4 ∨ k = 5 ∨ k = 6 ∨ k = 7 by omega) with rfl | rfl | rfl | rfl | rfl | rfl | rfl | rfl <;> rfl
/-- a gate turned -/
theorem Pm.gate (h : Pm w p t g gw M) {k : Nat} (hk : k < 8) (x : Int) : Pm (w.setCell ⟨p, k, none⟩ (.int .u32 x)) p t g gw ⟨setG M.gt k x, M.pg, M.ws⟩ := by
  have hn := h.ne
  obtain ⟨h0, h1, h2, d, h4, h5, h3⟩ := h
  refine ⟨⟨h0.p256, h0.w16, h0.fine⟩, ?_, h2.far hn.2.2.1.symm _, d, h4, h5, ?_⟩
  · obtain ⟨t1, t2, c, t3, t4, t5⟩ := h1
    exact ⟨t1, t2.far hn.2.1.symm _, c, t3, t4, t5.far hn.1.symm _⟩
  · rw [← setG_cs _ _ _ _ _ _ hk]
    exact h3.set_ k _
/-- the memory's own cells -/
theorem Pm.cells (h : Pm w p t g gw M) : ∃ d, M.ws.length ≤ 4096 ∧ M.ws.length ≤ d ∧ d ≤ maxLen ∧ w.cell? ⟨p, 8, none⟩ = some (.pointer (some ⟨t, 0, none⟩)) ∧ w.cell? ⟨p, 9, none⟩ = some (.slice (some ⟨gw, 0, none⟩) M.ws.length d) ∧
    (∀ k, k < 8 → w.cell? ⟨p, k, none⟩ = some (.int .u32 (M.gt k))) ∧ ∀ k, w.frozen? ⟨p, k, none⟩ = false := by
  obtain ⟨h0, h1, h2, d, h4, h5, h3⟩ := h
  have := h0.w16
  have := h0.p256
  refine ⟨d, by omega, h4, h5, h3.cell 8, h3.cell 9, fun k hk => ?_, fun k => h3.frozen k⟩
  rw [h3.cell]
  rcases (show k = 0 ∨ k = 1 ∨ k = 2 ∨ k = 3 ∨ k = 4 ∨ k = 5 ∨ k = 6 ∨ k = 7 by omega) with rfl | rfl | rfl | rfl | rfl | rfl | rfl | rfl <;> rfl
end
/-! the reference's memory: a value -/
abbrev rCs (G : Nat → Int) (gr n c gw m d : Nat) : Array Value := #[.int .u32 (G 0), .int .u32 (G 1), .int .u32 (G 2), .int .u32 (G 3), .int .u32 (G 4), .int .u32 (G 5), .int .u32 (G 6), .int .u32 (G 7), .slice (some ⟨gr, 0, none⟩) n c, .slice (some ⟨gw, 0, none⟩) m d]
abbrev rV (G : Nat → Int) (gr n c gw m d : Nat) : Value := .agg (rCs G gr n c gw m d)
/-- the reference's pages lie in gr, its words in gw; the rooms c and d -/
structure Rm (w : World) (gr c gw d : Nat) (M : Mm) : Prop where
  row : Row w gr M.pg
  wr : Wr w gw M.ws
  c1 : M.pg.length ≤ c
  c2 : c ≤ maxLen
  d1 : M.ws.length ≤ d
  d2 : d ≤ maxLen
section
variable {w w' : World} {gr c gw d : Nat} {M : Mm}
theorem Rm.belowS (h : Rm w gr c gw d M) (hb : Below w.heap.size w w') : Rm w' gr c gw d M := ⟨h.row.belowS hb, h.wr.belowS hb, h.c1, h.c2, h.d1, h.d2⟩
theorem Rm.fr {S : Nat → Prop} (h : Rm w gr c gw d M) (hb : Fr S w w') (h1 : ¬ S gr) (h2 : ¬ S gw) : Rm w' gr c gw d M := ⟨h.row.fr hb h1, h.wr.fr hb h2, h.c1, h.c2, h.d1, h.d2⟩
theorem Rm.lt (h : Rm w gr c gw d M) : gr < w.heap.size ∧ gw < w.heap.size := ⟨h.row.lt, h.wr.lt⟩
theorem Rm.far (h : Rm w gr c gw d M) {p : Addr} (h1 : gr ≠ p.block) (h2 : gw ≠ p.block) (u : Value) : Rm (w.setCell p u) gr c gw d M := ⟨h.row.far h1 u, h.wr.far h2 u, h.c1, h.c2, h.d1, h.d2⟩
end
theorem setG_rcs (G : Nat → Int) (gr n c gw m d k : Nat) (hk : k < 8) (x : Int) : (rCs G gr n c gw m d).setIfInBounds k (.int .u32 x) = rCs (setG G k x) gr n c gw m d := by
  rcases (show k = 0 ∨ k = 1 ∨ k = 2 ∨ k = 3 ∨ k = 4 ∨ k = 5 ∨ k = 6 ∨ k = 7 by omega) with rfl | rfl | rfl | rfl | rfl | rfl | rfl | rfl <;> rfl
/-- a box with the reference's memory: its cells -/
theorem box_cells {w : World} {b : Nat} {G : Nat → Int} {gr n c gw m d : Nat} (h : Whole w b 33 (rCs G gr n c gw m d)) :
    w.cell? ⟨b, 0, none⟩ = some (.int .u32 (G 0)) ∧ w.cell? ⟨b, 1, none⟩ = some (.int .u32 (G 1)) ∧ w.cell? ⟨b, 2, none⟩ = some (.int .u32 (G 2)) ∧ w.cell? ⟨b, 3, none⟩ = some (.int .u32 (G 3)) ∧ w.cell? ⟨b, 4, none⟩ = some (.int .u32 (G 4)) ∧ w.cell? ⟨b, 5, none⟩ = some (.int .u32 (G 5)) ∧
    w.cell? ⟨b, 6, none⟩ = some (.int .u32 (G 6)) ∧ w.cell? ⟨b, 7, none⟩ = some (.int .u32 (G 7)) ∧ w.cell? ⟨b, 8, none⟩ = some (.slice (some ⟨gr, 0, none⟩) n c) ∧ w.cell? ⟨b, 9, none⟩ = some (.slice (some ⟨gw, 0, none⟩) m d) :=
  ⟨h.cell 0, h.cell 1, h.cell 2, h.cell 3, h.cell 4, h.cell 5, h.cell 6, h.cell 7, h.cell 8, h.cell 9⟩
end Go.Proofs.Ytkmjacpcpchjoaa.MR
