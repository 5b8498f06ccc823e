/-
  A graph of layer 14 in memory: nodes of two cells, each with a slice of texts. Nothing here is a statement of the seed.
-/
import Derived.Test.YtijcojidfallkaaObjA
import Derived.Test.YtijcojidfallkaaGraphMathA
set_option linter.unusedSimpArgs false
set_option linter.unusedVariables false
namespace Go.Proofs.Ytijcojidfallkaa.GR
open Go.RowKit WM NR OM OR GM
set_option maxRecDepth 10000
/-- a node as it lies: its name, where its deps lie, what they are -/
structure Nr where
  nm : List UInt8
  da : Option Addr
  dn : Nat
  dc : Nat
  ds : List (List UInt8)
def r0 : Nr := ⟨[], none, 0, 0, []⟩
abbrev Nr.nd (x : Nr) : Nd := ⟨x.nm, x.ds⟩
abbrev ndL (l : List Nr) : List Nd := l.map Nr.nd
abbrev nV (x : Nr) : Value := .agg #[.string (bs x.nm), .slice x.da x.dn x.dc]
abbrev nE (x : Nr) : List Value := [.string (bs x.nm), .slice x.da x.dn x.dc]
def nC : List Nr → List Value
  | [] => []
  | x :: l => .string (bs x.nm) :: .slice x.da x.dn x.dc :: nC l
theorem nC_len : ∀ l : List Nr, (nC l).length = l.length * 2
  | [] => rfl
  | x :: l => by simp only [nC, List.length_cons, nC_len l]; omega
theorem nC_append : ∀ a b : List Nr, nC (a ++ b) = nC a ++ nC b
  | [], b => rfl
  | x :: a, b => by simp only [List.cons_append, nC, nC_append a b]
theorem nC_one (l : List Nr) : ∀ u ∈ nC l, u.oneCell' = true := by
  induction l with
  | nil => intro u hu; cases hu
  | cons x l ih =>
    intro u hu
    simp only [nC, List.mem_cons] at hu
    rcases hu with rfl | rfl | hu
    · rfl
    · rfl
    · exact ih u hu
theorem nC_at : ∀ (l : List Nr) (j : Nat), j < l.length → (nC l)[j * 2]? = some (.string (bs (l.getD j r0).nm)) ∧ (nC l)[j * 2 + 1]? = some (.slice (l.getD j r0).da (l.getD j r0).dn (l.getD j r0).dc)
  | [], j, h => by simp at h
  | x :: l, 0, h => ⟨rfl, rfl⟩
  | x :: l, j + 1, h => by
    have ih := nC_at l j (by simpa using h)
    have e : (j + 1) * 2 = j * 2 + 2 := by omega
    rw [e]
    simp only [nC, List.getD_cons_succ]
    exact ih
theorem nC_drop : ∀ (l : List Nr) (k : Nat), nC (l.drop k) = (nC l).drop (k * 2)
  | l, 0 => by simp
  | [], k + 1 => by simp [nC]
  | x :: l, k + 1 => by
    have h : (k + 1) * 2 = k * 2 + 1 + 1 := by omega
    rw [h]
    simp only [List.drop_succ_cons, nC]
    exact nC_drop l k
theorem nC_take : ∀ (l : List Nr) (k : Nat), nC (l.take k) = (nC l).take (k * 2)
  | l, 0 => by simp [nC]
  | [], k + 1 => by simp [nC]
  | x :: l, k + 1 => by
    have h : (k + 1) * 2 = k * 2 + 1 + 1 := by omega
    rw [h]
    simp only [List.take_succ_cons, nC]
    rw [nC_take l k]
/-- a slice of nodes, two cells each -/
def ReadsN (G : Nat → Prop) (w : World) (v : Value) (l : List Nr) : Prop :=
  ∃ a cap, v = .slice a l.length cap ∧ l.length ≤ cap ∧ cap ≤ maxLen ∧ (a = none → cap = 0) ∧
    (l = [] ∨ ∃ g off, a = some ⟨g, off, none⟩ ∧ G g ∧ ∀ i, i < l.length * 2 → w.cell? ⟨g, off + i, none⟩ = (nC l)[i]?)
theorem ReadsN.nil (G : Nat → Prop) (w : World) : ReadsN G w (.slice none 0 0) [] := ⟨none, 0, rfl, Nat.le_refl _, by simp [maxLen], fun _ => rfl, Or.inl rfl⟩
theorem ReadsN.len {G : Nat → Prop} {w : World} {a : Option Addr} {n c : Nat} {l : List Nr} (h : ReadsN G w (.slice a n c) l) : l.length = n ∧ n ≤ c ∧ c ≤ maxLen := by
  obtain ⟨a', cap, e, h1, h2, _⟩ := h
  simp only [Value.slice.injEq] at e
  obtain ⟨_, rfl, rfl⟩ := e
  exact ⟨rfl, h1, h2⟩
theorem ReadsN.form {G : Nat → Prop} {w : World} {v : Value} {l : List Nr} (h : ReadsN G w v l) : ∃ a n c, v = .slice a n c := by
  obtain ⟨a, cap, e, _⟩ := h
  exact ⟨a, _, cap, e⟩
theorem ReadsN.atG {G : Nat → Prop} {w u : World} {a : Option Addr} {n c : Nat} {l : List Nr} (h : ReadsN G w (.slice a n c) l) (hu : ∀ g, G g → g < w.heap.size → u.heap[g]? = w.heap[g]?) {k : Nat} (hk : k < n) :
    ∃ g off, a = some ⟨g, off, none⟩ ∧ G g ∧ n ≤ c ∧ u.cell? ⟨g, off + k * 2, none⟩ = some (.string (bs (l.getD k r0).nm)) ∧ u.cell? ⟨g, off + k * 2 + 1, none⟩ = some (.slice (l.getD k r0).da (l.getD k r0).dn (l.getD k r0).dc) := by
  obtain ⟨a', cap, e, h1, h2, h3, h4⟩ := h
  simp only [Value.slice.injEq] at e
  obtain ⟨rfl, rfl, rfl⟩ := e
  rcases h4 with h4 | ⟨g, off, rfl, hg, hc⟩
  · rw [h4] at hk; simp at hk
  · obtain ⟨x0, x1⟩ := nC_at l k hk
    have c0 := hc (k * 2) (by omega)
    have hlt : g < w.heap.size := World.block_lt_of_cell? w _ (c0.trans x0)
    have e := fun o => World.cell?_of_block (w := w) (w' := u) (a := ⟨g, o, none⟩) (hu g hg hlt)
    refine ⟨g, off, rfl, hg, h1, ?_, ?_⟩
    · rw [e]; exact c0.trans x0
    · rw [e, Nat.add_assoc]; exact (hc (k * 2 + 1) (by omega)).trans x1
theorem ReadsN.keep {G : Nat → Prop} {w w' : World} {v : Value} {l : List Nr} (h : ReadsN G w v l) (hk : ∀ g, G g → g < w.heap.size → w'.heap[g]? = w.heap[g]?) : ReadsN G w' v l := by
  obtain ⟨a, cap, e, h1, h2, h3, h4⟩ := h
  refine ⟨a, cap, e, h1, h2, h3, ?_⟩
  rcases h4 with h4 | ⟨g, off, ea, hg, hc⟩
  · exact Or.inl h4
  · by_cases h0 : l = []
    · exact Or.inl h0
    · refine Or.inr ⟨g, off, ea, hg, fun i hi => ?_⟩
      have hl := nC_len l
      have x : (nC l)[i]? = some ((nC l)[i]'(by omega)) := List.getElem?_eq_getElem (by omega)
      have hlt := World.block_lt_of_cell? w _ ((hc i hi).trans x)
      rw [World.cell?_of_block (w := w) (w' := w') (a := ⟨g, off + i, none⟩) (hk g hg hlt)]
      exact hc i hi
theorem ReadsN.mono {G G' : Nat → Prop} {w : World} {v : Value} {l : List Nr} (h : ReadsN G w v l) (hG : ∀ g, G g → G' g) : ReadsN G' w v l := by
  obtain ⟨a, cap, e, h1, h2, h3, h4⟩ := h
  refine ⟨a, cap, e, h1, h2, h3, ?_⟩
  rcases h4 with h4 | ⟨g, off, ea, hg, hc⟩
  · exact Or.inl h4
  · exact Or.inr ⟨g, off, ea, hG g hg, hc⟩
/-- a row of a call's own, told -/
theorem ReadsN.of_owns {B : Nat} {w : World} {v : Value} {l : List Nr} {t : TypeId} (h : w.ownsRow B t 2 v l.length (nC l)) : ReadsN (fun g => B ≤ g ∧ v.ownBlock = some g) w v l := by
  rcases h.2 with ⟨rfl, h0⟩ | ⟨g, cap, cur, rfl, hg, hcell, hcap, hcm, hsz, hcur⟩
  · have hx : l = [] := List.length_eq_zero_iff.1 h0
    subst hx
    exact ReadsN.nil _ _
  · refine ⟨_, cap, rfl, hcap, hcm, (fun h => by cases h), Or.inr ⟨g, 0, rfl, ⟨hg, rfl⟩, fun i hi => ?_⟩⟩
    rw [Nat.zero_add]
    exact h.cellAt i (by omega)
theorem ReadsN.there {G : Nat → Prop} {w : World} {v : Value} {l : List Nr} (h : ReadsN G w v l) : ReadsN (fun g => G g ∧ g < w.heap.size) w v l := by
  obtain ⟨a, cap, e, h1, h2, h3, h4⟩ := h
  refine ⟨a, cap, e, h1, h2, h3, ?_⟩
  rcases h4 with h4 | ⟨g, off, ea, hg, hc⟩
  · exact Or.inl h4
  · by_cases h0 : l = []
    · exact Or.inl h0
    · have hl : 0 < l.length := List.length_pos_iff.2 h0
      have hn := nC_len l
      have x : (nC l)[0]? = some ((nC l)[0]'(by omega)) := List.getElem?_eq_getElem (by omega)
      exact Or.inr ⟨g, off, ea, ⟨hg, World.block_lt_of_cell? w _ ((hc 0 (by omega)).trans x)⟩, hc⟩
theorem ReadsN.cells {G : Nat → Prop} {w : World} {p : Addr} {n c : Nat} {l : List Nr} (h : ReadsN G w (.slice (some p) n c) l) : ∀ j u, (nC l)[j]? = some u → w.cell? (p.add j) = some u := by
  obtain ⟨a, cap, e, h1, h2, h3, h4⟩ := h
  simp only [Value.slice.injEq] at e
  obtain ⟨rfl, rfl, rfl⟩ := e
  intro i u hi
  have hlt := (List.getElem?_eq_some_iff.1 hi).1
  rw [nC_len] at hlt
  rcases h4 with h4 | ⟨g, off, ea, hg, hc⟩
  · subst h4; simp at hlt
  · obtain rfl := Option.some.inj ea
    rw [Addr.add_lit, hc i hlt, hi]
abbrev gV (la : Option Addr) (ln lc : Nat) : Value := .agg #[.slice la ln lc]
abbrev gC (la : Option Addr) (ln lc : Nat) : Array Value := #[.slice la ln lc]
/-- a graph of the reference -/
structure RdG (G : Nat → Prop) (w : World) (la : Option Addr) (ln lc : Nat) (l : List Nr) : Prop where
  en : ReadsN G w (.slice la ln lc) l
  ok : ∀ x ∈ l, Reads G w (.slice x.da x.dn x.dc) (strs x.ds)
section
variable {B : Nat} {w w' : World} {la : Option Addr} {ln lc : Nat} {l : List Nr}
theorem RdG.keep {G : Nat → Prop} (h : RdG G w la ln lc l) (hk : ∀ g, G g → g < w.heap.size → w'.heap[g]? = w.heap[g]?) : RdG G w' la ln lc l := ⟨h.en.keep hk, fun x hx => (h.ok x hx).keep hk⟩
theorem RdG.mono {G G' : Nat → Prop} (h : RdG G w la ln lc l) (hG : ∀ g, G g → G' g) : RdG G' w la ln lc l := ⟨h.en.mono hG, fun x hx => (h.ok x hx).mono hG⟩
theorem RdG.below (h : RdG (· < B) w la ln lc l) (hb : Below B w w') : RdG (· < B) w' la ln lc l := h.keep fun g hg _ => hb.block g hg
theorem RdG.go (h : RdG (· < B) w la ln lc l) (hb : Below B w w') (hB : B ≤ w'.heap.size) : RdG (· < w'.heap.size) w' la ln lc l := (h.below hb).mono fun g hg => Nat.lt_of_lt_of_le hg hB
theorem RdG.len {G : Nat → Prop} (h : RdG G w la ln lc l) : l.length = ln ∧ ln ≤ lc ∧ ln ≤ maxLen := by
  obtain ⟨a, b, c⟩ := h.en.len
  exact ⟨a, b, by omega⟩
theorem RdG.zero (G : Nat → Prop) (w : World) : RdG G w none 0 0 [] := ⟨ReadsN.nil _ _, fun x hx => (by cases hx)⟩
theorem RdG.at (h : RdG (· < B) w la ln lc l) (hb : Below B w w') {k : Nat} (hk : k < ln) :
    ∃ g off, la = some ⟨g, off, none⟩ ∧ ln ≤ lc ∧ w'.cell? ⟨g, off + k * 2, none⟩ = some (.string (bs (l.getD k r0).nm)) ∧ w'.cell? ⟨g, off + k * 2 + 1, none⟩ = some (.slice (l.getD k r0).da (l.getD k r0).dn (l.getD k r0).dc) := by
  obtain ⟨g, off, h1, _, h2, h3⟩ := h.en.atG (u := w') (fun g hg _ => hb.block g hg) hk
  exact ⟨g, off, h1, h2, h3⟩
end
theorem getD_nd (l : List Nr) (k : Nat) : (ndL l).getD k n0 = (l.getD k r0).nd := by
  rw [List.getD_eq_getElem?_getD, List.getD_eq_getElem?_getD, List.getElem?_map]
  cases l[k]? <;> rfl
theorem getD_mem_nr {l : List Nr} {k : Nat} (h : k < l.length) : l.getD k r0 ∈ l := by
  rw [List.getD_eq_getElem?_getD, List.getElem?_eq_getElem h]
  exact List.getElem_mem h
end Go.Proofs.Ytijcojidfallkaa.GR
