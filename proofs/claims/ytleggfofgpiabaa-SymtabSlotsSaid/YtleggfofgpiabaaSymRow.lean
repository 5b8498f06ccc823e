/-
  A table of layer 13 in memory: texts, entries of five cells. Nothing here is a statement of the seed.
-/
import Derived.Test.YtleggfofgpiabaaObjRow
import Derived.Test.YtleggfofgpiabaaSymMath2
set_option linter.unusedSimpArgs false
set_option linter.unusedVariables false
namespace Go.Proofs.Ytleggfofgpiabaa.SR
open Go.RowKit WM NR OM OR SM
set_option maxRecDepth 10000
/-- an entry's cells -/
abbrev enC (e : En) : List Value := [.string (bs e.nm), .string (bs e.md), .int .i64 e.gate, .int .i64 e.idx, .int .i64 e.refs]
abbrev enV (e : En) : Value := .agg #[.string (bs e.nm), .string (bs e.md), .int .i64 e.gate, .int .i64 e.idx, .int .i64 e.refs]
def eC : List En → List Value
  | [] => []
  | e :: l => .string (bs e.nm) :: .string (bs e.md) :: .int .i64 e.gate :: .int .i64 e.idx :: .int .i64 e.refs :: eC l
theorem eC_len : ∀ l : List En, (eC l).length = l.length * 5
  | [] => rfl
  | e :: l => by simp only [eC, List.length_cons, eC_len l]; omega
theorem eC_append : ∀ a b : List En, eC (a ++ b) = eC a ++ eC b
  | [], b => rfl
  | e :: a, b => by simp only [List.cons_append, eC, eC_append a b]
theorem eC_one (l : List En) : ∀ u ∈ eC l, u.oneCell' = true := by
  induction l with
  | nil => intro u hu; cases hu
  | cons e l ih =>
    intro u hu
    simp only [eC, List.mem_cons] at hu
    rcases hu with rfl | rfl | rfl | rfl | rfl | hu
    · rfl
    · rfl
    · rfl
    · rfl
    · rfl
    · exact ih u hu
theorem eC_at : ∀ (l : List En) (j : Nat), j < l.length → (eC l)[j * 5]? = some (.string (bs (l.getD j e0).nm)) ∧ (eC l)[j * 5 + 1]? = some (.string (bs (l.getD j e0).md)) ∧ (eC l)[j * 5 + 2]? = some (.int .i64 (l.getD j e0).gate) ∧ (eC l)[j * 5 + 3]? = some (.int .i64 (l.getD j e0).idx) ∧ (eC l)[j * 5 + 4]? = some (.int .i64 (l.getD j e0).refs)
  | [], j, h => by simp at h
  | e :: l, 0, h => ⟨rfl, rfl, rfl, rfl, rfl⟩
  | e :: l, j + 1, h => by
    have ih := eC_at l j (by simpa using h)
    have e : (j + 1) * 5 = j * 5 + 5 := by omega
    rw [e]
    simp only [eC, List.getD_cons_succ]
    exact ih
theorem eC_drop : ∀ (l : List En) (k : Nat), eC (l.drop k) = (eC l).drop (k * 5)
  | l, 0 => by simp
  | [], k + 1 => by simp [eC]
  | e :: l, k + 1 => by
    have h : (k + 1) * 5 = k * 5 + 1 + 1 + 1 + 1 + 1 := by omega
    rw [h]
    simp only [List.drop_succ_cons, eC]
    exact eC_drop l k
theorem eC_take : ∀ (l : List En) (k : Nat), eC (l.take k) = (eC l).take (k * 5)
  | l, 0 => by simp [eC]
  | [], k + 1 => by simp [eC]
  | e :: l, k + 1 => by
    have h : (k + 1) * 5 = k * 5 + 1 + 1 + 1 + 1 + 1 := by omega
    rw [h]
    simp only [List.take_succ_cons, eC]
    rw [eC_take l k]
/-- a slice of entries, five cells each -/
def ReadsE (G : Nat → Prop) (w : World) (v : Value) (l : List En) : Prop :=
  ∃ a cap, v = .slice a l.length cap ∧ l.length ≤ cap ∧ cap ≤ maxLen ∧ (a = none → cap = 0) ∧
    (l = [] ∨ ∃ g off, a = some ⟨g, off, none⟩ ∧ G g ∧ ∀ i, i < l.length * 5 → w.cell? ⟨g, off + i, none⟩ = (eC l)[i]?)
theorem ReadsE.nil (G : Nat → Prop) (w : World) : ReadsE G w (.slice none 0 0) [] := ⟨none, 0, rfl, Nat.le_refl _, by simp [maxLen], fun _ => rfl, Or.inl rfl⟩
theorem ReadsE.len {G : Nat → Prop} {w : World} {a : Option Addr} {n c : Nat} {l : List En} (h : ReadsE G w (.slice a n c) l) : l.length = n ∧ n ≤ c ∧ c ≤ maxLen := by
  obtain ⟨a', cap, e, h1, h2, _⟩ := h
  simp only [Value.slice.injEq] at e
  obtain ⟨_, rfl, rfl⟩ := e
  exact ⟨rfl, h1, h2⟩
theorem ReadsE.form {G : Nat → Prop} {w : World} {v : Value} {l : List En} (h : ReadsE G w v l) : ∃ a n c, v = .slice a n c := by
  obtain ⟨a, cap, e, _⟩ := h
  exact ⟨a, _, cap, e⟩
/-- an entry's cells at a place -/
abbrev EnAt (u : World) (g o : Nat) (e : En) : Prop := u.cell? ⟨g, o, none⟩ = some (.string (bs e.nm)) ∧ u.cell? ⟨g, o + 1, none⟩ = some (.string (bs e.md)) ∧ u.cell? ⟨g, o + 2, none⟩ = some (.int .i64 e.gate) ∧ u.cell? ⟨g, o + 3, none⟩ = some (.int .i64 e.idx) ∧ u.cell? ⟨g, o + 4, none⟩ = some (.int .i64 e.refs)
theorem ReadsE.atG {G : Nat → Prop} {w u : World} {a : Option Addr} {n c : Nat} {l : List En} (h : ReadsE G w (.slice a n c) l) (hu : ∀ g, G g → g < w.heap.size → u.heap[g]? = w.heap[g]?) {k : Nat} (hk : k < n) : ∃ g off, a = some ⟨g, off, none⟩ ∧ G g ∧ n ≤ c ∧ EnAt u g (off + k * 5) (l.getD k e0) := by
  obtain ⟨a', cap, e, h1, h2, h3, h4⟩ := h
  simp only [Value.slice.injEq] at e
  obtain ⟨rfl, rfl, rfl⟩ := e
  rcases h4 with h4 | ⟨g, off, rfl, hg, hc⟩
  · rw [h4] at hk; simp at hk
  · obtain ⟨x0, x1, x2, x3, x4⟩ := eC_at l k hk
    have c0 := hc (k * 5) (by omega)
    have hlt : g < w.heap.size := World.block_lt_of_cell? w _ (c0.trans x0)
    have e := fun o => World.cell?_of_block (w := w) (w' := u) (a := ⟨g, o, none⟩) (hu g hg hlt)
    refine ⟨g, off, rfl, hg, h1, ?_, ?_, ?_, ?_, ?_⟩
    · rw [e]; exact c0.trans x0
    · rw [e, Nat.add_assoc]; exact (hc (k * 5 + 1) (by omega)).trans x1
    · rw [e, Nat.add_assoc]; exact (hc (k * 5 + 2) (by omega)).trans x2
    · rw [e, Nat.add_assoc]; exact (hc (k * 5 + 3) (by omega)).trans x3
    · rw [e, Nat.add_assoc]; exact (hc (k * 5 + 4) (by omega)).trans x4
theorem ReadsE.at {B : Nat} {w u : World} {a : Option Addr} {n c : Nat} {l : List En} (h : ReadsE (· < B) w (.slice a n c) l) (hb : Below B w u) {k : Nat} (hk : k < n) : ∃ g off, a = some ⟨g, off, none⟩ ∧ n ≤ c ∧ EnAt u g (off + k * 5) (l.getD k e0) := by
  obtain ⟨g, off, h1, _, h2, h3⟩ := h.atG (fun g hg _ => hb.block g hg) hk
  exact ⟨g, off, h1, h2, h3⟩
theorem ReadsE.keep {G : Nat → Prop} {w w' : World} {v : Value} {l : List En} (h : ReadsE G w v l) (hk : ∀ g, G g → g < w.heap.size → w'.heap[g]? = w.heap[g]?) : ReadsE G w' v l := by
  obtain ⟨a, cap, e, h1, h2, h3, h4⟩ := h
  refine ⟨a, cap, e, h1, h2, h3, ?_⟩
  rcases h4 with h4 | ⟨g, off, ea, hg, hc⟩
  · exact Or.inl h4
  · by_cases h0 : l = []
    · exact Or.inl h0
    · refine Or.inr ⟨g, off, ea, hg, fun i hi => ?_⟩
      have hl := eC_len l
      have x : (eC l)[i]? = some ((eC l)[i]'(by omega)) := List.getElem?_eq_getElem (by omega)
      have hlt := World.block_lt_of_cell? w _ ((hc i hi).trans x)
      rw [World.cell?_of_block (w := w) (w' := w') (a := ⟨g, off + i, none⟩) (hk g hg hlt)]
      exact hc i hi
theorem ReadsE.below {B : Nat} {w w' : World} {v : Value} {l : List En} (h : ReadsE (· < B) w v l) (hb : Below B w w') : ReadsE (· < B) w' v l := h.keep fun g hg _ => hb.block g hg
theorem ReadsE.mono {G G' : Nat → Prop} {w : World} {v : Value} {l : List En} (h : ReadsE G w v l) (hG : ∀ g, G g → G' g) : ReadsE G' w v l := by
  obtain ⟨a, cap, e, h1, h2, h3, h4⟩ := h
  refine ⟨a, cap, e, h1, h2, h3, ?_⟩
  rcases h4 with h4 | ⟨g, off, ea, hg, hc⟩
  · exact Or.inl h4
  · exact Or.inr ⟨g, off, ea, hG g hg, hc⟩
/-- a row of a call's own, told -/
theorem ReadsE.of_owns {B : Nat} {w : World} {v : Value} {l : List En} {t : TypeId} (h : w.ownsRow B t 5 v l.length (eC l)) : ReadsE (fun g => B ≤ g ∧ v.ownBlock = some g) w v l := by
  rcases h.2 with ⟨rfl, h0⟩ | ⟨g, cap, cur, rfl, hg, hcell, hcap, hcm, hsz, hcur⟩
  · have hx : l = [] := List.length_eq_zero_iff.1 h0
    subst hx
    exact ReadsE.nil _ _
  · refine ⟨_, cap, rfl, hcap, hcm, (fun h => by cases h), Or.inr ⟨g, 0, rfl, ⟨hg, rfl⟩, fun i hi => ?_⟩⟩
    rw [Nat.zero_add]
    exact h.cellAt i (by omega)
/-- a table's value, and what it reads as -/
abbrev tbV (ma : Option Addr) (mn mc : Nat) (la : Option Addr) (ln lc : Nat) : Value := .agg #[.slice ma mn mc, .slice la ln lc]
abbrev tbC (ma : Option Addr) (mn mc : Nat) (la : Option Addr) (ln lc : Nat) : Array Value := #[.slice ma mn mc, .slice la ln lc]
structure RdT (G : Nat → Prop) (w : World) (ma : Option Addr) (mn mc : Nat) (la : Option Addr) (ln lc : Nat) (t : Tb) : Prop where
  md : Reads G w (.slice ma mn mc) (strs t.mods)
  en : ReadsE G w (.slice la ln lc) t.L
section
variable {B : Nat} {w w' : World} {ma : Option Addr} {mn mc : Nat} {la : Option Addr} {ln lc : Nat} {t : Tb}
theorem RdT.below (h : RdT (· < B) w ma mn mc la ln lc t) (hb : Below B w w') : RdT (· < B) w' ma mn mc la ln lc t := ⟨h.md.below hb, h.en.below hb⟩
theorem RdT.go (h : RdT (· < B) w ma mn mc la ln lc t) (hb : Below B w w') (hB : B ≤ w'.heap.size) : RdT (· < w'.heap.size) w' ma mn mc la ln lc t :=
  have k : ∀ g, g < B → g < w'.heap.size := fun g hg => Nat.lt_of_lt_of_le hg hB
  ⟨(h.md.below hb).mono k, (h.en.below hb).mono k⟩
theorem RdT.keep {G : Nat → Prop} (h : RdT G w ma mn mc la ln lc t) (hk : ∀ g, G g → g < w.heap.size → w'.heap[g]? = w.heap[g]?) : RdT G w' ma mn mc la ln lc t := ⟨h.md.keep hk, h.en.keep hk⟩
theorem RdT.mono {G G' : Nat → Prop} (h : RdT G w ma mn mc la ln lc t) (hG : ∀ g, G g → G' g) : RdT G' w ma mn mc la ln lc t := ⟨h.md.mono hG, h.en.mono hG⟩
theorem RdT.lens {G : Nat → Prop} (h : RdT G w ma mn mc la ln lc t) : t.mods.length = mn ∧ t.L.length = ln ∧ mn ≤ maxLen ∧ ln ≤ maxLen := by
  have a := reads_len h.md
  rw [strs_len] at a
  have b := h.en.len
  exact ⟨a.1, b.1, by omega, by omega⟩
theorem RdT.zero (G : Nat → Prop) (w : World) : RdT G w none 0 0 none 0 0 ⟨[], []⟩ := ⟨Reads.nil _ _, ReadsE.nil _ _⟩
end
end Go.Proofs.Ytleggfofgpiabaa.SR
