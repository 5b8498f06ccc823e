/-
  Rows that a loop writes, and what stays. Nothing here is a statement of the seed.
-/
import Derived.Test.YtdlinlkdielmkaaObjWPuts
set_option linter.unusedSimpArgs false
set_option linter.unusedVariables false
namespace Go.Proofs.Ytdlinlkdielmkaa.OR
open Go.RowKit WM NR OM
/-- a row of its own whose cells are good -/
def RowK (e : TypeId) (size c : Nat) (a : Option Addr) (n cap : Nat) (good : List Value → Prop) (u : World) : Prop := ∃ ys, good ys ∧ u.ownsRow c e size (.slice a n cap) n ys
section
variable {e : TypeId} {size c : Nat} {a : Option Addr} {n cap : Nat} {good : List Value → Prop} {u : World}
theorem RowK.at_ (h : RowK e size c a n cap good u) {j : Nat} (hj : j < n * size) : ∃ g ys, a = some ⟨g, 0, none⟩ ∧ n ≤ cap ∧ good ys ∧ ys.length = n * size ∧ u.cell? ⟨g, j, none⟩ = ys[j]? ∧ u.frozen? ⟨g, j, none⟩ = false ∧ c ≤ g ∧ (∃ cur, Whole u g e cur) ∧ (∀ y, good (ys.set j y) → RowK e size c a n cap good (u.setCell ⟨g, j, none⟩ y)) := by
  obtain ⟨ys, hy, ho⟩ := h
  have hl := ho.1
  rcases ho.2 with ⟨hv, h0⟩ | ⟨g, cap', cur, hv, hb, hg, hc, _⟩
  · subst h0
    omega
  · simp only [Value.slice.injEq, true_and] at hv
    obtain ⟨rfl, rfl⟩ := hv
    exact ⟨g, ys, rfl, hc, hy, hl, ho.cellAt j hj, ho.frozenAt j, hb, ⟨cur, hg⟩, fun y hgood => ⟨_, hgood, (ho.stored j y).1⟩⟩
theorem RowK.off (h : RowK e size c a n cap good u) {u' : World} {g : Nat} {e' : TypeId} {cur : Array Value} (hg : Whole u g e' cur) (hne : e ≠ e') (hk : u.grownBy u' (some g)) : RowK e size c a n cap good u' := by
  obtain ⟨ys, hy, ho⟩ := h
  refine ⟨ys, hy, ho.kept hk ?_⟩
  rcases ho.2 with ⟨hv, h0⟩ | ⟨g', cap', cur', hv, hb, hg', _⟩
  · left
    simp only [Value.slice.injEq] at hv
    obtain ⟨rfl, _⟩ := hv
    rfl
  · right
    rw [hv]
    intro hh
    have e1 : g' = g := by simpa [Value.ownBlock] using hh
    exact Whole.ne_ (w := u) hg' hg hne e1
theorem RowK.belowS (h : RowK e size c a n cap good u) {u' : World} (hb : Below u.heap.size u u') : RowK e size c a n cap good u' := by
  obtain ⟨ys, hy, ho⟩ := h
  exact ⟨ys, hy, owns_below ho hb⟩
/-- cells of 32 bits -/
def gd32 (ys : List Value) : Prop := ∀ (j : Nat) (y : Value), ys[j]? = some y → ∃ x : Int, y = .int .u32 x
theorem gd32_u32s (l : List Nat) : gd32 (u32s l) := by
  intro j y h
  unfold u32s at h
  rw [List.getElem?_map] at h
  cases hh : l[j]? with
  | none => rw [hh] at h; simp at h
  | some z =>
    rw [hh] at h
    simp only [Option.map_some, Option.some.injEq] at h
    exact ⟨_, h.symm⟩
theorem gd32_set {ys : List Value} (h : gd32 ys) (j : Nat) (x : Int) : gd32 (ys.set j (.int .u32 x)) := by
  intro i y hy
  rw [List.getElem?_set] at hy
  split at hy
  · split at hy
    · simp only [Option.some.injEq] at hy
      exact ⟨x, hy.symm⟩
    · simp at hy
  · exact h i y hy
/-- cells of relocations: the second of three -/
def gdR (n : Nat) (ys : List Value) : Prop := ∀ j, j < n → ∃ x : Int, ys[j * 3 + 1]? = some (.int .u16 x)
theorem gdR_relC (l : List Rl) : gdR l.length (relC l) := fun j hj => ⟨_, (relC_at l j hj).2.1⟩
theorem gdR_set {n : Nat} {ys : List Value} (h : gdR n ys) (k : Nat) (x : Int) : gdR n (ys.set (k * 3 + 1) (.int .u16 x)) := by
  intro j hj
  obtain ⟨z, hz⟩ := h j hj
  by_cases e : j = k
  · subst e
    exact ⟨x, by rw [List.getElem?_set_self (by have := List.getElem?_eq_some_iff.1 hz; exact this.1)]⟩
  · exact ⟨z, by rw [List.getElem?_set_ne (by omega)]; exact hz⟩
end
/-- a world behind another, with a module's box of its own -/
structure LJ (W : World) (b : Nat) (cs : Array Value) (u : World) : Prop where
  B : Below W.heap.size W u
  X : Whole u b 26 cs
theorem LJ.belowS {W u u' : World} {b : Nat} {cs : Array Value} (h : LJ W b cs u) (hb : Below u.heap.size u u') : LJ W b cs u' := ⟨h.B.trans (hb.mono h.B.size), h.X.belowS hb⟩
theorem LJ.grow {W u u' : World} {b g : Nat} {cs : Array Value} (h : LJ W b cs u) {e : TypeId} {cur : Array Value} (hw : Whole u g e cur) (hne : 26 ≠ e) (hg : u.grownBy u' (some g)) (h1 : W.heap.size ≤ g) : LJ W b cs u' :=
  ⟨below_then h.B hg h1 h.B.size, whole_turn h.X hg (fun hh => (Whole.ne_ h.X hw hne) hh.symm)⟩
end Go.Proofs.Ytdlinlkdielmkaa.OR
