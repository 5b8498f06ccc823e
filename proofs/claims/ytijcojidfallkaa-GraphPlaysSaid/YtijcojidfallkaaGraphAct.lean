/-
  Calls of layer 14 in memory: an act's three cells, the deps behind the third. Nothing here is a statement of the seed.
-/
import Derived.Test.YtijcojidfallkaaGraphRow
set_option linter.unusedSimpArgs false
set_option linter.unusedVariables false
namespace Go.Proofs.Ytijcojidfallkaa.GR
open Go.RowKit WM NR OM OR GM
set_option maxRecDepth 10000
/-- a call: its number, its node, its deps and where they lie -/
structure Ac where
  kind : Int
  nm : List UInt8
  na : Option Addr
  nn : Nat
  nc : Nat
  ns : List (List UInt8)
abbrev ac0 : Ac := ⟨0, [], none, 0, 0, []⟩
abbrev acC (x : Ac) : Array Value := #[.int .u8 x.kind, .string (bs x.nm), .slice x.na x.nn x.nc]
abbrev acV (x : Ac) : Value := .agg #[.int .u8 x.kind, .string (bs x.nm), .slice x.na x.nn x.nc]
abbrev AcAt (u : World) (g o : Nat) (x : Ac) : Prop := u.cell? ⟨g, o, none⟩ = some (.int .u8 x.kind) ∧ u.cell? ⟨g, o + 1, none⟩ = some (.string (bs x.nm)) ∧ u.cell? ⟨g, o + 2, none⟩ = some (.slice x.na x.nn x.nc)
structure AcOk (G : Nat → Prop) (w : World) (x : Ac) : Prop where
  kind : 0 ≤ x.kind ∧ x.kind ≤ 255
  ns : Reads G w (.slice x.na x.nn x.nc) (strs x.ns)
theorem AcOk.below {B : Nat} {w w' : World} {x : Ac} (h : AcOk (· < B) w x) (hb : Below B w w') : AcOk (· < B) w' x := ⟨h.kind, h.ns.below hb⟩
theorem AcOk.go {B : Nat} {w w' : World} {x : Ac} (h : AcOk (· < B) w x) (hb : Below B w w') (hB : B ≤ w'.heap.size) : AcOk (· < w'.heap.size) w' x := ⟨h.kind, (h.ns.below hb).mono fun g hg => Nat.lt_of_lt_of_le hg hB⟩
theorem AcOk.len {G : Nat → Prop} {w : World} {x : Ac} (h : AcOk G w x) : x.ns.length = x.nn ∧ x.nn ≤ x.nc ∧ x.nc ≤ maxLen := by
  have := reads_len h.ns
  rw [strs_len] at this
  exact this
def ReadsA (G : Nat → Prop) (w : World) (v : Value) (l : List Ac) : Prop :=
  ∃ a cap, v = .slice a l.length cap ∧ l.length ≤ cap ∧ cap ≤ maxLen ∧
    (l = [] ∨ ∃ g off, a = some ⟨g, off, none⟩ ∧ G g ∧ ∀ j, j < l.length → AcAt w g (off + j * 3) (l.getD j ac0)) ∧ ∀ x ∈ l, AcOk G w x
theorem ReadsA.len {G : Nat → Prop} {w : World} {a : Option Addr} {n c : Nat} {l : List Ac} (h : ReadsA G w (.slice a n c) l) : l.length = n ∧ n ≤ c ∧ c ≤ maxLen := by
  obtain ⟨a', cap, e, h1, h2, _⟩ := h
  simp only [Value.slice.injEq] at e
  obtain ⟨_, rfl, rfl⟩ := e
  exact ⟨rfl, h1, h2⟩
theorem ReadsA.form {G : Nat → Prop} {w : World} {v : Value} {l : List Ac} (h : ReadsA G w v l) : ∃ a n c, v = .slice a n c := by
  obtain ⟨a, cap, e, _⟩ := h
  exact ⟨a, _, cap, e⟩
theorem ReadsA.at {B : Nat} {w u : World} {a : Option Addr} {n c : Nat} {l : List Ac} (h : ReadsA (· < B) w (.slice a n c) l) (hb : Below B w u) {k : Nat} (hk : k < n) : ∃ g off, a = some ⟨g, off, none⟩ ∧ n ≤ c ∧ AcAt u g (off + k * 3) (l.getD k ac0) ∧ AcOk (· < B) u (l.getD k ac0) := by
  obtain ⟨a', cap, e, h1, h2, h4, h5⟩ := h
  simp only [Value.slice.injEq] at e
  obtain ⟨rfl, rfl, rfl⟩ := e
  have hm : l.getD k ac0 ∈ l := by rw [List.getD_eq_getElem?_getD, List.getElem?_eq_getElem hk]; exact List.getElem_mem _
  rcases h4 with h4 | ⟨g, off, rfl, hg, hc⟩
  · rw [h4] at hk; simp at hk
  · obtain ⟨x0, x1, x2⟩ := hc k hk
    have e := fun o => hb.cell (p := ⟨g, o, none⟩) hg
    exact ⟨g, off, rfl, h1, ⟨(e _).trans x0, (e _).trans x1, (e _).trans x2⟩, (h5 _ hm).below hb⟩
theorem ReadsA.go {B : Nat} {w u : World} {v : Value} {l : List Ac} (h : ReadsA (· < B) w v l) (hb : Below B w u) (hB : B ≤ u.heap.size) : ReadsA (· < u.heap.size) u v l := by
  obtain ⟨a, cap, e, h1, h2, h4, h5⟩ := h
  refine ⟨a, cap, e, h1, h2, ?_, fun x hx => (h5 x hx).go hb hB⟩
  rcases h4 with h4 | ⟨g, off, ea, hg, hc⟩
  · exact Or.inl h4
  · refine Or.inr ⟨g, off, ea, Nat.lt_of_lt_of_le hg hB, fun j hj => ?_⟩
    obtain ⟨x0, x1, x2⟩ := hc j hj
    have e := fun o => hb.cell (p := ⟨g, o, none⟩) hg
    exact ⟨(e _).trans x0, (e _).trans x1, (e _).trans x2⟩
end Go.Proofs.Ytijcojidfallkaa.GR
