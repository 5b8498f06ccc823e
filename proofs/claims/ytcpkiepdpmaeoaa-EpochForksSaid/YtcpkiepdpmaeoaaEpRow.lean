/-
  Harts and what waits in memory: thirteen cells a hart, two cells one that waits. Nothing here is a statement of the seed.
-/
import Derived.Test.YtcpkiepdpmaeoaaEpMath
set_option linter.unusedSimpArgs false
set_option linter.unusedVariables false
namespace Go.Proofs.Ytcpkiepdpmaeoaa.ER
open Go.RowKit WM NR OM OR EM
set_option maxRecDepth 10000
/-! harts -/
structure HrAt (u : World) (g o : Nat) (x : Hr) : Prop where
  c0 : u.cell? ⟨g, o, none⟩ = some (.int .u32 x.pc)
  r0 : u.cell? ⟨g, o + 1, none⟩ = some (.int .u32 (x.r 0))
  r1 : u.cell? ⟨g, o + 2, none⟩ = some (.int .u32 (x.r 1))
  r2 : u.cell? ⟨g, o + 3, none⟩ = some (.int .u32 (x.r 2))
  r3 : u.cell? ⟨g, o + 4, none⟩ = some (.int .u32 (x.r 3))
  r4 : u.cell? ⟨g, o + 5, none⟩ = some (.int .u32 (x.r 4))
  r5 : u.cell? ⟨g, o + 6, none⟩ = some (.int .u32 (x.r 5))
  r6 : u.cell? ⟨g, o + 7, none⟩ = some (.int .u32 (x.r 6))
  r7 : u.cell? ⟨g, o + 8, none⟩ = some (.int .u32 (x.r 7))
  sk : u.cell? ⟨g, o + 9, none⟩ = some (.slice x.sa x.sn x.sc)
  why : u.cell? ⟨g, o + 10, none⟩ = some (.int .u8 x.why)
  ep : u.cell? ⟨g, o + 11, none⟩ = some (.int .u64 x.ep)
  home : u.cell? ⟨g, o + 12, none⟩ = some (.int .u32 x.home)
theorem HrAt.as {u u' : World} {g o : Nat} {x : Hr} (h : HrAt u g o x) (e : ∀ o, u'.cell? ⟨g, o, none⟩ = u.cell? ⟨g, o, none⟩) : HrAt u' g o x :=
  ⟨(e _).trans h.c0, (e _).trans h.r0, (e _).trans h.r1, (e _).trans h.r2, (e _).trans h.r3, (e _).trans h.r4, (e _).trans h.r5, (e _).trans h.r6, (e _).trans h.r7, (e _).trans h.sk, (e _).trans h.why, (e _).trans h.ep, (e _).trans h.home⟩
structure HrOk (x : Hr) : Prop where
  why : 0 ≤ x.why ∧ x.why ≤ 255
  ep : 0 ≤ x.ep ∧ x.ep ≤ 18446744073709551615
theorem h0_ok : HrOk h0 := ⟨by decide, by decide⟩
def ReadsH (G : Nat → Prop) (w : World) (v : Value) (l : List Hr) : Prop :=
  ∃ a cap, v = .slice a l.length cap ∧ l.length ≤ cap ∧ cap ≤ maxLen ∧
    (l = [] ∨ ∃ g off, a = some ⟨g, off, none⟩ ∧ G g ∧ g < w.heap.size ∧ ∀ j, j < l.length → HrAt w g (off + j * 13) (l.getD j h0)) ∧ ∀ x ∈ l, HrOk x
theorem ReadsH.nil (G : Nat → Prop) (w : World) : ReadsH G w (.slice none 0 0) [] := ⟨none, 0, rfl, Nat.le_refl _, by simp [maxLen], Or.inl rfl, fun x hx => (by cases hx)⟩
theorem ReadsH.len {G : Nat → Prop} {w : World} {a : Option Addr} {n c : Nat} {l : List Hr} (h : ReadsH G w (.slice a n c) l) : l.length = n ∧ n ≤ c ∧ c ≤ maxLen := by
  obtain ⟨a', cap, e, h1, h2, _⟩ := h
  simp only [Value.slice.injEq] at e
  obtain ⟨_, rfl, rfl⟩ := e
  exact ⟨rfl, h1, h2⟩
theorem ReadsH.form {G : Nat → Prop} {w : World} {v : Value} {l : List Hr} (h : ReadsH G w v l) : ∃ a n c, v = .slice a n c := by
  obtain ⟨a, cap, e, _⟩ := h
  exact ⟨a, _, cap, e⟩
theorem ReadsH.ok {G : Nat → Prop} {w : World} {v : Value} {l : List Hr} (h : ReadsH G w v l) (k : Nat) : HrOk (l.getD k h0) := by
  obtain ⟨a, cap, e, _, _, _, h5⟩ := h
  rw [List.getD_eq_getElem?_getD]
  by_cases hk : k < l.length
  · rw [List.getElem?_eq_getElem hk]; exact h5 _ (List.getElem_mem _)
  · rw [List.getElem?_eq_none (by omega)]; exact h0_ok
theorem ReadsH.keep {G : Nat → Prop} {w w' : World} {v : Value} {l : List Hr} (h : ReadsH G w v l) (hk : ∀ g, G g → g < w.heap.size → w'.heap[g]? = w.heap[g]?) (hs : w.heap.size ≤ w'.heap.size) : ReadsH G w' v l := by
  obtain ⟨a, cap, e, h1, h2, h4, h5⟩ := h
  refine ⟨a, cap, e, h1, h2, ?_, h5⟩
  rcases h4 with h4 | ⟨g, off, ea, hg, hl, hc⟩
  · exact Or.inl h4
  · exact Or.inr ⟨g, off, ea, hg, by omega, fun j hj => (hc j hj).as fun o => World.cell?_of_block (w := w) (w' := w') (a := ⟨g, o, none⟩) (hk g hg hl)⟩
theorem ReadsH.mono {G G' : Nat → Prop} {w : World} {v : Value} {l : List Hr} (h : ReadsH G w v l) (hG : ∀ g, G g → g < w.heap.size → G' g) : ReadsH G' w v l := by
  obtain ⟨a, cap, e, h1, h2, h4, h5⟩ := h
  refine ⟨a, cap, e, h1, h2, ?_, h5⟩
  rcases h4 with h4 | ⟨g, off, ea, hg, hl, hc⟩
  · exact Or.inl h4
  · exact Or.inr ⟨g, off, ea, hG g hg hl, hl, hc⟩
theorem ReadsH.go {B : Nat} {w w' : World} {v : Value} {l : List Hr} (h : ReadsH (· < B) w v l) (hb : Below B w w') (hB : B ≤ w.heap.size) : ReadsH (· < B) w' v l := by
  obtain ⟨a, cap, e, h1, h2, h4, h5⟩ := h
  refine ⟨a, cap, e, h1, h2, ?_, h5⟩
  rcases h4 with h4 | ⟨g, off, ea, hg, hl, hc⟩
  · exact Or.inl h4
  · exact Or.inr ⟨g, off, ea, hg, Nat.lt_of_lt_of_le hl hb.size, fun j hj => (hc j hj).as fun o => hb.cell (p := ⟨g, o, none⟩) hg⟩
theorem ReadsH.below {w w' : World} {v : Value} {l : List Hr} (h : ReadsH (· < w.heap.size) w v l) (hb : Below w.heap.size w w') : ReadsH (· < w'.heap.size) w' v l :=
  (h.go hb (Nat.le_refl _)).mono fun g hg _ => Nat.lt_of_lt_of_le hg hb.size
theorem ReadsH.at {G : Nat → Prop} {w : World} {a : Option Addr} {n c : Nat} {l : List Hr} (h : ReadsH G w (.slice a n c) l) {k : Nat} (hk : k < n) : ∃ g off, a = some ⟨g, off, none⟩ ∧ n ≤ c ∧ HrAt w g (off + k * 13) (l.getD k h0) ∧ HrOk (l.getD k h0) := by
  have hok := h.ok k
  obtain ⟨a', cap, e, h1, h2, h4, h5⟩ := h
  simp only [Value.slice.injEq] at e
  obtain ⟨rfl, rfl, rfl⟩ := e
  rcases h4 with h4 | ⟨g, off, rfl, hg, hl, hc⟩
  · rw [h4] at hk; simp at hk
  · exact ⟨g, off, rfl, h1, hc k hk, hok⟩
/-! what waits -/
abbrev wtV (x : Wt) : Value := .agg #[.int .u16 x.ow, .int .u64 x.ep]
def wC : List Wt → List Value
  | [] => []
  | x :: l => .int .u16 x.ow :: .int .u64 x.ep :: wC l
theorem wC_len : ∀ l : List Wt, (wC l).length = l.length * 2
  | [] => rfl
  | x :: l => by simp only [wC, List.length_cons, wC_len l]; omega
theorem wC_append : ∀ a b : List Wt, wC (a ++ b) = wC a ++ wC b
  | [], b => rfl
  | x :: a, b => by simp only [List.cons_append, wC, wC_append a b]
theorem wC_one (l : List Wt) : ∀ u ∈ wC l, u.oneCell' = true := by
  induction l with
  | nil => intro u hu; cases hu
  | cons x l ih =>
    intro u hu
    simp only [wC, List.mem_cons] at hu
    rcases hu with rfl | rfl | hu
    · rfl
    · rfl
    · exact ih u hu
theorem wC_at : ∀ (l : List Wt) (j : Nat), j < l.length → (wC l)[j * 2]? = some (.int .u16 (l.getD j EM.w0).ow) ∧ (wC l)[j * 2 + 1]? = some (.int .u64 (l.getD j EM.w0).ep)
  | [], j, h => by simp at h
  | x :: l, 0, h => ⟨rfl, rfl⟩
  | x :: l, j + 1, h => by
    have ih := wC_at l j (by simpa using h)
    have e : (j + 1) * 2 = j * 2 + 2 := by omega
    rw [e]
    simp only [wC, List.getD_cons_succ]
    exact ih
/-- a slice of those that wait, two cells each -/
def ReadsW (G : Nat → Prop) (w : World) (v : Value) (l : List Wt) : Prop :=
  ∃ a cap, v = .slice a l.length cap ∧ l.length ≤ cap ∧ cap ≤ maxLen ∧ (a = none → cap = 0) ∧
    (l = [] ∨ ∃ g off, a = some ⟨g, off, none⟩ ∧ G g ∧ ∀ i, i < l.length * 2 → w.cell? ⟨g, off + i, none⟩ = (wC l)[i]?)
theorem ReadsW.nil (G : Nat → Prop) (w : World) : ReadsW G w (.slice none 0 0) [] := ⟨none, 0, rfl, Nat.le_refl _, by simp [maxLen], fun _ => rfl, Or.inl rfl⟩
theorem ReadsW.len {G : Nat → Prop} {w : World} {a : Option Addr} {n c : Nat} {l : List Wt} (h : ReadsW G w (.slice a n c) l) : l.length = n ∧ n ≤ c ∧ c ≤ maxLen := by
  obtain ⟨a', cap, e, h1, h2, _⟩ := h
  simp only [Value.slice.injEq] at e
  obtain ⟨_, rfl, rfl⟩ := e
  exact ⟨rfl, h1, h2⟩
theorem ReadsW.form {G : Nat → Prop} {w : World} {v : Value} {l : List Wt} (h : ReadsW G w v l) : ∃ a n c, v = .slice a n c := by
  obtain ⟨a, cap, e, _⟩ := h
  exact ⟨a, _, cap, e⟩
theorem ReadsW.atG {G : Nat → Prop} {w u : World} {a : Option Addr} {n c : Nat} {l : List Wt} (h : ReadsW G w (.slice a n c) l) (hu : ∀ g, G g → g < w.heap.size → u.heap[g]? = w.heap[g]?) {k : Nat} (hk : k < n) :
    ∃ g off, a = some ⟨g, off, none⟩ ∧ G g ∧ n ≤ c ∧ u.cell? ⟨g, off + k * 2, none⟩ = some (.int .u16 (l.getD k EM.w0).ow) ∧ u.cell? ⟨g, off + k * 2 + 1, none⟩ = some (.int .u64 (l.getD k EM.w0).ep) := by
  obtain ⟨a', cap, e, h1, h2, h3, h4⟩ := h
  simp only [Value.slice.injEq] at e
  obtain ⟨rfl, rfl, rfl⟩ := e
  rcases h4 with h4 | ⟨g, off, rfl, hg, hc⟩
  · rw [h4] at hk; simp at hk
  · obtain ⟨x0, x1⟩ := wC_at l k hk
    have c0 := hc (k * 2) (by omega)
    have hlt : g < w.heap.size := World.block_lt_of_cell? w _ (c0.trans x0)
    have e := fun o => World.cell?_of_block (w := w) (w' := u) (a := ⟨g, o, none⟩) (hu g hg hlt)
    refine ⟨g, off, rfl, hg, h1, ?_, ?_⟩
    · rw [e]; exact c0.trans x0
    · rw [e, Nat.add_assoc]; exact (hc (k * 2 + 1) (by omega)).trans x1
theorem ReadsW.keep {G : Nat → Prop} {w w' : World} {v : Value} {l : List Wt} (h : ReadsW G w v l) (hk : ∀ g, G g → g < w.heap.size → w'.heap[g]? = w.heap[g]?) : ReadsW G w' v l := by
  obtain ⟨a, cap, e, h1, h2, h3, h4⟩ := h
  refine ⟨a, cap, e, h1, h2, h3, ?_⟩
  rcases h4 with h4 | ⟨g, off, ea, hg, hc⟩
  · exact Or.inl h4
  · by_cases h0 : l = []
    · exact Or.inl h0
    · refine Or.inr ⟨g, off, ea, hg, fun i hi => ?_⟩
      have hl := wC_len l
      have x : (wC l)[i]? = some ((wC l)[i]'(by omega)) := List.getElem?_eq_getElem (by omega)
      have hlt := World.block_lt_of_cell? w _ ((hc i hi).trans x)
      rw [World.cell?_of_block (w := w) (w' := w') (a := ⟨g, off + i, none⟩) (hk g hg hlt)]
      exact hc i hi
theorem ReadsW.mono {G G' : Nat → Prop} {w : World} {v : Value} {l : List Wt} (h : ReadsW G w v l) (hG : ∀ g, G g → G' g) : ReadsW G' w v l := by
  obtain ⟨a, cap, e, h1, h2, h3, h4⟩ := h
  refine ⟨a, cap, e, h1, h2, h3, ?_⟩
  rcases h4 with h4 | ⟨g, off, ea, hg, hc⟩
  · exact Or.inl h4
  · exact Or.inr ⟨g, off, ea, hG g hg, hc⟩
theorem ReadsW.there {G : Nat → Prop} {w : World} {v : Value} {l : List Wt} (h : ReadsW G w v l) : ReadsW (fun g => G g ∧ g < w.heap.size) w v l := by
  obtain ⟨a, cap, e, h1, h2, h3, h4⟩ := h
  refine ⟨a, cap, e, h1, h2, h3, ?_⟩
  rcases h4 with h4 | ⟨g, off, ea, hg, hc⟩
  · exact Or.inl h4
  · by_cases h0 : l = []
    · exact Or.inl h0
    · have hl : 0 < l.length := List.length_pos_iff.2 h0
      have hn := wC_len l
      have x : (wC l)[0]? = some ((wC l)[0]'(by omega)) := List.getElem?_eq_getElem (by omega)
      exact Or.inr ⟨g, off, ea, ⟨hg, World.block_lt_of_cell? w _ ((hc 0 (by omega)).trans x)⟩, hc⟩
/-- a row of a call's own, told -/
theorem ReadsW.of_owns {B : Nat} {w : World} {v : Value} {l : List Wt} {n : Nat} {t : TypeId} (h : w.ownsRow B t 2 v n (wC l)) : ReadsW (fun g => B ≤ g ∧ v.ownBlock = some g) w v l := by
  have hn : l.length = n := by have := h.1; rw [wC_len] at this; omega
  subst hn
  rcases h.2 with ⟨rfl, h0⟩ | ⟨g, cap, cur, rfl, hg, hcell, hcap, hcm, hsz, hcur⟩
  · have hx : l = [] := List.length_eq_zero_iff.1 h0
    subst hx
    exact ReadsW.nil _ _
  · refine ⟨_, cap, rfl, hcap, hcm, (fun h => by cases h), Or.inr ⟨g, 0, rfl, ⟨hg, rfl⟩, fun i hi => ?_⟩⟩
    rw [Nat.zero_add]
    exact h.cellAt i (by omega)
theorem ReadsW.cells {G : Nat → Prop} {w : World} {p : Addr} {n c : Nat} {l : List Wt} (h : ReadsW G w (.slice (some p) n c) l) : ∀ j u, (wC l)[j]? = some u → w.cell? (p.add j) = some u := by
  obtain ⟨a, cap, e, h1, h2, h3, h4⟩ := h
  simp only [Value.slice.injEq] at e
  obtain ⟨rfl, rfl, rfl⟩ := e
  intro i u hi
  have hlt := (List.getElem?_eq_some_iff.1 hi).1
  rw [wC_len] at hlt
  rcases h4 with h4 | ⟨g, off, ea, hg, hc⟩
  · subst h4; simp at hlt
  · obtain rfl := Option.some.inj ea
    rw [Addr.add_lit, hc i hlt, hi]
/-! the reference's clock -/
abbrev ckV (t : Int) (la : Option Addr) (ln lc : Nat) : Value := .agg #[.int .u64 t, .slice la ln lc]
abbrev ckC (t : Int) (la : Option Addr) (ln lc : Nat) : Array Value := #[.int .u64 t, .slice la ln lc]
/-! owners -/
def oC (l : List Int) : List Value := l.map fun x => .int .u16 x
theorem oC_len (l : List Int) : (oC l).length = l.length := by simp [oC]
theorem oC_append (a b : List Int) : oC (a ++ b) = oC a ++ oC b := by simp [oC]
theorem oC_at {l : List Int} {k : Nat} (h : k < l.length) : (oC l)[k]? = some (.int .u16 (l.getD k 0)) := by
  unfold oC
  rw [List.getElem?_map, List.getD_eq_getElem?_getD, List.getElem?_eq_getElem h]
  rfl
/-- owners, told: a row made since B -/
def IsOw (B : Nat) (u : World) (v : Value) (l : List Int) : Prop := Reads (fun g => B ≤ g ∧ g < u.heap.size) u v (oC l)
/-! calls -/
abbrev acV (x : Ac) : Value := .agg #[.int .u8 x.kind, .int .u16 x.ow, .slice x.ha x.hn x.hc]
abbrev AcAt (u : World) (g o : Nat) (x : Ac) : Prop := u.cell? ⟨g, o, none⟩ = some (.int .u8 x.kind) ∧ u.cell? ⟨g, o + 1, none⟩ = some (.int .u16 x.ow) ∧ u.cell? ⟨g, o + 2, none⟩ = some (.slice x.ha x.hn x.hc)
structure AcOk (G : Nat → Prop) (w : World) (x : Ac) : Prop where
  kind : 0 ≤ x.kind ∧ x.kind ≤ 255
  ow : 0 ≤ x.ow ∧ x.ow ≤ 65535
  hs : ReadsH G w (.slice x.ha x.hn x.hc) x.hs
theorem AcOk.go {B : Nat} {w w' : World} {x : Ac} (h : AcOk (· < B) w x) (hb : Below B w w') (hB : B ≤ w.heap.size) : AcOk (· < B) w' x := ⟨h.kind, h.ow, h.hs.go hb hB⟩
def ReadsA (G : Nat → Prop) (w : World) (v : Value) (l : List Ac) : Prop :=
  ∃ a cap, v = .slice a l.length cap ∧ l.length ≤ cap ∧ cap ≤ maxLen ∧
    (l = [] ∨ ∃ g off, a = some ⟨g, off, none⟩ ∧ G g ∧ ∀ j, j < l.length → AcAt w g (off + j * 3) (l.getD j ac0)) ∧ ∀ x ∈ l, AcOk G w x
theorem ReadsA.len {G : Nat → Prop} {w : World} {a : Option Addr} {n c : Nat} {l : List Ac} (h : ReadsA G w (.slice a n c) l) : l.length = n ∧ n ≤ c ∧ c ≤ maxLen := by
  obtain ⟨a', cap, e, h1, h2, _⟩ := h
  simp only [Value.slice.injEq] at e
  obtain ⟨_, rfl, rfl⟩ := e
  exact ⟨rfl, h1, h2⟩
theorem ReadsA.ows {G : Nat → Prop} {w : World} {v : Value} {l : List Ac} (h : ReadsA G w v l) : ∀ x ∈ l, 0 ≤ x.ow ∧ x.ow ≤ 65535 := by
  obtain ⟨a, cap, e, _, _, _, h5⟩ := h
  exact fun x hx => (h5 x hx).ow
theorem ReadsA.at {B : Nat} {w u : World} {a : Option Addr} {n c : Nat} {l : List Ac} (h : ReadsA (· < B) w (.slice a n c) l) (hb : Below B w u) (hB : B ≤ w.heap.size) {k : Nat} (hk : k < n) : ∃ g off, a = some ⟨g, off, none⟩ ∧ n ≤ c ∧ g < B ∧ AcAt u g (off + k * 3) (l.getD k ac0) ∧ AcOk (· < B) u (l.getD k ac0) := by
  obtain ⟨a', cap, e, h1, h2, h4, h5⟩ := h
  simp only [Value.slice.injEq] at e
  obtain ⟨rfl, rfl, rfl⟩ := e
  have hm : l.getD k ac0 ∈ l := EM.getD_mem hk
  rcases h4 with h4 | ⟨g, off, rfl, hg, hc⟩
  · rw [h4] at hk; simp at hk
  · obtain ⟨x0, x1, x2⟩ := hc k hk
    have e := fun o => hb.cell (p := ⟨g, o, none⟩) hg
    exact ⟨g, off, rfl, h1, hg, ⟨(e _).trans x0, (e _).trans x1, (e _).trans x2⟩, (h5 _ hm).go hb hB⟩
end Go.Proofs.Ytcpkiepdpmaeoaa.ER
