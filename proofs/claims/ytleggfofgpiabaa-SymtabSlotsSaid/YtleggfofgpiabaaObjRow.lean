/-
  Modules in memory: lists of texts, of words, of relocations. Nothing here is a statement of the seed.
-/
import Derived.Test.YtleggfofgpiabaaWireA
import Derived.Test.YtleggfofgpiabaaObjMath
set_option linter.unusedSimpArgs false
set_option linter.unusedVariables false
namespace Go.Proofs.Ytleggfofgpiabaa.OR
open Go.RowKit WM NR OM
set_option maxRecDepth 10000
def strs (l : List (List UInt8)) : List Value := l.map fun s => Value.string (bs s)
theorem strs_len (l : List (List UInt8)) : (strs l).length = l.length := by simp [strs]
theorem strs_at {l : List (List UInt8)} {k : Nat} (h : k < l.length) : (strs l)[k]? = some (.string (bs (l.getD k []))) := by simp [strs, h]
theorem words_at {l : List Nat} {k : Nat} (h : k < l.length) : (u32s l)[k]? = some (.int .u32 ((l.getD k 0 : Nat) : Int)) := by simp [u32s, h]
theorem bs_inj {a b : List UInt8} : bs a = bs b ↔ a = b := by
  constructor
  · intro h
    have := congrArg (fun x : ByteArray => x.data.toList) h
    simpa [bs] using this
  · rintro rfl; rfl
theorem strs_append (a b : List (List UInt8)) : strs (a ++ b) = strs a ++ strs b := by simp [strs]
theorem strs_one (l : List (List UInt8)) : ∀ u ∈ strs l, u.oneCell' = true := by
  intro u hu
  simp only [strs, List.mem_map] at hu
  obtain ⟨s, _, rfl⟩ := hu
  rfl
theorem reads_at {B : Nat} {w u : World} {a : Option Addr} {n c : Nat} {xs : List Value} (h : Reads (· < B) w (.slice a n c) xs) (hb : Below B w u) {k : Nat} (hk : k < n) : ∃ g off, a = some ⟨g, off, none⟩ ∧ n ≤ c ∧ u.cell? ⟨g, off + k, none⟩ = xs[k]? := by
  obtain ⟨a', cap, e, h1, h2, h3, h4⟩ := h
  simp only [Value.slice.injEq] at e
  obtain ⟨rfl, rfl, rfl⟩ := e
  rcases h4 with h4 | ⟨g, off, rfl, hg, hc⟩
  · rw [h4] at hk; simp at hk
  · exact ⟨g, off, rfl, h1, (hb.cell (p := ⟨g, off + k, none⟩) hg).trans (hc k hk)⟩
theorem reads_len {G : Nat → Prop} {w : World} {a : Option Addr} {n c : Nat} {xs : List Value} (h : Reads G w (.slice a n c) xs) : xs.length = n ∧ n ≤ c ∧ c ≤ maxLen := by
  obtain ⟨a', cap, e, h1, h2, _⟩ := h
  simp only [Value.slice.injEq] at e
  obtain ⟨_, rfl, rfl⟩ := e
  exact ⟨rfl, h1, h2⟩
/-- a slice of relocations, three cells each -/
def ReadsR (G : Nat → Prop) (w : World) (v : Value) (l : List Rl) : Prop :=
  ∃ a cap, v = .slice a l.length cap ∧ l.length ≤ cap ∧ cap ≤ maxLen ∧ (a = none → cap = 0) ∧
    (l = [] ∨ ∃ g off, a = some ⟨g, off, none⟩ ∧ G g ∧ ∀ j, j < l.length → w.cell? ⟨g, off + j * 3, none⟩ = some (.int .u8 ((l.getD j ⟨0, 0, 0⟩).kind : Int)) ∧ w.cell? ⟨g, off + j * 3 + 1, none⟩ = some (.int .u16 ((l.getD j ⟨0, 0, 0⟩).at_ : Int)) ∧ w.cell? ⟨g, off + j * 3 + 2, none⟩ = some (.int .u16 ((l.getD j ⟨0, 0, 0⟩).wh : Int)))
theorem ReadsR.nil (G : Nat → Prop) (w : World) : ReadsR G w (.slice none 0 0) [] := ⟨none, 0, rfl, Nat.le_refl _, by simp [maxLen], fun _ => rfl, Or.inl rfl⟩
theorem ReadsR.len {G : Nat → Prop} {w : World} {a : Option Addr} {n c : Nat} {l : List Rl} (h : ReadsR G w (.slice a n c) l) : l.length = n ∧ n ≤ c ∧ c ≤ maxLen := by
  obtain ⟨a', cap, e, h1, h2, _⟩ := h
  simp only [Value.slice.injEq] at e
  obtain ⟨_, rfl, rfl⟩ := e
  exact ⟨rfl, h1, h2⟩
theorem ReadsR.form {G : Nat → Prop} {w : World} {v : Value} {l : List Rl} (h : ReadsR G w v l) : ∃ a n c, v = .slice a n c := by
  obtain ⟨a, cap, e, _⟩ := h
  exact ⟨a, _, cap, e⟩
theorem ReadsR.at {B : Nat} {w u : World} {a : Option Addr} {n c : Nat} {l : List Rl} (h : ReadsR (· < B) w (.slice a n c) l) (hb : Below B w u) {k : Nat} (hk : k < n) : ∃ g off, a = some ⟨g, off, none⟩ ∧ n ≤ c ∧ u.cell? ⟨g, off + k * 3, none⟩ = some (.int .u8 ((l.getD k ⟨0, 0, 0⟩).kind : Int)) ∧ u.cell? ⟨g, off + k * 3 + 1, none⟩ = some (.int .u16 ((l.getD k ⟨0, 0, 0⟩).at_ : Int)) ∧ u.cell? ⟨g, off + k * 3 + 2, none⟩ = some (.int .u16 ((l.getD k ⟨0, 0, 0⟩).wh : Int)) := by
  obtain ⟨a', cap, e, h1, h2, h3, h4⟩ := h
  simp only [Value.slice.injEq] at e
  obtain ⟨rfl, rfl, rfl⟩ := e
  rcases h4 with h4 | ⟨g, off, rfl, hg, hc⟩
  · rw [h4] at hk; simp at hk
  · obtain ⟨c0, c1, c2⟩ := hc k hk
    exact ⟨g, off, rfl, h1, (hb.cell (p := ⟨g, off + k * 3, none⟩) hg).trans c0, (hb.cell (p := ⟨g, off + k * 3 + 1, none⟩) hg).trans c1, (hb.cell (p := ⟨g, off + k * 3 + 2, none⟩) hg).trans c2⟩
theorem ReadsR.keep {G : Nat → Prop} {w w' : World} {v : Value} {l : List Rl} (h : ReadsR G w v l) (hk : ∀ g, G g → g < w.heap.size → w'.heap[g]? = w.heap[g]?) : ReadsR G w' v l := by
  obtain ⟨a, cap, e, h1, h2, h3, h4⟩ := h
  refine ⟨a, cap, e, h1, h2, h3, ?_⟩
  rcases h4 with h4 | ⟨g, off, ea, hg, hc⟩
  · exact Or.inl h4
  · by_cases h0 : l = []
    · exact Or.inl h0
    · refine Or.inr ⟨g, off, ea, hg, fun j hj => ?_⟩
      obtain ⟨c0, c1, c2⟩ := hc j hj
      have hlt := World.block_lt_of_cell? w _ c0
      have e := fun o => World.cell?_of_block (w := w) (w' := w') (a := ⟨g, o, none⟩) (hk g hg hlt)
      exact ⟨(e _).trans c0, (e _).trans c1, (e _).trans c2⟩
theorem ReadsR.below {B : Nat} {w w' : World} {v : Value} {l : List Rl} (h : ReadsR (· < B) w v l) (hb : Below B w w') : ReadsR (· < B) w' v l := h.keep fun g hg _ => hb.block g hg
theorem ReadsR.mono {G G' : Nat → Prop} {w : World} {v : Value} {l : List Rl} (h : ReadsR G w v l) (hG : ∀ g, G g → G' g) : ReadsR G' w v l := by
  obtain ⟨a, cap, e, h1, h2, h3, h4⟩ := h
  refine ⟨a, cap, e, h1, h2, h3, ?_⟩
  rcases h4 with h4 | ⟨g, off, ea, hg, hc⟩
  · exact Or.inl h4
  · exact Or.inr ⟨g, off, ea, hG g hg, hc⟩
/-! a module's value -/
abbrev mCs (x : ByteArray) (ea : Option Addr) (en ec : Nat) (ia : Option Addr) (im ic : Nat) (ca : Option Addr) (cn cc : Nat) (da : Option Addr) (dn dc : Nat) (ra : Option Addr) (rn rc : Nat) : Array Value := #[.string x, .slice ea en ec, .slice ia im ic, .slice ca cn cc, .slice da dn dc, .slice ra rn rc]
/-- the five lists of a module's value read as the module's -/
structure RdM (G : Nat → Prop) (w : World) (ea : Option Addr) (en ec : Nat) (ia : Option Addr) (im ic : Nat) (ca : Option Addr) (cn cc : Nat) (da : Option Addr) (dn dc : Nat) (ra : Option Addr) (rn rc : Nat) (m : Md) : Prop where
  ex : Reads G w (.slice ea en ec) (strs m.exps)
  im : Reads G w (.slice ia im ic) (strs m.imps)
  cd : Reads G w (.slice ca cn cc) (u32s m.code)
  dt : Reads G w (.slice da dn dc) (u32s m.data)
  rl : ReadsR G w (.slice ra rn rc) m.rels
section
variable {B : Nat} {w w' : World} {ea : Option Addr} {en ec : Nat} {ia : Option Addr} {im ic : Nat} {ca : Option Addr} {cn cc : Nat} {da : Option Addr} {dn dc : Nat} {ra : Option Addr} {rn rc : Nat} {m : Md}
theorem RdM.below (h : RdM (· < B) w ea en ec ia im ic ca cn cc da dn dc ra rn rc m) (hb : Below B w w') : RdM (· < B) w' ea en ec ia im ic ca cn cc da dn dc ra rn rc m := ⟨h.ex.below hb, h.im.below hb, h.cd.below hb, h.dt.below hb, h.rl.below hb⟩
theorem RdM.go (h : RdM (· < B) w ea en ec ia im ic ca cn cc da dn dc ra rn rc m) (hb : Below B w w') (hB : B ≤ w'.heap.size) : RdM (· < w'.heap.size) w' ea en ec ia im ic ca cn cc da dn dc ra rn rc m :=
  have k : ∀ g, g < B → g < w'.heap.size := fun g hg => Nat.lt_of_lt_of_le hg hB
  ⟨(h.ex.below hb).mono k, (h.im.below hb).mono k, (h.cd.below hb).mono k, (h.dt.below hb).mono k, (h.rl.below hb).mono k⟩
theorem RdM.lens {G : Nat → Prop} (h : RdM G w ea en ec ia im ic ca cn cc da dn dc ra rn rc m) : m.exps.length = en ∧ m.imps.length = im ∧ m.code.length = cn ∧ m.data.length = dn ∧ m.rels.length = rn :=
  ⟨by have := (reads_len h.ex).1; rwa [strs_len] at this, by have := (reads_len h.im).1; rwa [strs_len] at this, by have := (reads_len h.cd).1; rwa [u32s_len] at this, by have := (reads_len h.dt).1; rwa [u32s_len] at this, h.rl.len.1⟩
end
/-- of the blocks that were there, those of S alone may have turned -/
structure Fr (S : Nat → Prop) (w w' : World) : Prop where
  os : w'.os = w.os
  tape : w'.tape = w.tape
  output : w'.output = w.output
  size : w.heap.size ≤ w'.heap.size
  block : ∀ k, k < w.heap.size → ¬ S k → w'.heap[k]? = w.heap[k]?
section
variable {S S' : Nat → Prop} {a b c w w' : World}
theorem Fr.refl (S : Nat → Prop) (w : World) : Fr S w w := ⟨rfl, rfl, rfl, Nat.le_refl _, fun _ _ _ => rfl⟩
theorem Fr.of_below (h : Below w.heap.size w w') : Fr S w w' := ⟨h.os, h.tape, h.output, h.size, fun k hk _ => h.block k hk⟩
theorem Fr.trans (h : Fr S a b) (k : Fr S' b c) (hS : ∀ i, S' i → S i ∨ a.heap.size ≤ i) : Fr S a c :=
  ⟨k.os.trans h.os, k.tape.trans h.tape, k.output.trans h.output, Nat.le_trans h.size k.size, fun i hi hn => (k.block i (Nat.lt_of_lt_of_le hi h.size) (fun h' => (hS i h').elim hn (by omega))).trans (h.block i hi hn)⟩
theorem Fr.then (h : Fr S a b) (k : Below b.heap.size b c) : Fr S a c := h.trans (S' := fun _ => False) (Fr.of_below k) (fun _ h => h.elim)
theorem Fr.alloc (h : Fr S a b) (o : Obj) : Fr S a (b.alloc o) := h.then ((Below.refl _ _).alloc (Nat.le_refl _) o)
theorem Fr.set (h : Fr S a b) {p : Addr} (hp : S p.block ∨ a.heap.size ≤ p.block) (u : Value) : Fr S a (b.setCell p u) :=
  ⟨h.os, h.tape, h.output, Nat.le_trans h.size (by simp), fun i hi hn => (Below.heap_setCell b p u i (by rintro rfl; exact hp.elim hn (by omega))).trans (h.block i hi hn)⟩
theorem Fr.drewN (h : Fr S a b) (n : Nat) : Fr S a (b.drewN n) := ⟨h.os, h.tape, h.output, h.size, h.block⟩
theorem Fr.drew (h : Fr S a b) : Fr S a b.drew := ⟨h.os, h.tape, h.output, h.size, h.block⟩
theorem Fr.mono (h : Fr S a b) (hS : ∀ i, S i → S' i ∨ a.heap.size ≤ i) : Fr S' a b := ⟨h.os, h.tape, h.output, h.size, fun i hi hn => h.block i hi (fun h' => (hS i h').elim hn (by omega))⟩
theorem Fr.below {B : Nat} (h : Fr S a b) (hB : B ≤ a.heap.size) (hS : ∀ i, S i → B ≤ i) : Below B a b := ⟨h.os, h.tape, h.output, h.size, fun i hi => h.block i (by omega) (fun h' => by have := hS i h'; omega)⟩
theorem Below.fr {B : Nat} (h : Below B a b) (k : Fr S b c) (hB : B ≤ b.heap.size) (hS : ∀ i, S i → B ≤ i) : Below B a c := h.trans (k.below hB hS)
end
/-! a block, all of whose cells are known -/
/-- block g of the heap: the cells cs, of type t, all of them open to stores -/
def Whole (w : World) (g : Nat) (t : TypeId) (cs : Array Value) : Prop := w.heap[g]? = some (.cells cs t (0, 0))
section
variable {w w' : World} {g g' : Nat} {t t' : TypeId} {cs cs' : Array Value}
/-- it is there in a heap that has the same block -/
theorem Whole.as (h : Whole w g t cs) (e : w'.heap[g]? = w.heap[g]?) : Whole w' g t cs := by
  show w'.heap[g]? = _
  rw [e]
  exact h
theorem Whole.lt (h : Whole w g t cs) : g < w.heap.size := (Array.getElem?_eq_some_iff.1 h).1
theorem Whole.cell (h : Whole w g t cs) (i : Nat) : w.cell? ⟨g, i, none⟩ = cs[i]? := cell_of_row w g i cs t (0, 0) h
theorem Whole.frozen (h : Whole w g t cs) (i : Nat) : w.frozen? ⟨g, i, none⟩ = false := by
  have e : w.heap[g]? = some (.cells cs t (0, 0)) := h
  simp [World.frozen?, e]
theorem Whole.new (w : World) (t : TypeId) (cs : Array Value) : Whole (w.alloc (.cells cs t)) w.heap.size t cs := heap_alloc_new w _
theorem Whole.alloc (h : Whole w g t cs) (o : Obj) : Whole (w.alloc o) g t cs := h.as (Below.heap_alloc w o g h.lt)
theorem Whole.far (h : Whole w g t cs) {p : Addr} (hp : g ≠ p.block) (u : Value) : Whole (w.setCell p u) g t cs := h.as (Below.heap_setCell w p u g hp)
theorem Whole.set_ (h : Whole w g t cs) (i : Nat) (u : Value) : Whole (w.setCell ⟨g, i, none⟩ u) g t (cs.setIfInBounds i u) := by
  have e : w.heap[g]? = some (.cells cs t (0, 0)) := h
  show (w.setCell ⟨g, i, none⟩ u).heap[g]? = _
  simp [World.setCell, Array.getElem?_modify, e]
theorem Whole.below {B : Nat} (h : Whole w g t cs) (hb : Below B w w') (hg : g < B) : Whole w' g t cs := h.as (hb.block g hg)
theorem Whole.belowS (h : Whole w g t cs) (hb : Below w.heap.size w w') : Whole w' g t cs := h.as (hb.block g h.lt)
theorem Whole.fr {S : Nat → Prop} (h : Whole w g t cs) (hb : Fr S w w') (hg : ¬ S g) : Whole w' g t cs := h.as (hb.block g h.lt hg)
/-- blocks of unlike types are two -/
theorem Whole.ne_ (h : Whole w g t cs) (h' : Whole w g' t' cs') (hne : t ≠ t') : g ≠ g' := fun e => by
  subst e
  have e1 : w.heap[g]? = some (.cells cs t (0, 0)) := h
  have e2 : w.heap[g]? = some (.cells cs' t' (0, 0)) := h'
  have e3 := Option.some.inj (e1.symm.trans e2)
  simp only [Obj.cells.injEq] at e3
  exact hne e3.2.1
end

end Go.Proofs.Ytleggfofgpiabaa.OR
