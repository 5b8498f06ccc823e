/-
  Pages in memory: a block that holds them; a table and its block. Nothing here is a statement of the seed.
-/
import Derived.Test.YtkmjacpcpchjoaaProg
import Derived.Test.YtkmjacpcpchjoaaPageMath
import Derived.WalkKit
import Derived.WalkSmall
import Derived.BigQuiet
import Derived.Deep.QuietTactic
import Derived.Lib.Hide
import Derived.Lib.OthersKept
import Derived.Laws.AppendOwn
import Derived.Laws.AppendOwnNone
import Derived.Deep.MidRow
set_option linter.unusedSimpArgs false
set_option linter.unusedVariables false
namespace Go.Proofs.Ytkmjacpcpchjoaa.PR
open Go.RowKit PM

theorem bcell {W w1 : World} (hb : Below W.heap.size W w1) : (∀ b o, b < W.heap.size → w1.cell? ⟨b, o, none⟩ = W.cell? ⟨b, o, none⟩) ∧ (∀ b o, b < W.heap.size → w1.frozen? ⟨b, o, none⟩ = W.frozen? ⟨b, o, none⟩) :=
  ⟨fun b o h => hb.cell (p := ⟨b, o, none⟩) h, fun b o h => hb.frozen (p := ⟨b, o, none⟩) h⟩
/-- a call tells a value, and nothing that was there turns -/
def Says (P : Program) (f : FuncId) (args : Array Value) (v : Value) : Prop := ∀ w : World, Calls P f args w fun e w' => e = .returned v ∧ Below w.heap.size w w'
theorem Says.at {P : Program} {f : FuncId} {args : Array Value} {v : Value} (h : Says P f args v) (w : World) : Calls P f args w fun e w' => e = .returned v ∧ Below w.heap.size w w' := h w
theorem inw {P : Program} {f : FuncId} {args : Array Value} {v : Value} (h : Says P f args v) (W0 u : World) (hb : Below W0.heap.size W0 u) :
    Calls P f args u fun e w' => e = .returned v ∧ Below W0.heap.size W0 w' := (h u).mono fun _ _ ⟨he, h2⟩ => ⟨he, hb.trans (h2.mono hb.size)⟩
theorem says_same {P : Program} {f : FuncId} {args : Array Value} {v : Value} (h : ∀ w, Calls P f args w fun e w' => e = .returned v ∧ w = w') : Says P f args v :=
  fun w => (h w).mono fun _ _ ⟨he, hw⟩ => ⟨he, hw ▸ Below.refl _ _⟩
theorem ret_bool {a b : Bool} (h : a = b) : Ending.returned (.bool a) = .returned (.bool b) := by rw [h]
theorem ret_int {k : IntKind} {a b : Int} (h : a = b) : Ending.returned (.int k a) = .returned (.int k b) := by rw [h]
/-- of the blocks that were there, those of S alone may have turned -/
structure Fr (S : Nat → Prop) (w w' : World) : Prop where
  os : w'.os = w.os
  tape : w'.tape = w.tape
  output : w'.output = w.output
  size : w.heap.size ≤ w'.heap.size
  block : ∀ k, k < w.heap.size → ¬ S k → w'.heap[k]? = w.heap[k]?
section
variable {S S' : Nat → Prop} {a b c w w' : World}
theorem Fr.refl (S : Nat → Prop) (w : World) : Fr S w w := ⟨rfl, rfl, rfl, Nat.le_refl _, fun _ _ _ => rfl⟩
theorem Fr.of_below (h : Below w.heap.size w w') : Fr S w w' := ⟨h.os, h.tape, h.output, h.size, fun k hk _ => h.block k hk⟩
theorem Fr.trans (h : Fr S a b) (k : Fr S' b c) (hS : ∀ i, S' i → S i ∨ a.heap.size ≤ i) : Fr S a c :=
  ⟨k.os.trans h.os, k.tape.trans h.tape, k.output.trans h.output, Nat.le_trans h.size k.size, fun i hi hn => (k.block i (Nat.lt_of_lt_of_le hi h.size) (fun h' => (hS i h').elim hn (by omega))).trans (h.block i hi hn)⟩
theorem Fr.then (h : Fr S a b) (k : Below b.heap.size b c) : Fr S a c := h.trans (S' := fun _ => False) (Fr.of_below k) (fun _ h => h.elim)
theorem Fr.alloc (h : Fr S a b) (o : Obj) : Fr S a (b.alloc o) := h.then ((Below.refl _ _).alloc (Nat.le_refl _) o)
theorem Fr.set (h : Fr S a b) {p : Addr} (hp : S p.block ∨ a.heap.size ≤ p.block) (u : Value) : Fr S a (b.setCell p u) :=
  ⟨h.os, h.tape, h.output, Nat.le_trans h.size (by simp), fun i hi hn => (Below.heap_setCell b p u i (by rintro rfl; exact hp.elim hn (by omega))).trans (h.block i hi hn)⟩
theorem Fr.drewN (h : Fr S a b) (n : Nat) : Fr S a (b.drewN n) := ⟨h.os, h.tape, h.output, h.size, h.block⟩
theorem Fr.drew (h : Fr S a b) : Fr S a b.drew := ⟨h.os, h.tape, h.output, h.size, h.block⟩
theorem Fr.mono (h : Fr S a b) (hS : ∀ i, S i → S' i ∨ a.heap.size ≤ i) : Fr S' a b := ⟨h.os, h.tape, h.output, h.size, fun i hi hn => h.block i hi (fun h' => (hS i h').elim hn (by omega))⟩
theorem Fr.below {B : Nat} (h : Fr S a b) (hB : B ≤ a.heap.size) (hS : ∀ i, S i → B ≤ i) : Below B a b := ⟨h.os, h.tape, h.output, h.size, fun i hi => h.block i (by omega) (fun h' => by have := hS i h'; omega)⟩
theorem Below.fr {B : Nat} (h : Below B a b) (k : Fr S b c) (hB : B ≤ b.heap.size) (hS : ∀ i, S i → B ≤ i) : Below B a c := h.trans (k.below hB hS)
end
theorem below_of {w0 a b : World} (h : Below w0.heap.size w0 a) (k : Below a.heap.size a b) : Below w0.heap.size w0 b := h.trans (k.mono h.size)
theorem below_new (w : World) (o : Obj) : Below w.heap.size w (w.alloc o) := (Below.refl _ _).alloc (Nat.le_refl _) o

/-! a block, all of whose cells are known -/
/-- block g of the heap: the cells cs, of type t, all of them open to stores -/
def Whole (w : World) (g : Nat) (t : TypeId) (cs : Array Value) : Prop := w.heap[g]? = some (.cells cs t (0, 0))
section
variable {w w' : World} {g g' : Nat} {t t' : TypeId} {cs cs' : Array Value}
/-- it is there in a heap that has the same block -/
theorem Whole.as (h : Whole w g t cs) (e : w'.heap[g]? = w.heap[g]?) : Whole w' g t cs := by
  show w'.heap[g]? = _
  rw [e]
  exact h
theorem Whole.lt (h : Whole w g t cs) : g < w.heap.size := (Array.getElem?_eq_some_iff.1 h).1
theorem Whole.cell (h : Whole w g t cs) (i : Nat) : w.cell? ⟨g, i, none⟩ = cs[i]? := cell_of_row w g i cs t (0, 0) h
theorem Whole.frozen (h : Whole w g t cs) (i : Nat) : w.frozen? ⟨g, i, none⟩ = false := by
  have e : w.heap[g]? = some (.cells cs t (0, 0)) := h
  simp [World.frozen?, e]
theorem Whole.new (w : World) (t : TypeId) (cs : Array Value) : Whole (w.alloc (.cells cs t)) w.heap.size t cs := heap_alloc_new w _
theorem Whole.alloc (h : Whole w g t cs) (o : Obj) : Whole (w.alloc o) g t cs := h.as (Below.heap_alloc w o g h.lt)
theorem Whole.far (h : Whole w g t cs) {p : Addr} (hp : g ≠ p.block) (u : Value) : Whole (w.setCell p u) g t cs := h.as (Below.heap_setCell w p u g hp)
theorem Whole.set_ (h : Whole w g t cs) (i : Nat) (u : Value) : Whole (w.setCell ⟨g, i, none⟩ u) g t (cs.setIfInBounds i u) := by
  have e : w.heap[g]? = some (.cells cs t (0, 0)) := h
  show (w.setCell ⟨g, i, none⟩ u).heap[g]? = _
  simp [World.setCell, Array.getElem?_modify, e]
theorem Whole.below {B : Nat} (h : Whole w g t cs) (hb : Below B w w') (hg : g < B) : Whole w' g t cs := h.as (hb.block g hg)
theorem Whole.belowS (h : Whole w g t cs) (hb : Below w.heap.size w w') : Whole w' g t cs := h.as (hb.block g h.lt)
theorem Whole.fr {S : Nat → Prop} (h : Whole w g t cs) (hb : Fr S w w') (hg : ¬ S g) : Whole w' g t cs := h.as (hb.block g h.lt hg)
/-- blocks of unlike types are two -/
theorem Whole.ne_ (h : Whole w g t cs) (h' : Whole w g' t' cs') (hne : t ≠ t') : g ≠ g' := fun e => by
  subst e
  have e1 : w.heap[g]? = some (.cells cs t (0, 0)) := h
  have e2 : w.heap[g]? = some (.cells cs' t' (0, 0)) := h'
  have e3 := Option.some.inj (e1.symm.trans e2)
  simp only [Obj.cells.injEq] at e3
  exact hne e3.2.1
end

/-! pages -/
abbrev pgV (st : Int) (ex wr : Bool) (ow ep : Int) : Value := .agg #[.int .u8 st, .bool ex, .bool wr, .int .u16 ow, .int .u64 ep]
abbrev pV (p : Pg) : Value := pgV p.st p.ex p.wr p.ow p.ep
def pcs (p : Pg) : List Value := [.int .u8 p.st, .bool p.ex, .bool p.wr, .int .u16 p.ow, .int .u64 p.ep]
def cs (l : List Pg) : List Value := l.flatMap pcs
theorem cs_len : ∀ l : List Pg, (cs l).length = l.length * 5
  | [] => rfl
  | p :: t => by
    have := cs_len t
    simp only [cs, List.flatMap_cons, List.length_append, List.length_cons] at this ⊢
    rw [this]
    simp [pcs]
    omega
theorem cs_at : ∀ (l : List Pg) (k j : Nat), k < l.length → j < 5 → (cs l)[k * 5 + j]? = (pcs (l.getD k zero))[j]?
  | p :: t, 0, j, _, hj => by
    simp only [cs, List.flatMap_cons]
    rw [List.getElem?_append_left (by simp [pcs]; omega)]
    simp
  | p :: t, k + 1, j, hk, hj => by
    have h := cs_at t k j (by simpa using hk) hj
    simp only [cs, List.flatMap_cons] at h ⊢
    rw [List.getElem?_append_right (by simp [pcs]; omega)]
    have e : (k + 1) * 5 + j - (pcs p).length = k * 5 + j := by simp [pcs]; omega
    rw [e, h]
    simp
theorem cs_append (a b : List Pg) : cs (a ++ b) = cs a ++ cs b := by simp [cs]
theorem cs_set (l : List Pg) (k : Nat) (p : Pg) (hk : k < l.length) (r : List Value) :
    (((((cs l ++ r).set (k * 5) (.int .u8 p.st)).set (k * 5 + 1) (.bool p.ex)).set (k * 5 + 2) (.bool p.wr)).set (k * 5 + 3) (.int .u16 p.ow)).set (k * 5 + 4) (.int .u64 p.ep) = cs (l.set k p) ++ r := by
  have hl := cs_len l
  have hl2 := cs_len (l.set k p)
  rw [List.length_set] at hl2
  apply List.ext_getElem?
  intro i
  simp only [List.getElem?_set, List.length_set, List.length_append, hl]
  by_cases hi : i < l.length * 5
  · have hq : i / 5 < l.length := by omega
    have e : i = i / 5 * 5 + i % 5 := by omega
    have hm : i % 5 < 5 := by omega
    have h1 := cs_at l (i / 5) (i % 5) hq hm
    have h2 := cs_at (l.set k p) (i / 5) (i % 5) (by rw [List.length_set]; exact hq) hm
    rw [← e] at h1 h2
    rw [List.getElem?_append_left (by omega), List.getElem?_append_left (by omega), h1, h2, set_at hq]
    by_cases hk2 : k = i / 5
    · rw [if_pos hk2]
      have : i % 5 = 0 ∨ i % 5 = 1 ∨ i % 5 = 2 ∨ i % 5 = 3 ∨ i % 5 = 4 := by omega
      rcases this with h | h | h | h | h <;> rw [h] <;> simp [pcs] <;> repeat (first | rw [if_neg (by omega)] | rw [if_pos (by omega)])
    · rw [if_neg hk2, if_neg (by omega), if_neg (by omega), if_neg (by omega), if_neg (by omega), if_neg (by omega)]
  · rw [if_neg (by omega), if_neg (by omega), if_neg (by omega), if_neg (by omega), if_neg (by omega), List.getElem?_append_right (by omega), List.getElem?_append_right (by omega), hl, hl2]

/-- block g holds the pages l, and more room perhaps -/
def Row (w : World) (g : Nat) (l : List Pg) : Prop := ∃ r : List Value, Whole w g 69 (cs l ++ r).toArray
section
variable {w w' : World} {g k : Nat} {l : List Pg}
theorem Row.lt (h : Row w g l) : g < w.heap.size := h.elim fun _ h => h.lt
theorem Row.cellj (h : Row w g l) (hk : k < l.length) {j : Nat} (hj : j < 5) : w.cell? ⟨g, k * 5 + j, none⟩ = (pcs (l.getD k zero))[j]? := by
  obtain ⟨r, h⟩ := h
  rw [h.cell, List.getElem?_toArray, List.getElem?_append_left (by rw [cs_len]; omega), cs_at l k j hk hj]
theorem Row.five (h : Row w g l) (hk : k < l.length) {p : Pg} (hp : l.getD k zero = p) : w.cell? ⟨g, k * 5, none⟩ = some (.int .u8 p.st) ∧ w.cell? ⟨g, k * 5 + 1, none⟩ = some (.bool p.ex) ∧ w.cell? ⟨g, k * 5 + 2, none⟩ = some (.bool p.wr) ∧
    w.cell? ⟨g, k * 5 + 3, none⟩ = some (.int .u16 p.ow) ∧ w.cell? ⟨g, k * 5 + 4, none⟩ = some (.int .u64 p.ep) := by
  subst hp
  exact ⟨h.cellj hk (j := 0) (by omega), h.cellj hk (by omega), h.cellj hk (by omega), h.cellj hk (by omega), h.cellj hk (by omega)⟩
theorem Row.frozen (h : Row w g l) (i : Nat) : w.frozen? ⟨g, i, none⟩ = false := h.elim fun _ h => h.frozen i
theorem Row.below {B : Nat} (h : Row w g l) (hb : Below B w w') (hg : g < B) : Row w' g l := h.elim fun r h => ⟨r, h.below hb hg⟩
theorem Row.belowS (h : Row w g l) (hb : Below w.heap.size w w') : Row w' g l := h.elim fun r h => ⟨r, h.belowS hb⟩
theorem Row.fr {S : Nat → Prop} (h : Row w g l) (hb : Fr S w w') (hg : ¬ S g) : Row w' g l := h.elim fun r h => ⟨r, h.fr hb hg⟩
theorem Row.alloc (h : Row w g l) (o : Obj) : Row (w.alloc o) g l := h.elim fun r h => ⟨r, h.alloc o⟩
theorem Row.far (h : Row w g l) {p : Addr} (hp : g ≠ p.block) (u : Value) : Row (w.setCell p u) g l := h.elim fun r h => ⟨r, h.far hp u⟩
theorem Row.set5 (h : Row w g l) (hk : k < l.length) (p : Pg) :
    Row (((((w.setCell ⟨g, k * 5, none⟩ (.int .u8 p.st)).setCell ⟨g, k * 5 + 1, none⟩ (.bool p.ex)).setCell ⟨g, k * 5 + 2, none⟩ (.bool p.wr)).setCell ⟨g, k * 5 + 3, none⟩ (.int .u16 p.ow)).setCell ⟨g, k * 5 + 4, none⟩ (.int .u64 p.ep)) g (l.set k p) := by
  obtain ⟨r, h⟩ := h
  refine ⟨r, ?_⟩
  have := ((((h.set_ (k * 5) (.int .u8 p.st)).set_ (k * 5 + 1) (.bool p.ex)).set_ (k * 5 + 2) (.bool p.wr)).set_ (k * 5 + 3) (.int .u16 p.ow)).set_ (k * 5 + 4) (.int .u64 p.ep)
  rw [← cs_set l k p hk r]
  simpa using this
/-- a page is laid -/
def put5 (w : World) (g o : Nat) (st : Int) (ex wr : Bool) (ow ep : Int) : World := w.setCells g o [.int .u8 st, .bool ex, .bool wr, .int .u16 ow, .int .u64 ep]
theorem put_eq (w : World) (g o : Nat) (st : Int) (ex wr : Bool) (ow ep : Int) : (((((w.setCell ⟨g, o, none⟩ (.int .u8 st)).setCell ⟨g, o + 1, none⟩ (.bool ex)).setCell ⟨g, o + 2, none⟩ (.bool wr)).setCell ⟨g, o + 3, none⟩ (.int .u16 ow)).setCell ⟨g, o + 4, none⟩ (.int .u64 ep)) = put5 w g o st ex wr ow ep := rfl
theorem Row.there (h : Row w g l) (hk : k < l.length) : (∃ v0 v1 v2 v3 v4, w.cell? ⟨g, k * 5, none⟩ = some v0 ∧ w.cell? ⟨g, k * 5 + 1, none⟩ = some v1 ∧ w.cell? ⟨g, k * 5 + 2, none⟩ = some v2 ∧ w.cell? ⟨g, k * 5 + 3, none⟩ = some v3 ∧ w.cell? ⟨g, k * 5 + 4, none⟩ = some v4) ∧
      w.frozen? ⟨g, k * 5, none⟩ = false ∧ w.frozen? ⟨g, k * 5 + 1, none⟩ = false ∧ w.frozen? ⟨g, k * 5 + 2, none⟩ = false ∧ w.frozen? ⟨g, k * 5 + 3, none⟩ = false ∧ w.frozen? ⟨g, k * 5 + 4, none⟩ = false := by
  obtain ⟨c0, c1, c2, c3, c4⟩ := h.five hk rfl
  exact ⟨⟨_, _, _, _, _, c0, c1, c2, c3, c4⟩, h.frozen _, h.frozen _, h.frozen _, h.frozen _, h.frozen _⟩
theorem Row.put (h : Row w g l) (hk : k < l.length) (p : Pg) : Row (put5 w g (k * 5) p.st p.ex p.wr p.ow p.ep) g (l.set k p) := h.set5 hk p
theorem infoPage : (Try.prog.info? 69).map (·.size) = some 5 := by kernel_rfl
theorem Row.run (h : Row w g l) (hk : k < l.length) (st : Int) (ex wr : Bool) (ow ep : Int) :
    (Instr.storeAt 69 (.pointer (some ⟨g, k * 5, none⟩)) (.agg #[.int .u8 st, .bool ex, .bool wr, .int .u16 ow, .int .u64 ep])).run Try.prog w = .ok () (put5 w g (k * 5) st ex wr ow ep) := by
  refine run_storeAt_mid w g (k * 5) _ _ (fun j hj => ?_) infoPage (by simp [Value.oneCell'])
  refine ⟨?_, h.frozen _⟩
  rw [h.cellj hk (by simpa using hj)]
  simp only [List.size_toArray, List.length_cons, List.length_nil, Nat.zero_add, Nat.reduceAdd] at hj
  rw [List.getElem?_eq_getElem (by simpa [pcs] using hj)]
  rfl
theorem Fr.put {S : Nat → Prop} {a b : World} (h : Fr S a b) (hg : S g ∨ a.heap.size ≤ g) (o : Nat) (st : Int) (ex wr : Bool) (ow ep : Int) : Fr S a (put5 b g o st ex wr ow ep) :=
  ((((h.set (p := ⟨g, o, none⟩) hg _).set (p := ⟨g, o + 1, none⟩) hg _).set (p := ⟨g, o + 1 + 1, none⟩) hg _).set (p := ⟨g, o + 1 + 1 + 1, none⟩) hg _).set (p := ⟨g, o + 1 + 1 + 1 + 1, none⟩) hg _
theorem put_far {p o' : Nat} {o : Nat} {st : Int} {ex wr : Bool} {ow ep : Int} {v : Option Value} (hne : p ≠ g) (hc : w.cell? ⟨p, o', none⟩ = v) : (put5 w g o st ex wr ow ep).cell? ⟨p, o', none⟩ = v := by
  have hf := Fr.put (Fr.refl (fun i => i = g) w) (Or.inl rfl) o st ex wr ow ep
  rcases Nat.lt_or_ge p w.heap.size with h | h
  · rw [← hc]
    exact World.cell?_of_block (hf.block p h hne)
  · rw [← hc]
    have hx : ∀ i, (⟨g, i, none⟩ : Addr) ≠ ⟨p, o', none⟩ := fun i e => hne (congrArg Addr.block e).symm
    unfold put5
    simp only [World.setCells]
    rw [World.cell?_setCell_other _ _ _ _ (hx _), World.cell?_setCell_other _ _ _ _ (hx _), World.cell?_setCell_other _ _ _ _ (hx _), World.cell?_setCell_other _ _ _ _ (hx _), World.cell?_setCell_other _ _ _ _ (hx _)]
theorem Row.of_owns {B n : Nat} {v : Value} (h : w.ownsRow B 69 5 v n (cs l)) (hv : v ≠ .slice none 0 0) : ∃ g c, v = .slice (some ⟨g, 0, none⟩) l.length c ∧ n = l.length ∧ B ≤ g ∧ l.length ≤ c ∧ c ≤ maxLen ∧ Row w g l := by
  have hl := h.1
  rw [cs_len] at hl
  have hn : l.length = n := by omega
  subst hn
  rcases h.2 with ⟨e, _⟩ | ⟨g, cap, cur, e, hg, hcell, hcap, hcm, hsz, hcur⟩
  · exact absurd e (by intro e'; apply hv; rw [e'] )
  · refine ⟨g, cap, e, rfl, hg, hcap, hcm, cur.toList.drop (cs l).length, ?_⟩
    have e2 : (cs l ++ cur.toList.drop (cs l).length).toArray = cur := by
      have h3 : cur.toList.take (cs l).length = cs l := by rw [cs_len]; exact hcur
      conv => lhs; rw [← h3]
      have hle : (cs l).length ≤ cur.toList.length := by
        have h5 : cur.toList.length = cap * 5 := hsz
        rw [cs_len, h5]; omega
      rw [List.length_take, Nat.min_eq_left hle, List.take_append_drop]
    rw [e2]
    exact hcell
end

/-- a table at p, its pages in block g -/
def Tb (w : World) (p g : Nat) (l : List Pg) : Prop := l.length ≤ 256 ∧ Row w g l ∧ ∃ c, l.length ≤ c ∧ c ≤ maxLen ∧ Whole w p 86 #[.slice (some ⟨g, 0, none⟩) l.length c]
section
variable {w w' : World} {p g : Nat} {l : List Pg}
theorem Tb.row (h : Tb w p g l) : Row w g l := h.2.1
theorem Tb.lt (h : Tb w p g l) : g < w.heap.size ∧ p < w.heap.size ∧ p ≠ g := by
  obtain ⟨_, h1, c, _, _, h2⟩ := h
  exact ⟨h1.lt, h2.lt, h1.elim fun r h1 => h2.ne_ h1 (by decide)⟩
theorem Tb.below {B : Nat} (h : Tb w p g l) (hb : Below B w w') (hg : g < B) (hp : p < B) : Tb w' p g l := by
  obtain ⟨h0, h1, c, h3, h4, h2⟩ := h
  exact ⟨h0, h1.below hb hg, c, h3, h4, h2.below hb hp⟩
theorem Tb.belowS (h : Tb w p g l) (hb : Below w.heap.size w w') : Tb w' p g l := h.below hb h.lt.1 h.lt.2.1
theorem Tb.fr {S : Nat → Prop} (h : Tb w p g l) (hb : Fr S w w') (hg : ¬ S g) (hp : ¬ S p) : Tb w' p g l := by
  obtain ⟨h0, h1, c, h3, h4, h2⟩ := h
  exact ⟨h0, h1.fr hb hg, c, h3, h4, h2.fr hb hp⟩
/-- the pages turned, the table's own block kept -/
theorem Tb.turn {S : Nat → Prop} {l' : List Pg} (h : Tb w p g l) (hb : Fr S w w') (hp : ¬ S p) (hl : l'.length = l.length) (hr : Row w' g l') : Tb w' p g l' := by
  obtain ⟨h0, h1, c, h3, h4, h2⟩ := h
  rw [← hl] at h0 h3 h2
  exact ⟨h0, hr, c, h3, h4, h2.fr hb hp⟩
theorem Tb.cell (h : Tb w p g l) : ∃ c, l.length ≤ 256 ∧ l.length ≤ c ∧ c ≤ maxLen ∧ w.cell? ⟨p, 0, none⟩ = some (.slice (some ⟨g, 0, none⟩) l.length c) := by
  obtain ⟨h0, h1, c, h3, h4, h2⟩ := h
  exact ⟨c, h0, h3, h4, h2.cell 0⟩
end
/-- a reference's table: a value -/
def Rt (w : World) (g : Nat) (l : List Pg) (v : Value) : Prop := l.length ≤ 256 ∧ Row w g l ∧ ∃ c, l.length ≤ c ∧ c ≤ maxLen ∧ v = .slice (some ⟨g, 0, none⟩) l.length c
theorem Rt.belowS {w w' : World} {g : Nat} {l : List Pg} {v : Value} (h : Rt w g l v) (hb : Below w.heap.size w w') : Rt w' g l v := ⟨h.1, h.2.1.belowS hb, h.2.2⟩
theorem Rt.fr {S : Nat → Prop} {w w' : World} {g : Nat} {l : List Pg} {v : Value} (h : Rt w g l v) (hb : Fr S w w') (hg : ¬ S g) : Rt w' g l v := ⟨h.1, h.2.1.fr hb hg, h.2.2⟩
end Go.Proofs.Ytkmjacpcpchjoaa.PR
