/-
  Slices that are only read, told by what they read as: over any program. Frames: which blocks a call may turn. Nothing here is a statement of the seed.
-/
import Derived.Test.YtegcekniolajeaaProg
import Derived.Test.YtegcekniolajeaaAllocTree
import Derived.WalkKit
import Derived.WalkSmall
import Derived.BigQuiet
import Derived.Deep.QuietTactic
import Derived.Lib.Hide
import Derived.Lib.OthersKept
import Derived.Laws.AppendOwn
import Derived.Laws.AppendOwnNone
import Derived.Laws.OwnMore
set_option linter.unusedSimpArgs false
set_option linter.unusedVariables false
namespace Go.Proofs.Ytegcekniolajeaa.NR
open Go.RowKit

theorem ret_bool {a b : Bool} (h : a = b) : Ending.returned (.bool a) = .returned (.bool b) := by rw [h]
theorem ret_int {k : IntKind} {a b : Int} (h : a = b) : Ending.returned (.int k a) = .returned (.int k b) := by rw [h]
def bls (l : List Bool) : List Value := l.map Value.bool
def i64s (l : List Int) : List Value := l.map (Value.int .i64)
def n64s (l : List Nat) : List Value := l.map fun (n : Nat) => Value.int .i64 (n : Int)
theorem bls_len (l : List Bool) : (bls l).length = l.length := by simp [bls]
theorem i64s_len (l : List Int) : (i64s l).length = l.length := by simp [i64s]
theorem n64s_len (l : List Nat) : (n64s l).length = l.length := by simp [n64s]
theorem bls_at (l : List Bool) (j : Nat) (h : j < l.length) : (bls l)[j]? = some (.bool l[j]) := by simp [bls, h]
theorem i64s_at (l : List Int) (j : Nat) (h : j < l.length) : (i64s l)[j]? = some (.int .i64 l[j]) := by simp [i64s, h]
theorem n64s_at (l : List Nat) (j : Nat) (h : j < l.length) : (n64s l)[j]? = some (.int .i64 (l[j] : Int)) := by simp [n64s, h]
theorem bls_one (l : List Bool) : ∀ u ∈ bls l, u.oneCell' = true := by
  intro u hu
  obtain ⟨_, _, rfl⟩ := List.mem_map.1 hu
  rfl
theorem i64s_one (l : List Int) : ∀ u ∈ i64s l, u.oneCell' = true := by
  intro u hu
  obtain ⟨_, _, rfl⟩ := List.mem_map.1 hu
  rfl
theorem bls_set (l : List Bool) (k : Nat) (b : Bool) : (bls l).set k (.bool b) = bls (l.set k b) := by simp [bls, List.map_set]
theorem n64s_set (l : List Nat) (k b : Nat) : (n64s l).set k (.int .i64 (b : Int)) = n64s (l.set k b) := by simp [n64s, List.map_set]
/-- a call tells a value, and nothing that was there turns -/
def Says (P : Program) (f : FuncId) (args : Array Value) (v : Value) : Prop := ∀ w : World, Calls P f args w fun e w' => e = .returned v ∧ Below w.heap.size w w'
/-- so it does in the worlds in which X holds -/
def SaysIf (P : Program) (X : World → Prop) (f : FuncId) (args : Array Value) (v : Value) : Prop := ∀ w : World, X w → Calls P f args w fun e w' => e = .returned v ∧ Below w.heap.size w w'
theorem bcell {W w1 : World} (hb : Below W.heap.size W w1) : (∀ b o, b < W.heap.size → w1.cell? ⟨b, o, none⟩ = W.cell? ⟨b, o, none⟩) ∧ (∀ b o, b < W.heap.size → w1.frozen? ⟨b, o, none⟩ = W.frozen? ⟨b, o, none⟩) :=
  ⟨fun b o h => hb.cell (p := ⟨b, o, none⟩) h, fun b o h => hb.frozen (p := ⟨b, o, none⟩) h⟩

/-- the slice v reads as these cells, in blocks of which G holds -/
def Reads (G : Nat → Prop) (w : World) (v : Value) (xs : List Value) : Prop :=
  ∃ a cap, v = .slice a xs.length cap ∧ xs.length ≤ cap ∧ cap ≤ maxLen ∧ (a = none → cap = 0) ∧
    (xs = [] ∨ ∃ g off, a = some ⟨g, off, none⟩ ∧ G g ∧ ∀ j, j < xs.length → w.cell? ⟨g, off + j, none⟩ = xs[j]?)
section
variable {G : Nat → Prop} {w w' : World} {v : Value} {xs : List Value}
theorem Reads.keep (h : Reads G w v xs) (hk : ∀ g, G g → g < w.heap.size → w'.heap[g]? = w.heap[g]?) : Reads G w' v xs := by
  obtain ⟨a, cap, e, h1, h2, h3, h4⟩ := h
  refine ⟨a, cap, e, h1, h2, h3, ?_⟩
  rcases h4 with h4 | ⟨g, off, ea, hg, hc⟩
  · exact Or.inl h4
  · by_cases h0 : xs = []
    · exact Or.inl h0
    · refine Or.inr ⟨g, off, ea, hg, fun j hj => ?_⟩
      have hc0 := hc j hj
      rw [List.getElem?_eq_getElem hj] at hc0
      have hlt := World.block_lt_of_cell? w _ hc0
      rw [World.cell?_of_block (w := w) (a := ⟨g, off + j, none⟩) (hk g hg hlt)]
      exact hc j hj
theorem Reads.mono {G' : Nat → Prop} (h : Reads G w v xs) (hG : ∀ g, G g → G' g) : Reads G' w v xs := by
  obtain ⟨a, cap, e, h1, h2, h3, h4⟩ := h
  refine ⟨a, cap, e, h1, h2, h3, ?_⟩
  rcases h4 with h4 | ⟨g, off, ea, hg, hc⟩
  · exact Or.inl h4
  · exact Or.inr ⟨g, off, ea, hG g hg, hc⟩
/-- it lies among the blocks that are there -/
theorem Reads.there (h : Reads G w v xs) : Reads (fun g => G g ∧ g < w.heap.size) w v xs := by
  obtain ⟨a, cap, e, h1, h2, h3, h4⟩ := h
  refine ⟨a, cap, e, h1, h2, h3, ?_⟩
  rcases h4 with h4 | ⟨g, off, ea, hg, hc⟩
  · exact Or.inl h4
  · by_cases h0 : xs = []
    · exact Or.inl h0
    · refine Or.inr ⟨g, off, ea, ⟨hg, ?_⟩, hc⟩
      have hj : 0 < xs.length := List.length_pos_iff.2 h0
      have hc0 := hc 0 hj
      rw [List.getElem?_eq_getElem hj] at hc0
      exact World.block_lt_of_cell? w _ hc0
theorem Reads.drewN (h : Reads G w v xs) (n : Nat) : Reads G (w.drewN n) v xs := h.keep fun _ _ _ => rfl
theorem Reads.alloc (h : Reads G w v xs) (o : Obj) : Reads G (w.alloc o) v xs := h.keep fun g _ hg => Below.heap_alloc w o g hg
theorem Reads.below {B : Nat} (h : Reads (· < B) w v xs) (hb : Below B w w') : Reads (· < B) w' v xs := h.keep fun g hg _ => hb.block g hg
theorem Reads.of_owns {B : Nat} {e : TypeId} {n : Nat} (h : w.ownsRow B e 1 v n xs) : Reads (fun g => B ≤ g ∧ v.ownBlock = some g) w v xs := by
  have hl : xs.length = n := by simpa using h.1
  rcases h.2 with ⟨rfl, h0⟩ | ⟨g, cap, cur, rfl, hg, hcell, hcap, hcm, hsz, hcur⟩
  · have hx : xs = [] := List.length_eq_zero_iff.1 (by omega)
    subst hx
    exact ⟨none, 0, rfl, Nat.le_refl _, by simp [maxLen], fun _ => rfl, Or.inl rfl⟩
  · subst hl
    refine ⟨_, cap, rfl, hcap, hcm, (fun h => by cases h), Or.inr ⟨g, 0, rfl, ⟨hg, rfl⟩, fun j hj => ?_⟩⟩
    rw [Nat.zero_add]
    exact h.cellAt j (by simpa using hj)
theorem Reads.nil (G : Nat → Prop) (w : World) : Reads G w (.slice none 0 0) [] := ⟨none, 0, rfl, Nat.le_refl _, by simp [maxLen], fun _ => rfl, Or.inl rfl⟩
/-- what a slice of n is like -/
theorem Reads.shape (h : Reads G w v xs) : ∃ a cap, v = .slice a xs.length cap ∧ xs.length ≤ cap ∧ cap ≤ maxLen := by
  obtain ⟨a, cap, e, h1, h2, _⟩ := h
  exact ⟨a, cap, e, h1, h2⟩
theorem Reads.form (h : Reads G w v xs) : ∃ a n c, v = .slice a n c := by
  obtain ⟨a, cap, e, _⟩ := h
  exact ⟨a, _, cap, e⟩
theorem Reads.cells (h : Reads G w v xs) (h0 : xs ≠ []) : ∃ g off cap, v = .slice (some ⟨g, off, none⟩) xs.length cap ∧ G g ∧ xs.length ≤ cap ∧ cap ≤ maxLen ∧ ∀ j, j < xs.length → w.cell? ⟨g, off + j, none⟩ = xs[j]? := by
  obtain ⟨a, cap, e, h1, h2, h3, h4⟩ := h
  rcases h4 with h4 | ⟨g, off, ea, hg, hc⟩
  · exact absurd h4 h0
  · subst ea
    exact ⟨g, off, cap, e, hg, h1, h2, hc⟩
end

section
variable {P : Program} {G : Nat → Prop} {w : World} {v : Value} {xs : List Value} {t : TypeId}
/-- a piece of it -/
theorem Reads.sub (h : Reads G w v xs) (lo hi : Nat) (h1 : lo ≤ hi) (h2 : hi ≤ xs.length) (cap : Nat) (a : Option Addr) (hv : v = .slice a xs.length cap) :
    Reads G w (sliced a lo hi cap 1) ((xs.take hi).drop lo) := by
  obtain ⟨a', cap', e, h3, h4, h5, h6⟩ := h
  rw [hv] at e
  simp only [Value.slice.injEq, true_and] at e
  obtain ⟨rfl, rfl⟩ := e
  have hl : ((xs.take hi).drop lo).length = hi - lo := by rw [List.length_drop, List.length_take, Nat.min_eq_left h2]
  refine ⟨_, cap - lo, by rw [hl]; rfl, by rw [hl]; omega, by omega, ?_, ?_⟩
  · intro hn
    split at hn
    · omega
    · cases a with
      | none => have := h5 rfl; omega
      | some p => cases hn
  · by_cases h0 : lo = hi
    · exact Or.inl (List.length_eq_zero_iff.1 (by omega))
    · refine Or.inr ?_
      rcases h6 with h6 | ⟨g, off, ea, hg, hc⟩
      · subst h6; simp at h2; omega
      · subst ea
        refine ⟨g, off + lo, ?_, hg, fun j hj => ?_⟩
        · rw [if_neg (by omega), Nat.mul_one]
          simp only [Option.map_some, Option.some.injEq]
          unfold Addr.add
          split
          · subst_vars; simp
          · rfl
        · rw [Nat.add_assoc, hc (lo + j) (by omega), List.getElem?_drop, List.getElem?_take_of_lt (by omega)]
theorem Reads.drop (h : Reads G w v xs) (ht : P.underlying t = some (.slice (P.elem t))) (hz : ∀ u, (sizeOf (P.elem t)).run P u = .ok 1 u) (k : Nat) (hk : k ≤ xs.length) :
    ∃ v', (∀ (K : IntKind) (u : World), (Instr.slice t v (some (.int K (k : Int))) none none).run P u = .ok v' u) ∧ Reads G w v' (xs.drop k) := by
  have h' := h
  obtain ⟨a, cap, rfl, h1, _⟩ := h
  refine ⟨sliced a k xs.length cap 1, fun K u => ?_, ?_⟩
  · rw [run_slice_l (P := P) u t a xs.length cap ht K (k : Int) (by omega) (by omega), hz]
    rfl
  · have := Reads.sub h' k xs.length hk (Nat.le_refl _) cap a rfl
    rwa [List.take_length] at this
theorem Reads.take (h : Reads G w v xs) (ht : P.underlying t = some (.slice (P.elem t))) (hz : ∀ u, (sizeOf (P.elem t)).run P u = .ok 1 u) (k : Nat) (hk : k ≤ xs.length) :
    ∃ v', (∀ (K : IntKind) (u : World), (Instr.slice t v none (some (.int K (k : Int))) none).run P u = .ok v' u) ∧ Reads G w v' (xs.take k) := by
  have h' := h
  obtain ⟨a, cap, rfl, h1, _⟩ := h
  refine ⟨sliced a 0 k cap 1, fun K u => ?_, ?_⟩
  · rw [run_slice_h (P := P) u t a xs.length cap ht K (k : Int) (by omega) (by omega), hz]
    rfl
  · have := Reads.sub h' 0 k (by omega) hk cap a rfl
    rwa [List.drop_zero] at this
theorem Reads.cut (h : Reads G w v xs) (ht : P.underlying t = some (.slice (P.elem t))) (hz : ∀ u, (sizeOf (P.elem t)).run P u = .ok 1 u) (lo hi : Nat) (hl : lo ≤ hi) (hk : hi ≤ xs.length) :
    ∃ v', (∀ (K K' : IntKind) (u : World), (Instr.slice t v (some (.int K (lo : Int))) (some (.int K' (hi : Int))) none).run P u = .ok v' u) ∧ Reads G w v' ((xs.take hi).drop lo) := by
  have h' := h
  obtain ⟨a, cap, rfl, h1, _⟩ := h
  refine ⟨sliced a lo hi cap 1, fun K K' u => ?_, ?_⟩
  · rw [run_slice_lh (P := P) u t a xs.length cap ht K K' (lo : Int) (hi : Int) (by omega) (by omega) (by omega), hz]
    rfl
  · exact Reads.sub h' lo hi hl hk cap a rfl
end

/-! frames -/
theorem grown_refl (w : World) (row : Option Nat) : w.grownBy w row := ⟨rfl, rfl, rfl, Nat.le_refl _, fun _ _ _ => rfl⟩
theorem grown_trans {a b c : World} {row : Option Nat} (h : a.grownBy b row) (k : b.grownBy c row) : a.grownBy c row :=
  ⟨k.os.trans h.os, k.tape.trans h.tape, k.output.trans h.output, Nat.le_trans h.size k.size, fun i hi hr => (k.block i (Nat.lt_of_lt_of_le hi h.size) hr).trans (h.block i hi hr)⟩
theorem grown_below {a b : World} (row : Option Nat) (h : Below a.heap.size a b) : a.grownBy b row := ⟨h.os, h.tape, h.output, h.size, fun k hk _ => h.block k hk⟩
/-- behind a call that made memory, and turned one block at the most -/
theorem grown_then {a b c : World} {row : Option Nat} (h : a.grownBy b row) (k : Below a.heap.size b c) : a.grownBy c row :=
  ⟨k.os.trans h.os, k.tape.trans h.tape, k.output.trans h.output, Nat.le_trans h.size k.size, fun i hi hr => (k.block i hi).trans (h.block i hi hr)⟩
theorem below_then {a b c : World} {B p : Nat} (h : Below B a b) (k : b.grownBy c (some p)) (hp : B ≤ p) (hB : B ≤ b.heap.size) : Below B a c :=
  h.trans ⟨k.os, k.tape, k.output, k.size, fun i hi => k.block i (by omega) (fun e => by have := Option.some.inj e; omega)⟩
theorem below_of {w0 a b : World} (h : Below w0.heap.size w0 a) (k : Below a.heap.size a b) : Below w0.heap.size w0 b := h.trans (k.mono h.size)
theorem below_new (w : World) (o : Obj) : Below w.heap.size w (w.alloc o) := (Below.refl _ _).alloc (Nat.le_refl _) o
theorem owns_below {w w' : World} {B : Nat} {e : TypeId} {size n : Nat} {v : Value} {xs : List Value} (h : w.ownsRow B e size v n xs) (k : Below w.heap.size w w') : w'.ownsRow B e size v n xs :=
  h.kept (grown_below none k) (by cases hv : v.ownBlock <;> simp)
theorem owns_base {w : World} {B B' : Nat} {e : TypeId} {size n : Nat} {v : Value} {xs : List Value} (h : w.ownsRow B e size v n xs) (hB : B' ≤ B) : w.ownsRow B' e size v n xs := by
  obtain ⟨h1, h2⟩ := h
  refine ⟨h1, ?_⟩
  rcases h2 with h2 | ⟨g, cap, cur, e, hg, h3⟩
  · exact Or.inl h2
  · exact Or.inr ⟨g, cap, cur, e, Nat.le_trans hB hg, h3⟩
theorem wpList_append_reads {P : Program} (w : World) {ops : Array Oper} {rest : List Oper} {o : Oper} {a : Act} {Q : Exit → Act → World → Prop} (hgd : o.guard = none) (s x : Operand) (t : TypeId)
    (ho : o.op = .call { callee := .builtin .append, args := #[s, x], argTypes := #[t, t] })
    (base : Nat) (e : TypeId) (i : TypeInfo) (z : Value) (bytes : Nat) (ht : P.underlying t = some (.slice e)) (hi : P.info? e = some i) (hz : i.zero = some z)
    (hsize : i.size = 1) (hby : i.bytes = bytes) (hzs : z.cells.size = 1)
    (v : Value) (n : Nat) (xs : List Value) (hs : a.eval s = v) (hown : w.ownsRow base e 1 v n xs)
    (G : Nat → Prop) (v2 : Value) (ys : List Value) (hx : a.eval x = v2) (hr : Reads G w v2 ys) (h1 : ∀ u ∈ ys, u.oneCell' = true)
    (h63 : n + ys.length ≤ maxLen) (hbytes : (n + ys.length) * bytes ≤ 140737488355328) (hbase : base ≤ w.heap.size)
    (h : ∀ v' w', w'.ownsRow base e 1 v' (n + ys.length) (xs ++ ys) → w.grownBy w' v.ownBlock → wpList P ops Q rest (a.put o.dst v') w') : wpList P ops Q (o :: rest) a w := by
  obtain ⟨ao, cap, rfl, h2, h3, h4, h5⟩ := hr
  cases ao with
  | none =>
    have hc := h4 rfl
    subst hc
    have hy : ys = [] := List.length_eq_zero_iff.1 (by omega)
    subst hy
    refine wpList_append_own_none hgd s x t ho base e i 1 ht hi v n xs hs hown hx ?_
    exact h v w (by simpa using hown) ⟨rfl, rfl, rfl, Nat.le_refl _, fun _ _ _ => rfl⟩
  | some p =>
    have hcells : ∀ j u, ys[j]? = some u → w.cell? (p.add j) = some u := by
      intro j u hj
      have hlt := (List.getElem?_eq_some_iff.1 hj).1
      rcases h5 with h5 | ⟨g, off, ea, hg, hc⟩
      · rw [h5] at hj; simp at hj
      · obtain rfl := Option.some.inj ea
        rw [Addr.add_lit, hc j hlt, hj]
    exact wpList_append_own w hgd s x t ho base e i z 1 bytes ht hi hz hsize hby hzs (by decide) v n xs hs hown p ys.length cap ys hx (by simp) hcells h1 h63 hbytes hbase (fun v' w' g1 g2 _ => h v' w' g1 g2)
end Go.Proofs.Ytegcekniolajeaa.NR
