/-
  Eight gates as a function: who stands behind each. Plain mathematics, and how they lie; nothing here is a statement of the seed.
-/
import Derived.Test.YtigalcmhongleaaObjA
import Derived.Test.YtigalcmhongleaaNameM
set_option linter.unusedSimpArgs false
set_option linter.unusedVariables false
namespace Go.Proofs.Ytigalcmhongleaa.GA
open Go.RowKit WM NR OM OR
/-- a version of a module -/
structure Bd where
  nm : List UInt8
  ow : Int
  bs : Int
def b0 : Bd := ⟨[], 0, 0⟩
abbrev Tb := Nat → Bd
def zeroT : Tb := fun _ => b0
def setT (f : Tb) (g : Nat) (b : Bd) : Tb := fun k => if k = g then b else f k
theorem setT_same (f : Tb) (g : Nat) (b : Bd) : setT f g b g = b := if_pos rfl
theorem setT_other {f : Tb} {g k : Nat} {b : Bd} (h : k ≠ g) : setT f g b k = f k := if_neg h
/-- the first of the eight that has p; -1: none has -/
def fst8 (p : Nat → Bool) : Int := match (List.range 8).find? p with
  | some i => (i : Int)
  | none => -1
theorem fst8_yes {p : Nat → Bool} {k : Nat} (hk : k < 8) (h : p k = true) (hb : ∀ j, j < k → p j = false) : fst8 p = k := by
  have : (List.range 8).find? p = some k := by
    rw [List.find?_range_eq_some]
    exact ⟨h, by simpa using hk, fun j hj => by simpa using hb j hj⟩
  unfold fst8
  rw [this]
theorem fst8_no {p : Nat → Bool} (h : ∀ j, j < 8 → p j = false) : fst8 p = -1 := by
  have : (List.range 8).find? p = none := by
    rw [List.find?_eq_none]
    intro x hx
    simpa using h x (by simpa using hx)
  unfold fst8
  rw [this]
theorem fst8_cases (p : Nat → Bool) : (fst8 p = -1 ∧ ∀ j, j < 8 → p j = false) ∨ ∃ k : Nat, k < 8 ∧ fst8 p = (k : Int) ∧ p k = true ∧ ∀ j, j < k → p j = false := by
  unfold fst8
  cases e : (List.range 8).find? p with
  | none =>
    rw [List.find?_eq_none] at e
    exact Or.inl ⟨rfl, fun j hj => by simpa using e j (by simpa using hj)⟩
  | some i =>
    rw [List.find?_range_eq_some] at e
    exact Or.inr ⟨i, by simpa using e.2.1, rfl, e.1, fun j hj => by simpa using e.2.2 j hj⟩
def hasB (f : Tb) (m : List UInt8) (g : Nat) : Bool := decide ((f g).ow ≠ 0) && decide ((f g).nm = m)
def place (f : Tb) (m : List UInt8) : Int := fst8 (hasB f m)
def ownB (f : Tb) (o : Int) : Bool := decide (0 ≤ fst8 fun g => decide ((f g).ow = o))
def firstB (f : Tb) : Int := fst8 fun g => decide ((f g).ow = 0)
/-- what a call leaves, and tells: the table, a gate, what it had, an error -/
structure Rs where
  t : Tb
  g : Int
  b : Bd
  e : Int
def openM (f : Tb) (b : Bd) : Rs :=
  if NM.chk b.nm ≠ 0 then ⟨f, 0, b0, 6⟩ else if b.ow = 0 ∨ b.bs = 0 then ⟨f, 0, b0, 2⟩ else if 0 ≤ place f b.nm ∨ ownB f b.ow = true then ⟨f, 0, b0, 9⟩
  else if 0 ≤ firstB f then ⟨setT f (firstB f).toNat b, firstB f, b0, 0⟩ else ⟨f, 0, b0, 28⟩
def turnM (f : Tb) (b : Bd) : Rs :=
  if b.ow = 0 ∨ b.bs = 0 then ⟨f, 0, b0, 2⟩ else if place f b.nm < 0 then ⟨f, 0, b0, 8⟩ else if ownB f b.ow = true then ⟨f, 0, b0, 9⟩
  else ⟨setT f (place f b.nm).toNat b, place f b.nm, f (place f b.nm).toNat, 0⟩
def findM (f : Tb) (m : List UInt8) : Rs := if place f m < 0 then ⟨f, 0, b0, 8⟩ else ⟨f, place f m, f (place f m).toNat, 0⟩
def closeM (f : Tb) (m : List UInt8) : Rs := if place f m < 0 then ⟨f, 0, b0, 8⟩ else ⟨setT f (place f m).toNat b0, place f m, f (place f m).toNat, 0⟩
def getM (f : Tb) (g : Int) : Bd := if 0 ≤ g ∧ g ≤ 7 then f g.toNat else b0
def freeF (f : Tb) (k : Nat) : Int := (((List.range k).filter fun g => decide ((f g).ow = 0)).length : Nat)
def freeM (f : Tb) : Int := freeF f 8
/-- a call -/
structure Ac where
  kind : Int
  b : Bd
def ac0 : Ac := ⟨0, b0⟩
def actR (f : Tb) (x : Ac) : Rs := if x.kind % 5 = 2 then turnM f x.b else if x.kind % 5 = 3 then closeM f x.b.nm else if x.kind % 5 = 4 then findM f x.b.nm else openM f x.b
def actM (f : Tb) (x : Ac) : Tb := (actR f x).t
def runM (f : Tb) (l : List Ac) : Tb := l.foldl actM f
theorem take_succ' {α : Type} {d : α} (l : List α) (k : Nat) (h : k < l.length) : l.take (k + 1) = l.take k ++ [l.getD k d] := by
  rw [List.take_add_one, List.getD_eq_getElem?_getD, List.getElem?_eq_getElem h]
  rfl
theorem run_take (f : Tb) (l : List Ac) (k : Nat) (h : k < l.length) : runM f (l.take (k + 1)) = actM (runM f (l.take k)) (l.getD k ac0) := by
  rw [take_succ' (d := ac0) l k h]
  simp [runM]
theorem getD_mem {α : Type} {d : α} {l : List α} {k : Nat} (h : k < l.length) : l.getD k d ∈ l := by
  rw [List.getD_eq_getElem?_getD, List.getElem?_eq_getElem h]
  exact List.getElem_mem h
theorem free_zero (f : Tb) : freeF f 0 = 0 := rfl
theorem free_succ (f : Tb) (k : Nat) : freeF f (k + 1) = if (f k).ow = 0 then freeF f k + 1 else freeF f k := by
  unfold freeF
  rw [List.range_succ, List.filter_append]
  by_cases h : (f k).ow = 0
  · rw [if_pos h]; simp [h]
  · rw [if_neg h]; simp [h]
theorem free_bd (f : Tb) (k : Nat) : 0 ≤ freeF f k ∧ freeF f k ≤ k := by
  unfold freeF
  have := List.length_filter_le (fun g => decide ((f g).ow = 0)) (List.range k)
  rw [List.length_range] at this
  omega
/-! a bind and eight of them, as they lie -/
structure BdOk (b : Bd) : Prop where
  ow : 0 ≤ b.ow ∧ b.ow ≤ 65535
  bs : 0 ≤ b.bs ∧ b.bs ≤ 4294967295
abbrev bdV (b : Bd) : Value := .agg #[.string (bs b.nm), .int .u16 b.ow, .int .u32 b.bs]
abbrev bdC (b : Bd) : Array Value := #[.string (bs b.nm), .int .u16 b.ow, .int .u32 b.bs]
def tC (f : Tb) : Array Value := #[.string (bs (f 0).nm), .int .u16 (f 0).ow, .int .u32 (f 0).bs, .string (bs (f 1).nm), .int .u16 (f 1).ow, .int .u32 (f 1).bs, .string (bs (f 2).nm), .int .u16 (f 2).ow, .int .u32 (f 2).bs, .string (bs (f 3).nm), .int .u16 (f 3).ow, .int .u32 (f 3).bs, .string (bs (f 4).nm), .int .u16 (f 4).ow, .int .u32 (f 4).bs, .string (bs (f 5).nm), .int .u16 (f 5).ow, .int .u32 (f 5).bs, .string (bs (f 6).nm), .int .u16 (f 6).ow, .int .u32 (f 6).bs, .string (bs (f 7).nm), .int .u16 (f 7).ow, .int .u32 (f 7).bs]
abbrev tZ : Array Value := #[.string ⟨#[]⟩, .int .u16 0, .int .u32 0, .string ⟨#[]⟩, .int .u16 0, .int .u32 0, .string ⟨#[]⟩, .int .u16 0, .int .u32 0, .string ⟨#[]⟩, .int .u16 0, .int .u32 0, .string ⟨#[]⟩, .int .u16 0, .int .u32 0, .string ⟨#[]⟩, .int .u16 0, .int .u32 0, .string ⟨#[]⟩, .int .u16 0, .int .u32 0, .string ⟨#[]⟩, .int .u16 0, .int .u32 0]
theorem tZ_eq : tC zeroT = tZ := rfl
abbrev tV (f : Tb) : Value := .agg (tC f)
theorem tC_size (f : Tb) : (tC f).size = 24 := rfl
theorem below8 {k : Nat} (h : k < 8) : k = 0 ∨ k = 1 ∨ k = 2 ∨ k = 3 ∨ k = 4 ∨ k = 5 ∨ k = 6 ∨ k = 7 := by omega
theorem tC_at (f : Tb) {g : Nat} (hg : g < 8) : (tC f)[g * 3]? = some (.string (bs (f g).nm)) ∧ (tC f)[g * 3 + 1]? = some (.int .u16 (f g).ow) ∧ (tC f)[g * 3 + 2]? = some (.int .u32 (f g).bs) := by
  rcases below8 hg with rfl | rfl | rfl | rfl | rfl | rfl | rfl | rfl <;> exact ⟨rfl, rfl, rfl⟩
theorem tC_set (f : Tb) {g : Nat} (hg : g < 8) (b : Bd) : (((tC f).setIfInBounds (g * 3) (.string (bs b.nm))).setIfInBounds (g * 3 + 1) (.int .u16 b.ow)).setIfInBounds (g * 3 + 2) (.int .u32 b.bs) = tC (setT f g b) := by
  rcases below8 hg with rfl | rfl | rfl | rfl | rfl | rfl | rfl | rfl <;> rfl
section
variable {w u : World} {p : Nat} {t : TypeId} {f : Tb}
theorem box_at (h : Whole u p t (tC f)) {g : Nat} (hg : g < 8) : u.cell? ⟨p, g * 3, none⟩ = some (.string (bs (f g).nm)) ∧ u.cell? ⟨p, g * 3 + 1, none⟩ = some (.int .u16 (f g).ow) ∧ u.cell? ⟨p, g * 3 + 2, none⟩ = some (.int .u32 (f g).bs) := by
  obtain ⟨x0, x1, x2⟩ := tC_at f hg
  exact ⟨(h.cell _).trans x0, (h.cell _).trans x1, (h.cell _).trans x2⟩
theorem box_set (h : Whole u p t (tC f)) {g : Nat} (hg : g < 8) (b : Bd) : Whole (((u.setCell ⟨p, g * 3, none⟩ (.string (bs b.nm))).setCell ⟨p, g * 3 + 1, none⟩ (.int .u16 b.ow)).setCell ⟨p, g * 3 + 2, none⟩ (.int .u32 b.bs)) p t (tC (setT f g b)) := by
  have := ((h.set_ (g * 3) (.string (bs b.nm))).set_ (g * 3 + 1) (.int .u16 b.ow)).set_ (g * 3 + 2) (.int .u32 b.bs)
  rwa [tC_set f hg b] at this
theorem bd_cells {b : Bd} (h : Whole u p t (bdC b)) : u.cell? ⟨p, 0, none⟩ = some (.string (bs b.nm)) ∧ u.cell? ⟨p, 1, none⟩ = some (.int .u16 b.ow) ∧ u.cell? ⟨p, 2, none⟩ = some (.int .u32 b.bs) := ⟨h.cell 0, h.cell 1, h.cell 2⟩
/-- a whole table laid into its box -/
def putT (w : World) (p : Nat) (f : Tb) : World := w.setCells p 0 (tC f).toList
theorem infoT : (Try.prog.info? 32).map (·.size) = some 24 := by kernel_rfl
theorem putT_size (w : World) (p : Nat) (f : Tb) : (putT w p f).heap.size = w.heap.size := by simp [putT, tC, World.setCells]
theorem putT_fr (w : World) (p : Nat) (f : Tb) : Fr (fun i => i = p) w (putT w p f) := by
  have : ∀ (l : List Value) (o : Nat) (u : World), Fr (fun i => i = p) w u → Fr (fun i => i = p) w (u.setCells p o l) := by
    intro l
    induction l with
    | nil => intro o u h; exact h
    | cons x l ih => intro o u h; exact ih (o + 1) _ (h.set (p := ⟨p, o, none⟩) (Or.inl rfl) x)
  exact this _ 0 w (Fr.refl _ _)
end
end Go.Proofs.Ytigalcmhongleaa.GA
