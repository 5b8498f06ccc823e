/-
  What the law's side needs of the program's table (an interface, for any form that a table may have); the boxes of a call on both. Nothing here is a statement of the seed.
-/
import Derived.Test.YtigalcmhongleaaGtRef8
set_option linter.unusedSimpArgs false
set_option linter.unusedVariables false
namespace Go.Proofs.Ytigalcmhongleaa.GL
open Go.RowKit WM NR OM OR GA GF
set_option maxHeartbeats 4000000
set_option maxRecDepth 10000
/-- a form of tables: its blocks, the world, the value, what it has -/
abbrev Rep := (Nat → Prop) → World → Value → Tb → Prop
/-- what a call that changes the table leaves -/
def Chg (PT : Rep) (S : Nat → Prop) (w : World) (v : Value) (f : Tb) (u : World) : Prop := ∃ S', PT S' u v f ∧ (∀ g, S' g → S g ∨ w.heap.size ≤ g) ∧ Fr S w u
/-- the program's functions, told by a form -/
structure GP (PT : Rep) : Prop where
  lt : ∀ {S u v f}, PT S u v f → ∀ g, S g → g < u.heap.size
  keep : ∀ {S u u' v f}, PT S u v f → u.heap.size ≤ u'.heap.size → (∀ g, S g → u'.heap[g]? = u.heap[g]?) → PT S u' v f
  opn : ∀ {S w v f} (b : Bd), PT S w v f → BdOk b → b.nm.length ≤ 2097152 → Calls Try.prog 13 #[v, bdV b] w fun e u => e = .returned (.tuple #[.int .i64 (openM f b).g, .int .i64 (openM f b).e]) ∧ Chg PT S w v (openM f b).t u
  trn : ∀ {S w v f} (b : Bd), PT S w v f → BdOk b → b.nm.length ≤ 2097152 → Calls Try.prog 14 #[v, bdV b] w fun e u => e = .returned (.tuple #[.int .i64 (turnM f b).g, bdV (turnM f b).b, .int .i64 (turnM f b).e]) ∧ Chg PT S w v (turnM f b).t u
  cls : ∀ {S w v f} (m : List UInt8), PT S w v f → m.length ≤ 2097152 → Calls Try.prog 15 #[v, .string (bs m)] w fun e u => e = .returned (.tuple #[.int .i64 (closeM f m).g, bdV (closeM f m).b, .int .i64 (closeM f m).e]) ∧ Chg PT S w v (closeM f m).t u
  fnd : ∀ {S w v f} (m : List UInt8), PT S w v f → m.length ≤ 2097152 → Calls Try.prog 16 #[v, .string (bs m)] w fun e u => e = .returned (.tuple #[.int .i64 (findM f m).g, bdV (findM f m).b, .int .i64 (findM f m).e]) ∧ Below w.heap.size w u
  get : ∀ {S w v f} (g : Int), PT S w v f → Calls Try.prog 17 #[v, .int .i64 g] w fun e u => e = .returned (bdV (getM f g)) ∧ Below w.heap.size w u
  fre : ∀ {S w v f}, PT S w v f → Calls Try.prog 18 #[v] w fun e u => e = .returned (.int .i64 (freeM f)) ∧ Below w.heap.size w u
  new : ∀ w, Calls Try.prog 9 #[] w fun e u => ∃ S a, e = .returned (.pointer (some a)) ∧ PT S u (.pointer (some a)) zeroT ∧ (∀ g, S g → w.heap.size ≤ g) ∧ Below w.heap.size w u
variable {w w1 u u' : World} {f g : Tb} {ca cx cy cs : Array Value}
abbrev acC (kd : Int) (b : Bd) : Array Value := #[.int .u8 kd, .string (bs b.nm), .int .u16 b.ow, .int .u32 b.bs]
abbrev acV (x : Ac) : Value := .agg (acC x.kind x.b)
/-- the boxes of a call on both: the reference's table, the act, the table told, both binds told; F: what is written since w1 -/
structure QD (w w1 : World) (f : Tb) (ca cx cy : Array Value) (u : World) : Prop where
  R : Whole u w.heap.size 32 (tC f)
  A : Whole u (w.heap.size + 1) 37 ca
  O : Whole u (w.heap.size + 1 + 1) 32 tZ
  X : Whole u (w.heap.size + 1 + 1 + 1) 35 cx
  Y : Whole u (w.heap.size + 1 + 1 + 1 + 1) 29 cy
  F : Fr (fun i => w.heap.size ≤ i ∧ i < w.heap.size + 5) w1 u
theorem QD.belowS (h : QD w w1 f ca cx cy u) (hb : Below u.heap.size u u') : QD w w1 f ca cx cy u' := ⟨h.R.belowS hb, h.A.belowS hb, h.O.belowS hb, h.X.belowS hb, h.Y.belowS hb, h.F.then hb⟩
theorem QD.call {S : Nat → Prop} (h : QD w w1 f ca cx cy u) (hF : Fr S u u') (hS : ∀ g, S g → g < w.heap.size) : QD w u' f ca cx cy u' :=
  ⟨h.R.fr hF (fun hh => by have := hS _ hh; omega), h.A.fr hF (fun hh => by have := hS _ hh; omega), h.O.fr hF (fun hh => by have := hS _ hh; omega), h.X.fr hF (fun hh => by have := hS _ hh; omega), h.Y.fr hF (fun hh => by have := hS _ hh; omega), Fr.refl _ _⟩
theorem putBd_fr (w : World) (p : Nat) (b : Bd) : Fr (fun i => i = p) w (putBd w p b) := (((Fr.refl (fun i => i = p) w).set (p := ⟨p, 0, none⟩) (Or.inl rfl) _).set (p := ⟨p, 1, none⟩) (Or.inl rfl) _).set (p := ⟨p, 2, none⟩) (Or.inl rfl) _
theorem QD.setX (h : QD w w1 f ca cx cy u) (hs : cx.size = 3) (b : Bd) : QD w w1 f ca (bdC b) cy (putBd u (w.heap.size + 1 + 1 + 1) b) :=
  ⟨putBd_far h.R (by omega), putBd_far h.A (by omega), putBd_far h.O (by omega), putBd_whole h.X hs, putBd_far h.Y (by omega), h.F.trans (putBd_fr _ _ _) (fun i hi => Or.inl ⟨by omega, by omega⟩)⟩
theorem QD.setY (h : QD w w1 f ca cx cy u) (hs : cy.size = 3) (b : Bd) : QD w w1 f ca cx (bdC b) (putBd u (w.heap.size + 1 + 1 + 1 + 1) b) :=
  ⟨putBd_far h.R (by omega), putBd_far h.A (by omega), putBd_far h.O (by omega), putBd_far h.X (by omega), putBd_whole h.Y hs, h.F.trans (putBd_fr _ _ _) (fun i hi => Or.inl ⟨by omega, by omega⟩)⟩
theorem QD.setR (h : QD w w1 f ca cx cy u) (g : Tb) : QD w w1 g ca cx cy (putT u w.heap.size g) :=
  ⟨putT_whole h.R rfl g, putT_far h.A (by omega) g, putT_far h.O (by omega) g, putT_far h.X (by omega) g, putT_far h.Y (by omega) g, h.F.trans (putT_fr _ _ _) (fun i hi => Or.inl ⟨by omega, by omega⟩)⟩
theorem QD.new (w : World) (f : Tb) (ca : Array Value) : QD w (((((w.alloc (.cells (tC f) 32)).alloc (.cells ca 37)).alloc (.cells tZ 32)).alloc (.cells #[.string ⟨#[]⟩, .int .u16 0, .int .u32 0] 35)).alloc (.cells #[.string ⟨#[]⟩, .int .u16 0, .int .u32 0] 29)) f ca #[.string ⟨#[]⟩, .int .u16 0, .int .u32 0] #[.string ⟨#[]⟩, .int .u16 0, .int .u32 0] (((((w.alloc (.cells (tC f) 32)).alloc (.cells ca 37)).alloc (.cells tZ 32)).alloc (.cells #[.string ⟨#[]⟩, .int .u16 0, .int .u32 0] 35)).alloc (.cells #[.string ⟨#[]⟩, .int .u16 0, .int .u32 0] 29))
    ∧ Below w.heap.size w (((((w.alloc (.cells (tC f) 32)).alloc (.cells ca 37)).alloc (.cells tZ 32)).alloc (.cells #[.string ⟨#[]⟩, .int .u16 0, .int .u32 0] 35)).alloc (.cells #[.string ⟨#[]⟩, .int .u16 0, .int .u32 0] 29)) ∧ (((((w.alloc (.cells (tC f) 32)).alloc (.cells ca 37)).alloc (.cells tZ 32)).alloc (.cells #[.string ⟨#[]⟩, .int .u16 0, .int .u32 0] 35)).alloc (.cells #[.string ⟨#[]⟩, .int .u16 0, .int .u32 0] 29)).heap.size = w.heap.size + 5 := by
  have b1 := below_new w (.cells (tC f) 32)
  have n1 := Whole.new w 32 (tC f)
  have s1 : (w.alloc (.cells (tC f) 32)).heap.size = w.heap.size + 1 := by simp
  generalize w.alloc (.cells (tC f) 32) = u1 at *
  have b2 := below_new u1 (.cells ca 37)
  have n2 := Whole.new u1 37 ca
  have s2 : (u1.alloc (.cells ca 37)).heap.size = w.heap.size + 1 + 1 := by simp [s1]
  rw [s1] at n2
  generalize u1.alloc (.cells ca 37) = u2 at *
  have b3 := below_new u2 (.cells tZ 32)
  have n3 := Whole.new u2 32 tZ
  have s3 : (u2.alloc (.cells tZ 32)).heap.size = w.heap.size + 1 + 1 + 1 := by simp [s2]
  rw [s2] at n3
  generalize u2.alloc (.cells tZ 32) = u3 at *
  have b4 := below_new u3 (.cells #[.string ⟨#[]⟩, .int .u16 0, .int .u32 0] 35)
  have n4 := Whole.new u3 35 #[.string ⟨#[]⟩, .int .u16 0, .int .u32 0]
  have s4 : (u3.alloc (.cells #[.string ⟨#[]⟩, .int .u16 0, .int .u32 0] 35)).heap.size = w.heap.size + 1 + 1 + 1 + 1 := by simp [s3]
  rw [s3] at n4
  generalize u3.alloc (.cells #[.string ⟨#[]⟩, .int .u16 0, .int .u32 0] 35) = u4 at *
  have b5 := below_new u4 (.cells #[.string ⟨#[]⟩, .int .u16 0, .int .u32 0] 29)
  have n5 := Whole.new u4 29 #[.string ⟨#[]⟩, .int .u16 0, .int .u32 0]
  have s5 : (u4.alloc (.cells #[.string ⟨#[]⟩, .int .u16 0, .int .u32 0] 29)).heap.size = w.heap.size + 5 := by simp [s4]
  rw [s4] at n5
  generalize u4.alloc (.cells #[.string ⟨#[]⟩, .int .u16 0, .int .u32 0] 29) = u5 at *
  exact ⟨⟨(((n1.belowS b2).belowS b3).belowS b4).belowS b5, ((n2.belowS b3).belowS b4).belowS b5, (n3.belowS b4).belowS b5, n4.belowS b5, n5, Fr.refl _ _⟩,
    (((b1.trans (b2.mono (by omega))).trans (b3.mono (by omega))).trans (b4.mono (by omega))).trans (b5.mono (by omega)), s5⟩
/-- what do tells: the reference's table anew, true -/
def IsDo (PT : Rep) (S : Nat → Prop) (w : World) (v : Value) (f : Tb) : Ending → World → Prop := fun e u => e = .returned (.tuple #[tV f, .bool true]) ∧ Chg PT S w v f u
theorem do_post {PT : Rep} (hP : GP PT) {S S' : Nat → Prop} {v : Value} {w0 : World} (hb : Below w.heap.size w w0) (h5 : w0.heap.size = w.heap.size + 5) (hF : Fr S w0 w1) (hp : PT S' w1 v f) (hS' : ∀ g, S' g → S g ∨ w0.heap.size ≤ g) (hS : ∀ g, S g → g < w.heap.size)
    (h : Fr (fun i => w.heap.size ≤ i ∧ i < w.heap.size + 5) w1 u) : IsDo PT S w v f (.returned (.tuple #[tV f, .bool true])) u :=
  ⟨rfl, S', hP.keep hp h.size (fun g hg => h.block g (hP.lt hp g hg) (fun hz => by
    rcases hS' g hg with h1 | h1
    · have := hS g h1; omega
    · omega)), fun g hg => (hS' g hg).imp id (fun h => by omega), (((Fr.of_below hb).trans hF (fun i hi => Or.inl hi))).trans h (fun i hi => Or.inr hi.1)⟩
theorem ac_cells {p : Nat} {t : TypeId} {kd : Int} {b : Bd} (h : Whole u p t (acC kd b)) : u.cell? ⟨p, 0, none⟩ = some (.int .u8 kd) ∧ u.cell? ⟨p, 1, none⟩ = some (.string (bs b.nm)) ∧ u.cell? ⟨p, 2, none⟩ = some (.int .u16 b.ow) ∧ u.cell? ⟨p, 3, none⟩ = some (.int .u32 b.bs) := ⟨h.cell 0, h.cell 1, h.cell 2, h.cell 3⟩
theorem res2 {fn : Func} {tm : Array Value} {p : Nat} {t : TypeId} {y : Bool} (hr : fn.results = #[.cell 6 32, .tmp 7]) (h6 : tm.getD 6 undef = .pointer (some ⟨p, 0, none⟩)) (h7 : tm.getD 7 undef = .bool y)
    (hT : Whole u p t (tC f)) : (results fn tm).run Try.prog u = .ok (.tuple #[tV f, .bool y]) u := by
  have r1 := res_T hT
  unfold results
  rw [hr]
  simp only [Array.mapM_eq_mapM_toList, List.mapM_cons, List.mapM_nil, h6, h7, Sem.run_bind, Sem.run_pure, Result.andThen_ok, asA, r1, map_eq_pure_bind, bind_assoc, pure_bind]
  rfl
end Go.Proofs.Ytigalcmhongleaa.GL
