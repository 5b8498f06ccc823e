/-
  Both tables through many calls; what a list of calls reads as. Nothing here is a statement of the seed.
-/
import Derived.Test.YtigalcmhongleaaGtSame
set_option linter.unusedSimpArgs false
set_option linter.unusedVariables false
namespace Go.Proofs.Ytigalcmhongleaa.GL
open Go.RowKit WM NR OM OR GA GF
set_option maxHeartbeats 4000000
set_option maxRecDepth 10000
abbrev AcAt (u : World) (g o : Nat) (x : Ac) : Prop := u.cell? ⟨g, o, none⟩ = some (.int .u8 x.kind) ∧ u.cell? ⟨g, o + 1, none⟩ = some (.string (bs x.b.nm)) ∧ u.cell? ⟨g, o + 2, none⟩ = some (.int .u16 x.b.ow) ∧ u.cell? ⟨g, o + 3, none⟩ = some (.int .u32 x.b.bs)
def ReadsA (G : Nat → Prop) (w : World) (v : Value) (l : List Ac) : Prop :=
  ∃ a cap, v = .slice a l.length cap ∧ l.length ≤ cap ∧ cap ≤ maxLen ∧
    (l = [] ∨ ∃ g off, a = some ⟨g, off, none⟩ ∧ G g ∧ ∀ j, j < l.length → AcAt w g (off + j * 4) (l.getD j ac0)) ∧ ∀ x ∈ l, AcOk x
theorem ReadsA.len {G : Nat → Prop} {w : World} {a : Option Addr} {n c : Nat} {l : List Ac} (h : ReadsA G w (.slice a n c) l) : l.length = n ∧ n ≤ c ∧ c ≤ maxLen := by
  obtain ⟨a', cap, e, h1, h2, _⟩ := h
  simp only [Value.slice.injEq] at e
  obtain ⟨_, rfl, rfl⟩ := e
  exact ⟨rfl, h1, h2⟩
theorem ReadsA.at {B : Nat} {w : World} {a : Option Addr} {n c : Nat} {l : List Ac} (h : ReadsA (· < B) w (.slice a n c) l) {k : Nat} (hk : k < n) : ∃ g off, a = some ⟨g, off, none⟩ ∧ n ≤ c ∧ g < B ∧ AcOk (l.getD k ac0) ∧ ∀ u, Below B w u → AcAt u g (off + k * 4) (l.getD k ac0) := by
  obtain ⟨a', cap, e, h1, h2, h4, h5⟩ := h
  simp only [Value.slice.injEq] at e
  obtain ⟨rfl, rfl, rfl⟩ := e
  have hm : l.getD k ac0 ∈ l := GA.getD_mem hk
  rcases h4 with h4 | ⟨g, off, rfl, hg, hc⟩
  · rw [h4] at hk; simp at hk
  · obtain ⟨x0, x1, x2, x3⟩ := hc k hk
    exact ⟨g, off, rfl, h1, hg, h5 _ hm, fun u hb => by
      have e := fun o => hb.cell (p := ⟨g, o, none⟩) hg
      exact ⟨(e _).trans x0, (e _).trans x1, (e _).trans x2, (e _).trans x3⟩⟩
/-- the law's two tables on the way: r's box p, the program's table v -/
structure PJ (PT : Rep) (w : World) (p : Nat) (S : Nat → Prop) (u : World) (v : Value) (f : Tb) : Prop where
  Z : Whole u p 32 (tC f)
  P : PT S u v f
  B : Below w.heap.size w u
  SB : ∀ g, S g → w.heap.size ≤ g ∧ g ≠ p
  hp : w.heap.size ≤ p
section
variable {PT : Rep} {w : World} {p : Nat} {S S' : Nat → Prop} {u u' : World} {v : Value} {f g : Tb}
theorem PJ.belowS (hP : GP PT) (h : PJ PT w p S u v f) (hb : Below u.heap.size u u') : PJ PT w p S u' v f := ⟨h.Z.belowS hb, hP.keep h.P hb.size (fun g hg => hb.block g (hP.lt h.P g hg)), h.B.trans (hb.mono h.B.size), h.SB, h.hp⟩
theorem PJ.step (hP : GP PT) (h : PJ PT w p S u v f) (hc : Chg PT S u v g u') : ∃ S', Below w.heap.size w u' ∧ Whole u' p 32 (tC f) ∧ PJ PT w p S' (putT u' p g) v g := by
  obtain ⟨S', hp, hS', hF⟩ := hc
  have hz := h.Z.lt
  have hw := h.B.size
  have nS : ¬ S p := fun hh => (h.SB p hh).2 rfl
  have nS' : ¬ S' p := fun hh => (hS' p hh).elim nS (fun h => by omega)
  have z := h.Z.fr hF nS
  have hB : Below w.heap.size w u' := Below.fr h.B hF h.B.size fun i hi => (h.SB i hi).1
  refine ⟨S', hB, z, putT_whole z rfl g, hP.keep hp (by rw [putT_size]; exact Nat.le_refl _) (fun i hi => (putT_fr u' p g).block i (hP.lt hp i hi) (fun e => nS' (e ▸ hi))), putT_below hB hB.size h.hp g, fun i hi => ⟨?_, fun e => nS' (e ▸ hi)⟩, h.hp⟩
  rcases hS' i hi with h1 | h1
  · exact (h.SB i h1).1
  · omega
/-- a call of both -/
theorem PJ.do_ (hP : GP PT) (h : PJ PT w p S u v f) (x : Ac) (hx : AcOk x) :
    Calls Try.prog 10 #[v, tV f, acV x] u fun e u' => e = .returned (.tuple #[tV (actM f x), .bool true]) ∧ ∃ S', Below w.heap.size w u' ∧ Whole u' p 32 (tC f) ∧ PJ PT w p S' (putT u' p (actM f x)) v (actM f x) :=
  (do_any hP h.P x hx).mono fun e u' he => ⟨he.1, h.step hP he.2⟩
/-- what both tell -/
theorem PJ.same_ (hP : GP PT) (h : PJ PT w p S u v f) : Calls Try.prog 11 #[v, tV f] u fun e u' => e = .returned (.bool true) ∧ Below u.heap.size u u' := same_any hP h.P
/-- a new table and an empty one -/
theorem PJ.zero (hP : GP PT) {w2 : World} (hp : PT S w2 v zeroT) (hS : ∀ g, S g → w.heap.size ≤ g) (hB : Below w.heap.size w w2) : PJ PT w w2.heap.size S (w2.alloc (.cells tZ 32)) v zeroT := by
  have bn := below_new w2 (.cells tZ 32)
  exact ⟨Whole.new _ _ _, hP.keep hp bn.size (fun g hg => bn.block g (hP.lt hp g hg)), hB.trans (bn.mono hB.size), fun g hg => ⟨hS g hg, by have := hP.lt hp g hg; omega⟩, hB.size⟩
end
end Go.Proofs.Ytigalcmhongleaa.GL
