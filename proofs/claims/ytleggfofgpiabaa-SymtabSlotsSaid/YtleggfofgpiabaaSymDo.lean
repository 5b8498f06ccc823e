/-
  One call of the program's table and of the reference's: both leave the same. Nothing here is a statement of the seed.
-/
import Derived.Test.YtleggfofgpiabaaSymProg
import Derived.Test.YtleggfofgpiabaaSymAdd
import Derived.Test.YtleggfofgpiabaaSymCnt
set_option linter.unusedSimpArgs false
set_option linter.unusedVariables false
namespace Go.Proofs.Ytleggfofgpiabaa.SP
open Go.RowKit WM NR OM OR SM SR SF
set_option maxHeartbeats 4000000
set_option maxRecDepth 10000
/-- what an act leaves, and what it tells -/
def actM (t : Tb) (x : Ac) : Tb × Int := if x.kind % 5 = 2 then removeM t x.nm else if x.kind % 5 = 3 then countM t x.ns 1 else if x.kind % 5 = 4 then countM t x.ns (-1) else addM t x.nm x.gate x.ns
theorem good_act {t : Tb} (h : SM.Good t) (x : Ac) : SM.Good (actM t x).1 := by
  unfold actM
  split
  · exact good_remove h _
  · split
    · exact good_count h _ _ (Or.inl rfl)
    · split
      · exact good_count h _ _ (Or.inr rfl)
      · exact good_add h _ _ _
theorem act_size (t : Tb) (x : Ac) : (actM t x).1.mods.length ≤ t.mods.length + 1 ∧ (actM t x).1.L.length ≤ t.L.length + 8 := by
  unfold actM
  split
  · have := remove_size t x.nm; omega
  · split
    · have := count_size t x.ns 1; omega
    · split
      · have := count_size t x.ns (-1); omega
      · exact add_size t x.nm x.gate x.ns
theorem chk_size {l : List UInt8} (h : NM.chk l = 0) : l.length ≤ 2097152 := by have := NM.chk_short l h; omega
/-- both tables, the same in one and the other; G: where the reference's rows lie -/
structure Duo (G S : Nat → Prop) (u : World) (v : Value) (ma : Option Addr) (mn mc : Nat) (la : Option Addr) (ln lc : Nat) (t : Tb) : Prop where
  P : PT S u v t
  R : RdT G u ma mn mc la ln lc t
  GS : ∀ g, G g → ¬ S g ∧ g < u.heap.size
theorem Duo.belowS {G S : Nat → Prop} {u u' : World} {v : Value} {ma : Option Addr} {mn mc : Nat} {la : Option Addr} {ln lc : Nat} {t : Tb} (h : Duo G S u v ma mn mc la ln lc t) (hb : Below u.heap.size u u') : Duo G S u' v ma mn mc la ln lc t :=
  ⟨h.P.keep hb.size fun g hg => hb.block g (h.P.lt g hg), h.R.keep fun g hg _ => hb.block g (h.GS g hg).2, fun g hg => ⟨(h.GS g hg).1, Nat.lt_of_lt_of_le (h.GS g hg).2 hb.size⟩⟩
/-- a store elsewhere -/
theorem Duo.far {G S : Nat → Prop} {u : World} {v : Value} {ma : Option Addr} {mn mc : Nat} {la : Option Addr} {ln lc : Nat} {t : Tb} (h : Duo G S u v ma mn mc la ln lc t) {p : Addr} (hS : ¬ S p.block) (hG : ¬ G p.block) (y : Value) : Duo G S (u.setCell p y) v ma mn mc la ln lc t :=
  ⟨h.P.keep (by simp) fun g hg => Below.heap_setCell _ _ _ _ (fun e => hS (e ▸ hg)), h.R.keep fun g hg _ => Below.heap_setCell _ _ _ _ (fun e => hG (e ▸ hg)), fun g hg => ⟨(h.GS g hg).1, by simpa using (h.GS g hg).2⟩⟩
theorem four_cells {w : World} {b : Nat} {t : TypeId} {x0 x1 x2 x3 : Value} (h : Whole w b t #[x0, x1, x2, x3]) : w.cell? ⟨b, 0, none⟩ = some x0 ∧ w.cell? ⟨b, 1, none⟩ = some x1 ∧ w.cell? ⟨b, 2, none⟩ = some x2 ∧ w.cell? ⟨b, 3, none⟩ = some x3 := ⟨h.cell 0, h.cell 1, h.cell 2, h.cell 3⟩
/-- what do tells: the reference's table anew, true -/
def IsDo (G S : Nat → Prop) (w : World) (v : Value) (t : Tb) : Ending → World → Prop := fun e u => ∃ ma mn mc la ln lc G' S', e = .returned (.tuple #[tbV ma mn mc la ln lc, .bool true]) ∧ Duo G' S' u v ma mn mc la ln lc t ∧ (∀ g, S' g → S g ∨ w.heap.size ≤ g) ∧ (∀ g, G' g → G g ∨ w.heap.size ≤ g) ∧ Fr S w u
/-- the end of each way: the reference's table is laid in its box, told, and laid in the result's -/
theorem do_post {G S S' : Nat → Prop} {w u2 u3 : World} {v : Value} {t' : Tb} {ma : Option Addr} {mn mc : Nat} {la : Option Addr} {ln lc : Nat} (hP : PT S' u2 v t') (hS' : ∀ g, S' g → S g ∨ w.heap.size + 3 ≤ g) (hS : ∀ g, S g → g < w.heap.size) (hG : ∀ g, G g → ¬ S g ∧ g < w.heap.size) (hF : Fr S w u2) (h2 : w.heap.size + 3 ≤ u2.heap.size)
    (hR : RdT (fun g => (G g ∨ u2.heap.size ≤ g) ∧ g < u3.heap.size) u3 ma mn mc la ln lc t') (hb : Below u2.heap.size u2 u3) (x0 x1 y0 y1 : Value) :
    IsDo G S w v t' (.returned (.tuple #[tbV ma mn mc la ln lc, .bool true])) ((((u3.setCell ⟨w.heap.size, 0, none⟩ x0).setCell ⟨w.heap.size, 1, none⟩ x1).setCell ⟨w.heap.size + 2, 0, none⟩ y0).setCell ⟨w.heap.size + 2, 1, none⟩ y1) := by
  have hb3 := hb.size
  have hl := hP.lt
  have blk : ∀ g, g ≠ w.heap.size → g ≠ w.heap.size + 2 → ((((u3.setCell ⟨w.heap.size, 0, none⟩ x0).setCell ⟨w.heap.size, 1, none⟩ x1).setCell ⟨w.heap.size + 2, 0, none⟩ y0).setCell ⟨w.heap.size + 2, 1, none⟩ y1).heap[g]? = u3.heap[g]? := fun g h1 h2 =>
    (((Below.heap_setCell _ _ _ _ h2).trans (Below.heap_setCell _ _ _ _ h2)).trans (Below.heap_setCell _ _ _ _ h1)).trans (Below.heap_setCell _ _ _ _ h1)
  refine ⟨_, _, _, _, _, _, _, S', rfl, ⟨?_, hR.keep (fun g hg _ => blk g ?_ ?_), fun g hg => ⟨fun h => ?_, by simpa using hg.2⟩⟩, fun g hg => (hS' g hg).imp id (fun h => by omega), fun g hg => hg.1.imp id (fun h => by omega), ?_⟩
  · refine (hP.keep hb3 fun g hg => hb.block g (hl g hg)).keep (by simp) fun g hg => blk g ?_ ?_
    · have := hS' g hg; have := fun h => hS g h; intro e; rcases hS' g hg with h | h
      · have := hS g h; omega
      · omega
    · intro e; rcases hS' g hg with h | h
      · have := hS g h; omega
      · omega
  · rcases hg.1 with h | h
    · have := (hG g h).2; omega
    · omega
  · rcases hg.1 with h | h
    · have := (hG g h).2; omega
    · omega
  · have h4 := hl g h
    rcases hg.1 with h1 | h1
    · rcases hS' g h with h3 | h3
      · exact (hG g h1).1 h3
      · have := (hG g h1).2; omega
    · omega
  · have f3 := hF.then hb
    exact (((f3.set (p := ⟨w.heap.size, 0, none⟩) (Or.inr (Nat.le_refl _)) x0).set (p := ⟨w.heap.size, 1, none⟩) (Or.inr (Nat.le_refl _)) x1).set (p := ⟨w.heap.size + 2, 0, none⟩) (Or.inr (by simp)) y0).set (p := ⟨w.heap.size + 2, 1, none⟩) (Or.inr (by simp)) y1
section
variable {G S : Nat → Prop} {w : World} {v : Value} {ma : Option Addr} {mn mc : Nat} {la : Option Addr} {ln lc : Nat} {t : Tb}
end
end Go.Proofs.Ytleggfofgpiabaa.SP
