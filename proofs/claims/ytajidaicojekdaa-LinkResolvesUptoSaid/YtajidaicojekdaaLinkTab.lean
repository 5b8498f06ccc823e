/-
  Both tables through the modules of a list. Nothing here is a statement of the seed.
-/
import Derived.Test.YtajidaicojekdaaSymO
import Derived.Test.YtajidaicojekdaaLinkRsv
import Derived.Test.YtajidaicojekdaaSymPAdd
import Derived.Test.YtajidaicojekdaaSymAdd
set_option linter.unusedSimpArgs false
set_option linter.unusedVariables false
namespace Go.Proofs.Ytajidaicojekdaa.KT
open Go.RowKit WM NR OM OR SM SR SF SP KO
set_option maxHeartbeats 4000000
set_option maxRecDepth 10000
theorem chk_size {l : List UInt8} (h : NM.chk l = 0) : l.length ≤ 2097152 := by have := NM.chk_short l h; omega
/-- what a module adds to a table -/
def ownM (t : Tb) (x : Ow) : Tb := if x.ns.length ≤ 8 then (addM t x.nm x.gate x.ns).1 else t
def tabM : Tb → List Ow → Tb
  | t, [] => t
  | t, x :: l => tabM (ownM t x) l
theorem tabM_append : ∀ (a b : List Ow) (t : Tb), tabM t (a ++ b) = tabM (tabM t a) b
  | [], b, t => rfl
  | x :: a, b, t => tabM_append a b _
theorem tabM_take (t : Tb) (l : List Ow) (k : Nat) (h : k < l.length) : tabM t (l.take (k + 1)) = ownM (tabM t (l.take k)) (l.getD k ow0) := by
  rw [List.take_add_one, List.getElem?_eq_getElem h, List.getD_eq_getElem?_getD, List.getElem?_eq_getElem h, Option.toList_some, tabM_append]
  rfl
theorem good_own {t : Tb} (h : SM.Good t) (x : Ow) : SM.Good (ownM t x) := by
  unfold ownM
  split
  · exact good_add h _ _ _
  · exact h
theorem own_size (t : Tb) (x : Ow) : (ownM t x).mods.length ≤ t.mods.length + 1 ∧ (ownM t x).L.length ≤ t.L.length + 8 := by
  unfold ownM
  split
  · exact add_size t _ _ _
  · omega
theorem tab_good : ∀ (l : List Ow) (t : Tb), SM.Good t → SM.Good (tabM t l)
  | [], t, h => h
  | x :: l, t, h => tab_good l _ (good_own h x)
theorem tab_size : ∀ (l : List Ow) (t : Tb), (tabM t l).mods.length ≤ t.mods.length + l.length ∧ (tabM t l).L.length ≤ t.L.length + 8 * l.length
  | [], t => ⟨Nat.le_refl _, Nat.le_refl _⟩
  | x :: l, t => by
    have h1 := tab_size l (ownM t x)
    have h2 := own_size t x
    simp only [tabM, List.length_cons]
    omega
theorem tab_bd (l : List Ow) (k : Nat) (hk : k ≤ 20) : (tabM ⟨[], []⟩ (l.take k)).mods.length ≤ 10000 ∧ (tabM ⟨[], []⟩ (l.take k)).L.length ≤ 80000 := by
  have h1 := tab_size (l.take k) ⟨[], []⟩
  rw [List.length_take] at h1
  simp only [List.length_nil] at h1
  omega
/-- the same with what the two tables have told apart -/
structure PX (w : World) (p : Nat) (G S : Nat → Prop) (u : World) (v : Value) (ma : Option Addr) (mn mc : Nat) (la : Option Addr) (ln lc : Nat) (tp tr : Tb) : Prop where
  Z : Whole u p 29 (tbC ma mn mc la ln lc)
  P : PT S u v tp
  R : RdT G u ma mn mc la ln lc tr
  GS : ∀ g, G g → ¬ S g ∧ g < u.heap.size
  B : Below w.heap.size w u
  SB : ∀ g, S g → w.heap.size ≤ g ∧ g ≠ p
  GB : ∀ g, G g → g ≠ p
  hp : w.heap.size ≤ p
section
variable {w : World} {p : Nat} {G S : Nat → Prop} {u u' : World} {v : Value} {ma : Option Addr} {mn mc : Nat} {la : Option Addr} {ln lc : Nat} {ma' : Option Addr} {mn' mc' : Nat} {la' : Option Addr} {ln' lc' : Nat}
theorem PX.belowS {tp tr : Tb} (h : PX w p G S u v ma mn mc la ln lc tp tr) (hb : Below u.heap.size u u') : PX w p G S u' v ma mn mc la ln lc tp tr :=
  ⟨h.Z.belowS hb, h.P.keep hb.size fun g hg => hb.block g (h.P.lt g hg), h.R.keep fun g hg _ => hb.block g (h.GS g hg).2, fun g hg => ⟨(h.GS g hg).1, Nat.lt_of_lt_of_le (h.GS g hg).2 hb.size⟩, h.B.trans (hb.mono h.B.size), h.SB, h.GB, h.hp⟩
/-- a call that changes the program's table alone -/
theorem PX.chg {tp tp' tr : Tb} (h : PX w p G S u v ma mn mc la ln lc tp tr) (hc : Chg S u v tp' u') : ∃ S', PX w p G S' u' v ma mn mc la ln lc tp' tr := by
  obtain ⟨S', hP, hS', hF⟩ := hc
  have hz := h.Z.lt
  have hw := h.B.size
  have nS : ¬ S p := fun hh => (h.SB p hh).2 rfl
  have nS' : ¬ S' p := fun hh => (hS' p hh).elim nS (fun h => by omega)
  refine ⟨S', h.Z.fr hF nS, hP, h.R.keep fun g hg _ => hF.block g (h.GS g hg).2 (h.GS g hg).1, fun g hg => ⟨fun hh => (hS' g hh).elim (h.GS g hg).1 (fun h1 => by have := (h.GS g hg).2; omega), Nat.lt_of_lt_of_le (h.GS g hg).2 hF.size⟩, Below.fr h.B hF h.B.size fun i hi => (h.SB i hi).1, fun g hg => ⟨?_, fun e => nS' (e ▸ hg)⟩, h.GB, h.hp⟩
  rcases hS' g hg with h1 | h1
  · exact (h.SB g h1).1
  · omega
theorem PX.strs_ {tp tr : Tb} (h : PX w p G S u v ma mn mc la ln lc tp tr) {a : Option Addr} {n c : Nat} {l : List (List UInt8)} (hx : Reads (· < w.heap.size) w (.slice a n c) (strs l)) : Reads (fun g => ¬ S g ∧ g < u.heap.size) u (.slice a n c) (strs l) :=
  (hx.below h.B).mono fun g hg => ⟨fun hh => by have := (h.SB g hh).1; omega, Nat.lt_of_lt_of_le hg h.B.size⟩
theorem PX.own {tp tr : Tb} (h : PX w p G S u v ma mn mc la ln lc tp tr) {x : Ow} (hx : OwOk (· < w.heap.size) u x) : OwOk (fun g => ¬ S g ∧ g < u.heap.size) u x :=
  ⟨hx.gate, hx.ns.mono fun g hg => ⟨fun hh => by have := (h.SB g hh).1; omega, Nat.lt_of_lt_of_le hg h.B.size⟩⟩
/-- a call that makes the reference's table anew, laid in its box -/
theorem PX.ref {tp tr tr' : Tb} (h : PX w p G S u v ma mn mc la ln lc tp tr) (hR : RdT (fun g => (G g ∨ u.heap.size ≤ g) ∧ g < u'.heap.size) u' ma' mn' mc' la' ln' lc' tr') (hb : Below u.heap.size u u') :
    Whole u' p 29 (tbC ma mn mc la ln lc) ∧ PX w p (fun g => (G g ∨ u.heap.size ≤ g) ∧ g < u'.heap.size) S ((u'.setCell ⟨p, 0, none⟩ (.slice ma' mn' mc')).setCell ⟨p, 1, none⟩ (.slice la' ln' lc')) v ma' mn' mc' la' ln' lc' tp tr' := by
  have hz := h.Z.lt
  have z := h.Z.belowS hb
  have nS : ¬ S p := fun hh => (h.SB p hh).2 rfl
  have blk : ∀ (x y : Value) (g : Nat), g ≠ p → ((u'.setCell ⟨p, 0, none⟩ x).setCell ⟨p, 1, none⟩ y).heap[g]? = u'.heap[g]? := fun x y g h1 => (Below.heap_setCell _ _ _ _ h1).trans (Below.heap_setCell _ _ _ _ h1)
  have nG : ∀ g, ((G g ∨ u.heap.size ≤ g) ∧ g < u'.heap.size) → g ≠ p := fun g hg e => by
    rcases hg.1 with h1 | h1
    · exact h.GB g h1 e
    · omega
  refine ⟨z, (z.set_ 0 _).set_ 1 _, ?_, hR.keep fun g hg _ => blk _ _ g (nG g hg), fun g hg => ⟨fun hh => ?_, by simpa using hg.2⟩, ?_, h.SB, nG, h.hp⟩
  · exact (h.P.keep hb.size fun g hg => hb.block g (h.P.lt g hg)).keep (by simp) fun g hg => blk _ _ g (fun e => nS (e ▸ hg))
  · rcases hg.1 with h1 | h1
    · exact (h.GS g h1).1 hh
    · have := h.P.lt g hh; omega
  · have hB := h.B.trans (hb.mono h.B.size)
    exact (hB.setCell (by exact h.hp) _).setCell (by exact h.hp) _
end
end Go.Proofs.Ytajidaicojekdaa.KT
