/-
  Both tables through many calls. Nothing here is a statement of the seed.
-/
import Derived.Test.YtleggfofgpiabaaGreatSymSame
set_option linter.unusedSimpArgs false
set_option linter.unusedVariables false
namespace Go.Proofs.YtleggfofgpiabaaGreat.SP
open Go.RowKit WM NR OM OR SM SR SF
set_option maxHeartbeats 4000000
set_option maxRecDepth 10000
def runM : Tb → List Ac → Tb
  | t, [] => t
  | t, x :: l => runM (actM t x).1 l
theorem runM_append : ∀ (a b : List Ac) (t : Tb), runM t (a ++ b) = runM (runM t a) b
  | [], b, t => rfl
  | x :: a, b, t => runM_append a b _
theorem runM_take (t : Tb) (l : List Ac) (k : Nat) (h : k < l.length) : runM t (l.take (k + 1)) = (actM (runM t (l.take k)) (l.getD k ac0)).1 := by
  rw [take_succ_getD l ac0 k h, runM_append]
  rfl
theorem run_good : ∀ (l : List Ac) (t : Tb), SM.Good t → SM.Good (runM t l)
  | [], t, h => h
  | x :: l, t, h => run_good l _ (good_act h x)
theorem run_size : ∀ (l : List Ac) (t : Tb), (runM t l).mods.length ≤ t.mods.length + l.length ∧ (runM t l).L.length ≤ t.L.length + 8 * l.length
  | [], t => ⟨Nat.le_refl _, Nat.le_refl _⟩
  | x :: l, t => by
    have h1 := run_size l (actM t x).1
    have h2 := act_size t x
    simp only [runM, List.length_cons]
    omega
theorem run_bd (l : List Ac) (k : Nat) (hk : k ≤ 60) : (runM ⟨[], []⟩ (l.take k)).mods.length ≤ 10000 ∧ (runM ⟨[], []⟩ (l.take k)).L.length ≤ 80000 := by
  have h1 := run_size (l.take k) ⟨[], []⟩
  rw [List.length_take] at h1
  simp only [List.length_nil] at h1
  omega
/-- the law's two tables on the way: r's box p, the program's table v -/
structure PJ (w : World) (p : Nat) (G S : Nat → Prop) (u : World) (v : Value) (ma : Option Addr) (mn mc : Nat) (la : Option Addr) (ln lc : Nat) (t : Tb) : Prop where
  Z : Whole u p 30 (tbC ma mn mc la ln lc)
  D : Duo G S u v ma mn mc la ln lc t
  B : Below w.heap.size w u
  SB : ∀ g, S g → w.heap.size ≤ g ∧ g ≠ p
  GB : ∀ g, G g → g ≠ p
  hp : w.heap.size ≤ p
section
variable {w : World} {p : Nat} {G S G' S' : Nat → Prop} {u u' : World} {v : Value} {ma : Option Addr} {mn mc : Nat} {la : Option Addr} {ln lc : Nat} {ma' : Option Addr} {mn' mc' : Nat} {la' : Option Addr} {ln' lc' : Nat} {t t' : Tb}
theorem PJ.belowS (h : PJ w p G S u v ma mn mc la ln lc t) (hb : Below u.heap.size u u') : PJ w p G S u' v ma mn mc la ln lc t := ⟨h.Z.belowS hb, h.D.belowS hb, h.B.trans (hb.mono h.B.size), h.SB, h.GB, h.hp⟩
theorem PJ.step (h : PJ w p G S u v ma mn mc la ln lc t) (d : Duo G' S' u' v ma' mn' mc' la' ln' lc' t') (hS' : ∀ g, S' g → S g ∨ u.heap.size ≤ g) (hG' : ∀ g, G' g → G g ∨ u.heap.size ≤ g) (hF : Fr S u u') :
    Whole u' p 30 (tbC ma mn mc la ln lc) ∧ PJ w p G' S' ((u'.setCell ⟨p, 0, none⟩ (.slice ma' mn' mc')).setCell ⟨p, 1, none⟩ (.slice la' ln' lc')) v ma' mn' mc' la' ln' lc' t' := by
  have hz := h.Z.lt
  have nS : ¬ S p := fun hh => (h.SB p hh).2 rfl
  have nG : ¬ G p := fun hh => h.GB p hh rfl
  have nS' : ¬ S' p := fun hh => (hS' p hh).elim nS (fun h => by omega)
  have nG' : ¬ G' p := fun hh => (hG' p hh).elim nG (fun h => by omega)
  have z := h.Z.fr hF nS
  have hB : Below w.heap.size w u' := Below.fr h.B hF h.B.size fun i hi => (h.SB i hi).1
  have hw := h.B.size
  refine ⟨z, (z.set_ 0 _).set_ 1 _, (d.far nS' nG' _).far nS' nG' _, (hB.setCell (by exact h.hp) _).setCell (by exact h.hp) _, fun g hg => ⟨?_, fun e => nS' (e ▸ hg)⟩, fun g hg e => nG' (e ▸ hg), h.hp⟩
  rcases hS' g hg with h1 | h1
  · exact (h.SB g h1).1
  · omega
theorem PJ.act (h : PJ w p G S u v ma mn mc la ln lc t) {x : Ac} (hx : AcOk (· < w.heap.size) u x) : AcOk (fun g => ¬ S g ∧ g < u.heap.size) u x :=
  ⟨hx.kind, hx.gate, hx.ns.mono fun g hg => ⟨fun hh => by have := (h.SB g hh).1; omega, Nat.lt_of_lt_of_le hg h.B.size⟩⟩
/-- the same with what the two tables have told apart -/
structure PX (w : World) (p : Nat) (G S : Nat → Prop) (u : World) (v : Value) (ma : Option Addr) (mn mc : Nat) (la : Option Addr) (ln lc : Nat) (tp tr : Tb) : Prop where
  Z : Whole u p 30 (tbC ma mn mc la ln lc)
  P : PT S u v tp
  R : RdT G u ma mn mc la ln lc tr
  GS : ∀ g, G g → ¬ S g ∧ g < u.heap.size
  B : Below w.heap.size w u
  SB : ∀ g, S g → w.heap.size ≤ g ∧ g ≠ p
  GB : ∀ g, G g → g ≠ p
  hp : w.heap.size ≤ p
theorem PJ.x (h : PJ w p G S u v ma mn mc la ln lc t) : PX w p G S u v ma mn mc la ln lc t t := ⟨h.Z, h.D.P, h.D.R, h.D.GS, h.B, h.SB, h.GB, h.hp⟩
theorem PX.j (h : PX w p G S u v ma mn mc la ln lc t t) : PJ w p G S u v ma mn mc la ln lc t := ⟨h.Z, ⟨h.P, h.R, h.GS⟩, h.B, h.SB, h.GB, h.hp⟩
theorem PX.belowS {tp tr : Tb} (h : PX w p G S u v ma mn mc la ln lc tp tr) (hb : Below u.heap.size u u') : PX w p G S u' v ma mn mc la ln lc tp tr :=
  ⟨h.Z.belowS hb, h.P.keep hb.size fun g hg => hb.block g (h.P.lt g hg), h.R.keep fun g hg _ => hb.block g (h.GS g hg).2, fun g hg => ⟨(h.GS g hg).1, Nat.lt_of_lt_of_le (h.GS g hg).2 hb.size⟩, h.B.trans (hb.mono h.B.size), h.SB, h.GB, h.hp⟩
/-- a call that changes the program's table alone -/
theorem PX.chg {tp tp' tr : Tb} (h : PX w p G S u v ma mn mc la ln lc tp tr) (hc : Chg S u v tp' u') : ∃ S', PX w p G S' u' v ma mn mc la ln lc tp' tr := by
  obtain ⟨S', hP, hS', hF⟩ := hc
  have hz := h.Z.lt
  have hw := h.B.size
  have nS : ¬ S p := fun hh => (h.SB p hh).2 rfl
  have nS' : ¬ S' p := fun hh => (hS' p hh).elim nS (fun h => by omega)
  refine ⟨S', h.Z.fr hF nS, hP, h.R.keep fun g hg _ => hF.block g (h.GS g hg).2 (h.GS g hg).1, fun g hg => ⟨fun hh => (hS' g hh).elim (h.GS g hg).1 (fun h1 => by have := (h.GS g hg).2; omega), Nat.lt_of_lt_of_le (h.GS g hg).2 hF.size⟩, Below.fr h.B hF h.B.size fun i hi => (h.SB i hi).1, fun g hg => ⟨?_, fun e => nS' (e ▸ hg)⟩, h.GB, h.hp⟩
  rcases hS' g hg with h1 | h1
  · exact (h.SB g h1).1
  · omega
theorem PX.act {tp tr : Tb} (h : PX w p G S u v ma mn mc la ln lc tp tr) {x : Ac} (hx : AcOk (· < w.heap.size) u x) : AcOk (fun g => ¬ S g ∧ g < u.heap.size) u x :=
  ⟨hx.kind, hx.gate, hx.ns.mono fun g hg => ⟨fun hh => by have := (h.SB g hh).1; omega, Nat.lt_of_lt_of_le hg h.B.size⟩⟩
theorem PX.strs_ {tp tr : Tb} (h : PX w p G S u v ma mn mc la ln lc tp tr) {a : Option Addr} {n c : Nat} {l : List (List UInt8)} (hx : Reads (· < w.heap.size) w (.slice a n c) (strs l)) : Reads (fun g => ¬ S g ∧ g < u.heap.size) u (.slice a n c) (strs l) :=
  (hx.below h.B).mono fun g hg => ⟨fun hh => by have := (h.SB g hh).1; omega, Nat.lt_of_lt_of_le hg h.B.size⟩
end
end Go.Proofs.YtleggfofgpiabaaGreat.SP
