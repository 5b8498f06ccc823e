/-
  A fork of the program's table beside a copy of the reference's, over a world of its own; many calls from any table on. Nothing here is a statement of the seed.
-/
import Derived.Test.YtleggfofgpiabaaGreatSymRun
set_option linter.unusedSimpArgs false
set_option linter.unusedVariables false
namespace Go.Proofs.YtleggfofgpiabaaGreat.SP
open Go.RowKit WM NR OM OR SM SR SF
section
variable {w : World} {p p2 : Nat} {G S S2 : Nat → Prop} {u u1 : World} {v v2 : Value} {ma : Option Addr} {mn mc : Nat} {la : Option Addr} {ln lc : Nat} {t : Tb}
/-- the pair that a fork begins: its base world is the one at the fork, so that what was there is told on -/
theorem PJ.fork (h : PJ w p G S u v ma mn mc la ln lc t) (hb : Below u.heap.size u u1) (hP : PT S2 u1 v2 t) (hS : ∀ g, S2 g → u.heap.size ≤ g) (hZ : Whole u1 p2 30 (tbC ma mn mc la ln lc)) (hp : u.heap.size ≤ p2) (hne : ∀ g, S2 g → g ≠ p2) :
    PJ u p2 G S2 u1 v2 ma mn mc la ln lc t :=
  ⟨hZ, ⟨hP, h.D.R.keep fun g hg _ => hb.block g (h.D.GS g hg).2, fun g hg => ⟨fun hh => by have := hS g hh; have := (h.D.GS g hg).2; omega, Nat.lt_of_lt_of_le (h.D.GS g hg).2 hb.size⟩⟩, hb, fun g hg => ⟨hS g hg, hne g hg⟩, fun g hg e => by have := (h.D.GS g hg).2; omega, hp⟩
/-- behind the fork: the copy of r is made after the call .. -/
theorem PJ.fork_a (h : PJ w p G S u v ma mn mc la ln lc t) (hb : Below u.heap.size u u1) (hP : PT S2 u1 v2 t) (hS : ∀ g, S2 g → u.heap.size ≤ g) :
    PJ w p G S (u1.alloc (.cells #[.slice ma mn mc, .slice la ln lc] 30)) v ma mn mc la ln lc t ∧ PJ u u1.heap.size G S2 (u1.alloc (.cells #[.slice ma mn mc, .slice la ln lc] 30)) v2 ma mn mc la ln lc t := by
  have bn := below_new u1 (.cells #[.slice ma mn mc, .slice la ln lc] 30)
  have hb2 := hb.trans (bn.mono hb.size)
  exact ⟨h.belowS hb2, h.fork hb2 (hP.keep bn.size fun g hg => bn.block g (hP.lt g hg)) hS (Whole.new _ _ _) hb.size fun g hg e => by have := hP.lt g hg; omega⟩
/-- .. or ahead of it -/
theorem PJ.fork_b (h : PJ w p G S u v ma mn mc la ln lc t) (hb : Below u.heap.size u u1) (hP : PT S2 u1 v2 t) (hS : ∀ g, S2 g → u.heap.size ≤ g) (hZ : Whole u1 p2 30 (tbC none 0 0 none 0 0)) (hp : u.heap.size ≤ p2) (hne : ∀ g, S2 g → g ≠ p2) :
    PJ w p G S ((u1.setCell ⟨p2, 0, none⟩ (.slice ma mn mc)).setCell ⟨p2, 1, none⟩ (.slice la ln lc)) v ma mn mc la ln lc t ∧ PJ u p2 G S2 ((u1.setCell ⟨p2, 0, none⟩ (.slice ma mn mc)).setCell ⟨p2, 1, none⟩ (.slice la ln lc)) v2 ma mn mc la ln lc t := by
  have hb2 : Below u.heap.size u ((u1.setCell ⟨p2, 0, none⟩ (.slice ma mn mc)).setCell ⟨p2, 1, none⟩ (.slice la ln lc)) := (hb.setCell (by exact hp) _).setCell (by exact hp) _
  exact ⟨h.belowS hb2, h.fork hb2 (hP.keep (by simp) fun g hg => (Below.heap_setCell _ _ _ _ (fun e => hne g hg e)).trans (Below.heap_setCell _ _ _ _ (fun e => hne g hg e))) hS ((hZ.set_ 0 _).set_ 1 _) hp hne⟩
theorem run_take2 (t : Tb) (l : List Ac) (k : Nat) (h : k < l.length) : runM t (l.take (k + 1)) = (actM (runM t (l.take k)) (l.getD k ac0)).1 := runM_take t l k h
theorem run_bd2 (t : Tb) (ht : t.mods.length ≤ 60 ∧ t.L.length ≤ 480) (l : List Ac) (k : Nat) (hk : k ≤ 60) : (runM t (l.take k)).mods.length ≤ 10000 ∧ (runM t (l.take k)).L.length ≤ 80000 := by
  have h1 := run_size (l.take k) t
  rw [List.length_take] at h1
  omega
theorem run_sz (l : List Ac) (hl : l.length ≤ 60) : (runM ⟨[], []⟩ l).mods.length ≤ 60 ∧ (runM ⟨[], []⟩ l).L.length ≤ 480 := by
  have h1 := run_size l ⟨[], []⟩
  simp only [List.length_nil] at h1
  omega
end
end Go.Proofs.YtleggfofgpiabaaGreat.SP
