/-
  Helpers for laws that make a memory and step in it. Nothing here is a statement of the seed.
-/
import Derived.Test.YtihcellcdkhadaaGreatHartAwake
import Derived.Test.YtihcellcdkhadaaGreatHartMade
import Derived.Test.YtihcellcdkhadaaGreatHartMath3
set_option linter.unusedSimpArgs false
set_option linter.unusedVariables false
namespace Go.Proofs.YtihcellcdkhadaaGreat.HF
open Go.RowKit PM PR PF MM MR MF HM HR
set_option maxHeartbeats 4000000
set_option maxRecDepth 10000
/-- what a step does, its result named -/
def Did (h' : Ht) (M' : Mm) (sf st : Bool) (nt nx : Int) (p t g gw : Nat) (w : World) (e : Ending) (w' : World) : Prop :=
  ∃ a' n' c', e = .returned (.tuple #[hV h'.pc h'.r a' n' c' h'.why h'.ep h'.home, nV sf st nt nx]) ∧ Sk w' w.heap.size a' n' c' h'.sk ∧ Pm w' p t g gw M' ∧ Fr (MS p g gw) w w'
theorem step_as {G : Nat → Prop} {w : World} {p t g gw : Nat} {M : Mm} {a : Option Addr} {n c : Nat} {h : Ht} (pm : Pm w p t g gw M) (hr : Reads G w (.slice a n c) (wcs h.sk)) (hn : n * 4 ≤ 140737488355328) (ok : HOk h) (wk : WOk M) (xe : Int) {h' : Ht} {M' : Mm} {sf st : Bool} {nt nx : Int} (e : stepR h M xe = ⟨h', M', sf, st, nt, nx⟩) :
    Calls Tryz.prog 8 #[hV h.pc h.r a n c h.why h.ep h.home, .pointer (some ⟨p, 0, none⟩), .int .u64 xe] w (Did h' M' sf st nt nx p t g gw w) := by
  refine (step_any pm hr hn ok wk xe).mono fun e' w' hD => ?_
  have hl := hD.low
  rw [e] at hD
  obtain ⟨a', n', c', h1, h2, h3, _⟩ := hD
  exact ⟨a', n', c', h1, h2, h3, hl⟩
/-- a slice that is built -/
theorem rs_new (w : World) (l : List Int) (hl : l.length ≤ maxLen) : Rs (w.alloc (.cells (wcs l).toArray 23)).heap.size (w.alloc (.cells (wcs l).toArray 23)) (some ⟨w.heap.size, 0, none⟩) l.length l.length l := by
  refine ⟨_, l.length, by rw [wcs_len], by rw [wcs_len]; exact Nat.le_refl _, hl, (fun h => by cases h), Or.inr ⟨w.heap.size, 0, rfl, by simp, fun j hj => ?_⟩⟩
  rw [Nat.zero_add, (Whole.new w 23 (wcs l).toArray).cell]
  simp
theorem rs_go {B : Nat} {w u : World} {a : Option Addr} {n c : Nat} {l : List Int} (h : Rs B w a n c l) (hb : Below B w u) (hB : B ≤ u.heap.size) : Rs u.heap.size u a n c l := (h.below hb).mono fun g hg => Nat.lt_of_lt_of_le hg hB
/-- the box of the reference's memory, and a hart's -/
theorem mh_facts (w : World) (cm ch : Array Value) : Below w.heap.size w ((w.alloc (.cells cm 36)).alloc (.cells ch 30)) ∧ Whole ((w.alloc (.cells cm 36)).alloc (.cells ch 30)) (w.heap.size + 1) 30 ch := by
  refine ⟨bl2 .., ?_⟩
  have := Whole.new (w.alloc (.cells cm 36)) 30 ch
  simpa using this
end Go.Proofs.YtihcellcdkhadaaGreat.HF
