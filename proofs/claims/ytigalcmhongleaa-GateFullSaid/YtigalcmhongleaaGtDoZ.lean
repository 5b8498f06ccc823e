/-
  A call on both, whole. Nothing here is a statement of the seed.
-/
import Derived.Test.YtigalcmhongleaaGtDo
import Derived.Test.YtigalcmhongleaaGtDo2
import Derived.Test.YtigalcmhongleaaGtDo3
import Derived.Test.YtigalcmhongleaaGtDo4
set_option linter.unusedSimpArgs false
set_option linter.unusedVariables false
namespace Go.Proofs.Ytigalcmhongleaa.GL
open Go.RowKit WM NR OM OR GA GF
set_option maxHeartbeats 4000000
set_option maxRecDepth 10000
/-- what an act of a law has to be -/
structure AcOk (x : Ac) : Prop where
  kd : 0 ≤ x.kind ∧ x.kind ≤ 255
  b : BdOk x.b
  ln : x.b.nm.length ≤ 2097152
theorem do_any {PT : Rep} (hP : GP PT) {S : Nat → Prop} {w : World} {v : Value} {f : Tb} (h : PT S w v f) (x : Ac) (hx : AcOk x) : Calls Try.prog 10 #[v, tV f, acV x] w (IsDo PT S w v (actM f x)) := by
  obtain ⟨kd, nm, o, k⟩ := x
  have hkd := hx.kd
  have hb := hx.b
  have hl := hx.ln
  simp only at hkd hb hl
  by_cases h2 : kd % 5 = 2
  · rw [show actM f ⟨kd, nm, o, k⟩ = (turnM f ⟨nm, o, k⟩).t by simp only [actM, actR, if_pos h2]]
    exact do_turn hP h hkd h2 (fun u hu => hP.trn _ hu hb hl) (fun u => refTurn_any _)
  · by_cases h3 : kd % 5 = 3
    · rw [show actM f ⟨kd, nm, o, k⟩ = (closeM f nm).t by simp only [actM, actR, if_neg h2, if_pos h3]]
      exact do_close hP h hkd h3 (fun u hu => hP.cls _ hu hl) (fun u => refClose_any _)
    · by_cases h4 : kd % 5 = 4
      · rw [show actM f ⟨kd, nm, o, k⟩ = f by simp only [actM, actR, if_neg h2, if_neg h3, if_pos h4]; simp only [findM]; split <;> rfl]
        exact do_find hP h hkd h4 (fun u hu => (hP.fnd _ hu hl).mono fun e u2 ⟨e1, hB⟩ => ⟨e1, S, hP.keep hu hB.size (fun g hg => hB.block g (hP.lt hu g hg)), fun g hg => Or.inl hg, Fr.of_below hB⟩) (fun u => refFind_any _)
      · rw [show actM f ⟨kd, nm, o, k⟩ = (openM f ⟨nm, o, k⟩).t by simp only [actM, actR, if_neg h2, if_neg h3, if_neg h4]]
        exact do_open hP h hkd ⟨h2, h3, h4⟩ (fun u hu => hP.opn _ hu hb hl) (fun u => refOpen_any _ hl)
end Go.Proofs.Ytigalcmhongleaa.GL
