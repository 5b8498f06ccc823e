/-
  Proved: the law GraphRound answers true for every input that can be read, without a panic, and its arguments read behind the call as they read before it.
  Conditions: none beyond the given row's own.
-/
import Derived.SizedLaws
import Derived.Test.YtijcojidfallkaaLaw
import Derived.Test.YtijcojidfallkaaGraphOpen
import Derived.Test.YtijcojidfallkaaGraphWRound
set_option linter.unusedSimpArgs false
set_option linter.unusedVariables false
namespace Go.Proofs.Ytijcojidfallkaa
open Go.ChangeShapes Go.WideShapes Go.ChangeAt Go.RowKit SQ
open Go.ChangeMaps (open_string)
namespace LC
theorem own : ownKnob Try.prog.godebug = none := by kernel_rfl
theorem laid : laidOutB Try.prog = true := by kernel_rfl
end LC
namespace graphRound
set_option maxRecDepth 100000 in
theorem lifted (os : Os) (started : os.Started) (H : Type) (enc : TypeId × Value → H) :
    ReturnsInHanded {} Try.checked os 5 .any (Rows.graphRoundSpec.pre6 enc Try.prog Try.f5 Rows.graphRoundRow.domain false) (Rows.graphRoundSpec.post enc Try.prog Try.f5 false true false false) := by
  refine returnsInHanded_of_change_sized (C := Try.checked) LC.own started (by kernel_rfl) Try.func5
    (ChangeSpec.witness6 (enc := enc) (C := Try.checked) false ⟨#[], #[.slice none 0 0], []⟩ 8 (by kernel_rfl) (by kernel_rfl) (by kernel_rfl) (by kernel_rfl)) ?_
  intro W base args ds gs before hval0 hW hcnd hsz0 _
  have hval : ∀ (j : Nat) t v, Try.f5.params[j]? = some t → args[j]? = some v → Value.okWide Try.prog W .any base t v := hval0
  have hW' := hW
  obtain ⟨p, q, hA0, hV, rfl, hfz, hnd⟩ := hW
  obtain ⟨hgs, _⟩ := trodVars_none hV
  subst hgs
  have hA : DataW.TrodAll enc Try.prog W 0 (fun _ => true) true Try.f5.params.toList args.toList ds p := hA0
  have hsz : (DataW.weightsEach Try.prog (Try.f5.params.toList ++ Rows.graphRoundSpec.plain.varTypes Try.prog) (ds ++ [])).all (· ≤ reachBytes) = true := hsz0
  rw [Try.params5] at hA hval hsz
  obtain ⟨v0, vs0, d0, ds0, p0, q0, hargs, rfl, rfl, h0, r0⟩ := trodAll_cons hA
  obtain ⟨rfl, rfl, rfl⟩ := trodAll_nil r0
  obtain rfl : args = #[v0] := by cases args; simp_all
  obtain ⟨l0, a0, n0, c0, rfl, R0, S0⟩ := SQ.open_acts (b0 := base) (hval 0 22 v0 rfl rfl) h0
  have HS0 : ∀ x ∈ l0, x.nm.length ≤ 140737488351232 ∧ ∀ s ∈ x.ns, s.length ≤ 140737488351232 := fun x hx => ⟨SQ.reach_of hsz (j := 0) rfl rfl (S0 x hx).1, fun s hs => SQ.reach_of hsz (j := 0) rfl rfl ((S0 x hx).2 s hs)⟩
  refine (WK.GraphRound_walk R0 HS0).mono fun e W' ⟨he, hb⟩ => ?_
  subst he
  exact ⟨_, rfl, LW.law_post (tb := 4) LC.laid hW' rfl (fun gs' hg => by subst hg; rfl) (by rw [Try.params5]; decide +kernel) rfl Try.underlying4 hb⟩
theorem proved : Rows.GraphRoundSaid :=
  OpenClaim.holds_of_wide 5 Try.f5 rfl rfl rfl rfl rfl rfl rfl ⟨rfl, rfl, rfl, rfl, rfl⟩ rfl rfl rfl rfl rfl (by kernel_rfl) Try.func5 (by kernel_rfl)
    (of_decide_eq_true (by kernel_rfl)) (by unfold Func.isWrapper; first | (rw [if_pos (by decide +kernel)]; kernel_rfl) | (rw [if_neg (by decide +kernel)]; exact ⟨rfl, rfl⟩))
    (fun os started H enc _ => lifted os started H enc)
end graphRound
end Go.Proofs.Ytijcojidfallkaa
