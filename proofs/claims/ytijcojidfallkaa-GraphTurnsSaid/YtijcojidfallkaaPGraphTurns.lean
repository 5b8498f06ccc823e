/-
  Proved: the law GraphTurns answers true for every input that can be read, without a panic, and its arguments read behind the call as they read before it.
  Conditions: none beyond the given row's own.
-/
import Derived.SizedLaws
import Derived.Test.YtijcojidfallkaaLaw
import Derived.Test.YtijcojidfallkaaGraphOpen
import Derived.Test.YtijcojidfallkaaGraphWTurns
set_option linter.unusedSimpArgs false
set_option linter.unusedVariables false
namespace Go.Proofs.Ytijcojidfallkaa
open Go.ChangeShapes Go.WideShapes Go.ChangeAt Go.RowKit SQ
open Go.ChangeMaps (open_string)
namespace LC
theorem own : ownKnob Try.prog.godebug = none := by kernel_rfl
theorem laid : laidOutB Try.prog = true := by kernel_rfl
end LC
namespace graphTurns
set_option maxRecDepth 100000 in
theorem lifted (os : Os) (started : os.Started) (H : Type) (enc : TypeId × Value → H) :
    ReturnsInHanded {} Try.checked os 6 .any (Rows.graphTurnsSpec.pre6 enc Try.prog Try.f6 Rows.graphTurnsRow.domain false) (Rows.graphTurnsSpec.post enc Try.prog Try.f6 false true false false) := by
  refine returnsInHanded_of_change_sized (C := Try.checked) LC.own started (by kernel_rfl) Try.func6
    (ChangeSpec.witness6 (enc := enc) (C := Try.checked) false ⟨#[], #[.slice none 0 0, .agg #[.int .u8 0, .string .empty, .slice none 0 0]], []⟩ 8 (by kernel_rfl) (by kernel_rfl) (by kernel_rfl) (by kernel_rfl)) ?_
  intro W base args ds gs before hval0 hW hcnd hsz0 _
  have hval : ∀ (j : Nat) t v, Try.f6.params[j]? = some t → args[j]? = some v → Value.okWide Try.prog W .any base t v := hval0
  have hW' := hW
  obtain ⟨p, q, hA0, hV, rfl, hfz, hnd⟩ := hW
  obtain ⟨hgs, _⟩ := trodVars_none hV
  subst hgs
  have hA : DataW.TrodAll enc Try.prog W 0 (fun _ => true) true Try.f6.params.toList args.toList ds p := hA0
  have hsz : (DataW.weightsEach Try.prog (Try.f6.params.toList ++ Rows.graphTurnsSpec.plain.varTypes Try.prog) (ds ++ [])).all (· ≤ reachBytes) = true := hsz0
  rw [Try.params6] at hA hval hsz
  obtain ⟨v0, vs0, d0, ds0, p0, q0, hargs, rfl, rfl, h0, r0⟩ := trodAll_cons hA
  obtain ⟨v1, vs1, d1, ds1, p1, q1, rfl, rfl, rfl, h1, r1⟩ := trodAll_cons r0
  obtain ⟨rfl, rfl, rfl⟩ := trodAll_nil r1
  obtain rfl : args = #[v0, v1] := by cases args; simp_all
  obtain ⟨l0, a0, n0, c0, rfl, R0, S0⟩ := SQ.open_acts (b0 := base) (hval 0 22 v0 rfl rfl) h0
  have HS0 : ∀ x ∈ l0, x.nm.length ≤ 140737488351232 ∧ ∀ s ∈ x.ns, s.length ≤ 140737488351232 := fun x hx => ⟨SQ.reach_of hsz (j := 0) rfl rfl (S0 x hx).1, fun s hs => SQ.reach_of hsz (j := 0) rfl rfl ((S0 x hx).2 s hs)⟩
  obtain ⟨x1, rfl, R1, N1, S1⟩ := SQ.open_act (b0 := base) (hval 1 34 v1 rfl rfl) h1
  have HN1 : x1.nm.length ≤ 140737488351232 := SQ.reach_of hsz (j := 1) rfl rfl N1
  have HS1 : ∀ s ∈ x1.ns, s.length ≤ 140737488351232 := fun s hs => SQ.reach_of hsz (j := 1) rfl rfl (S1 s hs)
  refine (WK.GraphTurns_walk R0 HS0 x1 R1 HN1 HS1).mono fun e W' ⟨he, hb⟩ => ?_
  subst he
  exact ⟨_, rfl, LW.law_post (tb := 4) LC.laid hW' rfl (fun gs' hg => by subst hg; rfl) (by rw [Try.params6]; decide +kernel) rfl Try.underlying4 hb⟩
theorem proved : Rows.GraphTurnsSaid :=
  OpenClaim.holds_of_wide 6 Try.f6 rfl rfl rfl rfl rfl rfl rfl ⟨rfl, rfl, rfl, rfl, rfl⟩ rfl rfl rfl rfl rfl (by kernel_rfl) Try.func6 (by kernel_rfl)
    (of_decide_eq_true (by kernel_rfl)) (by unfold Func.isWrapper; first | (rw [if_pos (by decide +kernel)]; kernel_rfl) | (rw [if_neg (by decide +kernel)]; exact ⟨rfl, rfl⟩))
    (fun os started H enc _ => lifted os started H enc)
end graphTurns
end Go.Proofs.Ytijcojidfallkaa
