/-
  Proved: the law MemoryBack answers true for every input that can be read, without a panic, and its arguments read behind the call as they read before it.
  Conditions: none beyond the given row's own.
-/
import Derived.SizedLaws
import Derived.Test.YtkmjacpcpchjoaaLaw
import Derived.Test.YtkmjacpcpchjoaaMemOpen
import Derived.Test.YtkmjacpcpchjoaaMemWBack
set_option linter.unusedSimpArgs false
set_option linter.unusedVariables false
namespace Go.Proofs.Ytkmjacpcpchjoaa
open Go.ChangeShapes Go.WideShapes Go.ChangeAt Go.RowKit MQ
open Go.ChangeMaps (open_string)
namespace LC
theorem own : ownKnob Try.prog.godebug = none := by kernel_rfl
theorem laid : laidOutB Try.prog = true := by kernel_rfl
end LC
namespace memoryBack
set_option maxRecDepth 100000 in
theorem lifted (os : Os) (started : os.Started) (H : Type) (enc : TypeId × Value → H) :
    ReturnsInHanded {} Try.checked os 8 .any (Rows.memoryBackSpec.pre6 enc Try.prog Try.f8 Rows.memoryBackRow.domain false) (Rows.memoryBackSpec.post enc Try.prog Try.f8 false true false false) := by
  refine returnsInHanded_of_change_sized (C := Try.checked) LC.own started (by kernel_rfl) Try.func8
    (ChangeSpec.witness6 (enc := enc) (C := Try.checked) false ⟨#[], #[.int .u8 0, .int .u32 0, .agg #[.int .u64 0, .int .u64 0]], []⟩ 8 (by kernel_rfl) (by kernel_rfl) (by kernel_rfl) (by kernel_rfl)) ?_
  intro W base args ds gs before hval0 hW hcnd hsz0 _
  have hval : ∀ (j : Nat) t v, Try.f8.params[j]? = some t → args[j]? = some v → Value.okWide Try.prog W .any base t v := hval0
  have hW' := hW
  obtain ⟨p, q, hA0, hV, rfl, hfz, hnd⟩ := hW
  obtain ⟨hgs, _⟩ := trodVars_none hV
  subst hgs
  have hA : DataW.TrodAll enc Try.prog W 0 (fun _ => true) true Try.f8.params.toList args.toList ds p := hA0
  have hsz : (DataW.weightsEach Try.prog (Try.f8.params.toList ++ Rows.memoryBackSpec.plain.varTypes Try.prog) (ds ++ [])).all (· ≤ reachBytes) = true := hsz0
  rw [Try.params8] at hA hval hsz
  obtain ⟨v0, vs0, d0, ds0, p0, q0, hargs, rfl, rfl, h0, r0⟩ := trodAll_cons hA
  obtain ⟨v1, vs1, d1, ds1, p1, q1, rfl, rfl, rfl, h1, r1⟩ := trodAll_cons r0
  obtain ⟨v2, vs2, d2, ds2, p2, q2, rfl, rfl, rfl, h2, r2⟩ := trodAll_cons r1
  obtain ⟨rfl, rfl, rfl⟩ := trodAll_nil r2
  obtain rfl : args = #[v0, v1, v2] := by cases args; simp_all
  obtain ⟨a0, rfl, rfl, rfl, w0'⟩ := open_int Try.underlying5 (hval 0 5 v0 rfl rfl) h0
  have w0 := LW.wf_u8 w0'
  obtain ⟨a1, rfl, rfl, rfl, w1'⟩ := open_int Try.underlying26 (hval 1 26 v1 rfl rfl) h1
  have w1 := LW.wf_u32 w1'
  obtain ⟨x2, y2, rfl, w2a, w2b⟩ := LW.open_arr2 Try.underlying73 Try.underlying39 (by kernel_rfl) (by kernel_rfl) (hval 2 73 v2 rfl rfl) h2
  refine (WK.MemoryBack_walk a0 w0 a1 x2 y2 W).mono fun e W' ⟨he, hb⟩ => ?_
  subst he
  exact ⟨_, rfl, LW.law_post (tb := 4) LC.laid hW' rfl (fun gs' hg => by subst hg; rfl) (by rw [Try.params8]; decide +kernel) rfl Try.underlying4 hb⟩
theorem proved : Rows.MemoryBackSaid :=
  OpenClaim.holds_of_wide 8 Try.f8 rfl rfl rfl rfl rfl rfl rfl ⟨rfl, rfl, rfl, rfl, rfl⟩ rfl rfl rfl rfl rfl (by kernel_rfl) Try.func8 (by kernel_rfl)
    (of_decide_eq_true (by kernel_rfl)) (by unfold Func.isWrapper; first | (rw [if_pos (by decide +kernel)]; kernel_rfl) | (rw [if_neg (by decide +kernel)]; exact ⟨rfl, rfl⟩))
    (fun os started H enc _ => lifted os started H enc)
end memoryBack
end Go.Proofs.Ytkmjacpcpchjoaa
