/-
  Proved: the law WireBack answers true for every input that can be read, without a panic, and its arguments read behind the call as they read before it.
  Conditions: the given row's own, and the bound on what comes in that the statement names.
-/
import Derived.JoinedCond
import Derived.SizedLaws
import Derived.Test.YtjmmkebnebhfoaaLaw
import Derived.Test.YtjmmkebnebhfoaaWireOpen
import Derived.Test.YtjmmkebnebhfoaaWireWBack
set_option linter.unusedSimpArgs false
set_option linter.unusedVariables false
namespace Go.Proofs.Ytjmmkebnebhfoaa
open Go.ChangeShapes Go.WideShapes Go.ChangeAt Go.RowKit NR
open Go.ChangeMaps (open_string)
namespace LC
theorem own : ownKnob Try.prog.godebug = none := by kernel_rfl
theorem laid : laidOutB Try.prog = true := by kernel_rfl
theorem bytes8 : Try.prog.bytesOf 5 = 1 := by kernel_rfl
theorem bytes32 : Try.prog.bytesOf 22 = 4 := by kernel_rfl
theorem bulk_ge {H : Type} : ∀ es : List (DataW H), es.length ≤ Rows.uptoBulkAll es
  | [] => Nat.zero_le _
  | d :: r => by
    have h1 := bulk_ge r
    have h2 : 1 ≤ Rows.uptoBulk d := by
      cases d with
      | lit x => cases x <;> simp [Rows.uptoBulk]
      | _ => simp [Rows.uptoBulk]
    simp only [List.length_cons, Rows.uptoBulkAll]
    omega
end LC
namespace wireBack
set_option maxRecDepth 100000 in
theorem lifted (os : Os) (started : os.Started) (H : Type) (enc : TypeId × Value → H) (F : Stop.Interp) :
    ReturnsInHanded {} Try.checked os 5 .any ((Rows.OpenSpec.upto Rows.wireBackSpec).pre6 enc Try.prog Try.f5 Rows.wireBackUptoRow.domain false) (((Rows.OpenSpec.upto Rows.wireBackSpec).at F).post enc Try.prog Try.f5 false true false false) := by
  refine returnsInHanded_of_cond (C := Try.checked) (s := Rows.OpenSpec.upto Rows.wireBackSpec) (k := Rows.uptoSmall) rfl LC.own started (by kernel_rfl) Try.func5
    (OpenSpec.witness (enc := enc) (C := Try.checked) (s := Rows.OpenSpec.upto Rows.wireBackSpec) (k := Rows.uptoSmall) rfl false ⟨#[], #[.int .u32 0, .string .empty, .slice none 0 0], []⟩ 8 (by kernel_rfl) (by kernel_rfl) (by kernel_rfl)
      (x := ([.lit (.int .u32 0), .lit (.string []), .nil], [], [])) (by kernel_rfl) rfl (by kernel_rfl)) ?_
  intro W base args ds gs before hval0 hW _ hk _
  have hval : ∀ (j : Nat) t v, Try.f5.params[j]? = some t → args[j]? = some v → Value.okWide Try.prog W .any base t v := hval0
  have hW' := hW
  obtain ⟨p, q, hA0, hV, rfl, hfz, hnd⟩ := hW
  obtain ⟨hgs, _⟩ := trodVars_none hV
  subst hgs
  have hA : DataW.TrodAll enc Try.prog W 0 (fun _ => true) true Try.f5.params.toList args.toList ds p := hA0
  rw [Try.params5] at hA hval
  obtain ⟨v0, vs0, d0, ds0, p0, q0, hargs, rfl, rfl, h0, r0⟩ := trodAll_cons hA
  obtain ⟨v1, vs1, d1, ds1, p1, q1, rfl, rfl, rfl, h1, r1⟩ := trodAll_cons r0
  obtain ⟨v2, vs2, d2, ds2, p2, q2, rfl, rfl, rfl, h2, r2⟩ := trodAll_cons r1
  obtain ⟨rfl, rfl, rfl⟩ := trodAll_nil r2
  obtain rfl : args = #[v0, v1, v2] := by cases args; simp_all
  have hkk : Rows.uptoBulkAll ([d0, d1, d2] : List (DataW H)) ≤ 1048576 := of_decide_eq_true hk
  simp only [Rows.uptoBulkAll] at hkk
  obtain ⟨a0, rfl, rfl, rfl, w0'⟩ := open_int Try.underlying22 (hval 0 22 v0 rfl rfl) h0
  have w0 := LW.wf_u32 w0'
  obtain ⟨a1, rfl, rfl, rfl, w1'⟩ := open_string Try.underlying9 (hval 1 9 v1 rfl rfl) h1
  have w1 : a1.size ≤ 1048576 := by
    have hx := hkk
    simp only [Rows.uptoBulk, size_list] at hx
    omega
  obtain ⟨l2, R2, W2, S2⟩ := open_u32s (b0 := base) Try.underlying23 Try.underlying22 cellsWord (hval 2 23 v2 rfl rfl) h2
  have B2 : l2.length ≤ 1048576 := by
    rcases S2 with hh | ⟨el, sp, ee, hh⟩
    · rw [hh]; simp
    · have z := LC.bulk_ge el
      have hx := hkk
      rw [ee] at hx
      simp only [Rows.uptoBulk] at hx
      omega
  refine (WK.WireBack_walk a0 a1 l2 v2 W w0 w1 R2 W2 B2).mono fun e W' ⟨he, hb⟩ => ?_
  subst he
  exact ⟨_, rfl, LW.law_post (tb := 4) LC.laid hW' rfl (fun gs' hg => by subst hg; rfl) (by rw [Try.params5]; decide +kernel) rfl Try.underlying4 hb⟩
theorem proved : Rows.WireBackUptoSaid :=
  OpenClaim.holds_of_cond 5 Try.f5 rfl rfl rfl rfl rfl rfl rfl ⟨rfl, rfl, rfl, rfl, rfl⟩ rfl rfl rfl rfl rfl (by kernel_rfl) Try.func5 (by kernel_rfl)
    (of_decide_eq_true (by kernel_rfl)) (by unfold Func.isWrapper; first | (rw [if_pos (by decide +kernel)]; kernel_rfl) | (rw [if_neg (by decide +kernel)]; exact ⟨rfl, rfl⟩))
    (fun os started H enc _ F => lifted os started H enc F)
end wireBack
end Go.Proofs.Ytjmmkebnebhfoaa
