/-
  A relocation and a place that come in: what they read as. Plain lemmas on the form.
-/
import Derived.Test.YtdnjilnnlgphhaaRows
import Derived.Test.YtdnjilnnlgphhaaLaw
import Derived.Test.YtdnjilnnlgphhaaRelWords
import Derived.Test.YtdnjilnnlgphhaaRelVal
import Derived.ProofKit
import Derived.OpenShut
set_option linter.unusedSimpArgs false
set_option linter.unusedVariables false
namespace Go.Proofs.Ytdnjilnnlgphhaa.RQ
open Go.ChangeShapes Go.WideShapes Go.ChangeAt Go.RowKit RF
section
variable {H : Type} {enc : TypeId × Value → H} {W : World} {base b0 : Nat} {sp : Nat → Bool} {hd : Bool} {r : Reach}

theorem three {α : Type} (l : List α) (h : l.length = 3) : ∃ a b c, l = [a, b, c] := by
  match l, h with
  | [a, b, c], _ => exact ⟨a, b, c, rfl⟩
theorem two {α : Type} (l : List α) (h : l.length = 2) : ∃ a b, l = [a, b] := by
  match l, h with
  | [a, b], _ => exact ⟨a, b, rfl⟩
theorem cellsKind : Try.prog.cellsOf 22 = 1 := by kernel_rfl
theorem cells16 : Try.prog.cellsOf 23 = 1 := by kernel_rfl
theorem cells32 : Try.prog.cellsOf 26 = 1 := by kernel_rfl
theorem cellsReloc : Try.prog.cellsOf 25 = 3 := by kernel_rfl
theorem cellsPlace : Try.prog.cellsOf 28 = 2 := by kernel_rfl
/-- the readings of a struct's fields, one cell each -/
theorem fields {t : TypeId} {f : Array Field} {fuel : Nat} {cs : List Value} {x : DataW H × List MemPlace} (ht : Try.prog.underlying t = some (.struct f)) (h : DataW.trod enc Try.prog W base sp hd fuel t cs = some x) :
    ∃ n, ∀ (i : Nat) (g : Field) (c : Value), f[i]? = some g → g.offset = i → Try.prog.cellsOf g.type = 1 → cs[i]? = some c → ∃ y, DataW.trod enc Try.prog W base sp hd n g.type [c] = some y := by
  obtain ⟨xs, n, _, _, _, hx, hg⟩ := DataW.trod_struct ht h
  refine ⟨n, fun i g c h1 h2 h3 h4 => ?_⟩
  have e := hg i g h1
  obtain ⟨hi, hc⟩ := List.getElem?_eq_some_iff.1 h4
  have hd : (cs.drop g.offset).take 1 = [c] := by rw [h2, List.drop_eq_getElem_cons hi, hc]; rfl
  rw [h3, hd] at e
  have hl : i < xs.length := by rw [hx]; exact (Array.getElem?_eq_some_iff.1 h1).1
  rw [List.getElem?_eq_getElem hl] at e
  exact ⟨_, e⟩
theorem one_int {n : Nat} {t : TypeId} {k : IntKind} {c : Value} (ht : Try.prog.underlying t = some (.int k)) (h : ∃ y, DataW.trod enc Try.prog W base sp hd n t [c] = some y) : ∃ x : Int, c = .int k x ∧ (Lit.int k x).wf = true := by
  obtain ⟨y, h⟩ := h
  obtain ⟨x, e, _, hw⟩ := DataW.trod_int ht h
  exact ⟨x, List.head_eq_of_cons_eq e, hw⟩
theorem open_reloc {v : Value} {d : DataW H} {p : List MemPlace} (hv : Value.okWide Try.prog W r b0 25 v) (h : DataW.Trod enc Try.prog W base sp hd 25 v d p) :
    ∃ k a i : Int, v = relV k a i ∧ (0 ≤ k ∧ k ≤ 255) ∧ 0 ≤ i ∧ i ≤ 65535 := by
  obtain ⟨cs, rfl, hsz⟩ := okWide_struct Try.underlying25 hv
  rw [cellsReloc] at hsz
  obtain ⟨fuel, hf⟩ := h
  obtain ⟨c0, c1, c2, hl⟩ := three cs.toList (by simpa using hsz)
  replace hf : DataW.trod enc Try.prog W base sp hd fuel 25 cs.toList = some (d, p) := hf
  rw [hl] at hf
  obtain ⟨n, hg⟩ := fields Try.underlying25 hf
  obtain ⟨x0, rfl, w0⟩ := one_int Try.underlying22 (hg 0 _ c0 rfl rfl cellsKind rfl)
  obtain ⟨x1, rfl, w1⟩ := one_int Try.underlying23 (hg 1 _ c1 rfl rfl cells16 rfl)
  obtain ⟨x2, rfl, w2⟩ := one_int Try.underlying23 (hg 2 _ c2 rfl rfl cells16 rfl)
  refine ⟨x0, x1, x2, ?_, ?_, ?_⟩
  · show Value.agg cs = _
    rw [← Array.toArray_toList (xs := cs), hl]
  · simpa [Lit.wf, IntKind.min, IntKind.max, IntKind.signed, IntKind.bits] using w0
  · simpa [Lit.wf, IntKind.min, IntKind.max, IntKind.signed, IntKind.bits] using w2
theorem open_place {v : Value} {d : DataW H} {p : List MemPlace} (hv : Value.okWide Try.prog W r b0 28 v) (h : DataW.Trod enc Try.prog W base sp hd 28 v d p) :
    ∃ c e : Int, v = plV c e ∧ (0 ≤ c ∧ c ≤ 4294967295) ∧ 0 ≤ e ∧ e ≤ 4294967295 := by
  obtain ⟨cs, rfl, hsz⟩ := okWide_struct Try.underlying28 hv
  rw [cellsPlace] at hsz
  obtain ⟨fuel, hf⟩ := h
  obtain ⟨c0, c1, hl⟩ := two cs.toList (by simpa using hsz)
  replace hf : DataW.trod enc Try.prog W base sp hd fuel 28 cs.toList = some (d, p) := hf
  rw [hl] at hf
  obtain ⟨n, hg⟩ := fields Try.underlying28 hf
  obtain ⟨x0, rfl, w0⟩ := one_int Try.underlying26 (hg 0 _ c0 rfl rfl cells32 rfl)
  obtain ⟨x1, rfl, w1⟩ := one_int Try.underlying26 (hg 1 _ c1 rfl rfl cells32 rfl)
  refine ⟨x0, x1, ?_, LW.wf_u32 w0, LW.wf_u32 w1⟩
  show Value.agg cs = _
  rw [← Array.toArray_toList (xs := cs), hl]
end
end Go.Proofs.Ytdnjilnnlgphhaa.RQ
