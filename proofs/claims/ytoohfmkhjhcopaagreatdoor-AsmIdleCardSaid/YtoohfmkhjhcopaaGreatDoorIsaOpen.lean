/-
  An instruction that comes in: what it reads as. Plain lemmas on the form.
-/
import Derived.Test.YtoohfmkhjhcopaaGreatDoorRows
import Derived.Test.YtoohfmkhjhcopaaGreatDoorIsaFn
import Derived.ProofKit
import Derived.OpenShut
set_option linter.unusedSimpArgs false
set_option linter.unusedVariables false
namespace Go.Proofs.YtoohfmkhjhcopaaGreatDoor.IQ
open Go.ChangeShapes Go.WideShapes Go.ChangeAt Go.RowKit IF
section
variable {H : Type} {enc : TypeId × Value → H} {W : World} {base b0 : Nat} {sp : Nat → Bool} {hd : Bool} {r : Reach}

theorem five {α : Type} (l : List α) (h : l.length = 5) : ∃ a b c d e, l = [a, b, c, d, e] := by
  match l, h with
  | [a, b, c, d, e], _ => exact ⟨a, b, c, d, e, rfl⟩
theorem cells8 : Tryz.prog.cellsOf 5 = 1 := by kernel_rfl
theorem cellsOp : Tryz.prog.cellsOf 22 = 1 := by kernel_rfl
theorem cells32 : Tryz.prog.cellsOf 21 = 1 := by kernel_rfl
theorem cellsIns : Tryz.prog.cellsOf 24 = 5 := by kernel_rfl
/-- the readings of a struct's fields, one cell each -/
theorem five_fields {t : TypeId} {f : Array Field} {fuel : Nat} {cs : List Value} {x : DataW H × List MemPlace} (ht : Tryz.prog.underlying t = some (.struct f)) (h : DataW.trod enc Tryz.prog W base sp hd fuel t cs = some x) :
    ∃ n, ∀ (i : Nat) (g : Field) (c : Value), f[i]? = some g → g.offset = i → Tryz.prog.cellsOf g.type = 1 → cs[i]? = some c → ∃ y, DataW.trod enc Tryz.prog W base sp hd n g.type [c] = some y := by
  obtain ⟨xs, n, _, _, _, hx, hg⟩ := DataW.trod_struct ht h
  refine ⟨n, fun i g c h1 h2 h3 h4 => ?_⟩
  have e := hg i g h1
  obtain ⟨hi, hc⟩ := List.getElem?_eq_some_iff.1 h4
  have hd : (cs.drop g.offset).take 1 = [c] := by rw [h2, List.drop_eq_getElem_cons hi, hc]; rfl
  rw [h3, hd] at e
  have hl : i < xs.length := by rw [hx]; exact (Array.getElem?_eq_some_iff.1 h1).1
  rw [List.getElem?_eq_getElem hl] at e
  exact ⟨_, e⟩
theorem one_int {n : Nat} {t : TypeId} {k : IntKind} {c : Value} (ht : Tryz.prog.underlying t = some (.int k)) (h : ∃ y, DataW.trod enc Tryz.prog W base sp hd n t [c] = some y) : ∃ x : Int, c = .int k x ∧ (Lit.int k x).wf = true := by
  obtain ⟨y, h⟩ := h
  obtain ⟨x, e, _, hw⟩ := DataW.trod_int ht h
  exact ⟨x, List.head_eq_of_cons_eq e, hw⟩
set_option maxRecDepth 100000 in
theorem open_ins {v : Value} {d : DataW H} {p : List MemPlace} (hv : Value.okWide Tryz.prog W r b0 24 v) (h : DataW.Trod enc Tryz.prog W base sp hd 24 v d p) :
    ∃ o e a b m : Int, v = insV o e a b m ∧ Fit o e a b m := by
  obtain ⟨cs, rfl, hsz⟩ := okWide_struct Tryz.underlying24 hv
  rw [cellsIns] at hsz
  obtain ⟨fuel, hf⟩ := h
  obtain ⟨c0, c1, c2, c3, c4, hl⟩ := five cs.toList (by simpa using hsz)
  replace hf : DataW.trod enc Tryz.prog W base sp hd fuel 24 cs.toList = some (d, p) := hf
  rw [hl] at hf
  obtain ⟨n, hg⟩ := five_fields Tryz.underlying24 hf
  obtain ⟨x0, rfl, w0⟩ := one_int Tryz.underlying22 (hg 0 _ c0 rfl rfl cellsOp rfl)
  obtain ⟨x1, rfl, w1⟩ := one_int Tryz.underlying5 (hg 1 _ c1 rfl rfl cells8 rfl)
  obtain ⟨x2, rfl, w2⟩ := one_int Tryz.underlying5 (hg 2 _ c2 rfl rfl cells8 rfl)
  obtain ⟨x3, rfl, w3⟩ := one_int Tryz.underlying5 (hg 3 _ c3 rfl rfl cells8 rfl)
  obtain ⟨x4, rfl, w4⟩ := one_int Tryz.underlying21 (hg 4 _ c4 rfl rfl cells32 rfl)
  refine ⟨x0, x1, x2, x3, x4, ?_, ?_⟩
  · show Value.agg cs = _
    rw [← Array.toArray_toList (xs := cs), hl]
  · have b0 : 0 ≤ x0 ∧ x0 ≤ 255 := by simpa [Lit.wf, IntKind.min, IntKind.max, IntKind.signed, IntKind.bits] using w0
    have b1 : 0 ≤ x1 ∧ x1 ≤ 255 := by simpa [Lit.wf, IntKind.min, IntKind.max, IntKind.signed, IntKind.bits] using w1
    have b2 : 0 ≤ x2 ∧ x2 ≤ 255 := by simpa [Lit.wf, IntKind.min, IntKind.max, IntKind.signed, IntKind.bits] using w2
    have b3 : 0 ≤ x3 ∧ x3 ≤ 255 := by simpa [Lit.wf, IntKind.min, IntKind.max, IntKind.signed, IntKind.bits] using w3
    have b4 : -2147483648 ≤ x4 ∧ x4 ≤ 2147483647 := by simpa [Lit.wf, IntKind.min, IntKind.max, IntKind.signed, IntKind.bits] using w4
    exact ⟨b0, b1, b2, b3, b4⟩
end
end Go.Proofs.YtoohfmkhjhcopaaGreatDoor.IQ
