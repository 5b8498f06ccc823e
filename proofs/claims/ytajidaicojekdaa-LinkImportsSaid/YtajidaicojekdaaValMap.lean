/-
  A map whose keys are words of a module (section and place), as a function. Nothing here is a statement of the seed.
-/
import Derived.Test.YtajidaicojekdaaObjA
import Derived.Maps.OwnSet
import Derived.DeepKeys4
set_option linter.unusedSimpArgs false
set_option linter.unusedVariables false
namespace Go.Proofs.Ytajidaicojekdaa.VR
open Go.RowKit Go.Maps WM NR OM OR
set_option maxRecDepth 10000
theorem laidOut : laidOutB Try.prog = true := by kernel_rfl
theorem rowSpot : (187 : TypeId) < Try.prog.types.size := of_decide_eq_true (by kernel_rfl)
theorem wideSpot : (match Try.prog.underlying 187 with | some (.array _ _) | some (.struct _) => true | _ => false) = true := by kernel_rfl
theorem spotLaw : Keyed Try.prog 187 := Keyed.of_law (deep_law_laid laidOut (m := 2) (by omega) rowSpot (by kernel_rfl) wideSpot)
theorem zeroInt (w : World) : (zeroValue 3).run Try.prog w = .ok (.int .i64 0) w := by kernel_rfl
/-- what a word reads as among a map's keys -/
def klit (d : Bool) (a : Int) : Lit := .string (keyBytes [.bool d, .int .u16 a])
theorem keyTypeSpot : Try.prog.keyType 187 = true := by kernel_rfl
theorem cellsSpot : Try.prog.cellsOf 187 = 2 := by kernel_rfl
theorem cellsBool : Try.prog.cellsOf 4 = 1 := by kernel_rfl
theorem cellsU16 : Try.prog.cellsOf 65 = 1 := by kernel_rfl
theorem typesSize : ∃ n, Try.prog.types.size = n + 2 := ⟨Try.prog.types.size - 2, by have : 2 ≤ Try.prog.types.size := of_decide_eq_true (by kernel_rfl); omega⟩
theorem key_spot (d : Bool) (a : Int) (ha : 0 ≤ a ∧ a ≤ 65535) : keyOf Try.prog 187 (.agg #[.bool d, .int .u16 a]) = some (klit d a) := by
  have hw : (Lit.int .u16 a).wf = true := by simp [Lit.wf, IntKind.min, IntKind.max, IntKind.bits, IntKind.signed]; omega
  have hf : (Value.agg #[.bool d, .int .u16 a]).formed Try.prog 187 = true := by
    simp [Value.formed, Try.underlying187, cellsSpot]
  obtain ⟨n, hn⟩ := typesSize
  unfold keyOf
  rw [keyTypeSpot, hf, hn]
  simp [Try.underlying187, Program.keyLits, Try.underlying4, Try.underlying65, cellsSpot, cellsBool, cellsU16, Value.cells, hw, klit]
theorem spot_lit (d : Bool) (a : Int) (ha : 0 ≤ a ∧ a ≤ 65535) : WideAt.IsKeyLit (klit d a) := spotLaw.key (key_spot d a ha)
theorem spot_ne {d d' : Bool} {a a' : Int} (ha : 0 ≤ a ∧ a ≤ 65535) (ha' : 0 ≤ a' ∧ a' ≤ 65535) (h : ¬ (d' = d ∧ a' = a)) : klit d' a' ≠ klit d a := fun e => by
  have h1 := key_spot d a ha
  have h2 := key_spot d' a' ha'
  rw [e] at h2
  have h3 := spotLaw.inj h2 h1
  simp at h3
  exact h ⟨h3.1, h3.2⟩
/-- block b is a map that tells what f tells -/
def MapF (u : World) (b n : Nat) (f : Bool → Int → Option Int) : Prop :=
  ∃ D : DataW Unit, u.ownsMap Try.prog 187 (plainElem Try.prog 3) b n D ∧ ∀ d a, 0 ≤ a ∧ a ≤ 65535 → Maps.has D (klit d a) = (f d a).isSome ∧ D.atKey (klit d a) (.lit (.int .i64 0)) = .lit (.int .i64 ((f d a).getD 0))
section
variable {u u' : World} {b n : Nat} {f : Bool → Int → Option Int}
theorem MapF.made (u : World) : MapF (u.alloc (.map #[] 0)) u.heap.size 0 (fun _ _ => none) :=
  ⟨_, World.ownsMap_made _ _ _ _, fun d a ha => ⟨rfl, rfl⟩⟩
theorem MapF.mono (h : MapF u b n f) {m : Nat} (hm : n ≤ m) : MapF u b m f := by
  obtain ⟨D, h1, h2⟩ := h
  exact ⟨D, h1.mono hm, h2⟩
theorem MapF.lt (h : MapF u b n f) : b < u.heap.size := by obtain ⟨D, h1, _⟩ := h; exact h1.lt
theorem MapF.kept (h : MapF u b n f) {row : Option Nat} (hg : u.grownBy u' row) (hne : some b ≠ row) : MapF u' b n f := by
  obtain ⟨D, h1, h2⟩ := h
  exact ⟨D, h1.kept hg hne, h2⟩
theorem MapF.belowS (h : MapF u b n f) (hb : Below u.heap.size u u') : MapF u' b n f := h.kept (grown_below none hb) (by simp)
theorem MapF.below {B : Nat} (h : MapF u b n f) (hb : Below B u u') (hB : b < B) : MapF u' b n f := by
  obtain ⟨D, ⟨es, clock, e1, e2⟩, h2⟩ := h
  exact ⟨D, ⟨es, clock, by rw [hb.block b hB]; exact e1, e2⟩, h2⟩
theorem MapF.as {g : Bool → Int → Option Int} (h : MapF u b n f) (he : ∀ d a, 0 ≤ a ∧ a ≤ 65535 → f d a = g d a) : MapF u b n g := by
  obtain ⟨D, h1, h2⟩ := h
  exact ⟨D, h1, fun d a ha => by rw [← he d a ha]; exact h2 d a ha⟩
theorem MapF.look (h : MapF u b n f) (d : Bool) (a : Int) (ha : 0 ≤ a ∧ a ≤ 65535) :
    (Instr.lookup 184 (.map (some b)) (.agg #[.bool d, .int .u16 a]) false).run Try.prog u = .ok (.int .i64 ((f d a).getD 0)) u := by
  obtain ⟨D, h1, h2⟩ := h
  obtain ⟨c, hr, hc, _⟩ := h1.lookup_int spotLaw Try.underlying184 Try.underlying3 (zeroInt u) (key_spot d a ha)
  rw [(h2 d a ha).2] at hc
  simp only [DataW.lit.injEq, Lit.int.injEq, true_and] at hc
  rw [hc]
  exact hr
theorem MapF.look_ok (h : MapF u b n f) (d : Bool) (a : Int) (ha : 0 ≤ a ∧ a ≤ 65535) :
    (Instr.lookup 184 (.map (some b)) (.agg #[.bool d, .int .u16 a]) true).run Try.prog u = .ok (.tuple #[.int .i64 ((f d a).getD 0), .bool (f d a).isSome]) u := by
  obtain ⟨D, h1, h2⟩ := h
  obtain ⟨v, ps, hr, hv⟩ := h1.look_ok spotLaw Try.underlying184 (zeroInt u) (plainElem_int Try.underlying3 (by decide)) (key_spot d a ha)
  obtain ⟨c, rfl, hc, _⟩ := plainElem_int_inv Try.underlying3 hv
  rw [(h2 d a ha).2] at hc
  simp only [Prod.mk.injEq, DataW.lit.injEq, Lit.int.injEq, true_and] at hc
  rw [(h2 d a ha).1, ← hc.1] at hr
  exact hr
theorem MapF.put (h : MapF u b n f) (hn : n < maxLen) (d : Bool) (a : Int) (ha : 0 ≤ a ∧ a ≤ 65535) (v : Int) (hv : -9223372036854775808 ≤ v ∧ v ≤ 9223372036854775807) :
    ∃ u', (Instr.mapUpdate 184 (.map (some b)) (.agg #[.bool d, .int .u16 a]) (.int .i64 v)).run Try.prog u = .ok () u' ∧ MapF u' b (n + 1) (fun d' a' => if d' = d ∧ a' = a then some v else f d' a') ∧ u.grownBy u' (some b) := by
  obtain ⟨D, h1, h2⟩ := h
  have hw : (Lit.int .i64 v).wf = true := by simp [Lit.wf, IntKind.min, IntKind.max, IntKind.bits, IntKind.signed]; omega
  obtain ⟨u', hr, h3, hg⟩ := h1.update spotLaw Try.underlying184 hn (key_spot d a ha) (plainElem_int Try.underlying3 hw)
  refine ⟨u', hr, ⟨_, h3, fun d' a' ha' => ?_⟩, hg⟩
  by_cases e : d' = d ∧ a' = a
  · obtain ⟨rfl, rfl⟩ := e
    simp only [and_self, if_true]
    exact ⟨Maps.has_put_same h1.isMap (spot_lit _ _ ha) _, Maps.atKey_put_same h1.isMap (spot_lit _ _ ha) _ _⟩
  · simp only [if_neg e]
    rw [Maps.has_put_other (spot_ne ha ha' e), Maps.atKey_put_other (spot_ne ha ha' e)]
    exact h2 d' a' ha'
end
end Go.Proofs.Ytajidaicojekdaa.VR
