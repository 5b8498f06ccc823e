/-
  Slices of words that come in: what they read as. Plain lemmas on the form.
-/
import Derived.Test.YtdnjilnnlgphhaaRows
import Derived.Test.YtdnjilnnlgphhaaRelRow
import Derived.ProofKit
import Derived.OpenShut
import Derived.Deep.Slices
import Derived.SizedLaws
set_option linter.unusedSimpArgs false
set_option linter.unusedVariables false
namespace Go.Proofs.Ytdnjilnnlgphhaa.NR
open Go.ChangeShapes Go.WideShapes Go.ChangeAt Go.RowKit
section
variable {H : Type} {enc : TypeId × Value → H} {W : World} {b0 : Nat}

theorem no_spot {w : World} {a : Addr} {i : Nat} {v : Value} (h : w.cell? (a.add i) = some v) (h0 : w.cell? (a.add 0) ≠ none) : a = ⟨a.block, a.off, none⟩ := by
  have : (a.add 0) = a := by unfold Addr.add; simp
  rw [this] at h0
  unfold World.cell? at h0
  obtain ⟨b, o, s⟩ := a
  cases s with
  | none => rfl
  | some s => 
    exfalso
    apply h0
    simp only
    split
    · simp
    · rfl
theorem add_off (g off i : Nat) : ((⟨g, off, none⟩ : Addr).add i) = ⟨g, off + i, none⟩ := by
  unfold Addr.add
  split
  · subst_vars; simp
  · rfl
set_option maxRecDepth 100000 in
/-- a slice of numbers that came in -/
theorem open_nums {t e : TypeId} {k : IntKind} {v : Value} {d : DataW H} {p : List MemPlace} (ht : Try.prog.underlying t = some (.slice e)) (he : Try.prog.underlying e = some (.int k)) (hc : Try.prog.cellsOf e = 1)
    (hv : Value.okWide Try.prog W .any b0 t v) (h : DataW.Trod enc Try.prog W 0 (fun _ => true) true t v d p) :
    ∃ zs : List Int, Reads (· < W.heap.size) W v (zs.map (Value.int k)) ∧ (∀ z ∈ zs, (Lit.int k z).wf = true) ∧ (zs = [] ∨ ∃ elems spare, d = .slice elems spare ∧ elems.length = zs.length) := by
  obtain ⟨a0, len, cap, rfl⟩ := okWide_slice ht hv
  obtain ⟨fuel, hf⟩ := h
  rcases open_ints ht he hc hf with ⟨hcs, hx⟩ | ⟨a, len', cap', zs, hcs, _, hl, hm, hz, hx, hcell, hwz⟩
  · simp [Value.cells] at hcs
    obtain ⟨rfl, rfl, rfl⟩ := hcs
    exact ⟨[], Reads.nil _ _, by simp, Or.inl rfl⟩
  · simp [Value.cells] at hcs
    obtain ⟨rfl, rfl, rfl⟩ := hcs
    simp only [if_true] at hz
    simp only [Prod.mk.injEq] at hx
    have hlen : (zs.take len).length = len := by rw [List.length_take]; omega
    refine ⟨zs.take len, ⟨some a, cap, by rw [List.length_map, hlen], by rw [List.length_map, hlen]; exact hl, hm, (fun h => by cases h), ?_⟩, fun z hz' => hwz z (List.mem_of_mem_take hz'), Or.inr ⟨_, _, hx.1, by simp [lits]⟩⟩
    by_cases h0 : len = 0
    · left; subst h0; simp
    · right
      have hc0 := hcell 0 (by omega)
      have hsp := no_spot hc0 (by rw [hc0]; simp)
      have hb : a.block < W.heap.size := by
        have : (a.add 0) = a := by unfold Addr.add; simp
        rw [this] at hc0
        exact World.block_lt_of_cell? W a hc0
      refine ⟨a.block, a.off, by rw [← hsp], hb, fun j hj => ?_⟩
      rw [List.length_map, hlen] at hj
      have hcj := hcell j (by omega)
      rw [hsp, add_off] at hcj
      rw [hcj, List.getElem?_map, List.getElem?_take_of_lt hj, List.getElem?_eq_getElem (by omega), List.getD_eq_getElem?_getD, List.getElem?_eq_getElem (by omega)]
      rfl
set_option maxRecDepth 100000 in
theorem open_u32s {t e : TypeId} {v : Value} {d : DataW H} {p : List MemPlace} (ht : Try.prog.underlying t = some (.slice e)) (he : Try.prog.underlying e = some (.int .u32)) (hc : Try.prog.cellsOf e = 1)
    (hv : Value.okWide Try.prog W .any b0 t v) (h : DataW.Trod enc Try.prog W 0 (fun _ => true) true t v d p) :
    ∃ l : List Nat, Reads (· < W.heap.size) W v (u32s l) ∧ (∀ x ∈ l, x < 4294967296) ∧ (l = [] ∨ ∃ elems spare, d = .slice elems spare ∧ elems.length = l.length) := by
  obtain ⟨zs, h1, h2, h3⟩ := open_nums ht he hc hv h
  have hbs : ∀ z ∈ zs, 0 ≤ z ∧ z ≤ 4294967295 := fun z hz => by
    have hw := h2 z hz
    simpa [Lit.wf, IntKind.min, IntKind.max, IntKind.signed, IntKind.bits] using hw
  have e : u32s (zs.map Int.toNat) = zs.map (Value.int .u32) := by
    unfold u32s
    rw [List.map_map]
    apply List.map_congr_left
    intro z hz
    have hb := hbs z hz
    simp only [Function.comp]
    congr 1
    omega
  refine ⟨zs.map Int.toNat, by rw [e]; exact h1, ?_, ?_⟩
  · intro x hx
    obtain ⟨z, hz, rfl⟩ := List.mem_map.1 hx
    have := hbs z hz
    omega
  · rcases h3 with h3 | ⟨a, b, h4, h5⟩
    · left; rw [h3]; rfl
    · right; exact ⟨a, b, h4, by rw [List.length_map]; exact h5⟩
theorem cellsWord : Try.prog.cellsOf 26 = 1 := by kernel_rfl
end
end Go.Proofs.Ytdnjilnnlgphhaa.NR
