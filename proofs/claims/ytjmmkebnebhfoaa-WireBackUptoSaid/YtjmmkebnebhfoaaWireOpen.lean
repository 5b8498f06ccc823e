/-
  Slices that come in: what they read as. Plain lemmas on the form.
-/
import Derived.Test.YtjmmkebnebhfoaaRows
import Derived.Test.YtjmmkebnebhfoaaWireAct
import Derived.ProofKit
import Derived.OpenShut
import Derived.Deep.Slices
import Derived.SizedLaws
set_option linter.unusedSimpArgs false
set_option linter.unusedVariables false
namespace Go.Proofs.Ytjmmkebnebhfoaa.NR
open Go.ChangeShapes Go.WideShapes Go.ChangeAt Go.RowKit
section
variable {H : Type} {enc : TypeId × Value → H} {W : World} {b0 : Nat}

theorem no_spot {w : World} {a : Addr} {i : Nat} {v : Value} (h : w.cell? (a.add i) = some v) (h0 : w.cell? (a.add 0) ≠ none) : a = ⟨a.block, a.off, none⟩ := by
  have : (a.add 0) = a := by unfold Addr.add; simp
  rw [this] at h0
  unfold World.cell? at h0
  obtain ⟨b, o, s⟩ := a
  cases s with
  | none => rfl
  | some s => 
    exfalso
    apply h0
    simp only
    split
    · simp
    · rfl
theorem add_off (g off i : Nat) : ((⟨g, off, none⟩ : Addr).add i) = ⟨g, off + i, none⟩ := by
  unfold Addr.add
  split
  · subst_vars; simp
  · rfl
/-- a slice of numbers that came in -/
theorem open_nums {t e : TypeId} {k : IntKind} {v : Value} {d : DataW H} {p : List MemPlace} (ht : Try.prog.underlying t = some (.slice e)) (he : Try.prog.underlying e = some (.int k)) (hc : Try.prog.cellsOf e = 1)
    (hv : Value.okWide Try.prog W .any b0 t v) (h : DataW.Trod enc Try.prog W 0 (fun _ => true) true t v d p) :
    ∃ zs : List Int, Reads (· < W.heap.size) W v (zs.map (Value.int k)) ∧ (∀ z ∈ zs, (Lit.int k z).wf = true) ∧ (zs = [] ∨ ∃ elems spare, d = .slice elems spare ∧ elems.length = zs.length) := by
  obtain ⟨a0, len, cap, rfl⟩ := okWide_slice ht hv
  obtain ⟨fuel, hf⟩ := h
  rcases open_ints ht he hc hf with ⟨hcs, hx⟩ | ⟨a, len', cap', zs, hcs, _, hl, hm, hz, hx, hcell, hwz⟩
  · simp [Value.cells] at hcs
    obtain ⟨rfl, rfl, rfl⟩ := hcs
    exact ⟨[], Reads.nil _ _, by simp, Or.inl rfl⟩
  · simp [Value.cells] at hcs
    obtain ⟨rfl, rfl, rfl⟩ := hcs
    simp only [if_true] at hz
    simp only [Prod.mk.injEq] at hx
    have hlen : (zs.take len).length = len := by rw [List.length_take]; omega
    refine ⟨zs.take len, ⟨some a, cap, by rw [List.length_map, hlen], by rw [List.length_map, hlen]; exact hl, hm, (fun h => by cases h), ?_⟩, fun z hz' => hwz z (List.mem_of_mem_take hz'), Or.inr ⟨_, _, hx.1, by simp [lits]⟩⟩
    by_cases h0 : len = 0
    · left; subst h0; simp
    · right
      have hc0 := hcell 0 (by omega)
      have hsp := no_spot hc0 (by rw [hc0]; simp)
      have hb : a.block < W.heap.size := by
        have : (a.add 0) = a := by unfold Addr.add; simp
        rw [this] at hc0
        exact World.block_lt_of_cell? W a hc0
      refine ⟨a.block, a.off, by rw [← hsp], hb, fun j hj => ?_⟩
      rw [List.length_map, hlen] at hj
      have hcj := hcell j (by omega)
      rw [hsp, add_off] at hcj
      rw [hcj, List.getElem?_map, List.getElem?_take_of_lt hj, List.getElem?_eq_getElem (by omega), List.getD_eq_getElem?_getD, List.getElem?_eq_getElem (by omega)]
      rfl
theorem open_u8s {t e : TypeId} {v : Value} {d : DataW H} {p : List MemPlace} (ht : Try.prog.underlying t = some (.slice e)) (he : Try.prog.underlying e = some (.int .u8)) (hc : Try.prog.cellsOf e = 1)
    (hv : Value.okWide Try.prog W .any b0 t v) (h : DataW.Trod enc Try.prog W 0 (fun _ => true) true t v d p) :
    ∃ l : List UInt8, Reads (· < W.heap.size) W v (u8s l) ∧ (l = [] ∨ ∃ elems spare, d = .slice elems spare ∧ elems.length = l.length) := by
  obtain ⟨zs, h1, h2, h3⟩ := open_nums ht he hc hv h
  have e : u8s (zs.map fun z => UInt8.ofNat z.toNat) = zs.map (Value.int .u8) := by
    unfold u8s
    rw [List.map_map]
    apply List.map_congr_left
    intro z hz
    have hw := h2 z hz
    have hb : 0 ≤ z ∧ z ≤ 255 := by simpa [Lit.wf, IntKind.min, IntKind.max, IntKind.signed, IntKind.bits] using hw
    simp only [Function.comp]
    rw [WM.toNat_ofNat]
    congr 1
    omega
  refine ⟨zs.map fun z => UInt8.ofNat z.toNat, by rw [e]; exact h1, ?_⟩
  rcases h3 with h3 | ⟨a, b, h4, h5⟩
  · left; rw [h3]; rfl
  · right; exact ⟨a, b, h4, by rw [List.length_map]; exact h5⟩
theorem open_u32s {t e : TypeId} {v : Value} {d : DataW H} {p : List MemPlace} (ht : Try.prog.underlying t = some (.slice e)) (he : Try.prog.underlying e = some (.int .u32)) (hc : Try.prog.cellsOf e = 1)
    (hv : Value.okWide Try.prog W .any b0 t v) (h : DataW.Trod enc Try.prog W 0 (fun _ => true) true t v d p) :
    ∃ l : List Nat, Reads (· < W.heap.size) W v (u32s l) ∧ (∀ x ∈ l, x < 4294967296) ∧ (l = [] ∨ ∃ elems spare, d = .slice elems spare ∧ elems.length = l.length) := by
  obtain ⟨zs, h1, h2, h3⟩ := open_nums ht he hc hv h
  have hbs : ∀ z ∈ zs, 0 ≤ z ∧ z ≤ 4294967295 := fun z hz => by
    have hw := h2 z hz
    simpa [Lit.wf, IntKind.min, IntKind.max, IntKind.signed, IntKind.bits] using hw
  have e : u32s (zs.map Int.toNat) = zs.map (Value.int .u32) := by
    unfold u32s
    rw [List.map_map]
    apply List.map_congr_left
    intro z hz
    have hb := hbs z hz
    simp only [Function.comp]
    congr 1
    omega
  refine ⟨zs.map Int.toNat, by rw [e]; exact h1, ?_, ?_⟩
  · intro x hx
    obtain ⟨z, hz, rfl⟩ := List.mem_map.1 hx
    have := hbs z hz
    omega
  · rcases h3 with h3 | ⟨a, b, h4, h5⟩
    · left; rw [h3]; rfl
    · right; exact ⟨a, b, h4, by rw [List.length_map]; exact h5⟩
theorem cellsAct : Try.prog.cellsOf 38 = 2 := by kernel_rfl
theorem cellsByte : Try.prog.cellsOf 5 = 1 := by kernel_rfl
theorem cellsI32 : Try.prog.cellsOf 21 = 1 := by kernel_rfl
theorem cellsWord : Try.prog.cellsOf 22 = 1 := by kernel_rfl
theorem add_twice (a : Addr) (i j : Nat) : (a.add i).add j = a.add (i + j) := by
  unfold Addr.add
  by_cases hi : i = 0 <;> by_cases hj : j = 0 <;> simp [hi, hj, Nat.add_assoc]
/-- calls that came in -/
theorem open_acts {v : Value} {d : DataW H} {p : List MemPlace}
    (hv : Value.okWide Try.prog W .any b0 30 v) (h : DataW.Trod enc Try.prog W 0 (fun _ => true) true 30 v d p) : ∃ n, Acts W.heap.size W v n := by
  obtain ⟨a0, len, cap, rfl⟩ := okWide_slice Try.underlying30 hv
  obtain ⟨fuel, hf⟩ := h
  rcases Go.Deep.open_slice Try.underlying30 hf with ⟨hcs, hx⟩ | ⟨a, len', cap', m, nf, D, Pl, hcs, hb, hl, hm, hmm, hx, hel⟩
  · simp [Value.cells] at hcs
    obtain ⟨rfl, rfl, rfl⟩ := hcs
    exact ⟨0, none, 0, rfl, Nat.le_refl _, by simp [maxLen], Or.inl rfl⟩
  · simp [Value.cells] at hcs
    obtain ⟨rfl, rfl, rfl⟩ := hcs
    simp only [if_true] at hmm
    subst hmm
    have each : ∀ i, i < len → ∃ K M : Int, 0 ≤ K ∧ K ≤ 255 ∧ -2147483648 ≤ M ∧ M ≤ 2147483647 ∧ W.cell? (a.add (i * 2)) = some (.int .u8 K) ∧ W.cell? (a.add (i * 2 + 1)) = some (.int .i32 M) := by
      intro i hi
      obtain ⟨cs', h1, h2⟩ := hel i (by omega)
      rw [cellsAct] at h1
      obtain ⟨_, hlen2, hc⟩ := World.cells?_some h1
      obtain ⟨y0, y1, nn, _, _, t0, t1⟩ := trod_struct2 Try.underlying38 h2
      match cs', hlen2 with
      | [c0, c1], _ =>
      rw [cellsByte] at t0
      rw [cellsI32] at t1
      obtain ⟨K, e0, _, wK⟩ := DataW.trod_int Try.underlying5 t0
      obtain ⟨M, e1, _, wM⟩ := DataW.trod_int Try.underlying21 t1
      simp at e0 e1
      subst e0 e1
      have bK : 0 ≤ K ∧ K ≤ 255 := by simpa [Lit.wf, IntKind.min, IntKind.max, IntKind.signed, IntKind.bits] using wK
      have bM : -2147483648 ≤ M ∧ M ≤ 2147483647 := by simpa [Lit.wf, IntKind.min, IntKind.max, IntKind.signed, IntKind.bits] using wM
      have g0 := hc 0 (by omega)
      have g1 := hc 1 (by omega)
      rw [add_twice] at g0 g1
      exact ⟨K, M, bK.1, bK.2, bM.1, bM.2, g0, g1⟩
    refine ⟨len, some a, m, rfl, hl, hm, ?_⟩
    by_cases h0 : len = 0
    · exact Or.inl h0
    · obtain ⟨K, M, _, _, _, _, g0, _⟩ := each 0 (by omega)
      rw [Nat.zero_mul] at g0
      have hsp := no_spot g0 (by rw [g0]; simp)
      have hbl : a.block < W.heap.size := by
        have e : (a.add 0) = a := by unfold Addr.add; simp
        rw [e] at g0
        exact World.block_lt_of_cell? W a g0
      refine Or.inr ⟨a.block, a.off, by rw [← hsp], hbl, fun i hi => ?_⟩
      obtain ⟨K, M, k1, k2, k3, k4, k5, k6⟩ := each i hi
      rw [hsp, add_off] at k5 k6
      exact ⟨K, M, k1, k2, k3, k4, k5, k6⟩
end
end Go.Proofs.Ytjmmkebnebhfoaa.NR
