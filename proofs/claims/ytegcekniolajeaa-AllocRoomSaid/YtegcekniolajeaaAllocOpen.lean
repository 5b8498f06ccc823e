/-
  Rows and sizes that come in: what they read as. Plain lemmas on the form.
-/
import Derived.Test.YtegcekniolajeaaRows
import Derived.Test.YtegcekniolajeaaAllocRow
import Derived.ProofKit
import Derived.OpenShut
import Derived.Deep.Slices
import Derived.SizedLaws
set_option linter.unusedSimpArgs false
set_option linter.unusedVariables false
namespace Go.Proofs.Ytegcekniolajeaa.NR
open Go.ChangeShapes Go.WideShapes Go.ChangeAt Go.RowKit
section
variable {H : Type} {enc : TypeId × Value → H} {W : World} {b0 : Nat}

theorem no_spot {w : World} {a : Addr} {i : Nat} {v : Value} (h : w.cell? (a.add i) = some v) (h0 : w.cell? (a.add 0) ≠ none) : a = ⟨a.block, a.off, none⟩ := by
  have : (a.add 0) = a := by unfold Addr.add; simp
  rw [this] at h0
  unfold World.cell? at h0
  obtain ⟨b, o, s⟩ := a
  cases s with
  | none => rfl
  | some s =>
    exfalso
    apply h0
    simp only
    split
    · simp
    · rfl
theorem add_off (g off i : Nat) : ((⟨g, off, none⟩ : Addr).add i) = ⟨g, off + i, none⟩ := by
  unfold Addr.add
  split
  · subst_vars; simp
  · rfl
theorem cellsB : Try.prog.cellsOf 4 = 1 := by kernel_rfl
theorem cellsI : Try.prog.cellsOf 3 = 1 := by kernel_rfl
/-- sizes that came in -/
theorem open_i64s {v : Value} {d : DataW H} {p : List MemPlace} (hv : Value.okWide Try.prog W .any b0 36 v) (h : DataW.Trod enc Try.prog W 0 (fun _ => true) true 36 v d p) :
    ∃ zs : List Int, Reads (· < W.heap.size) W v (i64s zs) ∧ (∀ z ∈ zs, -9223372036854775808 ≤ z ∧ z ≤ 9223372036854775807) := by
  obtain ⟨a0, len, cap, rfl⟩ := okWide_slice Try.underlying36 hv
  obtain ⟨fuel, hf⟩ := h
  rcases open_ints Try.underlying36 Try.underlying3 cellsI hf with ⟨hcs, hx⟩ | ⟨a, len', cap', zs, hcs, _, hl, hm, hz, hx, hcell, hwz⟩
  · simp [Value.cells] at hcs
    obtain ⟨rfl, rfl, rfl⟩ := hcs
    exact ⟨[], Reads.nil _ _, by simp⟩
  · simp [Value.cells] at hcs
    obtain ⟨rfl, rfl, rfl⟩ := hcs
    simp only [if_true] at hz
    have hlen : (zs.take len).length = len := by rw [List.length_take]; omega
    refine ⟨zs.take len, ⟨some a, cap, by rw [i64s_len, hlen], by rw [i64s_len, hlen]; exact hl, hm, (fun h => by cases h), ?_⟩, fun z hz' => by
      have hw := hwz z (List.mem_of_mem_take hz')
      simpa [Lit.wf, IntKind.min, IntKind.max, IntKind.signed, IntKind.bits] using hw⟩
    by_cases h0 : len = 0
    · left; subst h0; simp [i64s]
    · right
      have hc0 := hcell 0 (by omega)
      have hsp := no_spot hc0 (by rw [hc0]; simp)
      have hb : a.block < W.heap.size := by
        have : (a.add 0) = a := by unfold Addr.add; simp
        rw [this] at hc0
        exact World.block_lt_of_cell? W a hc0
      refine ⟨a.block, a.off, by rw [← hsp], hb, fun j hj => ?_⟩
      rw [i64s_len, hlen] at hj
      have hcj := hcell j (by omega)
      rw [hsp, add_off] at hcj
      rw [hcj, i64s, List.getElem?_map, List.getElem?_take_of_lt hj, List.getElem?_eq_getElem (by omega), List.getD_eq_getElem?_getD, List.getElem?_eq_getElem (by omega)]
      rfl
/-- a row that came in -/
theorem open_bools {v : Value} {d : DataW H} {p : List MemPlace} (hv : Value.okWide Try.prog W .any b0 22 v) (h : DataW.Trod enc Try.prog W 0 (fun _ => true) true 22 v d p) :
    ∃ l : List Bool, Reads (· < W.heap.size) W v (bls l) := by
  obtain ⟨a0, len, cap, rfl⟩ := okWide_slice Try.underlying22 hv
  obtain ⟨fuel, hf⟩ := h
  rcases Go.Deep.open_slice Try.underlying22 hf with ⟨hcs, hx⟩ | ⟨a, len', cap', m, nf, D, Pl, hcs, hb, hl, hm, hmm, hx, hel⟩
  · simp [Value.cells] at hcs
    obtain ⟨rfl, rfl, rfl⟩ := hcs
    exact ⟨[], Reads.nil _ _⟩
  · simp [Value.cells] at hcs
    obtain ⟨rfl, rfl, rfl⟩ := hcs
    simp only [if_true] at hmm
    subst hmm
    have each : ∀ i, i < len → ∃ b : Bool, W.cell? (a.add i) = some (.bool b) := by
      intro i hi
      obtain ⟨cs', h1, h2⟩ := hel i (by omega)
      rw [cellsB, Nat.mul_one] at h1
      obtain ⟨_, hlen2, hc⟩ := World.cells?_some h1
      match cs', hlen2 with
      | [c0], _ =>
      obtain ⟨x, e, _⟩ := DataW.trod_bool Try.underlying4 h2
      have e := List.head_eq_of_cons_eq e
      subst e
      have g0 := hc 0 (by simp)
      refine ⟨x, ?_⟩
      have e2 : (a.add i).add 0 = a.add i := by unfold Addr.add; simp
      rw [e2] at g0
      simpa using g0
    have pick : ∀ n, n ≤ len → ∃ l : List Bool, l.length = n ∧ ∀ j (h : j < l.length), W.cell? (a.add j) = some (.bool (l[j])) := by
      intro n
      induction n with
      | zero => intro _; exact ⟨[], rfl, by simp⟩
      | succ n ih =>
        intro hn
        obtain ⟨l, hl1, hl2⟩ := ih (by omega)
        obtain ⟨b, hb⟩ := each n (by omega)
        refine ⟨l ++ [b], by simp [hl1], fun j hj => ?_⟩
        simp only [List.length_append, List.length_cons, List.length_nil] at hj
        by_cases e : j < l.length
        · rw [hl2 j e]; simp [List.getElem_append_left e]
        · have : j = n := by omega
          subst this
          rw [hb]; subst hl1; simp
    obtain ⟨l, hl1, hl2⟩ := pick len (Nat.le_refl _)
    refine ⟨l, some a, m, by rw [bls_len, hl1], by rw [bls_len, hl1]; exact hl, hm, (fun h => by cases h), ?_⟩
    by_cases h0 : len = 0
    · left; have : l = [] := List.length_eq_zero_iff.1 (by omega); subst this; rfl
    · right
      have hc0 := hl2 0 (by omega)
      have hsp := no_spot hc0 (by rw [hc0]; simp)
      have hbl : a.block < W.heap.size := by
        have : (a.add 0) = a := by unfold Addr.add; simp
        rw [this] at hc0
        exact World.block_lt_of_cell? W a hc0
      refine ⟨a.block, a.off, by rw [← hsp], hbl, fun j hj => ?_⟩
      rw [bls_len] at hj
      have hcj := hl2 j hj
      rw [hsp, add_off] at hcj
      rw [hcj, bls_at l j hj]
end
end Go.Proofs.Ytegcekniolajeaa.NR
