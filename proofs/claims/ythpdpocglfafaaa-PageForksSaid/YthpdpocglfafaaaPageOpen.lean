/-
  A page, calls and three bytes that come in: what they read as. Plain lemmas on the form.
-/
import Derived.Test.YthpdpocglfafaaaRows
import Derived.Test.YthpdpocglfafaaaPageAct
import Derived.Test.YthpdpocglfafaaaLaw
import Derived.ProofKit
import Derived.OpenShut
import Derived.Deep.Slices
import Derived.SizedLaws
set_option linter.unusedSimpArgs false
set_option linter.unusedVariables false
namespace Go.Proofs.Ythpdpocglfafaaa.PQ
open Go.ChangeShapes Go.WideShapes Go.ChangeAt Go.RowKit PR PF
section
variable {H : Type} {enc : TypeId × Value → H} {W : World} {base b0 : Nat} {sp : Nat → Bool} {hd : Bool} {r : Reach}

theorem five {α : Type} (l : List α) (h : l.length = 5) : ∃ a b c d e, l = [a, b, c, d, e] := by
  match l, h with
  | [a, b, c, d, e], _ => exact ⟨a, b, c, d, e, rfl⟩
theorem cells8 : Try.prog.cellsOf 5 = 1 := by kernel_rfl
theorem cells16 : Try.prog.cellsOf 33 = 1 := by kernel_rfl
theorem cells64 : Try.prog.cellsOf 34 = 1 := by kernel_rfl
theorem cellsI : Try.prog.cellsOf 3 = 1 := by kernel_rfl
theorem cellsB : Try.prog.cellsOf 4 = 1 := by kernel_rfl
theorem cellsSt : Try.prog.cellsOf 38 = 1 := by kernel_rfl
theorem cellsPg : Try.prog.cellsOf 40 = 5 := by kernel_rfl
theorem cellsAc : Try.prog.cellsOf 36 = 5 := by kernel_rfl
/-- the readings of a struct's fields, one cell each -/
theorem five_fields {t : TypeId} {f : Array Field} {fuel : Nat} {cs : List Value} {x : DataW H × List MemPlace} (ht : Try.prog.underlying t = some (.struct f)) (h : DataW.trod enc Try.prog W base sp hd fuel t cs = some x) :
    ∃ n, ∀ (i : Nat) (g : Field) (c : Value), f[i]? = some g → g.offset = i → Try.prog.cellsOf g.type = 1 → cs[i]? = some c → ∃ y, DataW.trod enc Try.prog W base sp hd n g.type [c] = some y := by
  obtain ⟨xs, n, _, _, _, hx, hg⟩ := DataW.trod_struct ht h
  refine ⟨n, fun i g c h1 h2 h3 h4 => ?_⟩
  have e := hg i g h1
  obtain ⟨hi, hc⟩ := List.getElem?_eq_some_iff.1 h4
  have hd : (cs.drop g.offset).take 1 = [c] := by rw [h2, List.drop_eq_getElem_cons hi, hc]; rfl
  rw [h3, hd] at e
  have hl : i < xs.length := by rw [hx]; exact (Array.getElem?_eq_some_iff.1 h1).1
  rw [List.getElem?_eq_getElem hl] at e
  exact ⟨_, e⟩
theorem one_int {n : Nat} {t : TypeId} {k : IntKind} {c : Value} (ht : Try.prog.underlying t = some (.int k)) (h : ∃ y, DataW.trod enc Try.prog W base sp hd n t [c] = some y) : ∃ x : Int, c = .int k x ∧ (Lit.int k x).wf = true := by
  obtain ⟨y, h⟩ := h
  obtain ⟨x, e, _, hw⟩ := DataW.trod_int ht h
  exact ⟨x, List.head_eq_of_cons_eq e, hw⟩
theorem one_bool {n : Nat} {t : TypeId} {c : Value} (ht : Try.prog.underlying t = some .bool) (h : ∃ y, DataW.trod enc Try.prog W base sp hd n t [c] = some y) : ∃ x : Bool, c = .bool x := by
  obtain ⟨y, h⟩ := h
  obtain ⟨x, e, _⟩ := DataW.trod_bool ht h
  exact ⟨x, List.head_eq_of_cons_eq e⟩
theorem open_page {v : Value} {d : DataW H} {p : List MemPlace} (hv : Value.okWide Try.prog W r b0 40 v) (h : DataW.Trod enc Try.prog W base sp hd 40 v d p) :
    ∃ (st : Int) (ex wr : Bool) (ow ep : Int), v = pgV st ex wr ow ep := by
  obtain ⟨cs, rfl, hsz⟩ := okWide_struct Try.underlying40 hv
  rw [cellsPg] at hsz
  obtain ⟨fuel, hf⟩ := h
  obtain ⟨c0, c1, c2, c3, c4, hl⟩ := five cs.toList (by simpa using hsz)
  replace hf : DataW.trod enc Try.prog W base sp hd fuel 40 cs.toList = some (d, p) := hf
  rw [hl] at hf
  obtain ⟨n, hg⟩ := five_fields Try.underlying40 hf
  obtain ⟨x0, rfl, w0⟩ := one_int Try.underlying38 (hg 0 _ c0 rfl rfl cellsSt rfl)
  obtain ⟨x1, rfl⟩ := one_bool Try.underlying4 (hg 1 _ c1 rfl rfl cellsB rfl)
  obtain ⟨x2, rfl⟩ := one_bool Try.underlying4 (hg 2 _ c2 rfl rfl cellsB rfl)
  obtain ⟨x3, rfl, w3⟩ := one_int Try.underlying33 (hg 3 _ c3 rfl rfl cells16 rfl)
  obtain ⟨x4, rfl, w4⟩ := one_int Try.underlying34 (hg 4 _ c4 rfl rfl cells64 rfl)
  refine ⟨x0, x1, x2, x3, x4, ?_⟩
  show Value.agg cs = _
  rw [← Array.toArray_toList (xs := cs), hl]
theorem no_spot {w : World} {a : Addr} {i : Nat} {v : Value} (h : w.cell? (a.add i) = some v) (h0 : w.cell? (a.add 0) ≠ none) : a = ⟨a.block, a.off, none⟩ := by
  have : (a.add 0) = a := by unfold Addr.add; simp
  rw [this] at h0
  unfold World.cell? at h0
  obtain ⟨b, o, s⟩ := a
  cases s with
  | none => rfl
  | some s =>
    exfalso
    apply h0
    simp only
    split
    · simp
    · rfl
theorem add_off (g off i : Nat) : ((⟨g, off, none⟩ : Addr).add i) = ⟨g, off + i, none⟩ := by
  unfold Addr.add
  split
  · subst_vars; simp
  · rfl
theorem add_twice (a : Addr) (i j : Nat) : (a.add i).add j = a.add (i + j) := by
  unfold Addr.add
  by_cases hi : i = 0 <;> by_cases hj : j = 0 <;> simp [hi, hj, Nat.add_assoc]
/-- calls that came in -/
theorem open_acts {v : Value} {d : DataW H} {p : List MemPlace}
    (hv : Value.okWide Try.prog W .any b0 22 v) (h : DataW.Trod enc Try.prog W 0 (fun _ => true) true 22 v d p) : ∃ n, Acts W.heap.size W v n := by
  obtain ⟨a0, len, cap, rfl⟩ := okWide_slice Try.underlying22 hv
  obtain ⟨fuel, hf⟩ := h
  rcases Go.Deep.open_slice Try.underlying22 hf with ⟨hcs, hx⟩ | ⟨a, len', cap', m, nf, D, Pl, hcs, hb, hl, hm, hmm, hx, hel⟩
  · simp [Value.cells] at hcs
    obtain ⟨rfl, rfl, rfl⟩ := hcs
    exact ⟨0, none, 0, rfl, Nat.le_refl _, by simp [maxLen], Or.inl rfl⟩
  · simp [Value.cells] at hcs
    obtain ⟨rfl, rfl, rfl⟩ := hcs
    simp only [if_true] at hmm
    subst hmm
    have each : ∀ i, i < len → ∃ k x m o e : Int, (0 ≤ k ∧ k ≤ 255) ∧ m ≤ 9223372036854775807 ∧ W.cell? (a.add (i * 5)) = some (.int .u8 k) ∧ W.cell? (a.add (i * 5 + 1)) = some (.int .i64 x) ∧ W.cell? (a.add (i * 5 + 2)) = some (.int .i64 m) ∧ W.cell? (a.add (i * 5 + 3)) = some (.int .u16 o) ∧ W.cell? (a.add (i * 5 + 4)) = some (.int .u64 e) := by
      intro i hi
      obtain ⟨cs', h1, h2⟩ := hel i (by omega)
      rw [cellsAc] at h1
      obtain ⟨_, hlen2, hc⟩ := World.cells?_some h1
      obtain ⟨c0, c1, c2, c3, c4, rfl⟩ := five cs' hlen2
      obtain ⟨n, hg⟩ := five_fields Try.underlying36 h2
      obtain ⟨x0, rfl, w0⟩ := one_int Try.underlying5 (hg 0 _ c0 rfl rfl cells8 rfl)
      obtain ⟨x1, rfl, w1⟩ := one_int Try.underlying3 (hg 1 _ c1 rfl rfl cellsI rfl)
      obtain ⟨x2, rfl, w2⟩ := one_int Try.underlying3 (hg 2 _ c2 rfl rfl cellsI rfl)
      obtain ⟨x3, rfl, w3⟩ := one_int Try.underlying33 (hg 3 _ c3 rfl rfl cells16 rfl)
      obtain ⟨x4, rfl, w4⟩ := one_int Try.underlying34 (hg 4 _ c4 rfl rfl cells64 rfl)
      have b0 : 0 ≤ x0 ∧ x0 ≤ 255 := by simpa [Lit.wf, IntKind.min, IntKind.max, IntKind.signed, IntKind.bits] using w0
      have b2 : -9223372036854775808 ≤ x2 ∧ x2 ≤ 9223372036854775807 := by simpa [Lit.wf, IntKind.min, IntKind.max, IntKind.signed, IntKind.bits] using w2
      have g0 := hc 0 (by omega)
      have g1 := hc 1 (by omega)
      have g2 := hc 2 (by omega)
      have g3 := hc 3 (by omega)
      have g4 := hc 4 (by omega)
      rw [add_twice] at g0 g1 g2 g3 g4
      exact ⟨x0, x1, x2, x3, x4, b0, b2.2, g0, g1, g2, g3, g4⟩
    refine ⟨len, some a, m, rfl, hl, hm, ?_⟩
    by_cases h0 : len = 0
    · exact Or.inl h0
    · obtain ⟨K, _, _, _, _, _, _, g0, _⟩ := each 0 (by omega)
      rw [Nat.zero_mul] at g0
      have hsp := no_spot g0 (by rw [g0]; simp)
      have hbl : a.block < W.heap.size := by
        have e : (a.add 0) = a := by unfold Addr.add; simp
        rw [e] at g0
        exact World.block_lt_of_cell? W a g0
      refine Or.inr ⟨a.block, a.off, by rw [← hsp], hbl, fun i hi => ?_⟩
      obtain ⟨k, x, m, o, e, k1, k2, k3, k4, k5, k6, k7⟩ := each i hi
      rw [hsp, add_off] at k3 k4 k5 k6 k7
      exact ⟨k, x, m, o, e, k1, k2, k3, k4, k5, k6, k7⟩
theorem open_arr3 {t e : TypeId} {k : IntKind} {v : Value} {d : DataW H} {p : List MemPlace}
    (ht : Try.prog.underlying t = some (.array 3 e)) (he : Try.prog.underlying e = some (.int k)) (hc : Try.prog.cellsOf e = 1) (hn : Try.prog.cellsOf t = 3)
    (hv : Value.okWide Try.prog W r b0 t v) (h : DataW.Trod enc Try.prog W base sp hd t v d p) :
    ∃ a b c : Int, v = .agg #[.int k a, .int k b, .int k c] ∧ (Lit.int k a).wf = true ∧ (Lit.int k b).wf = true ∧ (Lit.int k c).wf = true := by
  obtain ⟨cs, rfl, hsz, hcs⟩ := LW.open_arr ht he hc hn hv h
  obtain ⟨a, ha, wa⟩ := hcs 0 (by omega)
  obtain ⟨b, hb, wb⟩ := hcs 1 (by omega)
  obtain ⟨c, hc, wc⟩ := hcs 2 (by omega)
  refine ⟨a, b, c, ?_, wa, wb, wc⟩
  congr 1
  apply Array.ext_getElem?
  intro i
  match i with
  | 0 => rw [ha]; rfl
  | 1 => rw [hb]; rfl
  | 2 => rw [hc]; rfl
  | i + 3 => rw [Array.getElem?_eq_none (by omega), Array.getElem?_eq_none (by simp)]
end
end Go.Proofs.Ythpdpocglfafaaa.PQ
