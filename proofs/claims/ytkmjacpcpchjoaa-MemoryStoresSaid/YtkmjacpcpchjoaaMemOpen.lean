/-
  Calls that come in: what they read as. Plain lemmas on the form.
-/
import Derived.Test.YtkmjacpcpchjoaaRows
import Derived.Test.YtkmjacpcpchjoaaMemAct
import Derived.Test.YtkmjacpcpchjoaaLaw
import Derived.ProofKit
import Derived.OpenShut
import Derived.Deep.Slices
import Derived.SizedLaws
set_option linter.unusedSimpArgs false
set_option linter.unusedVariables false
set_option maxRecDepth 20000
namespace Go.Proofs.Ytkmjacpcpchjoaa.MQ
open Go.ChangeShapes Go.WideShapes Go.ChangeAt Go.RowKit PR PF MM MF
section
variable {H : Type} {enc : TypeId × Value → H} {W : World} {base b0 : Nat} {sp : Nat → Bool} {hd : Bool} {r : Reach}

theorem seven {α : Type} (l : List α) (h : l.length = 7) : ∃ a b c d e f g, l = [a, b, c, d, e, f, g] := by
  match l, h with
  | [a, b, c, d, e, f, g], _ => exact ⟨a, b, c, d, e, f, g, rfl⟩
theorem cells8 : Try.prog.cellsOf 5 = 1 := by kernel_rfl
theorem cells16 : Try.prog.cellsOf 38 = 1 := by kernel_rfl
theorem cells64 : Try.prog.cellsOf 39 = 1 := by kernel_rfl
theorem cellsI : Try.prog.cellsOf 3 = 1 := by kernel_rfl
theorem cells32 : Try.prog.cellsOf 26 = 1 := by kernel_rfl
theorem cellsAc : Try.prog.cellsOf 41 = 7 := by kernel_rfl
/-- the readings of a struct's fields, one cell each -/
theorem five_fields {t : TypeId} {f : Array Field} {fuel : Nat} {cs : List Value} {x : DataW H × List MemPlace} (ht : Try.prog.underlying t = some (.struct f)) (h : DataW.trod enc Try.prog W base sp hd fuel t cs = some x) :
    ∃ n, ∀ (i : Nat) (g : Field) (c : Value), f[i]? = some g → g.offset = i → Try.prog.cellsOf g.type = 1 → cs[i]? = some c → ∃ y, DataW.trod enc Try.prog W base sp hd n g.type [c] = some y := by
  obtain ⟨xs, n, _, _, _, hx, hg⟩ := DataW.trod_struct ht h
  refine ⟨n, fun i g c h1 h2 h3 h4 => ?_⟩
  have e := hg i g h1
  obtain ⟨hi, hc⟩ := List.getElem?_eq_some_iff.1 h4
  have hd : (cs.drop g.offset).take 1 = [c] := by rw [h2, List.drop_eq_getElem_cons hi, hc]; rfl
  rw [h3, hd] at e
  have hl : i < xs.length := by rw [hx]; exact (Array.getElem?_eq_some_iff.1 h1).1
  rw [List.getElem?_eq_getElem hl] at e
  exact ⟨_, e⟩
theorem one_int {n : Nat} {t : TypeId} {k : IntKind} {c : Value} (ht : Try.prog.underlying t = some (.int k)) (h : ∃ y, DataW.trod enc Try.prog W base sp hd n t [c] = some y) : ∃ x : Int, c = .int k x ∧ (Lit.int k x).wf = true := by
  obtain ⟨y, h⟩ := h
  obtain ⟨x, e, _, hw⟩ := DataW.trod_int ht h
  exact ⟨x, List.head_eq_of_cons_eq e, hw⟩
/-- seven cells, read as a call -/
theorem seven_act {fuel : Nat} {cs : List Value} {x : DataW H × List MemPlace} (hl : cs.length = 7) (h : DataW.trod enc Try.prog W base sp hd fuel 41 cs = some x) :
    ∃ y : MM.Ac, AOk y ∧ cs = [.int .u8 y.k, .int .u32 y.a, .int .u32 y.w, .int .i64 y.p, .int .i64 y.n, .int .u16 y.o, .int .u64 y.e] := by
  obtain ⟨c0, c1, c2, c3, c4, c5, c6, rfl⟩ := seven cs hl
  obtain ⟨n, hg⟩ := five_fields Try.underlying41 h
  obtain ⟨x0, rfl, w0⟩ := one_int Try.underlying5 (hg 0 _ c0 rfl rfl cells8 rfl)
  obtain ⟨x1, rfl, w1⟩ := one_int Try.underlying26 (hg 1 _ c1 rfl rfl cells32 rfl)
  obtain ⟨x2, rfl, w2⟩ := one_int Try.underlying26 (hg 2 _ c2 rfl rfl cells32 rfl)
  obtain ⟨x3, rfl, w3⟩ := one_int Try.underlying3 (hg 3 _ c3 rfl rfl cellsI rfl)
  obtain ⟨x4, rfl, w4⟩ := one_int Try.underlying3 (hg 4 _ c4 rfl rfl cellsI rfl)
  obtain ⟨x5, rfl, w5⟩ := one_int Try.underlying38 (hg 5 _ c5 rfl rfl cells16 rfl)
  obtain ⟨x6, rfl, w6⟩ := one_int Try.underlying39 (hg 6 _ c6 rfl rfl cells64 rfl)
  exact ⟨⟨x0, x1, x2, x3, x4, x5, x6⟩, ⟨LW.wf_u8 w0, LW.wf_u32 w1, (LW.wf_i64 w4).2, LW.wf_u16 w5⟩, rfl⟩
theorem open_act {v : Value} {d : DataW H} {p : List MemPlace} (hv : Value.okWide Try.prog W r b0 41 v) (h : DataW.Trod enc Try.prog W base sp hd 41 v d p) :
    ∃ y : MM.Ac, AOk y ∧ v = .agg (aCs y.k y.a y.w y.p y.n y.o y.e) := by
  obtain ⟨cs, rfl, hsz⟩ := okWide_struct Try.underlying41 hv
  rw [cellsAc] at hsz
  obtain ⟨fuel, hf⟩ := h
  replace hf : DataW.trod enc Try.prog W base sp hd fuel 41 cs.toList = some (d, p) := hf
  obtain ⟨y, hy, hl⟩ := seven_act (by simpa using hsz) hf
  refine ⟨y, hy, ?_⟩
  show Value.agg cs = _
  rw [← Array.toArray_toList (xs := cs), hl]
theorem no_spot {w : World} {a : Addr} {i : Nat} {v : Value} (h : w.cell? (a.add i) = some v) (h0 : w.cell? (a.add 0) ≠ none) : a = ⟨a.block, a.off, none⟩ := by
  have : (a.add 0) = a := by unfold Addr.add; simp
  rw [this] at h0
  unfold World.cell? at h0
  obtain ⟨b, o, s⟩ := a
  cases s with
  | none => rfl
  | some s =>
    exfalso
    apply h0
    simp only
    split
    · simp
    · rfl
theorem add_off (g off i : Nat) : ((⟨g, off, none⟩ : Addr).add i) = ⟨g, off + i, none⟩ := by
  unfold Addr.add
  split
  · subst_vars; simp
  · rfl
theorem add_twice (a : Addr) (i j : Nat) : (a.add i).add j = a.add (i + j) := by
  unfold Addr.add
  by_cases hi : i = 0 <;> by_cases hj : j = 0 <;> simp [hi, hj, Nat.add_assoc]
/-- calls that came in -/
theorem open_acts {v : Value} {d : DataW H} {p : List MemPlace}
    (hv : Value.okWide Try.prog W .any b0 22 v) (h : DataW.Trod enc Try.prog W 0 (fun _ => true) true 22 v d p) : ∃ n, Acts W.heap.size W v n := by
  obtain ⟨a0, len, cap, rfl⟩ := okWide_slice Try.underlying22 hv
  obtain ⟨fuel, hf⟩ := h
  rcases Go.Deep.open_slice Try.underlying22 hf with ⟨hcs, hx⟩ | ⟨a, len', cap', m, nf, D, Pl, hcs, hb, hl, hm, hmm, hx, hel⟩
  · simp [Value.cells] at hcs
    obtain ⟨rfl, rfl, rfl⟩ := hcs
    exact ⟨0, none, 0, rfl, Nat.le_refl _, by simp [maxLen], Or.inl rfl⟩
  · simp [Value.cells] at hcs
    obtain ⟨rfl, rfl, rfl⟩ := hcs
    simp only [if_true] at hmm
    subst hmm
    have each : ∀ i, i < len → ∃ y : MM.Ac, AOk y ∧ W.cell? (a.add (i * 7)) = some (.int .u8 y.k) ∧ W.cell? (a.add (i * 7 + 1)) = some (.int .u32 y.a) ∧ W.cell? (a.add (i * 7 + 2)) = some (.int .u32 y.w) ∧ W.cell? (a.add (i * 7 + 3)) = some (.int .i64 y.p) ∧ W.cell? (a.add (i * 7 + 4)) = some (.int .i64 y.n) ∧ W.cell? (a.add (i * 7 + 5)) = some (.int .u16 y.o) ∧ W.cell? (a.add (i * 7 + 6)) = some (.int .u64 y.e) := by
      intro i hi
      obtain ⟨cs', h1, h2⟩ := hel i (by omega)
      rw [cellsAc] at h1
      obtain ⟨_, hlen2, hc⟩ := World.cells?_some h1
      obtain ⟨y, hy, rfl⟩ := seven_act hlen2 h2
      have g0 := hc 0 (by omega)
      have g1 := hc 1 (by omega)
      have g2 := hc 2 (by omega)
      have g3 := hc 3 (by omega)
      have g4 := hc 4 (by omega)
      have g5 := hc 5 (by omega)
      have g6 := hc 6 (by omega)
      rw [add_twice] at g0 g1 g2 g3 g4 g5 g6
      exact ⟨y, hy, g0, g1, g2, g3, g4, g5, g6⟩
    refine ⟨len, some a, m, rfl, hl, hm, ?_⟩
    by_cases h0 : len = 0
    · exact Or.inl h0
    · obtain ⟨_, _, g0, _⟩ := each 0 (by omega)
      rw [Nat.zero_mul] at g0
      have hsp := no_spot g0 (by rw [g0]; simp)
      have hbl : a.block < W.heap.size := by
        have e : (a.add 0) = a := by unfold Addr.add; simp
        rw [e] at g0
        exact World.block_lt_of_cell? W a g0
      refine Or.inr ⟨a.block, a.off, by rw [← hsp], hbl, fun i hi => ?_⟩
      obtain ⟨y, hy, k1, k2, k3, k4, k5, k6, k7⟩ := each i hi
      rw [hsp, add_off] at k1 k2 k3 k4 k5 k6 k7
      exact ⟨y, hy, k1, k2, k3, k4, k5, k6, k7⟩
end
end Go.Proofs.Ytkmjacpcpchjoaa.MQ
