/-
  Plans that come in, and how many words a module that comes in can have. Plain lemmas on the form.
-/
import Derived.Test.YtijacjcfnilaiaaObjOpen
set_option linter.unusedSimpArgs false
set_option linter.unusedVariables false
set_option maxRecDepth 20000
namespace Go.Proofs.Ytijacjcfnilaiaa.YQ
open Go.ChangeShapes Go.WideShapes Go.ChangeAt Go.RowKit WM NR OM OR OQ
section
variable {H : Type} {enc : TypeId × Value → H} {W : World} {b0 : Nat}
theorem bytesW : Try.prog.bytesOf 36 = 4 := by kernel_rfl
theorem words_bulk {fuel : Nat} {a : Option Addr} {n c : Nat} {x : DataW H × List MemPlace} (hf : DataW.trod enc Try.prog W 0 (fun _ => true) true fuel 23 [.slice a n c] = some x) :
    n = 0 ∨ ∃ el sp, x.1 = .slice el sp ∧ el.length = n := by
  rcases open_ints Try.underlying23 Try.underlying36 cellsWord hf with ⟨hcs, hx⟩ | ⟨a', len, cap, zs, hcs, _, hl, hm, hz, hx, hcell, hwz⟩
  · have := List.head_eq_of_cons_eq hcs
    simp only [Value.slice.injEq] at this
    exact Or.inl this.2.1
  · have := List.head_eq_of_cons_eq hcs
    simp only [Value.slice.injEq] at this
    obtain ⟨rfl, rfl, rfl⟩ := this
    simp only [if_true] at hz
    exact Or.inr ⟨_, _, by rw [hx], by simp [lits, List.length_take]; omega⟩
/-- how many words: a bound from the bytes that can be reached -/
theorem mod_bytes {ts : List TypeId} {ds : List (DataW H)} (hs : (DataW.weightsEach Try.prog ts ds).all (· ≤ reachBytes) = true) {j : Nat} {d : DataW H} {p : List MemPlace} (ht : ts[j]? = some 26) (hd : ds[j]? = some d)
    {x : ByteArray} {ea : Option Addr} {en ec : Nat} {ia : Option Addr} {im ic : Nat} {ca : Option Addr} {cn cc : Nat} {da : Option Addr} {dn dc : Nat} {ra : Option Addr} {rn rc : Nat}
    (h : DataW.Trod enc Try.prog W 0 (fun _ => true) true 26 (mV x ea en ec ia im ic ca cn cc da dn dc ra rn rc) d p) : cn * 4 ≤ 140737488355328 ∧ dn * 4 ≤ 140737488355328 := by
  obtain ⟨fuel, hf⟩ := h
  replace hf : DataW.trod enc Try.prog W 0 (fun _ => true) true fuel 26 [.string x, .slice ea en ec, .slice ia im ic, .slice ca cn cc, .slice da dn dc, .slice ra rn rc] = some (d, p) := hf
  obtain ⟨xs, n, _, he, _, hx, hg⟩ := DataW.trod_struct Try.underlying26 hf
  obtain ⟨y3, k3, h3⟩ := field_at (ty := 23) (t := 0) hx hg 3 _ rfl rfl rfl cellsWords
  obtain ⟨y4, k4, h4⟩ := field_at (ty := 23) (t := 0) hx hg 4 _ rfl rfl rfl cellsWords
  have hdd : d = .agg (xs.map (·.1)) := (Prod.mk.inj he).1
  have go : ∀ (i : Nat) (y : DataW H × List MemPlace) (n : Nat), (i = 3 ∨ i = 4) → xs[i]? = some y → (n = 0 ∨ ∃ el sp, y.1 = .slice el sp ∧ el.length = n) → n * 4 ≤ 140737488355328 := by
    intro i y n hi hy hb
    rcases hb with rfl | ⟨el, sp, e, rfl⟩
    · simp
    · have hp : (xs.map (·.1))[i]? = some (.slice el sp) := by rw [List.getElem?_map, hy, ← e]; rfl
      have hin : (el.length + sp.length) * Try.prog.bytesOf 36 ∈ DataW.weights Try.prog 26 (.agg (xs.map (·.1))) := by
        rw [DataW.weights, Try.underlying26]
        rcases hi with rfl | rfl
        · exact DataW.weights_mem_each (j := 3) (t := 23) rfl hp _ (by simp [DataW.weights, Try.underlying23])
        · exact DataW.weights_mem_each (j := 4) (t := 23) rfl hp _ (by simp [DataW.weights, Try.underlying23])
      have := List.all_eq_true.1 hs _ (DataW.weights_mem_each ht (hdd ▸ hd) _ hin)
      rw [bytesW] at this
      have h2 := of_decide_eq_true this
      simp only [reachBytes] at h2
      omega
  exact ⟨go 3 y3 cn (Or.inl rfl) k3 (words_bulk h3), go 4 y4 dn (Or.inr rfl) k4 (words_bulk h4)⟩
theorem one_int {n : Nat} {t : TypeId} {k : IntKind} {c : Value} {y : DataW H × List MemPlace} {base : Nat} {sp : Nat → Bool} {hd : Bool} (ht : Try.prog.underlying t = some (.int k)) (h : DataW.trod enc Try.prog W base sp hd n t [c] = some y) : ∃ x : Int, c = .int k x ∧ (Lit.int k x).wf = true := by
  obtain ⟨x, e, _, hw⟩ := DataW.trod_int ht h
  exact ⟨x, List.head_eq_of_cons_eq e, hw⟩
theorem two {α : Type} (l : List α) (h : l.length = 2) : ∃ x0 x1, l = [x0, x1] := by
  match l, h with
  | [x0, x1], _ => exact ⟨_, _, rfl⟩
theorem cellsI64 : Try.prog.cellsOf 3 = 1 := by kernel_rfl
theorem cellsPlan : Try.prog.cellsOf 28 = 2 := by kernel_rfl
theorem open_plan {v : Value} {d : DataW H} {p : List MemPlace} (hv : Value.okWide Try.prog W .any b0 28 v) (h : DataW.Trod enc Try.prog W 0 (fun _ => true) true 28 v d p) :
    ∃ a b : Int, v = .agg #[.int .i64 a, .int .i64 b] ∧ (-9223372036854775808 ≤ a ∧ a ≤ 9223372036854775807) ∧ (-9223372036854775808 ≤ b ∧ b ≤ 9223372036854775807) := by
  obtain ⟨cs, rfl, hsz⟩ := okWide_struct Try.underlying28 hv
  rw [cellsPlan] at hsz
  obtain ⟨fuel, hf⟩ := h
  replace hf : DataW.trod enc Try.prog W 0 (fun _ => true) true fuel 28 cs.toList = some (d, p) := hf
  obtain ⟨xs, n, _, hd, _, hx, hg⟩ := DataW.trod_struct Try.underlying28 hf
  obtain ⟨x0, x1, hl⟩ := two cs.toList (by simpa using hsz)
  rw [hl] at hg
  obtain ⟨y0, _, h0⟩ := field_at (ty := 3) (t := 0) hx hg 0 _ rfl rfl rfl cellsI64
  obtain ⟨y1, _, h1⟩ := field_at (ty := 3) (t := 0) hx hg 1 _ rfl rfl rfl cellsI64
  obtain ⟨a, rfl, w0⟩ := one_int Try.underlying3 h0
  obtain ⟨b, rfl, w1⟩ := one_int Try.underlying3 h1
  refine ⟨a, b, ?_, LW.wf_i64 w0, LW.wf_i64 w1⟩
  show Value.agg cs = _
  rw [← Array.toArray_toList (xs := cs), hl]
end
end Go.Proofs.Ytijacjcfnilaiaa.YQ
