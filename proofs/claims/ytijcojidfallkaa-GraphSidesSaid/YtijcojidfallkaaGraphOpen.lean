/-
  Calls and lists of names that come in: what they read as, and how big they can be. Plain lemmas on the form.
-/
import Derived.Test.YtijcojidfallkaaRows
import Derived.Test.YtijcojidfallkaaGraphAct
import Derived.Test.YtijcojidfallkaaLaw
import Derived.ProofKit
import Derived.OpenShut
import Derived.Deep.Slices
import Derived.Deep.Strs
import Derived.SizedLaws
set_option linter.unusedSimpArgs false
set_option linter.unusedVariables false
set_option maxRecDepth 20000
namespace Go.Proofs.Ytijcojidfallkaa.SQ
open Go.ChangeShapes Go.WideShapes Go.ChangeAt Go.RowKit WM NR OM OR GM GR
section
variable {H : Type} {enc : TypeId × Value → H} {W : World} {b0 : Nat}
theorem no_spot {w : World} {a : Addr} {i : Nat} {v : Value} (h : w.cell? (a.add i) = some v) (h0 : w.cell? (a.add 0) ≠ none) : a = ⟨a.block, a.off, none⟩ := by
  have : (a.add 0) = a := by unfold Addr.add; simp
  rw [this] at h0
  unfold World.cell? at h0
  obtain ⟨b, o, s⟩ := a
  cases s with
  | none => rfl
  | some s =>
    exfalso
    apply h0
    simp only
    split
    · simp
    · rfl
theorem add_off (g off i : Nat) : ((⟨g, off, none⟩ : Addr).add i) = ⟨g, off + i, none⟩ := by
  unfold Addr.add
  split
  · subst_vars; simp
  · rfl
theorem add_twice (a : Addr) (i j : Nat) : (a.add i).add j = a.add (i + j) := by
  unfold Addr.add
  by_cases hi : i = 0 <;> by_cases hj : j = 0 <;> simp [hi, hj, Nat.add_assoc]
theorem block_lt {w : World} {a : Addr} {v : Value} (h : w.cell? (a.add 0) = some v) : a.block < w.heap.size := by
  have : (a.add 0) = a := by unfold Addr.add; simp
  rw [this] at h
  exact World.block_lt_of_cell? w a h
theorem cellsStr : Try.prog.cellsOf 9 = 1 := by kernel_rfl
theorem cellsByte : Try.prog.cellsOf 5 = 1 := by kernel_rfl
theorem cellsInt : Try.prog.cellsOf 3 = 1 := by kernel_rfl
theorem cellsStrs : Try.prog.cellsOf 32 = 1 := by kernel_rfl
theorem cellsAct : Try.prog.cellsOf 34 = 3 := by kernel_rfl
theorem weightsAll_mem {P : Program} {e : TypeId} : ∀ {l : List (DataW H)} {d : DataW H}, d ∈ l → ∀ n ∈ d.weights P e, n ∈ DataW.weightsAll P e l
  | [], d, h, _, _ => by cases h
  | x :: l, d, h, n, hn => by
    simp only [DataW.weightsAll, List.mem_append]
    rcases List.mem_cons.1 h with rfl | h
    · exact Or.inl hn
    · exact Or.inr (weightsAll_mem h n hn)
/-- what is weighed can be reached -/
theorem reach_of {ts : List TypeId} {ds : List (DataW H)} (h : (DataW.weightsEach Try.prog ts ds).all (· ≤ reachBytes) = true) {j : Nat} {t : TypeId} {d : DataW H} (ht : ts[j]? = some t) (hd : ds[j]? = some d) {n : Nat} (hn : n ∈ d.weights Try.prog t) : n ≤ 140737488351232 := by
  have := of_decide_eq_true (List.all_eq_true.1 h _ (DataW.weights_mem_each ht hd n hn))
  simpa [reachBytes] using this
/-- texts, in a field: what they read as, and how big they are -/
theorem open_strsF {fuel : Nat} {cl : Value} {x : DataW H × List MemPlace} (hf : DataW.trod enc Try.prog W 0 (fun _ => true) true fuel 32 [cl] = some x) :
    ∃ (l : List (List UInt8)) (a : Option Addr) (n c : Nat), cl = .slice a n c ∧ Reads (· < W.heap.size) W (.slice a n c) (OR.strs l) ∧ (∀ s ∈ l, s.length ∈ x.1.weights Try.prog 32) := by
  rcases Go.Deep.open_strs Try.underlying32 Try.underlying9 cellsStr hf with ⟨hcs, hx⟩ | ⟨a, len, cap, m, Sx, hcs, _, hl, hm, hz, hx, hcell⟩
  · exact ⟨[], none, 0, 0, List.head_eq_of_cons_eq hcs, Reads.nil _ _, fun s hs => (by cases hs)⟩
  · simp only [if_true] at hz
    subst hz
    refine ⟨(List.range len).map fun i => (Sx i).data.toList, some a, len, m, List.head_eq_of_cons_eq hcs, ⟨some a, m, by rw [strs_len, List.length_map, List.length_range], by rw [strs_len, List.length_map, List.length_range]; exact hl, hm, (fun h => by cases h), ?_⟩, ?_⟩
    · by_cases h0 : len = 0
      · left; subst h0; simp [OR.strs]
      · right
        have hc0 := (hcell 0 (by omega)).1
        have hsp := no_spot hc0 (by rw [hc0]; simp)
        refine ⟨a.block, a.off, by rw [← hsp], block_lt hc0, fun j hj => ?_⟩
        rw [strs_len, List.length_map, List.length_range] at hj
        have hcj := (hcell j (by omega)).1
        rw [hsp, add_off] at hcj
        rw [hcj, OR.strs, List.getElem?_map, List.getElem?_map, List.getElem?_range hj]
        rfl
    · intro s hs
      obtain ⟨i, hi, rfl⟩ := List.mem_map.1 hs
      rw [hx, DataW.weights, Try.underlying32]
      refine List.mem_cons_of_mem _ (List.mem_append_left _ (weightsAll_mem (d := DataW.lit (.string (Sx i).data.toList)) (List.mem_map.2 ⟨i, hi, rfl⟩) _ ?_))
      simp [DataW.weights]
theorem field_at {t : TypeId} {f : Array Field} {cs : List Value} {xs : List (DataW H × List MemPlace)} {n : Nat} {base : Nat} {sp : Nat → Bool} {hd : Bool} (hx : xs.length = f.size) (hg : ∀ (i : Nat) (g : Field), f[i]? = some g → DataW.trod enc Try.prog W base sp hd n g.type ((cs.drop g.offset).take (Try.prog.cellsOf g.type)) = xs[i]?)
    (i : Nat) (g : Field) (h1 : f[i]? = some g) {o m : Nat} {ty : TypeId} (h2 : g.offset = o) (hty : g.type = ty) (h3 : Try.prog.cellsOf ty = m) : ∃ y, xs[i]? = some y ∧ DataW.trod enc Try.prog W base sp hd n ty ((cs.drop o).take m) = some y := by
  have e := hg i g h1
  have hl : i < xs.length := by rw [hx]; exact (Array.getElem?_eq_some_iff.1 h1).1
  rw [List.getElem?_eq_getElem hl] at e
  subst h2 hty h3
  exact ⟨_, List.getElem?_eq_getElem hl, e⟩
theorem three_of {α : Type} (l : List α) (h : l.length = 3) : ∃ x0 x1 x2, l = [x0, x1, x2] := by
  match l, h with
  | [x0, x1, x2], _ => exact ⟨_, _, _, rfl⟩
/-- an act's three cells -/
theorem open_actF {fuel : Nat} {cs : List Value} {x : DataW H × List MemPlace} (hlen : cs.length = 3) (hf : DataW.trod enc Try.prog W 0 (fun _ => true) true fuel 34 cs = some x) :
    ∃ y : Ac, cs = [.int .u8 y.kind, .string (bs y.nm), .slice y.na y.nn y.nc] ∧ AcOk (· < W.heap.size) W y ∧ y.nm.length ∈ x.1.weights Try.prog 34 ∧ (∀ s ∈ y.ns, s.length ∈ x.1.weights Try.prog 34) := by
  obtain ⟨xs, n, _, hd, _, hx, hg⟩ := DataW.trod_struct Try.underlying34 hf
  obtain ⟨c0, c1, c2, rfl⟩ := three_of cs hlen
  obtain ⟨y0, k0, h0⟩ := field_at (ty := 5) (t := 0) hx hg 0 _ rfl rfl rfl cellsByte
  obtain ⟨y1, k1, h1⟩ := field_at (ty := 9) (t := 0) hx hg 1 _ rfl rfl rfl cellsStr
  obtain ⟨y3, k3, h3⟩ := field_at (ty := 32) (t := 0) hx hg 2 _ rfl rfl rfl cellsStrs
  obtain ⟨K, e0, _, wK⟩ := DataW.trod_int Try.underlying5 h0
  obtain rfl : c0 = .int .u8 K := List.head_eq_of_cons_eq e0
  obtain ⟨s, e1, hs1, _⟩ := DataW.trod_string Try.underlying9 h1
  obtain rfl : c1 = .string s := List.head_eq_of_cons_eq e1
  obtain ⟨l, a, nn, nc, rfl, rl, bl⟩ := open_strsF h3
  have hb : ∀ (i : Nat) (ty : TypeId) (y : DataW H × List MemPlace), [5, 9, 32][i]? = some ty → xs[i]? = some y → ∀ n ∈ y.1.weights Try.prog ty, n ∈ x.1.weights Try.prog 34 := fun i ty y ht hy n hn => by
    rw [hd, DataW.weights, Try.underlying34]
    exact DataW.weights_mem_each (ts := [5, 9, 32]) ht (by rw [List.getElem?_map, hy]; rfl) n hn
  exact ⟨⟨K, s.data.toList, a, nn, nc, l⟩, rfl, ⟨LW.wf_u8 wK, rl⟩, hb 1 _ _ rfl k1 _ (by rw [hs1]; simp [DataW.weights]), fun t ht => hb 2 _ _ rfl k3 _ (bl t ht)⟩
/-- one act by value -/
theorem open_act {v : Value} {d : DataW H} {p : List MemPlace} (hv : Value.okWide Try.prog W .any b0 34 v) (h : DataW.Trod enc Try.prog W 0 (fun _ => true) true 34 v d p) :
    ∃ y : Ac, v = acV y ∧ AcOk (· < W.heap.size) W y ∧ y.nm.length ∈ d.weights Try.prog 34 ∧ (∀ s ∈ y.ns, s.length ∈ d.weights Try.prog 34) := by
  obtain ⟨cs, rfl, hsz⟩ := okWide_struct Try.underlying34 hv
  rw [cellsAct] at hsz
  obtain ⟨fuel, hf⟩ := h
  replace hf : DataW.trod enc Try.prog W 0 (fun _ => true) true fuel 34 cs.toList = some (d, p) := hf
  obtain ⟨y, e, h1, h2⟩ := open_actF (x := (d, p)) (by simpa using hsz) hf
  refine ⟨y, ?_, h1, h2⟩
  show Value.agg cs = _
  congr 1
  apply Array.ext'
  rw [e]
/-- many acts -/
theorem open_acts {v : Value} {d : DataW H} {p : List MemPlace} (hv : Value.okWide Try.prog W .any b0 22 v) (h : DataW.Trod enc Try.prog W 0 (fun _ => true) true 22 v d p) :
    ∃ (l : List Ac) (a : Option Addr) (n c : Nat), v = .slice a n c ∧ ReadsA (· < W.heap.size) W (.slice a n c) l ∧ (∀ x ∈ l, x.nm.length ∈ d.weights Try.prog 22 ∧ (∀ s ∈ x.ns, s.length ∈ d.weights Try.prog 22)) := by
  obtain ⟨a0, len0, cap0, rfl⟩ := okWide_slice Try.underlying22 hv
  obtain ⟨fuel, hf⟩ := h
  replace hf : DataW.trod enc Try.prog W 0 (fun _ => true) true fuel 22 [.slice a0 len0 cap0] = some (d, p) := hf
  rcases Go.Deep.open_slice Try.underlying22 hf with ⟨hcs, hx⟩ | ⟨a, len, cap, m, nf, D, Pl, hcs, hb, hl, hm, hmm, hx, hel⟩
  · have := List.head_eq_of_cons_eq hcs
    simp only [Value.slice.injEq] at this
    obtain ⟨rfl, rfl, rfl⟩ := this
    exact ⟨[], none, 0, 0, rfl, ⟨none, 0, rfl, Nat.le_refl _, by simp [maxLen], Or.inl rfl, fun x hx => (by cases hx)⟩, fun x hx => (by cases hx)⟩
  · have := List.head_eq_of_cons_eq hcs
    simp only [Value.slice.injEq] at this
    obtain ⟨rfl, rfl, rfl⟩ := this
    simp only [if_true] at hmm
    subst hmm
    have each : ∀ i, i < len0 → ∃ y : Ac, (AcOk (· < W.heap.size) W y ∧ y.nm.length ∈ d.weights Try.prog 22 ∧ (∀ s ∈ y.ns, s.length ∈ d.weights Try.prog 22)) ∧ W.cell? (a.add (i * 3)) = some (.int .u8 y.kind) ∧ W.cell? (a.add (i * 3 + 1)) = some (.string (bs y.nm)) ∧ W.cell? (a.add (i * 3 + 2)) = some (.slice y.na y.nn y.nc) := by
      intro i hi
      obtain ⟨cs', h1, h2⟩ := hel i (by omega)
      rw [cellsAct] at h1
      obtain ⟨_, hlen2, hc⟩ := World.cells?_some h1
      obtain ⟨y, e, h3, h4, h5⟩ := open_actF (by simpa using hlen2) h2
      have hbd : ∀ n ∈ (D i).weights Try.prog 34, n ∈ d.weights Try.prog 22 := fun n hn => by
        rw [(Prod.mk.inj hx).1, DataW.weights, Try.underlying22]
        exact List.mem_cons_of_mem _ (List.mem_append_left _ (weightsAll_mem (d := D i) (List.mem_map.2 ⟨i, List.mem_range.2 hi, rfl⟩) _ hn))
      subst e
      have g0 := hc 0 (by simp)
      have g1 := hc 1 (by simp)
      have g2 := hc 2 (by simp)
      rw [add_twice] at g0 g1 g2
      exact ⟨y, ⟨h3, hbd _ h4, fun s hs => hbd _ (h5 s hs)⟩, g0, g1, g2⟩
    haveI : Inhabited Ac := ⟨ac0⟩
    obtain ⟨F, hF⟩ := Go.Deep.choose_lt each
    have eF : ∀ j, j < len0 → ((List.range len0).map F).getD j ac0 = F j := fun j hj => by
      rw [List.getD_eq_getElem?_getD, List.getElem?_map, List.getElem?_range hj]
      rfl
    refine ⟨(List.range len0).map F, some a, len0, _, rfl, ⟨some a, _, by rw [List.length_map, List.length_range], by rw [List.length_map, List.length_range]; exact hl, hm, ?_, fun x hx => ?_⟩, fun x hx => ?_⟩
    · by_cases h0 : len0 = 0
      · left; subst h0; simp
      · right
        have hc0 := (hF 0 (by omega)).2.1
        rw [Nat.zero_mul] at hc0
        have hsp := no_spot hc0 (by rw [hc0]; simp)
        refine ⟨a.block, a.off, by rw [← hsp], block_lt hc0, fun j hj => ?_⟩
        rw [List.length_map, List.length_range] at hj
        rw [eF j hj]
        obtain ⟨_, k0, k1, k2⟩ := hF j hj
        rw [hsp, add_off] at k0 k1 k2
        exact ⟨k0, by rw [Nat.add_assoc]; exact k1, by rw [Nat.add_assoc]; exact k2⟩
    · obtain ⟨i, hi, rfl⟩ := List.mem_map.1 hx
      exact (hF i (List.mem_range.1 hi)).1.1
    · obtain ⟨i, hi, rfl⟩ := List.mem_map.1 hx
      exact (hF i (List.mem_range.1 hi)).1.2
end
end Go.Proofs.Ytijcojidfallkaa.SQ
