/-
  Calls that come in: what they read as, and how big their names can be. Plain lemmas on the form.
-/
import Derived.Test.YtigalcmhongleaaRows
import Derived.Test.YtigalcmhongleaaGtRun
import Derived.Test.YtigalcmhongleaaLaw
import Derived.ProofKit
import Derived.OpenShut
import Derived.Deep.Slices
import Derived.Deep.Strs
import Derived.SizedLaws
set_option linter.unusedSimpArgs false
set_option linter.unusedVariables false
set_option maxRecDepth 20000
namespace Go.Proofs.Ytigalcmhongleaa.GQ
open Go.ChangeShapes Go.WideShapes Go.ChangeAt Go.RowKit WM NR OM OR GA GL
section
variable {H : Type} {enc : TypeId × Value → H} {W : World} {b0 : Nat}
theorem no_spot {w : World} {a : Addr} {i : Nat} {v : Value} (h : w.cell? (a.add i) = some v) (h0 : w.cell? (a.add 0) ≠ none) : a = ⟨a.block, a.off, none⟩ := by
  have : (a.add 0) = a := by unfold Addr.add; simp
  rw [this] at h0
  unfold World.cell? at h0
  obtain ⟨b, o, s⟩ := a
  cases s with
  | none => rfl
  | some s =>
    exfalso
    apply h0
    simp only
    split
    · simp
    · rfl
theorem add_off (g off i : Nat) : ((⟨g, off, none⟩ : Addr).add i) = ⟨g, off + i, none⟩ := by
  unfold Addr.add
  split
  · subst_vars; simp
  · rfl
theorem add_twice (a : Addr) (i j : Nat) : (a.add i).add j = a.add (i + j) := by
  unfold Addr.add
  by_cases hi : i = 0 <;> by_cases hj : j = 0 <;> simp [hi, hj, Nat.add_assoc]
theorem block_lt {w : World} {a : Addr} {v : Value} (h : w.cell? (a.add 0) = some v) : a.block < w.heap.size := by
  have : (a.add 0) = a := by unfold Addr.add; simp
  rw [this] at h
  exact World.block_lt_of_cell? w a h
theorem cells8 : Try.prog.cellsOf 5 = 1 := by kernel_rfl
theorem cells16 : Try.prog.cellsOf 26 = 1 := by kernel_rfl
theorem cells32 : Try.prog.cellsOf 27 = 1 := by kernel_rfl
theorem cellsStr : Try.prog.cellsOf 9 = 1 := by kernel_rfl
theorem cellsBd : Try.prog.cellsOf 35 = 3 := by kernel_rfl
theorem cellsAct : Try.prog.cellsOf 37 = 4 := by kernel_rfl
theorem one_int {n : Nat} {t : TypeId} {k : IntKind} {c : Value} {y : DataW H × List MemPlace} {base : Nat} {sp : Nat → Bool} {hd : Bool} (ht : Try.prog.underlying t = some (.int k)) (h : DataW.trod enc Try.prog W base sp hd n t [c] = some y) : ∃ x : Int, c = .int k x ∧ (Lit.int k x).wf = true := by
  obtain ⟨x, e, _, hw⟩ := DataW.trod_int ht h
  exact ⟨x, List.head_eq_of_cons_eq e, hw⟩
theorem weightsAll_mem {P : Program} {e : TypeId} : ∀ {l : List (DataW H)} {d : DataW H}, d ∈ l → ∀ n ∈ d.weights P e, n ∈ DataW.weightsAll P e l
  | [], d, h, _, _ => by cases h
  | x :: l, d, h, n, hn => by
    simp only [DataW.weightsAll, List.mem_append]
    rcases List.mem_cons.1 h with rfl | h
    · exact Or.inl hn
    · exact Or.inr (weightsAll_mem h n hn)
/-- what is weighed can be reached -/
theorem reach_of {ts : List TypeId} {ds : List (DataW H)} (h : (DataW.weightsEach Try.prog ts ds).all (· ≤ reachBytes) = true) {j : Nat} {t : TypeId} {d : DataW H} (ht : ts[j]? = some t) (hd : ds[j]? = some d) {n : Nat} (hn : n ∈ d.weights Try.prog t) : n ≤ 140737488351232 := by
  have := of_decide_eq_true (List.all_eq_true.1 h _ (DataW.weights_mem_each ht hd n hn))
  simpa [reachBytes] using this
theorem field_at {t : TypeId} {f : Array Field} {cs : List Value} {xs : List (DataW H × List MemPlace)} {n : Nat} {base : Nat} {sp : Nat → Bool} {hd : Bool} (hx : xs.length = f.size) (hg : ∀ (i : Nat) (g : Field), f[i]? = some g → DataW.trod enc Try.prog W base sp hd n g.type ((cs.drop g.offset).take (Try.prog.cellsOf g.type)) = xs[i]?)
    (i : Nat) (g : Field) (h1 : f[i]? = some g) {o m : Nat} {ty : TypeId} (h2 : g.offset = o) (hty : g.type = ty) (h3 : Try.prog.cellsOf ty = m) : ∃ y, xs[i]? = some y ∧ DataW.trod enc Try.prog W base sp hd n ty ((cs.drop o).take m) = some y := by
  have e := hg i g h1
  have hl : i < xs.length := by rw [hx]; exact (Array.getElem?_eq_some_iff.1 h1).1
  rw [List.getElem?_eq_getElem hl] at e
  subst h2 hty h3
  exact ⟨_, List.getElem?_eq_getElem hl, e⟩
theorem three_of {α : Type} (l : List α) (h : l.length = 3) : ∃ x0 x1 x2, l = [x0, x1, x2] := by
  match l, h with
  | [x0, x1, x2], _ => exact ⟨_, _, _, rfl⟩
theorem four_of {α : Type} (l : List α) (h : l.length = 4) : ∃ x0 x1 x2 x3, l = [x0, x1, x2, x3] := by
  match l, h with
  | [x0, x1, x2, x3], _ => exact ⟨_, _, _, _, rfl⟩
theorem bulk_mem : ∀ {ds : List (DataW H)} {d : DataW H}, d ∈ ds → Rows.uptoBulk d ≤ Rows.uptoBulkAll ds
  | [], d, h => by cases h
  | x :: l, d, h => by
    simp only [Rows.uptoBulkAll]
    rcases List.mem_cons.1 h with rfl | h
    · omega
    · have := bulk_mem h
      omega
/-- a bind's three cells -/
theorem open_bdF {fuel : Nat} {cs : List Value} {x : DataW H × List MemPlace} (hlen : cs.length = 3) (hf : DataW.trod enc Try.prog W 0 (fun _ => true) true fuel 35 cs = some x) :
    ∃ y : Bd, cs = [.string (bs y.nm), .int .u16 y.ow, .int .u32 y.bs] ∧ BdOk y ∧ y.nm.length ≤ Rows.uptoBulk x.1 := by
  obtain ⟨xs, n, _, hd, _, hx, hg⟩ := DataW.trod_struct Try.underlying35 hf
  obtain ⟨c0, c1, c2, rfl⟩ := three_of cs hlen
  obtain ⟨y0, k0, h0⟩ := field_at (ty := 9) (t := 0) hx hg 0 _ rfl rfl rfl cellsStr
  obtain ⟨y1, k1, h1⟩ := field_at (ty := 26) (t := 0) hx hg 1 _ rfl rfl rfl cells16
  obtain ⟨y2, k2, h2⟩ := field_at (ty := 27) (t := 0) hx hg 2 _ rfl rfl rfl cells32
  obtain ⟨s, e0, hs0, _⟩ := DataW.trod_string Try.underlying9 h0
  obtain rfl : c0 = .string s := List.head_eq_of_cons_eq e0
  obtain ⟨O, rfl, wO⟩ := one_int Try.underlying26 h1
  obtain ⟨K, rfl, wK⟩ := one_int Try.underlying27 h2
  have hb : ∀ (i : Nat) (y : DataW H × List MemPlace), xs[i]? = some y → Rows.uptoBulk y.1 ≤ Rows.uptoBulk x.1 := fun i y hy => by
    rw [hd]
    simp only [Rows.uptoBulk]
    have := bulk_mem (ds := xs.map (·.1)) (List.mem_map.2 ⟨y, List.mem_of_getElem? hy, rfl⟩)
    omega
  have hsl : s.data.toList.length + 1 ≤ Rows.uptoBulk y0.1 := by rw [hs0]; simp [Rows.uptoBulk]
  have hb0 := hb 0 _ k0
  exact ⟨⟨s.data.toList, O, K⟩, rfl, ⟨LW.wf_u16 wO, LW.wf_u32 wK⟩, by simp only; omega⟩
/-- an act's four cells -/
theorem open_actF {fuel : Nat} {cs : List Value} {x : DataW H × List MemPlace} (hlen : cs.length = 4) (hf : DataW.trod enc Try.prog W 0 (fun _ => true) true fuel 37 cs = some x) :
    ∃ y : Ac, cs = [.int .u8 y.kind, .string (bs y.b.nm), .int .u16 y.b.ow, .int .u32 y.b.bs] ∧ (0 ≤ y.kind ∧ y.kind ≤ 255) ∧ BdOk y.b ∧ y.b.nm.length ≤ Rows.uptoBulk x.1 := by
  obtain ⟨xs, n, _, hd, _, hx, hg⟩ := DataW.trod_struct Try.underlying37 hf
  obtain ⟨c0, c1, c2, c3, rfl⟩ := four_of cs hlen
  obtain ⟨y0, k0, h0⟩ := field_at (ty := 5) (t := 0) hx hg 0 _ rfl rfl rfl cells8
  obtain ⟨y1, k1, h1⟩ := field_at (ty := 35) (t := 0) hx hg 1 _ rfl rfl rfl cellsBd
  obtain ⟨K, rfl, wK⟩ := one_int Try.underlying5 h0
  obtain ⟨y, e, h3, h4⟩ := open_bdF (by rfl) h1
  have hb : ∀ (i : Nat) (y : DataW H × List MemPlace), xs[i]? = some y → Rows.uptoBulk y.1 ≤ Rows.uptoBulk x.1 := fun i y hy => by
    rw [hd]
    simp only [Rows.uptoBulk]
    have := bulk_mem (ds := xs.map (·.1)) (List.mem_map.2 ⟨y, List.mem_of_getElem? hy, rfl⟩)
    omega
  have hb1 := hb 1 _ k1
  refine ⟨⟨K, y⟩, ?_, LW.wf_u8 wK, h3, by simp only; omega⟩
  exact congrArg _ e
/-- many acts -/
theorem open_acts {v : Value} {d : DataW H} {p : List MemPlace} (hv : Value.okWide Try.prog W .any b0 22 v) (h : DataW.Trod enc Try.prog W 0 (fun _ => true) true 22 v d p) :
    ∃ (l : List Ac) (a : Option Addr) (n c : Nat), v = .slice a n c ∧ ((∀ x ∈ l, x.b.nm.length ≤ 2097152) → ReadsA (· < W.heap.size) W (.slice a n c) l) ∧ (∀ x ∈ l, x.b.nm.length ≤ Rows.uptoBulk d) := by
  obtain ⟨a0, len0, cap0, rfl⟩ := okWide_slice Try.underlying22 hv
  obtain ⟨fuel, hf⟩ := h
  replace hf : DataW.trod enc Try.prog W 0 (fun _ => true) true fuel 22 [.slice a0 len0 cap0] = some (d, p) := hf
  rcases Go.Deep.open_slice Try.underlying22 hf with ⟨hcs, hx⟩ | ⟨a, len, cap, m, nf, D, Pl, hcs, hb, hl, hm, hmm, hx, hel⟩
  · have := List.head_eq_of_cons_eq hcs
    simp only [Value.slice.injEq] at this
    obtain ⟨rfl, rfl, rfl⟩ := this
    exact ⟨[], none, 0, 0, rfl, fun _ => ⟨none, 0, rfl, Nat.le_refl _, by simp [maxLen], Or.inl rfl, fun x hx => (by cases hx)⟩, fun x hx => (by cases hx)⟩
  · have := List.head_eq_of_cons_eq hcs
    simp only [Value.slice.injEq] at this
    obtain ⟨rfl, rfl, rfl⟩ := this
    simp only [if_true] at hmm
    subst hmm
    have each : ∀ i, i < len0 → ∃ y : Ac, ((0 ≤ y.kind ∧ y.kind ≤ 255) ∧ BdOk y.b ∧ y.b.nm.length ≤ Rows.uptoBulk d) ∧ W.cell? (a.add (i * 4)) = some (.int .u8 y.kind) ∧ W.cell? (a.add (i * 4 + 1)) = some (.string (bs y.b.nm)) ∧ W.cell? (a.add (i * 4 + 2)) = some (.int .u16 y.b.ow) ∧ W.cell? (a.add (i * 4 + 3)) = some (.int .u32 y.b.bs) := by
      intro i hi
      obtain ⟨cs', h1, h2⟩ := hel i (by omega)
      rw [cellsAct] at h1
      obtain ⟨_, hlen2, hc⟩ := World.cells?_some h1
      obtain ⟨y, e, h3, h4, h5⟩ := open_actF (by simpa using hlen2) h2
      have hbd : Rows.uptoBulk (D i) ≤ Rows.uptoBulk d := by
        have hd := (Prod.mk.inj hx).1
        rw [hd]
        simp only [Rows.uptoBulk]
        have := bulk_mem (ds := (List.range len0).map D) (List.mem_map.2 ⟨i, List.mem_range.2 hi, rfl⟩)
        omega
      subst e
      have g0 := hc 0 (by simp)
      have g1 := hc 1 (by simp)
      have g2 := hc 2 (by simp)
      have g3 := hc 3 (by simp)
      rw [add_twice] at g0 g1 g2 g3
      exact ⟨y, ⟨h3, h4, Nat.le_trans h5 hbd⟩, g0, g1, g2, g3⟩
    haveI : Inhabited Ac := ⟨ac0⟩
    obtain ⟨F, hF⟩ := Go.Deep.choose_lt each
    have eF : ∀ j, j < len0 → ((List.range len0).map F).getD j ac0 = F j := fun j hj => by
      rw [List.getD_eq_getElem?_getD, List.getElem?_map, List.getElem?_range hj]
      rfl
    refine ⟨(List.range len0).map F, some a, len0, _, rfl, fun hln => ⟨some a, _, by rw [List.length_map, List.length_range], by rw [List.length_map, List.length_range]; exact hl, hm, ?_, fun x hx => ?_⟩, fun x hx => ?_⟩
    · by_cases h0 : len0 = 0
      · left; subst h0; simp
      · right
        have hc0 := (hF 0 (by omega)).2.1
        rw [Nat.zero_mul] at hc0
        have hsp := no_spot hc0 (by rw [hc0]; simp)
        refine ⟨a.block, a.off, by rw [← hsp], block_lt hc0, fun j hj => ?_⟩
        rw [List.length_map, List.length_range] at hj
        rw [eF j hj]
        obtain ⟨_, k0, k1, k2, k3⟩ := hF j hj
        rw [hsp, add_off] at k0 k1 k2 k3
        exact ⟨k0, by rw [Nat.add_assoc]; exact k1, by rw [Nat.add_assoc]; exact k2, by rw [Nat.add_assoc]; exact k3⟩
    · have hx2 := hx
      obtain ⟨i, hi, rfl⟩ := List.mem_map.1 hx
      have h1 := (hF i (List.mem_range.1 hi)).1
      exact ⟨h1.1, h1.2.1, hln _ hx2⟩
    · obtain ⟨i, hi, rfl⟩ := List.mem_map.1 hx
      exact (hF i (List.mem_range.1 hi)).1.2.2
end
end Go.Proofs.Ytigalcmhongleaa.GQ
