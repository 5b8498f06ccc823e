/-
  Calls and lists of names that come in: what they read as, and how big they can be. Plain lemmas on the form.
-/
import Derived.Test.YtleggfofgpiabaaRows
import Derived.Test.YtleggfofgpiabaaSymAct
import Derived.Test.YtleggfofgpiabaaLaw
import Derived.ProofKit
import Derived.OpenShut
import Derived.Deep.Slices
import Derived.Deep.Strs
import Derived.SizedLaws
set_option linter.unusedSimpArgs false
set_option linter.unusedVariables false
set_option maxRecDepth 20000
namespace Go.Proofs.Ytleggfofgpiabaa.SQ
open Go.ChangeShapes Go.WideShapes Go.ChangeAt Go.RowKit WM NR OM OR SM SR
section
variable {H : Type} {enc : TypeId × Value → H} {W : World} {b0 : Nat}
theorem no_spot {w : World} {a : Addr} {i : Nat} {v : Value} (h : w.cell? (a.add i) = some v) (h0 : w.cell? (a.add 0) ≠ none) : a = ⟨a.block, a.off, none⟩ := by
  have : (a.add 0) = a := by unfold Addr.add; simp
  rw [this] at h0
  unfold World.cell? at h0
  obtain ⟨b, o, s⟩ := a
  cases s with
  | none => rfl
  | some s =>
    exfalso
    apply h0
    simp only
    split
    · simp
    · rfl
theorem add_off (g off i : Nat) : ((⟨g, off, none⟩ : Addr).add i) = ⟨g, off + i, none⟩ := by
  unfold Addr.add
  split
  · subst_vars; simp
  · rfl
theorem add_twice (a : Addr) (i j : Nat) : (a.add i).add j = a.add (i + j) := by
  unfold Addr.add
  by_cases hi : i = 0 <;> by_cases hj : j = 0 <;> simp [hi, hj, Nat.add_assoc]
theorem block_lt {w : World} {a : Addr} {v : Value} (h : w.cell? (a.add 0) = some v) : a.block < w.heap.size := by
  have : (a.add 0) = a := by unfold Addr.add; simp
  rw [this] at h
  exact World.block_lt_of_cell? w a h
theorem cellsStr : Try.prog.cellsOf 9 = 1 := by kernel_rfl
theorem cellsByte : Try.prog.cellsOf 5 = 1 := by kernel_rfl
theorem cellsInt : Try.prog.cellsOf 3 = 1 := by kernel_rfl
theorem cellsStrs : Try.prog.cellsOf 22 = 1 := by kernel_rfl
theorem bulk_mem : ∀ {ds : List (DataW H)} {d : DataW H}, d ∈ ds → Rows.uptoBulk d ≤ Rows.uptoBulkAll ds
  | [], d, h => by cases h
  | x :: ds, d, h => by
    simp only [Rows.uptoBulkAll]
    rcases List.mem_cons.1 h with rfl | h
    · omega
    · have := bulk_mem h
      omega
theorem bulk_len : ∀ (ds : List (DataW H)), ds.length ≤ Rows.uptoBulkAll ds
  | [] => Nat.zero_le _
  | d :: r => by
    have h1 := bulk_len r
    have h2 : 1 ≤ Rows.uptoBulk d := by
      cases d with
      | lit x => cases x <;> simp [Rows.uptoBulk]
      | _ => simp [Rows.uptoBulk]
    simp only [List.length_cons, Rows.uptoBulkAll]
    omega
/-- texts, in a field: what they read as, and how big they are -/
theorem open_strsF {fuel : Nat} {cl : Value} {x : DataW H × List MemPlace} (hf : DataW.trod enc Try.prog W 0 (fun _ => true) true fuel 22 [cl] = some x) :
    ∃ (l : List (List UInt8)) (a : Option Addr) (n c : Nat), cl = .slice a n c ∧ Reads (· < W.heap.size) W (.slice a n c) (OR.strs l) ∧ (∀ s ∈ l, s.length ≤ Rows.uptoBulk x.1) ∧ l.length ≤ Rows.uptoBulk x.1 ∧ (∀ s ∈ l, s.length ≤ 9223372036854775807) := by
  rcases Go.Deep.open_strs Try.underlying22 Try.underlying9 cellsStr hf with ⟨hcs, hx⟩ | ⟨a, len, cap, m, Sx, hcs, _, hl, hm, hz, hx, hcell⟩
  · exact ⟨[], none, 0, 0, List.head_eq_of_cons_eq hcs, Reads.nil _ _, fun s hs => (by cases hs), Nat.zero_le _, fun s hs => (by cases hs)⟩
  · simp only [if_true] at hz
    subst hz
    refine ⟨(List.range len).map fun i => (Sx i).data.toList, some a, len, m, List.head_eq_of_cons_eq hcs, ⟨some a, m, by rw [strs_len, List.length_map, List.length_range], by rw [strs_len, List.length_map, List.length_range]; exact hl, hm, (fun h => by cases h), ?_⟩, ?_, ?_, ?_⟩
    · by_cases h0 : len = 0
      · left; subst h0; simp [OR.strs]
      · right
        have hc0 := (hcell 0 (by omega)).1
        have hsp := no_spot hc0 (by rw [hc0]; simp)
        refine ⟨a.block, a.off, by rw [← hsp], block_lt hc0, fun j hj => ?_⟩
        rw [strs_len, List.length_map, List.length_range] at hj
        have hcj := (hcell j (by omega)).1
        rw [hsp, add_off] at hcj
        rw [hcj, OR.strs, List.getElem?_map, List.getElem?_map, List.getElem?_range hj]
        rfl
    · intro s hs
      obtain ⟨i, hi, rfl⟩ := List.mem_map.1 hs
      rw [hx]
      simp only [Rows.uptoBulk]
      have := bulk_mem (ds := (List.range len).map fun i => (DataW.lit (.string (Sx i).data.toList) : DataW H)) (List.mem_map.2 ⟨i, hi, rfl⟩)
      simp only [Rows.uptoBulk] at this
      omega
    · rw [hx]
      simp only [Rows.uptoBulk]
      have := bulk_len ((List.range len).map fun i => (DataW.lit (.string (Sx i).data.toList) : DataW H))
      simp only [List.length_map] at this ⊢
      omega
    · intro s hs
      obtain ⟨i, hi, rfl⟩ := List.mem_map.1 hs
      have h1 := (hcell i (by have := List.mem_range.1 hi; omega)).2
      unfold maxLen at h1
      rw [Array.length_toList]
      show (Sx i).size ≤ _
      omega
theorem open_strs {v : Value} {d : DataW H} {p : List MemPlace} (hv : Value.okWide Try.prog W .any b0 22 v) (h : DataW.Trod enc Try.prog W 0 (fun _ => true) true 22 v d p) :
    ∃ (l : List (List UInt8)) (a : Option Addr) (n c : Nat), v = .slice a n c ∧ Reads (· < W.heap.size) W (.slice a n c) (OR.strs l) ∧ (∀ s ∈ l, s.length ≤ Rows.uptoBulk d) ∧ l.length ≤ Rows.uptoBulk d ∧ (∀ s ∈ l, s.length ≤ 9223372036854775807) := by
  obtain ⟨a0, len, cap, rfl⟩ := okWide_slice Try.underlying22 hv
  obtain ⟨fuel, hf⟩ := h
  exact open_strsF (x := (d, p)) hf
theorem field_at {t : TypeId} {f : Array Field} {cs : List Value} {xs : List (DataW H × List MemPlace)} {n : Nat} {base : Nat} {sp : Nat → Bool} {hd : Bool} (hx : xs.length = f.size) (hg : ∀ (i : Nat) (g : Field), f[i]? = some g → DataW.trod enc Try.prog W base sp hd n g.type ((cs.drop g.offset).take (Try.prog.cellsOf g.type)) = xs[i]?)
    (i : Nat) (g : Field) (h1 : f[i]? = some g) {o m : Nat} {ty : TypeId} (h2 : g.offset = o) (hty : g.type = ty) (h3 : Try.prog.cellsOf ty = m) : ∃ y, xs[i]? = some y ∧ DataW.trod enc Try.prog W base sp hd n ty ((cs.drop o).take m) = some y := by
  have e := hg i g h1
  have hl : i < xs.length := by rw [hx]; exact (Array.getElem?_eq_some_iff.1 h1).1
  rw [List.getElem?_eq_getElem hl] at e
  subst h2 hty h3
  exact ⟨_, List.getElem?_eq_getElem hl, e⟩
theorem four_of {α : Type} (l : List α) (h : l.length = 4) : ∃ x0 x1 x2 x3, l = [x0, x1, x2, x3] := by
  match l, h with
  | [x0, x1, x2, x3], _ => exact ⟨_, _, _, _, rfl⟩
/-- lists of names -/
theorem open_lists {v : Value} {d : DataW H} {p : List MemPlace} (hv : Value.okWide Try.prog W .any b0 23 v) (h : DataW.Trod enc Try.prog W 0 (fun _ => true) true 23 v d p) :
    ∃ (l : List Sx) (a : Option Addr) (n c : Nat), v = .slice a n c ∧ ReadsS (· < W.heap.size) W (.slice a n c) l ∧ ∀ x ∈ l, ∀ s ∈ x.l, s.length ≤ 9223372036854775807 := by
  obtain ⟨a0, len0, cap0, rfl⟩ := okWide_slice Try.underlying23 hv
  obtain ⟨fuel, hf⟩ := h
  replace hf : DataW.trod enc Try.prog W 0 (fun _ => true) true fuel 23 [.slice a0 len0 cap0] = some (d, p) := hf
  rcases Go.Deep.open_slice1 Try.underlying23 cellsStrs hf with ⟨hcs, hx⟩ | ⟨a, len, cap, m, nf, V, D, Pl, hcs, hb, hl, hm, hmm, hx, hel⟩
  · have := List.head_eq_of_cons_eq hcs
    simp only [Value.slice.injEq] at this
    obtain ⟨rfl, rfl, rfl⟩ := this
    exact ⟨[], none, 0, 0, rfl, ⟨none, 0, rfl, Nat.le_refl _, by simp [maxLen], Or.inl rfl, fun x hx => (by cases hx)⟩, fun x hx => (by cases hx)⟩
  · have := List.head_eq_of_cons_eq hcs
    simp only [Value.slice.injEq] at this
    obtain ⟨rfl, rfl, rfl⟩ := this
    simp only [if_true] at hmm
    subst hmm
    have each : ∀ i, i < len0 → ∃ y : Sx, (Reads (· < W.heap.size) W (.slice y.a y.n y.c) (strs y.l) ∧ ∀ s ∈ y.l, s.length ≤ 9223372036854775807) ∧ W.cell? (a.add i) = some (.slice y.a y.n y.c) := by
      intro i hi
      obtain ⟨h1, h2⟩ := hel i (by omega)
      obtain ⟨l, b, n, c, e, hr, _, _, hz⟩ := open_strsF h2
      rw [e] at h1
      exact ⟨⟨b, n, c, l⟩, ⟨hr, hz⟩, h1⟩
    haveI : Inhabited Sx := ⟨sx0⟩
    obtain ⟨F, hF⟩ := Go.Deep.choose_lt each
    have eF : ∀ j, j < len0 → ((List.range len0).map F).getD j sx0 = F j := fun j hj => by
      rw [List.getD_eq_getElem?_getD, List.getElem?_map, List.getElem?_range hj]
      rfl
    refine ⟨(List.range len0).map F, some a, len0, _, rfl, ⟨some a, _, by rw [List.length_map, List.length_range], by rw [List.length_map, List.length_range]; exact hl, hm, ?_, fun x hx => ?_⟩, fun x hx => ?_⟩
    · by_cases h0 : len0 = 0
      · left; subst h0; simp
      · right
        have hc0 := (hF 0 (by omega)).2
        have hsp := no_spot hc0 (by rw [hc0]; simp)
        refine ⟨a.block, a.off, by rw [← hsp], block_lt hc0, fun j hj => ?_⟩
        rw [List.length_map, List.length_range] at hj
        rw [eF j hj]
        have k0 := (hF j hj).2
        rw [hsp, add_off] at k0
        exact k0
    · obtain ⟨i, hi, rfl⟩ := List.mem_map.1 hx
      exact (hF i (List.mem_range.1 hi)).1.1
    · obtain ⟨i, hi, rfl⟩ := List.mem_map.1 hx
      exact (hF i (List.mem_range.1 hi)).1.2
end
end Go.Proofs.Ytleggfofgpiabaa.SQ
