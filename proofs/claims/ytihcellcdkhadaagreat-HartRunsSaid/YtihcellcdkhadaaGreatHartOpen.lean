/-
  Harts, and memories to be made, that come in: what they read as. Plain lemmas on the form.
-/
import Derived.Test.YtihcellcdkhadaaGreatRows
import Derived.Test.YtihcellcdkhadaaGreatHartCopy
import Derived.Test.YtihcellcdkhadaaGreatHartMath2
import Derived.Test.YtihcellcdkhadaaGreatLaw
import Derived.ProofKit
import Derived.OpenShut
import Derived.Deep.Slices
import Derived.SizedLaws
set_option linter.unusedSimpArgs false
set_option linter.unusedVariables false
set_option maxRecDepth 20000
namespace Go.Proofs.YtihcellcdkhadaaGreat.HQ
open Go.ChangeShapes Go.WideShapes Go.ChangeAt Go.RowKit PR PF MM MR MF HM HR HF
section
variable {H : Type} {enc : TypeId × Value → H} {W : World} {b0 : Nat}
theorem cells32 : Tryz.prog.cellsOf 23 = 1 := by kernel_rfl
theorem cellsU32s : Tryz.prog.cellsOf 22 = 1 := by kernel_rfl
theorem cells8 : Tryz.prog.cellsOf 5 = 1 := by kernel_rfl
theorem cells64 : Tryz.prog.cellsOf 28 = 1 := by kernel_rfl
theorem cellsA8 : Tryz.prog.cellsOf 26 = 8 := by kernel_rfl
theorem cellsHart : Tryz.prog.cellsOf 30 = 13 := by kernel_rfl
theorem bytes32 : Tryz.prog.bytesOf 23 = 4 := by kernel_rfl
theorem no_spot {w : World} {a : Addr} {i : Nat} {v : Value} (h : w.cell? (a.add i) = some v) (h0 : w.cell? (a.add 0) ≠ none) : a = ⟨a.block, a.off, none⟩ := by
  have : (a.add 0) = a := by unfold Addr.add; simp
  rw [this] at h0
  unfold World.cell? at h0
  obtain ⟨b, o, s⟩ := a
  cases s with
  | none => rfl
  | some s =>
    exfalso
    apply h0
    simp only
    split
    · simp
    · rfl
theorem add_off (g off i : Nat) : ((⟨g, off, none⟩ : Addr).add i) = ⟨g, off + i, none⟩ := by
  unfold Addr.add
  split
  · subst_vars; simp
  · rfl
theorem one_int {n : Nat} {t : TypeId} {k : IntKind} {c : Value} {y : DataW H × List MemPlace} {base : Nat} {sp : Nat → Bool} {hd : Bool} (ht : Tryz.prog.underlying t = some (.int k)) (h : DataW.trod enc Tryz.prog W base sp hd n t [c] = some y) : ∃ x : Int, c = .int k x ∧ (Lit.int k x).wf = true := by
  obtain ⟨x, e, _, hw⟩ := DataW.trod_int ht h
  exact ⟨x, List.head_eq_of_cons_eq e, hw⟩
/-- a slice of words, read -/
theorem open_words {fuel : Nat} {cl : Value} {x : DataW H × List MemPlace} (hf : DataW.trod enc Tryz.prog W 0 (fun _ => true) true fuel 22 [cl] = some x) :
    ∃ (a : Option Addr) (n c : Nat) (l : List Int), cl = .slice a n c ∧ Rs W.heap.size W a n c l ∧ (∀ y ∈ l, B32 y) ∧ (l = [] ∨ ∃ elems spare, x.1 = .slice elems spare ∧ elems.length = l.length) := by
  rcases open_ints Tryz.underlying22 Tryz.underlying23 cells32 hf with ⟨hcs, hx⟩ | ⟨a, len, cap, zs, hcs, _, hl, hm, hz, hx, hcell, hwz⟩
  · refine ⟨none, 0, 0, [], List.head_eq_of_cons_eq hcs, Reads.nil _ _, (fun y hy => by cases hy), Or.inl rfl⟩
  · simp only [if_true] at hz
    have hlen : (zs.take len).length = len := by rw [List.length_take]; omega
    refine ⟨some a, len, cap, zs.take len, List.head_eq_of_cons_eq hcs, ⟨some a, cap, by rw [wcs_len, hlen], by rw [wcs_len, hlen]; exact hl, hm, (fun h => by cases h), ?_⟩, fun z hz' => LW.wf_u32 (hwz z (List.mem_of_mem_take hz')), Or.inr ⟨_, _, by rw [hx], by simp [lits]⟩⟩
    by_cases h0 : len = 0
    · left; subst h0; simp [wcs]
    · right
      have hc0 := hcell 0 (by omega)
      have hsp := no_spot hc0 (by rw [hc0]; simp)
      have hb : a.block < W.heap.size := by
        have : (a.add 0) = a := by unfold Addr.add; simp
        rw [this] at hc0
        exact World.block_lt_of_cell? W a hc0
      refine ⟨a.block, a.off, by rw [← hsp], hb, fun j hj => ?_⟩
      rw [wcs_len, hlen] at hj
      have hcj := hcell j (by omega)
      rw [hsp, add_off] at hcj
      rw [hcj, wcs_at (by rw [hlen]; exact hj), List.getD_eq_getElem?_getD, List.getD_eq_getElem?_getD, List.getElem?_take_of_lt hj]
theorem getD_ok8 (a0 a1 a2 a3 a4 a5 a6 a7 : Int) (b0 : B32 a0) (b1 : B32 a1) (b2 : B32 a2) (b3 : B32 a3) (b4 : B32 a4) (b5 : B32 a5) (b6 : B32 a6) (b7 : B32 a7) (k : Nat) : B32 ([a0, a1, a2, a3, a4, a5, a6, a7].getD k 0) :=
  getD_ok (by simp only [List.mem_cons, List.not_mem_nil, or_false]; rintro x (rfl | rfl | rfl | rfl | rfl | rfl | rfl | rfl) <;> assumption) k
theorem eight {α : Type} (l : List α) (h : l.length = 8) : ∃ x0 x1 x2 x3 x4 x5 x6 x7, l = [x0, x1, x2, x3, x4, x5, x6, x7] := by
  match l, h with
  | [x0, x1, x2, x3, x4, x5, x6, x7], _ => exact ⟨_, _, _, _, _, _, _, _, rfl⟩
/-- eight words, read -/
theorem open_eight {fuel : Nat} {cs : List Value} {x : DataW H × List MemPlace} {base : Nat} {sp : Nat → Bool} {hd : Bool} (hf : DataW.trod enc Tryz.prog W base sp hd fuel 26 cs = some x) (hlen : cs.length = 8) :
    ∃ R : Nat → Int, (∀ k, B32 (R k)) ∧ cs = [.int .u32 (R 0), .int .u32 (R 1), .int .u32 (R 2), .int .u32 (R 3), .int .u32 (R 4), .int .u32 (R 5), .int .u32 (R 6), .int .u32 (R 7)] := by
  cases fuel with
  | zero => cases hf
  | succ fuel =>
    unfold DataW.trod at hf
    rw [Tryz.underlying26] at hf
    simp only [] at hf
    rw [if_pos (by rw [hlen, cellsA8])] at hf
    cases hm : List.mapM (fun i => DataW.trod enc Tryz.prog W base sp hd fuel 23 ((cs.drop (i * Tryz.prog.cellsOf 23)).take (Tryz.prog.cellsOf 23))) (List.range 8) with
    | none => rw [hm] at hf; cases hf
    | some ys =>
      have each : ∀ i, (h : i < 8) → ∃ a, cs[i]'(by omega) = .int .u32 a ∧ B32 a := fun i h => by
        obtain ⟨y, hy⟩ := LW.mapM_each hm i (List.mem_range.2 h)
        rw [cells32, Nat.mul_one] at hy
        have hd : (cs.drop i).take 1 = [cs[i]'(by omega)] := by
          rw [List.drop_eq_getElem_cons (by omega)]; rfl
        rw [hd] at hy
        obtain ⟨a, ha, hw⟩ := LW.trod_int Tryz.underlying23 hy
        exact ⟨a, ha, LW.wf_u32 hw⟩
      obtain ⟨a0, e0, b0⟩ := each 0 (by omega)
      obtain ⟨a1, e1, b1⟩ := each 1 (by omega)
      obtain ⟨a2, e2, b2⟩ := each 2 (by omega)
      obtain ⟨a3, e3, b3⟩ := each 3 (by omega)
      obtain ⟨a4, e4, b4⟩ := each 4 (by omega)
      obtain ⟨a5, e5, b5⟩ := each 5 (by omega)
      obtain ⟨a6, e6, b6⟩ := each 6 (by omega)
      obtain ⟨a7, e7, b7⟩ := each 7 (by omega)
      refine ⟨fun k => [a0, a1, a2, a3, a4, a5, a6, a7].getD k 0, fun k => getD_ok8 a0 a1 a2 a3 a4 a5 a6 a7 b0 b1 b2 b3 b4 b5 b6 b7 k, ?_⟩
      obtain ⟨x0, x1, x2, x3, x4, x5, x6, x7, rfl⟩ := eight cs hlen
      obtain rfl : x0 = .int .u32 a0 := e0
      obtain rfl : x1 = .int .u32 a1 := e1
      obtain rfl : x2 = .int .u32 a2 := e2
      obtain rfl : x3 = .int .u32 a3 := e3
      obtain rfl : x4 = .int .u32 a4 := e4
      obtain rfl : x5 = .int .u32 a5 := e5
      obtain rfl : x6 = .int .u32 a6 := e6
      obtain rfl : x7 = .int .u32 a7 := e7
      rfl
theorem thirteen {α : Type} (l : List α) (h : l.length = 13) : ∃ x0 x1 x2 x3 x4 x5 x6 x7 x8 x9 x10 x11 x12, l = [x0, x1, x2, x3, x4, x5, x6, x7, x8, x9, x10, x11, x12] := by
  match l, h with
  | [x0, x1, x2, x3, x4, x5, x6, x7, x8, x9, x10, x11, x12], _ => exact ⟨_, _, _, _, _, _, _, _, _, _, _, _, _, rfl⟩
/-- a field of a struct, read -/
theorem field_at {t : TypeId} {f : Array Field} {cs : List Value} {xs : List (DataW H × List MemPlace)} {n : Nat} {base : Nat} {sp : Nat → Bool} {hd : Bool} (hx : xs.length = f.size) (hg : ∀ (i : Nat) (g : Field), f[i]? = some g → DataW.trod enc Tryz.prog W base sp hd n g.type ((cs.drop g.offset).take (Tryz.prog.cellsOf g.type)) = xs[i]?)
    (i : Nat) (g : Field) (h1 : f[i]? = some g) {o m : Nat} {ty : TypeId} (h2 : g.offset = o) (hty : g.type = ty) (h3 : Tryz.prog.cellsOf ty = m) : ∃ y, xs[i]? = some y ∧ DataW.trod enc Tryz.prog W base sp hd n ty ((cs.drop o).take m) = some y := by
  have e := hg i g h1
  have hl : i < xs.length := by rw [hx]; exact (Array.getElem?_eq_some_iff.1 h1).1
  rw [List.getElem?_eq_getElem hl] at e
  subst h2 hty h3
  exact ⟨_, List.getElem?_eq_getElem hl, e⟩
/-- what is known of a stack's length -/
abbrev Bulk (d : DataW H) (i : Nat) (l : List Int) : Prop := l = [] ∨ ∃ parts elems spare, d = .agg parts ∧ parts[i]? = some (.slice elems spare) ∧ elems.length = l.length
theorem open_hart {v : Value} {d : DataW H} {p : List MemPlace} (hv : Value.okWide Tryz.prog W .any b0 30 v) (h : DataW.Trod enc Tryz.prog W 0 (fun _ => true) true 30 v d p) :
    ∃ (y : Ht) (a : Option Addr) (n c : Nat), v = hV y.pc y.r a n c y.why y.ep y.home ∧ HOk y ∧ Rs W.heap.size W a n c y.sk ∧ Bulk d 2 y.sk := by
  obtain ⟨cs, rfl, hsz⟩ := okWide_struct Tryz.underlying30 hv
  rw [cellsHart] at hsz
  obtain ⟨fuel, hf⟩ := h
  replace hf : DataW.trod enc Tryz.prog W 0 (fun _ => true) true fuel 30 cs.toList = some (d, p) := hf
  obtain ⟨xs, n, _, hd, _, hx, hg⟩ := DataW.trod_struct Tryz.underlying30 hf
  obtain ⟨x0, x1, x2, x3, x4, x5, x6, x7, x8, x9, x10, x11, x12, hl⟩ := thirteen cs.toList (by simpa using hsz)
  rw [hl] at hg
  obtain ⟨y0, _, h0⟩ := field_at (ty := 23) (t := 0) hx hg 0 _ rfl rfl rfl cells32
  obtain ⟨y1, _, h1⟩ := field_at (ty := 26) (t := 0) hx hg 1 _ rfl rfl rfl cellsA8
  obtain ⟨y2, k2, h2⟩ := field_at (ty := 22) (t := 0) hx hg 2 _ rfl rfl rfl cellsU32s
  obtain ⟨y3, _, h3⟩ := field_at (ty := _) (t := 0) hx hg 3 _ rfl rfl rfl (by kernel_rfl : _ = 1)
  obtain ⟨y4, _, h4⟩ := field_at (ty := 28) (t := 0) hx hg 4 _ rfl rfl rfl cells64
  obtain ⟨y5, _, h5⟩ := field_at (ty := 23) (t := 0) hx hg 5 _ rfl rfl rfl cells32
  obtain ⟨pc, rfl, w0⟩ := one_int Tryz.underlying23 h0
  obtain ⟨R, hR, e1⟩ := open_eight h1 rfl
  obtain ⟨a, m, c, l, rfl, hr, hb, hk⟩ := open_words h2
  obtain ⟨why, rfl, w3⟩ := one_int Tryz.underlying27 h3
  obtain ⟨ep, rfl, w4⟩ := one_int Tryz.underlying28 h4
  obtain ⟨home, rfl, w5⟩ := one_int Tryz.underlying23 h5
  refine ⟨⟨pc, R, l, why, ep, home⟩, a, m, c, ?_, ⟨LW.wf_u32 w0, hR, hb, LW.wf_u32 w5⟩, hr, ?_⟩
  · show Value.agg cs = _
    rw [← Array.toArray_toList (xs := cs), hl]
    replace e1 : [x1, x2, x3, x4, x5, x6, x7, x8] = _ := e1
    simp only [List.cons.injEq, and_true] at e1
    obtain ⟨rfl, rfl, rfl, rfl, rfl, rfl, rfl, rfl⟩ := e1
    rfl
  · rcases hk with hk | ⟨el, sp, e, hle⟩
    · exact Or.inl hk
    · refine Or.inr ⟨xs.map (·.1), el, sp, (Prod.mk.inj hd).1, ?_, hle⟩
      rw [List.getElem?_map, k2, ← e]
      rfl
theorem open_regs {v : Value} {d : DataW H} {p : List MemPlace} (hv : Value.okWide Tryz.prog W .any b0 26 v) (h : DataW.Trod enc Tryz.prog W 0 (fun _ => true) true 26 v d p) :
    ∃ R : Nat → Int, v = .agg #[.int .u32 (R 0), .int .u32 (R 1), .int .u32 (R 2), .int .u32 (R 3), .int .u32 (R 4), .int .u32 (R 5), .int .u32 (R 6), .int .u32 (R 7)] ∧ ∀ k, B32 (R k) := by
  simp only [Value.okWide, Tryz.underlying26] at hv
  obtain ⟨cs, rfl, hsz, _⟩ := hv
  rw [cellsA8] at hsz
  obtain ⟨fuel, hf⟩ := h
  replace hf : DataW.trod enc Tryz.prog W 0 (fun _ => true) true fuel 26 cs.toList = some (d, p) := hf
  obtain ⟨R, hR, e⟩ := open_eight hf (by simpa using hsz)
  refine ⟨R, ?_, hR⟩
  show Value.agg cs = _
  rw [← Array.toArray_toList (xs := cs), e]
theorem cellsBool : Tryz.prog.cellsOf 4 = 1 := by kernel_rfl
theorem cellsLand : Tryz.prog.cellsOf 25 = 4 := by kernel_rfl
theorem four {α : Type} (l : List α) (h : l.length = 4) : ∃ x0 x1 x2 x3, l = [x0, x1, x2, x3] := by
  match l, h with
  | [x0, x1, x2, x3], _ => exact ⟨_, _, _, _, rfl⟩
theorem open_land {v : Value} {d : DataW H} {p : List MemPlace} (hv : Value.okWide Tryz.prog W .any b0 25 v) (h : DataW.Trod enc Tryz.prog W 0 (fun _ => true) true 25 v d p) :
    ∃ (s : Option Addr) (n c : Nat) (l : List Int) (s' : Option Addr) (n' c' : Nat) (l' : List Int) (g : Int) (b : Bool), v = .agg #[.slice s n c, .slice s' n' c', .int .u32 g, .bool b] ∧ Rs W.heap.size W s n c l ∧ Rs W.heap.size W s' n' c' l' ∧ (∀ x ∈ l, B32 x) ∧ (∀ x ∈ l', B32 x) ∧ B32 g := by
  obtain ⟨cs, rfl, hsz⟩ := okWide_struct Tryz.underlying25 hv
  rw [cellsLand] at hsz
  obtain ⟨fuel, hf⟩ := h
  replace hf : DataW.trod enc Tryz.prog W 0 (fun _ => true) true fuel 25 cs.toList = some (d, p) := hf
  obtain ⟨xs, n, _, hd, _, hx, hg⟩ := DataW.trod_struct Tryz.underlying25 hf
  obtain ⟨x0, x1, x2, x3, hl⟩ := four cs.toList (by simpa using hsz)
  rw [hl] at hg
  obtain ⟨y0, _, h0⟩ := field_at (ty := 22) (t := 0) hx hg 0 _ rfl rfl rfl cellsU32s
  obtain ⟨y1, _, h1⟩ := field_at (ty := 22) (t := 0) hx hg 1 _ rfl rfl rfl cellsU32s
  obtain ⟨y2, _, h2⟩ := field_at (ty := 23) (t := 0) hx hg 2 _ rfl rfl rfl cells32
  obtain ⟨y3, _, h3⟩ := field_at (ty := 4) (t := 0) hx hg 3 _ rfl rfl rfl cellsBool
  obtain ⟨s, m, c, l, rfl, hr, hb, _⟩ := open_words h0
  obtain ⟨s', m', c', l', rfl, hr', hb', _⟩ := open_words h1
  obtain ⟨g, rfl, w2⟩ := one_int Tryz.underlying23 h2
  obtain ⟨b, rfl⟩ : ∃ b, x3 = .bool b := by
    obtain ⟨b, e, _⟩ := DataW.trod_bool Tryz.underlying4 h3
    exact ⟨b, List.head_eq_of_cons_eq e⟩
  refine ⟨s, m, c, l, s', m', c', l', g, b, ?_, hr, hr', hb, hb', LW.wf_u32 w2⟩
  show Value.agg cs = _
  rw [← Array.toArray_toList (xs := cs), hl]
theorem hart_bytes {ts : List TypeId} {ds : List (DataW H)} (h : (DataW.weightsEach Tryz.prog ts ds).all (· ≤ reachBytes) = true) {j : Nat} {d : DataW H} {l : List Int} (ht : ts[j]? = some 30) (hd : ds[j]? = some d) (hb : Bulk d 2 l) : l.length * 4 ≤ 140737488355328 := by
  rcases hb with rfl | ⟨parts, el, sp, rfl, hp, he⟩
  · simp
  · have hin : (el.length + sp.length) * Tryz.prog.bytesOf 23 ∈ DataW.weights Tryz.prog 30 (.agg parts) := by
      rw [DataW.weights, Tryz.underlying30]
      exact DataW.weights_mem_each (j := 2) (t := 22) rfl hp _ (by simp [DataW.weights, Tryz.underlying22])
    have := List.all_eq_true.1 h _ (DataW.weights_mem_each ht hd _ hin)
    rw [bytes32] at this
    have h2 := of_decide_eq_true this
    simp only [reachBytes] at h2
    omega
end
end Go.Proofs.YtihcellcdkhadaaGreat.HQ
