/-
  Harts and calls that come in: what they read as. Plain lemmas on the form.
-/
import Derived.Test.YtcpkiepdpmaeoaaRows
import Derived.Test.YtcpkiepdpmaeoaaEpRow
import Derived.Test.YtcpkiepdpmaeoaaLaw
import Derived.ProofKit
import Derived.OpenShut
import Derived.Deep.Slices
import Derived.SizedLaws
set_option linter.unusedSimpArgs false
set_option linter.unusedVariables false
set_option maxRecDepth 20000
namespace Go.Proofs.Ytcpkiepdpmaeoaa.EQ
open Go.ChangeShapes Go.WideShapes Go.ChangeAt Go.RowKit WM NR OM OR EM ER
section
variable {H : Type} {enc : TypeId × Value → H} {W : World} {b0 : Nat}
theorem no_spot {w : World} {a : Addr} {i : Nat} {v : Value} (h : w.cell? (a.add i) = some v) (h0 : w.cell? (a.add 0) ≠ none) : a = ⟨a.block, a.off, none⟩ := by
  have : (a.add 0) = a := by unfold Addr.add; simp
  rw [this] at h0
  unfold World.cell? at h0
  obtain ⟨b, o, s⟩ := a
  cases s with
  | none => rfl
  | some s =>
    exfalso
    apply h0
    simp only
    split
    · simp
    · rfl
theorem add_off (g off i : Nat) : ((⟨g, off, none⟩ : Addr).add i) = ⟨g, off + i, none⟩ := by
  unfold Addr.add
  split
  · subst_vars; simp
  · rfl
theorem add_twice (a : Addr) (i j : Nat) : (a.add i).add j = a.add (i + j) := by
  unfold Addr.add
  by_cases hi : i = 0 <;> by_cases hj : j = 0 <;> simp [hi, hj, Nat.add_assoc]
theorem block_lt {w : World} {a : Addr} {v : Value} (h : w.cell? (a.add 0) = some v) : a.block < w.heap.size := by
  have : (a.add 0) = a := by unfold Addr.add; simp
  rw [this] at h
  exact World.block_lt_of_cell? w a h
theorem cells8 : Try.prog.cellsOf 5 = 1 := by kernel_rfl
theorem cells16 : Try.prog.cellsOf 32 = 1 := by kernel_rfl
theorem cells32 : Try.prog.cellsOf 54 = 1 := by kernel_rfl
theorem cells64 : Try.prog.cellsOf 26 = 1 := by kernel_rfl
theorem cellsU32s : Try.prog.cellsOf 56 = 1 := by kernel_rfl
theorem cellsA8 : Try.prog.cellsOf 55 = 8 := by kernel_rfl
theorem cellsHarts : Try.prog.cellsOf 33 = 1 := by kernel_rfl
theorem cellsHart : Try.prog.cellsOf 59 = 13 := by kernel_rfl
theorem cellsAct : Try.prog.cellsOf 35 = 3 := by kernel_rfl
theorem one_int {n : Nat} {t : TypeId} {k : IntKind} {c : Value} {y : DataW H × List MemPlace} {base : Nat} {sp : Nat → Bool} {hd : Bool} (ht : Try.prog.underlying t = some (.int k)) (h : DataW.trod enc Try.prog W base sp hd n t [c] = some y) : ∃ x : Int, c = .int k x ∧ (Lit.int k x).wf = true := by
  obtain ⟨x, e, _, hw⟩ := DataW.trod_int ht h
  exact ⟨x, List.head_eq_of_cons_eq e, hw⟩
theorem eight {α : Type} (l : List α) (h : l.length = 8) : ∃ x0 x1 x2 x3 x4 x5 x6 x7, l = [x0, x1, x2, x3, x4, x5, x6, x7] := by
  match l, h with
  | [x0, x1, x2, x3, x4, x5, x6, x7], _ => exact ⟨_, _, _, _, _, _, _, _, rfl⟩
/-- eight words, read -/
theorem open_eight {fuel : Nat} {cs : List Value} {x : DataW H × List MemPlace} {base : Nat} {sp : Nat → Bool} {hd : Bool} (hf : DataW.trod enc Try.prog W base sp hd fuel 55 cs = some x) (hlen : cs.length = 8) :
    ∃ R : Nat → Int, cs = [.int .u32 (R 0), .int .u32 (R 1), .int .u32 (R 2), .int .u32 (R 3), .int .u32 (R 4), .int .u32 (R 5), .int .u32 (R 6), .int .u32 (R 7)] := by
  cases fuel with
  | zero => cases hf
  | succ fuel =>
    unfold DataW.trod at hf
    rw [Try.underlying55] at hf
    simp only [] at hf
    rw [if_pos (by rw [hlen, cellsA8])] at hf
    cases hm : List.mapM (fun i => DataW.trod enc Try.prog W base sp hd fuel 54 ((cs.drop (i * Try.prog.cellsOf 54)).take (Try.prog.cellsOf 54))) (List.range 8) with
    | none => rw [hm] at hf; cases hf
    | some ys =>
      have each : ∀ i, (h : i < 8) → ∃ a, cs[i]'(by omega) = .int .u32 a := fun i h => by
        obtain ⟨y, hy⟩ := LW.mapM_each hm i (List.mem_range.2 h)
        rw [cells32, Nat.mul_one] at hy
        have hd : (cs.drop i).take 1 = [cs[i]'(by omega)] := by
          rw [List.drop_eq_getElem_cons (by omega)]; rfl
        rw [hd] at hy
        obtain ⟨a, ha, hw⟩ := LW.trod_int Try.underlying54 hy
        exact ⟨a, ha⟩
      obtain ⟨a0, e0⟩ := each 0 (by omega)
      obtain ⟨a1, e1⟩ := each 1 (by omega)
      obtain ⟨a2, e2⟩ := each 2 (by omega)
      obtain ⟨a3, e3⟩ := each 3 (by omega)
      obtain ⟨a4, e4⟩ := each 4 (by omega)
      obtain ⟨a5, e5⟩ := each 5 (by omega)
      obtain ⟨a6, e6⟩ := each 6 (by omega)
      obtain ⟨a7, e7⟩ := each 7 (by omega)
      refine ⟨fun k => [a0, a1, a2, a3, a4, a5, a6, a7].getD k 0, ?_⟩
      obtain ⟨x0, x1, x2, x3, x4, x5, x6, x7, rfl⟩ := eight cs hlen
      obtain rfl : x0 = .int .u32 a0 := e0
      obtain rfl : x1 = .int .u32 a1 := e1
      obtain rfl : x2 = .int .u32 a2 := e2
      obtain rfl : x3 = .int .u32 a3 := e3
      obtain rfl : x4 = .int .u32 a4 := e4
      obtain rfl : x5 = .int .u32 a5 := e5
      obtain rfl : x6 = .int .u32 a6 := e6
      obtain rfl : x7 = .int .u32 a7 := e7
      rfl
theorem thirteen {α : Type} (l : List α) (h : l.length = 13) : ∃ x0 x1 x2 x3 x4 x5 x6 x7 x8 x9 x10 x11 x12, l = [x0, x1, x2, x3, x4, x5, x6, x7, x8, x9, x10, x11, x12] := by
  match l, h with
  | [x0, x1, x2, x3, x4, x5, x6, x7, x8, x9, x10, x11, x12], _ => exact ⟨_, _, _, _, _, _, _, _, _, _, _, _, _, rfl⟩
theorem three_of {α : Type} (l : List α) (h : l.length = 3) : ∃ x0 x1 x2, l = [x0, x1, x2] := by
  match l, h with
  | [x0, x1, x2], _ => exact ⟨_, _, _, rfl⟩
/-- a field of a struct, read -/
theorem field_at {t : TypeId} {f : Array Field} {cs : List Value} {xs : List (DataW H × List MemPlace)} {n : Nat} {base : Nat} {sp : Nat → Bool} {hd : Bool} (hx : xs.length = f.size) (hg : ∀ (i : Nat) (g : Field), f[i]? = some g → DataW.trod enc Try.prog W base sp hd n g.type ((cs.drop g.offset).take (Try.prog.cellsOf g.type)) = xs[i]?)
    (i : Nat) (g : Field) (h1 : f[i]? = some g) {o m : Nat} {ty : TypeId} (h2 : g.offset = o) (hty : g.type = ty) (h3 : Try.prog.cellsOf ty = m) : ∃ y, xs[i]? = some y ∧ DataW.trod enc Try.prog W base sp hd n ty ((cs.drop o).take m) = some y := by
  have e := hg i g h1
  have hl : i < xs.length := by rw [hx]; exact (Array.getElem?_eq_some_iff.1 h1).1
  rw [List.getElem?_eq_getElem hl] at e
  subst h2 hty h3
  exact ⟨_, List.getElem?_eq_getElem hl, e⟩
/-- a hart's thirteen cells -/
abbrev hrE (y : Hr) : List Value := [.int .u32 y.pc, .int .u32 (y.r 0), .int .u32 (y.r 1), .int .u32 (y.r 2), .int .u32 (y.r 3), .int .u32 (y.r 4), .int .u32 (y.r 5), .int .u32 (y.r 6), .int .u32 (y.r 7), .slice y.sa y.sn y.sc, .int .u8 y.why, .int .u64 y.ep, .int .u32 y.home]
theorem open_hartF {fuel : Nat} {cs : List Value} {x : DataW H × List MemPlace} (hlen : cs.length = 13) (hf : DataW.trod enc Try.prog W 0 (fun _ => true) true fuel 59 cs = some x) :
    ∃ y : Hr, cs = hrE y ∧ HrOk y := by
  obtain ⟨xs, n, _, hd, _, hx, hg⟩ := DataW.trod_struct Try.underlying59 hf
  obtain ⟨x0, x1, x2, x3, x4, x5, x6, x7, x8, x9, x10, x11, x12, rfl⟩ := thirteen cs hlen
  obtain ⟨y0, _, h0⟩ := field_at (ty := 54) (t := 0) hx hg 0 _ rfl rfl rfl cells32
  obtain ⟨y1, _, h1⟩ := field_at (ty := 55) (t := 0) hx hg 1 _ rfl rfl rfl cellsA8
  obtain ⟨y2, k2, h2⟩ := field_at (ty := 56) (t := 0) hx hg 2 _ rfl rfl rfl cellsU32s
  obtain ⟨y3, _, h3⟩ := field_at (ty := _) (t := 0) hx hg 3 _ rfl rfl rfl (by kernel_rfl : _ = 1)
  obtain ⟨y4, _, h4⟩ := field_at (ty := 26) (t := 0) hx hg 4 _ rfl rfl rfl cells64
  obtain ⟨y5, _, h5⟩ := field_at (ty := 54) (t := 0) hx hg 5 _ rfl rfl rfl cells32
  obtain ⟨pc, rfl, w0⟩ := one_int Try.underlying54 h0
  obtain ⟨R, e1⟩ := open_eight h1 rfl
  obtain ⟨sa, sn, sc, hs⟩ : ∃ a n c, x9 = .slice a n c := by
    replace h2 : DataW.trod enc Try.prog W 0 (fun _ => true) true n 56 [x9] = some y2 := h2
    rcases open_ints Try.underlying56 Try.underlying54 cells32 h2 with ⟨hcs, _⟩ | ⟨a, len, cap, zs, hcs, _⟩
    · exact ⟨_, _, _, List.head_eq_of_cons_eq hcs⟩
    · exact ⟨_, _, _, List.head_eq_of_cons_eq hcs⟩
  subst hs
  obtain ⟨why, rfl, w3⟩ := one_int Try.underlying57 h3
  obtain ⟨ep, rfl, w4⟩ := one_int Try.underlying26 h4
  obtain ⟨home, rfl, w5⟩ := one_int Try.underlying54 h5
  replace e1 : [x1, x2, x3, x4, x5, x6, x7, x8] = _ := e1
  simp only [List.cons.injEq, and_true] at e1
  obtain ⟨rfl, rfl, rfl, rfl, rfl, rfl, rfl, rfl⟩ := e1
  exact ⟨⟨pc, R, sa, sn, sc, why, ep, home⟩, rfl, ⟨LW.wf_u8 w3, LW.wf_u64 w4⟩⟩
/-- harts, in a field -/
theorem open_hartsF {fuel : Nat} {cl : Value} {x : DataW H × List MemPlace} (hf : DataW.trod enc Try.prog W 0 (fun _ => true) true fuel 33 [cl] = some x) :
    ∃ (l : List Hr) (a : Option Addr) (n c : Nat), cl = .slice a n c ∧ ReadsH (· < W.heap.size) W (.slice a n c) l := by
  rcases Go.Deep.open_slice Try.underlying33 hf with ⟨hcs, hx⟩ | ⟨a, len, cap, m, nf, D, Pl, hcs, hb, hl, hm, hmm, hx, hel⟩
  · exact ⟨[], none, 0, 0, List.head_eq_of_cons_eq hcs, ReadsH.nil _ _⟩
  · simp only [if_true] at hmm
    subst hmm
    have each : ∀ i, i < len → ∃ y : Hr, HrOk y ∧ ∀ j v, (hrE y)[j]? = some v → W.cell? (a.add (i * 13 + j)) = some v := by
      intro i hi
      obtain ⟨cs', h1, h2⟩ := hel i (by omega)
      rw [cellsHart] at h1
      obtain ⟨_, hlen2, hc⟩ := World.cells?_some h1
      obtain ⟨y, e, h3⟩ := open_hartF (by simpa using hlen2) h2
      refine ⟨y, h3, fun j v hj => ?_⟩
      have hj13 : j < 13 := by have := (List.getElem?_eq_some_iff.1 hj).1; simpa using this
      have := hc j (by omega)
      rw [add_twice] at this
      rw [this]
      rw [← e] at hj
      exact hj
    haveI : Inhabited Hr := ⟨h0⟩
    obtain ⟨F, hF⟩ := Go.Deep.choose_lt each
    have eF : ∀ j, j < len → ((List.range len).map F).getD j h0 = F j := fun j hj => by
      rw [List.getD_eq_getElem?_getD, List.getElem?_map, List.getElem?_range hj]
      rfl
    refine ⟨(List.range len).map F, some a, len, _, List.head_eq_of_cons_eq hcs, ⟨some a, _, by rw [List.length_map, List.length_range], by rw [List.length_map, List.length_range]; exact hl, hm, ?_, fun x hx => ?_⟩⟩
    · by_cases h0' : len = 0
      · left; subst h0'; simp
      · right
        have hc0 := (hF 0 (by omega)).2 0 _ rfl
        rw [Nat.zero_mul, Nat.zero_add] at hc0
        have hsp := no_spot hc0 (by rw [hc0]; simp)
        refine ⟨a.block, a.off, by rw [← hsp], block_lt hc0, block_lt hc0, fun j hj => ?_⟩
        rw [List.length_map, List.length_range] at hj
        rw [eF j hj]
        have hk := (hF j hj).2
        have k : ∀ i v, (hrE (F j))[i]? = some v → W.cell? ⟨a.block, a.off + j * 13 + i, none⟩ = some v := fun i v hv => by
          have := hk i v hv
          rw [hsp, add_off, ← Nat.add_assoc] at this
          exact this
        exact ⟨k 0 _ rfl, k 1 _ rfl, k 2 _ rfl, k 3 _ rfl, k 4 _ rfl, k 5 _ rfl, k 6 _ rfl, k 7 _ rfl, k 8 _ rfl, k 9 _ rfl, k 10 _ rfl, k 11 _ rfl, k 12 _ rfl⟩
    · obtain ⟨i, hi, rfl⟩ := List.mem_map.1 hx
      exact (hF i (List.mem_range.1 hi)).1
theorem open_harts {v : Value} {d : DataW H} {p : List MemPlace} (hv : Value.okWide Try.prog W .any b0 33 v) (h : DataW.Trod enc Try.prog W 0 (fun _ => true) true 33 v d p) :
    ∃ (l : List Hr) (a : Option Addr) (n c : Nat), v = .slice a n c ∧ ReadsH (· < W.heap.size) W (.slice a n c) l := by
  obtain ⟨a0, len, cap, rfl⟩ := okWide_slice Try.underlying33 hv
  obtain ⟨fuel, hf⟩ := h
  exact open_hartsF (x := (d, p)) hf
/-- an act's three cells -/
theorem open_actF {fuel : Nat} {cs : List Value} {x : DataW H × List MemPlace} (hlen : cs.length = 3) (hf : DataW.trod enc Try.prog W 0 (fun _ => true) true fuel 35 cs = some x) :
    ∃ y : Ac, cs = [.int .u8 y.kind, .int .u16 y.ow, .slice y.ha y.hn y.hc] ∧ AcOk (· < W.heap.size) W y := by
  obtain ⟨xs, n, _, hd, _, hx, hg⟩ := DataW.trod_struct Try.underlying35 hf
  obtain ⟨c0, c1, c2, rfl⟩ := three_of cs hlen
  obtain ⟨y0, k0, h0⟩ := field_at (ty := 5) (t := 0) hx hg 0 _ rfl rfl rfl cells8
  obtain ⟨y1, k1, h1⟩ := field_at (ty := 32) (t := 0) hx hg 1 _ rfl rfl rfl cells16
  obtain ⟨y3, k3, h3⟩ := field_at (ty := 33) (t := 0) hx hg 2 _ rfl rfl rfl cellsHarts
  obtain ⟨K, rfl, wK⟩ := one_int Try.underlying5 h0
  obtain ⟨O, rfl, wO⟩ := one_int Try.underlying32 h1
  obtain ⟨l, a, nn, nc, rfl, rl⟩ := open_hartsF h3
  exact ⟨⟨K, O, a, nn, nc, l⟩, rfl, ⟨LW.wf_u8 wK, LW.wf_u16 wO, rl⟩⟩
/-- many acts -/
theorem open_acts {v : Value} {d : DataW H} {p : List MemPlace} (hv : Value.okWide Try.prog W .any b0 22 v) (h : DataW.Trod enc Try.prog W 0 (fun _ => true) true 22 v d p) :
    ∃ (l : List Ac) (a : Option Addr) (n c : Nat), v = .slice a n c ∧ ReadsA (· < W.heap.size) W (.slice a n c) l := by
  obtain ⟨a0, len0, cap0, rfl⟩ := okWide_slice Try.underlying22 hv
  obtain ⟨fuel, hf⟩ := h
  replace hf : DataW.trod enc Try.prog W 0 (fun _ => true) true fuel 22 [.slice a0 len0 cap0] = some (d, p) := hf
  rcases Go.Deep.open_slice Try.underlying22 hf with ⟨hcs, hx⟩ | ⟨a, len, cap, m, nf, D, Pl, hcs, hb, hl, hm, hmm, hx, hel⟩
  · have := List.head_eq_of_cons_eq hcs
    simp only [Value.slice.injEq] at this
    obtain ⟨rfl, rfl, rfl⟩ := this
    exact ⟨[], none, 0, 0, rfl, ⟨none, 0, rfl, Nat.le_refl _, by simp [maxLen], Or.inl rfl, fun x hx => (by cases hx)⟩⟩
  · have := List.head_eq_of_cons_eq hcs
    simp only [Value.slice.injEq] at this
    obtain ⟨rfl, rfl, rfl⟩ := this
    simp only [if_true] at hmm
    subst hmm
    have each : ∀ i, i < len0 → ∃ y : Ac, AcOk (· < W.heap.size) W y ∧ W.cell? (a.add (i * 3)) = some (.int .u8 y.kind) ∧ W.cell? (a.add (i * 3 + 1)) = some (.int .u16 y.ow) ∧ W.cell? (a.add (i * 3 + 2)) = some (.slice y.ha y.hn y.hc) := by
      intro i hi
      obtain ⟨cs', h1, h2⟩ := hel i (by omega)
      rw [cellsAct] at h1
      obtain ⟨_, hlen2, hc⟩ := World.cells?_some h1
      obtain ⟨y, e, h3⟩ := open_actF (by simpa using hlen2) h2
      subst e
      have g0 := hc 0 (by simp)
      have g1 := hc 1 (by simp)
      have g2 := hc 2 (by simp)
      rw [add_twice] at g0 g1 g2
      exact ⟨y, h3, g0, g1, g2⟩
    haveI : Inhabited Ac := ⟨ac0⟩
    obtain ⟨F, hF⟩ := Go.Deep.choose_lt each
    have eF : ∀ j, j < len0 → ((List.range len0).map F).getD j ac0 = F j := fun j hj => by
      rw [List.getD_eq_getElem?_getD, List.getElem?_map, List.getElem?_range hj]
      rfl
    refine ⟨(List.range len0).map F, some a, len0, _, rfl, ⟨some a, _, by rw [List.length_map, List.length_range], by rw [List.length_map, List.length_range]; exact hl, hm, ?_, fun x hx => ?_⟩⟩
    · by_cases h0 : len0 = 0
      · left; subst h0; simp
      · right
        have hc0 := (hF 0 (by omega)).2.1
        rw [Nat.zero_mul] at hc0
        have hsp := no_spot hc0 (by rw [hc0]; simp)
        refine ⟨a.block, a.off, by rw [← hsp], block_lt hc0, fun j hj => ?_⟩
        rw [List.length_map, List.length_range] at hj
        rw [eF j hj]
        obtain ⟨_, k0, k1, k2⟩ := hF j hj
        rw [hsp, add_off] at k0 k1 k2
        exact ⟨k0, by rw [Nat.add_assoc]; exact k1, by rw [Nat.add_assoc]; exact k2⟩
    · obtain ⟨i, hi, rfl⟩ := List.mem_map.1 hx
      exact (hF i (List.mem_range.1 hi)).1
end
end Go.Proofs.Ytcpkiepdpmaeoaa.EQ
