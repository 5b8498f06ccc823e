/-
  Modules that come in: what they read as. Plain lemmas on the form.
-/
import Derived.Test.YtajidaicojekdaaRows
import Derived.Test.YtajidaicojekdaaObjA
import Derived.Test.YtajidaicojekdaaLaw
import Derived.ProofKit
import Derived.OpenShut
import Derived.Deep.Slices
import Derived.Deep.Strs
import Derived.SizedLaws
set_option linter.unusedSimpArgs false
set_option linter.unusedVariables false
set_option maxRecDepth 20000
namespace Go.Proofs.Ytajidaicojekdaa.OQ
open Go.ChangeShapes Go.WideShapes Go.ChangeAt Go.RowKit WM NR OM OR
section
variable {H : Type} {enc : TypeId × Value → H} {W : World} {b0 : Nat}

theorem no_spot {w : World} {a : Addr} {i : Nat} {v : Value} (h : w.cell? (a.add i) = some v) (h0 : w.cell? (a.add 0) ≠ none) : a = ⟨a.block, a.off, none⟩ := by
  have : (a.add 0) = a := by unfold Addr.add; simp
  rw [this] at h0
  unfold World.cell? at h0
  obtain ⟨b, o, s⟩ := a
  cases s with
  | none => rfl
  | some s => 
    exfalso
    apply h0
    simp only
    split
    · simp
    · rfl
theorem add_off (g off i : Nat) : ((⟨g, off, none⟩ : Addr).add i) = ⟨g, off + i, none⟩ := by
  unfold Addr.add
  split
  · subst_vars; simp
  · rfl
/-- a slice of numbers that came in -/
theorem open_nums {t e : TypeId} {k : IntKind} {v : Value} {d : DataW H} {p : List MemPlace} (ht : Try.prog.underlying t = some (.slice e)) (he : Try.prog.underlying e = some (.int k)) (hc : Try.prog.cellsOf e = 1)
    (hv : Value.okWide Try.prog W .any b0 t v) (h : DataW.Trod enc Try.prog W 0 (fun _ => true) true t v d p) :
    ∃ zs : List Int, Reads (· < W.heap.size) W v (zs.map (Value.int k)) ∧ (∀ z ∈ zs, (Lit.int k z).wf = true) ∧ (zs = [] ∨ ∃ elems spare, d = .slice elems spare ∧ elems.length = zs.length) := by
  obtain ⟨a0, len, cap, rfl⟩ := okWide_slice ht hv
  obtain ⟨fuel, hf⟩ := h
  rcases open_ints ht he hc hf with ⟨hcs, hx⟩ | ⟨a, len', cap', zs, hcs, _, hl, hm, hz, hx, hcell, hwz⟩
  · simp [Value.cells] at hcs
    obtain ⟨rfl, rfl, rfl⟩ := hcs
    exact ⟨[], Reads.nil _ _, by simp, Or.inl rfl⟩
  · simp [Value.cells] at hcs
    obtain ⟨rfl, rfl, rfl⟩ := hcs
    simp only [if_true] at hz
    simp only [Prod.mk.injEq] at hx
    have hlen : (zs.take len).length = len := by rw [List.length_take]; omega
    refine ⟨zs.take len, ⟨some a, cap, by rw [List.length_map, hlen], by rw [List.length_map, hlen]; exact hl, hm, (fun h => by cases h), ?_⟩, fun z hz' => hwz z (List.mem_of_mem_take hz'), Or.inr ⟨_, _, hx.1, by simp [lits]⟩⟩
    by_cases h0 : len = 0
    · left; subst h0; simp
    · right
      have hc0 := hcell 0 (by omega)
      have hsp := no_spot hc0 (by rw [hc0]; simp)
      have hb : a.block < W.heap.size := by
        have : (a.add 0) = a := by unfold Addr.add; simp
        rw [this] at hc0
        exact World.block_lt_of_cell? W a hc0
      refine ⟨a.block, a.off, by rw [← hsp], hb, fun j hj => ?_⟩
      rw [List.length_map, hlen] at hj
      have hcj := hcell j (by omega)
      rw [hsp, add_off] at hcj
      rw [hcj, List.getElem?_map, List.getElem?_take_of_lt hj, List.getElem?_eq_getElem (by omega), List.getD_eq_getElem?_getD, List.getElem?_eq_getElem (by omega)]
      rfl
theorem open_u8s {t e : TypeId} {v : Value} {d : DataW H} {p : List MemPlace} (ht : Try.prog.underlying t = some (.slice e)) (he : Try.prog.underlying e = some (.int .u8)) (hc : Try.prog.cellsOf e = 1)
    (hv : Value.okWide Try.prog W .any b0 t v) (h : DataW.Trod enc Try.prog W 0 (fun _ => true) true t v d p) :
    ∃ l : List UInt8, Reads (· < W.heap.size) W v (u8s l) ∧ (l = [] ∨ ∃ elems spare, d = .slice elems spare ∧ elems.length = l.length) := by
  obtain ⟨zs, h1, h2, h3⟩ := open_nums ht he hc hv h
  have e : u8s (zs.map fun z => UInt8.ofNat z.toNat) = zs.map (Value.int .u8) := by
    unfold u8s
    rw [List.map_map]
    apply List.map_congr_left
    intro z hz
    have hw := h2 z hz
    have hb : 0 ≤ z ∧ z ≤ 255 := by simpa [Lit.wf, IntKind.min, IntKind.max, IntKind.signed, IntKind.bits] using hw
    simp only [Function.comp]
    rw [WM.toNat_ofNat]
    congr 1
    omega
  refine ⟨zs.map fun z => UInt8.ofNat z.toNat, by rw [e]; exact h1, ?_⟩
  rcases h3 with h3 | ⟨a, b, h4, h5⟩
  · left; rw [h3]; rfl
  · right; exact ⟨a, b, h4, by rw [List.length_map]; exact h5⟩
theorem open_u32s {t e : TypeId} {v : Value} {d : DataW H} {p : List MemPlace} (ht : Try.prog.underlying t = some (.slice e)) (he : Try.prog.underlying e = some (.int .u32)) (hc : Try.prog.cellsOf e = 1)
    (hv : Value.okWide Try.prog W .any b0 t v) (h : DataW.Trod enc Try.prog W 0 (fun _ => true) true t v d p) :
    ∃ l : List Nat, Reads (· < W.heap.size) W v (u32s l) ∧ (∀ x ∈ l, x < 4294967296) ∧ (l = [] ∨ ∃ elems spare, d = .slice elems spare ∧ elems.length = l.length) := by
  obtain ⟨zs, h1, h2, h3⟩ := open_nums ht he hc hv h
  have hbs : ∀ z ∈ zs, 0 ≤ z ∧ z ≤ 4294967295 := fun z hz => by
    have hw := h2 z hz
    simpa [Lit.wf, IntKind.min, IntKind.max, IntKind.signed, IntKind.bits] using hw
  have e : u32s (zs.map Int.toNat) = zs.map (Value.int .u32) := by
    unfold u32s
    rw [List.map_map]
    apply List.map_congr_left
    intro z hz
    have hb := hbs z hz
    simp only [Function.comp]
    congr 1
    omega
  refine ⟨zs.map Int.toNat, by rw [e]; exact h1, ?_, ?_⟩
  · intro x hx
    obtain ⟨z, hz, rfl⟩ := List.mem_map.1 hx
    have := hbs z hz
    omega
  · rcases h3 with h3 | ⟨a, b, h4, h5⟩
    · left; rw [h3]; rfl
    · right; exact ⟨a, b, h4, by rw [List.length_map]; exact h5⟩
theorem add_twice (a : Addr) (i j : Nat) : (a.add i).add j = a.add (i + j) := by
  unfold Addr.add
  by_cases hi : i = 0 <;> by_cases hj : j = 0 <;> simp [hi, hj, Nat.add_assoc]
theorem cellsByte : Try.prog.cellsOf 5 = 1 := by kernel_rfl
theorem cellsWord : Try.prog.cellsOf 46 = 1 := by kernel_rfl
theorem cellsStr : Try.prog.cellsOf 9 = 1 := by kernel_rfl
theorem cellsHalf : Try.prog.cellsOf 65 = 1 := by kernel_rfl
theorem cellsKind : Try.prog.cellsOf 74 = 1 := by kernel_rfl
theorem cellsRel : Try.prog.cellsOf 76 = 3 := by kernel_rfl
theorem cellsStrs : Try.prog.cellsOf 23 = 1 := by kernel_rfl
theorem cellsWords : Try.prog.cellsOf 36 = 1 := by kernel_rfl
theorem cellsRels : Try.prog.cellsOf 43 = 1 := by kernel_rfl
theorem cellsMod : Try.prog.cellsOf 45 = 6 := by kernel_rfl
/-- words, in a field -/
theorem open_wordsF {fuel : Nat} {cl : Value} {x : DataW H × List MemPlace} (hf : DataW.trod enc Try.prog W 0 (fun _ => true) true fuel 36 [cl] = some x) :
    ∃ (l : List Nat) (a : Option Addr) (n c : Nat), cl = .slice a n c ∧ Reads (· < W.heap.size) W (.slice a n c) (u32s l) ∧ ∀ x ∈ l, x < 4294967296 := by
  rcases open_ints Try.underlying36 Try.underlying46 cellsWord hf with ⟨hcs, hx⟩ | ⟨a, len, cap, zs, hcs, _, hl, hm, hz, hx, hcell, hwz⟩
  · exact ⟨[], none, 0, 0, List.head_eq_of_cons_eq hcs, Reads.nil _ _, fun x hx => by cases hx⟩
  · simp only [if_true] at hz
    have hlen : (zs.take len).length = len := by rw [List.length_take]; omega
    have hbs : ∀ z ∈ zs.take len, 0 ≤ z ∧ z ≤ 4294967295 := fun z hz => LW.wf_u32 (hwz z (List.mem_of_mem_take hz))
    have e : u32s ((zs.take len).map Int.toNat) = (zs.take len).map (Value.int .u32) := by
      unfold u32s
      rw [List.map_map]
      apply List.map_congr_left
      intro z hz
      have hb := hbs z hz
      simp only [Function.comp]
      congr 1
      omega
    refine ⟨(zs.take len).map Int.toNat, some a, len, cap, List.head_eq_of_cons_eq hcs, ⟨some a, cap, by rw [u32s_len, List.length_map, hlen], by rw [u32s_len, List.length_map, hlen]; exact hl, hm, (fun h => by cases h), ?_⟩, ?_⟩
    · by_cases h0 : len = 0
      · left; subst h0; simp [u32s]
      · right
        have hc0 := hcell 0 (by omega)
        have hsp := no_spot hc0 (by rw [hc0]; simp)
        have hb : a.block < W.heap.size := by
          have : (a.add 0) = a := by unfold Addr.add; simp
          rw [this] at hc0
          exact World.block_lt_of_cell? W a hc0
        refine ⟨a.block, a.off, by rw [← hsp], hb, fun j hj => ?_⟩
        rw [u32s_len, List.length_map, hlen] at hj
        have hcj := hcell j (by omega)
        rw [hsp, add_off] at hcj
        rw [hcj, e, List.getElem?_map, List.getElem?_take_of_lt hj, List.getElem?_eq_getElem (by omega), List.getD_eq_getElem?_getD, List.getElem?_eq_getElem (by omega)]
        rfl
    · intro x hx
      obtain ⟨z, hz, rfl⟩ := List.mem_map.1 hx
      have := hbs z hz
      omega
/-- texts, in a field -/
theorem open_strsF {fuel : Nat} {cl : Value} {x : DataW H × List MemPlace} (hf : DataW.trod enc Try.prog W 0 (fun _ => true) true fuel 23 [cl] = some x) :
    ∃ (l : List (List UInt8)) (a : Option Addr) (n c : Nat), cl = .slice a n c ∧ Reads (· < W.heap.size) W (.slice a n c) (OR.strs l) := by
  rcases Go.Deep.open_strs Try.underlying23 Try.underlying9 cellsStr hf with ⟨hcs, hx⟩ | ⟨a, len, cap, m, Sx, hcs, _, hl, hm, hz, hx, hcell⟩
  · exact ⟨[], none, 0, 0, List.head_eq_of_cons_eq hcs, Reads.nil _ _⟩
  · simp only [if_true] at hz
    subst hz
    refine ⟨(List.range len).map fun i => (Sx i).data.toList, some a, len, m, List.head_eq_of_cons_eq hcs, ⟨some a, m, by rw [strs_len, List.length_map, List.length_range], by rw [strs_len, List.length_map, List.length_range]; exact hl, hm, (fun h => by cases h), ?_⟩⟩
    by_cases h0 : len = 0
    · left; subst h0; simp [OR.strs]
    · right
      have hc0 := (hcell 0 (by omega)).1
      have hsp := no_spot hc0 (by rw [hc0]; simp)
      have hb : a.block < W.heap.size := by
        have : (a.add 0) = a := by unfold Addr.add; simp
        rw [this] at hc0
        exact World.block_lt_of_cell? W a hc0
      refine ⟨a.block, a.off, by rw [← hsp], hb, fun j hj => ?_⟩
      rw [strs_len, List.length_map, List.length_range] at hj
      have hcj := (hcell j (by omega)).1
      rw [hsp, add_off] at hcj
      rw [hcj, OR.strs, List.getElem?_map, List.getElem?_map, List.getElem?_range hj]
      rfl
/-- relocations, in a field -/
theorem open_relsF {fuel : Nat} {cl : Value} {x : DataW H × List MemPlace} (hf : DataW.trod enc Try.prog W 0 (fun _ => true) true fuel 43 [cl] = some x) :
    ∃ (l : List Rl) (a : Option Addr) (n c : Nat), cl = .slice a n c ∧ ReadsR (· < W.heap.size) W (.slice a n c) l ∧ ∀ r ∈ l, r.kind < 256 ∧ r.at_ < 65536 ∧ r.wh < 65536 := by
  rcases Go.Deep.open_slice Try.underlying43 hf with ⟨hcs, hx⟩ | ⟨a, len, cap, m, nf, D, Pl, hcs, hb, hl, hm, hmm, hx, hel⟩
  · exact ⟨[], none, 0, 0, List.head_eq_of_cons_eq hcs, ReadsR.nil _ _, fun r hr => by cases hr⟩
  · simp only [if_true] at hmm
    subst hmm
    have each : ∀ i, i < len → ∃ r : Rl, (r.kind < 256 ∧ r.at_ < 65536 ∧ r.wh < 65536) ∧ W.cell? (a.add (i * 3)) = some (.int .u8 (r.kind : Int)) ∧ W.cell? (a.add (i * 3 + 1)) = some (.int .u16 (r.at_ : Int)) ∧ W.cell? (a.add (i * 3 + 2)) = some (.int .u16 (r.wh : Int)) := by
      intro i hi
      obtain ⟨cs', h1, h2⟩ := hel i (by omega)
      rw [cellsRel] at h1
      obtain ⟨_, hlen2, hc⟩ := World.cells?_some h1
      obtain ⟨y0, y1, y2, nn, _, _, t0, t1, t2⟩ := Go.Deep.trod_struct3 Try.underlying76 h2
      match cs', hlen2 with
      | [c0, c1, c2], _ =>
      rw [cellsKind] at t0
      rw [cellsHalf] at t1 t2
      obtain ⟨K, e0, _, wK⟩ := DataW.trod_int Try.underlying74 t0
      obtain ⟨M, e1, _, wM⟩ := DataW.trod_int Try.underlying65 t1
      obtain ⟨Z, e2, _, wZ⟩ := DataW.trod_int Try.underlying65 t2
      simp at e0 e1 e2
      subst e0 e1 e2
      have bK := LW.wf_u8 wK
      have bM := LW.wf_u16 wM
      have bZ := LW.wf_u16 wZ
      have g0 := hc 0 (by omega)
      have g1 := hc 1 (by omega)
      have g2 := hc 2 (by omega)
      rw [add_twice] at g0 g1 g2
      refine ⟨⟨K.toNat, M.toNat, Z.toNat⟩, ⟨by show K.toNat < 256; omega, by show M.toNat < 65536; omega, by show Z.toNat < 65536; omega⟩, ?_, ?_, ?_⟩
      · show W.cell? _ = some (Value.int .u8 ((K.toNat : Nat) : Int)); rw [Int.toNat_of_nonneg bK.1]; exact g0
      · show W.cell? _ = some (Value.int .u16 ((M.toNat : Nat) : Int)); rw [Int.toNat_of_nonneg bM.1]; exact g1
      · show W.cell? _ = some (Value.int .u16 ((Z.toNat : Nat) : Int)); rw [Int.toNat_of_nonneg bZ.1]; exact g2
    haveI : Inhabited Rl := ⟨⟨0, 0, 0⟩⟩
    obtain ⟨F, hF⟩ := Go.Deep.choose_lt each
    refine ⟨(List.range len).map F, some a, len, m, List.head_eq_of_cons_eq hcs, ⟨some a, m, by rw [List.length_map, List.length_range], by rw [List.length_map, List.length_range]; exact hl, hm, (fun h => by cases h), ?_⟩, ?_⟩
    · by_cases h0 : len = 0
      · left; subst h0; simp
      · right
        have hc0 := (hF 0 (by omega)).2.1
        rw [Nat.zero_mul] at hc0
        have hsp := no_spot hc0 (by rw [hc0]; simp)
        have hb : a.block < W.heap.size := by
          have : (a.add 0) = a := by unfold Addr.add; simp
          rw [this] at hc0
          exact World.block_lt_of_cell? W a hc0
        refine ⟨a.block, a.off, by rw [← hsp], hb, fun j hj => ?_⟩
        rw [List.length_map, List.length_range] at hj
        have eF : ((List.range len).map F).getD j ⟨0, 0, 0⟩ = F j := by
          rw [List.getD_eq_getElem?_getD, List.getElem?_map, List.getElem?_range hj]
          rfl
        rw [eF]
        obtain ⟨_, k0, k1, k2⟩ := hF j hj
        rw [hsp, add_off] at k0 k1 k2
        exact ⟨k0, by rw [Nat.add_assoc]; exact k1, by rw [Nat.add_assoc]; exact k2⟩
    · intro r hr
      obtain ⟨i, hi, rfl⟩ := List.mem_map.1 hr
      exact (hF i (List.mem_range.1 hi)).1
theorem field_at {t : TypeId} {f : Array Field} {cs : List Value} {xs : List (DataW H × List MemPlace)} {n : Nat} {base : Nat} {sp : Nat → Bool} {hd : Bool} (hx : xs.length = f.size) (hg : ∀ (i : Nat) (g : Field), f[i]? = some g → DataW.trod enc Try.prog W base sp hd n g.type ((cs.drop g.offset).take (Try.prog.cellsOf g.type)) = xs[i]?)
    (i : Nat) (g : Field) (h1 : f[i]? = some g) {o m : Nat} {ty : TypeId} (h2 : g.offset = o) (hty : g.type = ty) (h3 : Try.prog.cellsOf ty = m) : ∃ y, xs[i]? = some y ∧ DataW.trod enc Try.prog W base sp hd n ty ((cs.drop o).take m) = some y := by
  have e := hg i g h1
  have hl : i < xs.length := by rw [hx]; exact (Array.getElem?_eq_some_iff.1 h1).1
  rw [List.getElem?_eq_getElem hl] at e
  subst h2 hty h3
  exact ⟨_, List.getElem?_eq_getElem hl, e⟩
theorem six_of {α : Type} (l : List α) (h : l.length = 6) : ∃ x0 x1 x2 x3 x4 x5, l = [x0, x1, x2, x3, x4, x5] := by
  match l, h with
  | [x0, x1, x2, x3, x4, x5], _ => exact ⟨_, _, _, _, _, _, rfl⟩
/-- a module that came in -/
theorem open_module {v : Value} {d : DataW H} {p : List MemPlace} (hv : Value.okWide Try.prog W .any b0 45 v) (h : DataW.Trod enc Try.prog W 0 (fun _ => true) true 45 v d p) :
    ∃ (m : Md) (ea : Option Addr) (en ec : Nat) (ia : Option Addr) (im ic : Nat) (ca : Option Addr) (cn cc : Nat) (da : Option Addr) (dn dc : Nat) (ra : Option Addr) (rn rc : Nat), v = mV (bs m.name) ea en ec ia im ic ca cn cc da dn dc ra rn rc ∧ RdM (· < W.heap.size) W ea en ec ia im ic ca cn cc da dn dc ra rn rc m ∧ FineM m := by
  obtain ⟨cs, rfl, hsz⟩ := okWide_struct Try.underlying45 hv
  rw [cellsMod] at hsz
  obtain ⟨fuel, hf⟩ := h
  replace hf : DataW.trod enc Try.prog W 0 (fun _ => true) true fuel 45 cs.toList = some (d, p) := hf
  obtain ⟨xs, n, _, hd, _, hx, hg⟩ := DataW.trod_struct Try.underlying45 hf
  obtain ⟨x0, x1, x2, x3, x4, x5, hl⟩ := six_of cs.toList (by simpa using hsz)
  rw [hl] at hg
  obtain ⟨y0, _, h0⟩ := field_at (ty := 9) (t := 0) hx hg 0 _ rfl rfl rfl cellsStr
  obtain ⟨y1, _, h1⟩ := field_at (ty := 23) (t := 0) hx hg 1 _ rfl rfl rfl cellsStrs
  obtain ⟨y2, _, h2⟩ := field_at (ty := 23) (t := 0) hx hg 2 _ rfl rfl rfl cellsStrs
  obtain ⟨y3, _, h3⟩ := field_at (ty := 36) (t := 0) hx hg 3 _ rfl rfl rfl cellsWords
  obtain ⟨y4, _, h4⟩ := field_at (ty := 36) (t := 0) hx hg 4 _ rfl rfl rfl cellsWords
  obtain ⟨y5, _, h5⟩ := field_at (ty := 43) (t := 0) hx hg 5 _ rfl rfl rfl cellsRels
  obtain ⟨s, e0, _, _⟩ := DataW.trod_string Try.underlying9 h0
  obtain rfl : x0 = .string s := List.head_eq_of_cons_eq e0
  obtain ⟨ex, ea, en, ec, rfl, rx⟩ := open_strsF h1
  obtain ⟨im_, ia, im, ic, rfl, ri⟩ := open_strsF h2
  obtain ⟨cd, ca, cn, cc, rfl, rc_, bc⟩ := open_wordsF h3
  obtain ⟨dt, da, dn, dc, rfl, rd, bd⟩ := open_wordsF h4
  obtain ⟨rl, ra, rn, rc, rfl, rr, br⟩ := open_relsF h5
  refine ⟨⟨s.data.toList, ex, im_, cd, dt, rl⟩, ea, en, ec, ia, im, ic, ca, cn, cc, da, dn, dc, ra, rn, rc, ?_, ⟨rx, ri, rc_, rd, rr⟩, ⟨bc, bd, br⟩⟩
  show Value.agg cs = _
  congr 1
  apply Array.ext'
  rw [hl]
  rfl
end
end Go.Proofs.Ytajidaicojekdaa.OQ
