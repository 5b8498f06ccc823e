/-
  Joined texts: SymOpen, LinkOwn. Nothing here is a statement of the seed.
-/
import Derived.Test.YtajidaicojekdaaRows
import Derived.Test.YtajidaicojekdaaSymA
import Derived.Test.YtajidaicojekdaaLaw
import Derived.ProofKit
import Derived.OpenShut
import Derived.Deep.Slices
import Derived.Deep.Strs
import Derived.SizedLaws
set_option linter.unusedSimpArgs false
set_option linter.unusedVariables false
/-
  Calls and lists of names that come in: what they read as, and how big they can be. Plain lemmas on the form.
-/
set_option maxRecDepth 20000
namespace Go.Proofs.Ytajidaicojekdaa.SQ
open Go.ChangeShapes Go.WideShapes Go.ChangeAt Go.RowKit WM NR OM OR SM SR
section
variable {H : Type} {enc : TypeId × Value → H} {W : World} {b0 : Nat}
theorem no_spot {w : World} {a : Addr} {i : Nat} {v : Value} (h : w.cell? (a.add i) = some v) (h0 : w.cell? (a.add 0) ≠ none) : a = ⟨a.block, a.off, none⟩ := by
  have : (a.add 0) = a := by unfold Addr.add; simp
  rw [this] at h0
  unfold World.cell? at h0
  obtain ⟨b, o, s⟩ := a
  cases s with
  | none => rfl
  | some s =>
    exfalso
    apply h0
    simp only
    split
    · simp
    · rfl
theorem add_off (g off i : Nat) : ((⟨g, off, none⟩ : Addr).add i) = ⟨g, off + i, none⟩ := by
  unfold Addr.add
  split
  · subst_vars; simp
  · rfl
theorem add_twice (a : Addr) (i j : Nat) : (a.add i).add j = a.add (i + j) := by
  unfold Addr.add
  by_cases hi : i = 0 <;> by_cases hj : j = 0 <;> simp [hi, hj, Nat.add_assoc]
theorem block_lt {w : World} {a : Addr} {v : Value} (h : w.cell? (a.add 0) = some v) : a.block < w.heap.size := by
  have : (a.add 0) = a := by unfold Addr.add; simp
  rw [this] at h
  exact World.block_lt_of_cell? w a h
theorem cellsStr : Try.prog.cellsOf 9 = 1 := by kernel_rfl
theorem cellsByte : Try.prog.cellsOf 5 = 1 := by kernel_rfl
theorem cellsInt : Try.prog.cellsOf 3 = 1 := by kernel_rfl
theorem cellsStrs : Try.prog.cellsOf 23 = 1 := by kernel_rfl
theorem bulk_mem : ∀ {ds : List (DataW H)} {d : DataW H}, d ∈ ds → Rows.uptoBulk d ≤ Rows.uptoBulkAll ds
  | [], d, h => by cases h
  | x :: ds, d, h => by
    simp only [Rows.uptoBulkAll]
    rcases List.mem_cons.1 h with rfl | h
    · omega
    · have := bulk_mem h
      omega
theorem bulk_len : ∀ (ds : List (DataW H)), ds.length ≤ Rows.uptoBulkAll ds
  | [] => Nat.zero_le _
  | d :: r => by
    have h1 := bulk_len r
    have h2 : 1 ≤ Rows.uptoBulk d := by
      cases d with
      | lit x => cases x <;> simp [Rows.uptoBulk]
      | _ => simp [Rows.uptoBulk]
    simp only [List.length_cons, Rows.uptoBulkAll]
    omega
/-- texts, in a field: what they read as, and how big they are -/
theorem open_strsF {fuel : Nat} {cl : Value} {x : DataW H × List MemPlace} (hf : DataW.trod enc Try.prog W 0 (fun _ => true) true fuel 23 [cl] = some x) :
    ∃ (l : List (List UInt8)) (a : Option Addr) (n c : Nat), cl = .slice a n c ∧ Reads (· < W.heap.size) W (.slice a n c) (OR.strs l) ∧ (∀ s ∈ l, s.length ≤ Rows.uptoBulk x.1) ∧ l.length ≤ Rows.uptoBulk x.1 ∧ (∀ s ∈ l, s.length ≤ 9223372036854775807) := by
  rcases Go.Deep.open_strs Try.underlying23 Try.underlying9 cellsStr hf with ⟨hcs, hx⟩ | ⟨a, len, cap, m, Sx, hcs, _, hl, hm, hz, hx, hcell⟩
  · exact ⟨[], none, 0, 0, List.head_eq_of_cons_eq hcs, Reads.nil _ _, fun s hs => (by cases hs), Nat.zero_le _, fun s hs => (by cases hs)⟩
  · simp only [if_true] at hz
    subst hz
    refine ⟨(List.range len).map fun i => (Sx i).data.toList, some a, len, m, List.head_eq_of_cons_eq hcs, ⟨some a, m, by rw [strs_len, List.length_map, List.length_range], by rw [strs_len, List.length_map, List.length_range]; exact hl, hm, (fun h => by cases h), ?_⟩, ?_, ?_, ?_⟩
    · by_cases h0 : len = 0
      · left; subst h0; simp [OR.strs]
      · right
        have hc0 := (hcell 0 (by omega)).1
        have hsp := no_spot hc0 (by rw [hc0]; simp)
        refine ⟨a.block, a.off, by rw [← hsp], block_lt hc0, fun j hj => ?_⟩
        rw [strs_len, List.length_map, List.length_range] at hj
        have hcj := (hcell j (by omega)).1
        rw [hsp, add_off] at hcj
        rw [hcj, OR.strs, List.getElem?_map, List.getElem?_map, List.getElem?_range hj]
        rfl
    · intro s hs
      obtain ⟨i, hi, rfl⟩ := List.mem_map.1 hs
      rw [hx]
      simp only [Rows.uptoBulk]
      have := bulk_mem (ds := (List.range len).map fun i => (DataW.lit (.string (Sx i).data.toList) : DataW H)) (List.mem_map.2 ⟨i, hi, rfl⟩)
      simp only [Rows.uptoBulk] at this
      omega
    · rw [hx]
      simp only [Rows.uptoBulk]
      have := bulk_len ((List.range len).map fun i => (DataW.lit (.string (Sx i).data.toList) : DataW H))
      simp only [List.length_map] at this ⊢
      omega
    · intro s hs
      obtain ⟨i, hi, rfl⟩ := List.mem_map.1 hs
      have h1 := (hcell i (by have := List.mem_range.1 hi; omega)).2
      unfold maxLen at h1
      rw [Array.length_toList]
      show (Sx i).size ≤ _
      omega
theorem open_strs {v : Value} {d : DataW H} {p : List MemPlace} (hv : Value.okWide Try.prog W .any b0 23 v) (h : DataW.Trod enc Try.prog W 0 (fun _ => true) true 23 v d p) :
    ∃ (l : List (List UInt8)) (a : Option Addr) (n c : Nat), v = .slice a n c ∧ Reads (· < W.heap.size) W (.slice a n c) (OR.strs l) ∧ (∀ s ∈ l, s.length ≤ Rows.uptoBulk d) ∧ l.length ≤ Rows.uptoBulk d ∧ (∀ s ∈ l, s.length ≤ 9223372036854775807) := by
  obtain ⟨a0, len, cap, rfl⟩ := okWide_slice Try.underlying23 hv
  obtain ⟨fuel, hf⟩ := h
  exact open_strsF (x := (d, p)) hf
theorem field_at {t : TypeId} {f : Array Field} {cs : List Value} {xs : List (DataW H × List MemPlace)} {n : Nat} {base : Nat} {sp : Nat → Bool} {hd : Bool} (hx : xs.length = f.size) (hg : ∀ (i : Nat) (g : Field), f[i]? = some g → DataW.trod enc Try.prog W base sp hd n g.type ((cs.drop g.offset).take (Try.prog.cellsOf g.type)) = xs[i]?)
    (i : Nat) (g : Field) (h1 : f[i]? = some g) {o m : Nat} {ty : TypeId} (h2 : g.offset = o) (hty : g.type = ty) (h3 : Try.prog.cellsOf ty = m) : ∃ y, xs[i]? = some y ∧ DataW.trod enc Try.prog W base sp hd n ty ((cs.drop o).take m) = some y := by
  have e := hg i g h1
  have hl : i < xs.length := by rw [hx]; exact (Array.getElem?_eq_some_iff.1 h1).1
  rw [List.getElem?_eq_getElem hl] at e
  subst h2 hty h3
  exact ⟨_, List.getElem?_eq_getElem hl, e⟩
end
end Go.Proofs.Ytajidaicojekdaa.SQ

/-
  The modules of a table that come in: what they read as, and how big they can be. Plain lemmas on the form.
-/
set_option maxRecDepth 20000
namespace Go.Proofs.Ytajidaicojekdaa.KO
open Go.ChangeShapes Go.WideShapes Go.ChangeAt Go.RowKit WM NR OM OR SM SR SQ
/-- a module of a table: its name, its gate, its names and where they lie -/
structure Ow where
  nm : List UInt8
  gate : Int
  na : Option Addr
  nn : Nat
  nc : Nat
  ns : List (List UInt8)
abbrev ow0 : Ow := ⟨[], 0, none, 0, 0, []⟩
abbrev owC (x : Ow) : Array Value := #[.string (bs x.nm), .int .i64 x.gate, .slice x.na x.nn x.nc]
abbrev owV (x : Ow) : Value := .agg #[.string (bs x.nm), .int .i64 x.gate, .slice x.na x.nn x.nc]
abbrev OwAt (u : World) (g o : Nat) (x : Ow) : Prop := u.cell? ⟨g, o, none⟩ = some (.string (bs x.nm)) ∧ u.cell? ⟨g, o + 1, none⟩ = some (.int .i64 x.gate) ∧ u.cell? ⟨g, o + 2, none⟩ = some (.slice x.na x.nn x.nc)
structure OwOk (G : Nat → Prop) (w : World) (x : Ow) : Prop where
  gate : -9223372036854775808 ≤ x.gate ∧ x.gate ≤ 9223372036854775807
  ns : Reads G w (.slice x.na x.nn x.nc) (strs x.ns)
theorem OwOk.below {B : Nat} {w w' : World} {x : Ow} (h : OwOk (· < B) w x) (hb : Below B w w') : OwOk (· < B) w' x := ⟨h.gate, h.ns.below hb⟩
theorem OwOk.go {B : Nat} {w w' : World} {x : Ow} (h : OwOk (· < B) w x) (hb : Below B w w') (hB : B ≤ w'.heap.size) : OwOk (· < w'.heap.size) w' x := ⟨h.gate, (h.ns.below hb).mono fun g hg => Nat.lt_of_lt_of_le hg hB⟩
theorem OwOk.len {G : Nat → Prop} {w : World} {x : Ow} (h : OwOk G w x) : x.ns.length = x.nn ∧ x.nn ≤ x.nc ∧ x.nc ≤ maxLen := by
  have := reads_len h.ns
  rw [strs_len] at this
  exact this
def ReadsO (G : Nat → Prop) (w : World) (v : Value) (l : List Ow) : Prop :=
  ∃ a cap, v = .slice a l.length cap ∧ l.length ≤ cap ∧ cap ≤ maxLen ∧
    (l = [] ∨ ∃ g off, a = some ⟨g, off, none⟩ ∧ G g ∧ ∀ j, j < l.length → OwAt w g (off + j * 3) (l.getD j ow0)) ∧ ∀ x ∈ l, OwOk G w x
theorem ReadsO.len {G : Nat → Prop} {w : World} {a : Option Addr} {n c : Nat} {l : List Ow} (h : ReadsO G w (.slice a n c) l) : l.length = n ∧ n ≤ c ∧ c ≤ maxLen := by
  obtain ⟨a', cap, e, h1, h2, _⟩ := h
  simp only [Value.slice.injEq] at e
  obtain ⟨_, rfl, rfl⟩ := e
  exact ⟨rfl, h1, h2⟩
theorem ReadsO.form {G : Nat → Prop} {w : World} {v : Value} {l : List Ow} (h : ReadsO G w v l) : ∃ a n c, v = .slice a n c := by
  obtain ⟨a, cap, e, _⟩ := h
  exact ⟨a, _, cap, e⟩
theorem ReadsO.at {B : Nat} {w u : World} {a : Option Addr} {n c : Nat} {l : List Ow} (h : ReadsO (· < B) w (.slice a n c) l) (hb : Below B w u) {k : Nat} (hk : k < n) : ∃ g off, a = some ⟨g, off, none⟩ ∧ n ≤ c ∧ OwAt u g (off + k * 3) (l.getD k ow0) ∧ OwOk (· < B) u (l.getD k ow0) := by
  obtain ⟨a', cap, e, h1, h2, h4, h5⟩ := h
  simp only [Value.slice.injEq] at e
  obtain ⟨rfl, rfl, rfl⟩ := e
  have hm : l.getD k ow0 ∈ l := by rw [List.getD_eq_getElem?_getD, List.getElem?_eq_getElem hk]; exact List.getElem_mem _
  rcases h4 with h4 | ⟨g, off, rfl, hg, hc⟩
  · rw [h4] at hk; simp at hk
  · obtain ⟨x0, x1, x2⟩ := hc k hk
    have e := fun o => hb.cell (p := ⟨g, o, none⟩) hg
    exact ⟨g, off, rfl, h1, ⟨(e _).trans x0, (e _).trans x1, (e _).trans x2⟩, (h5 _ hm).below hb⟩
theorem ReadsO.go {B : Nat} {w u : World} {v : Value} {l : List Ow} (h : ReadsO (· < B) w v l) (hb : Below B w u) (hB : B ≤ u.heap.size) : ReadsO (· < u.heap.size) u v l := by
  obtain ⟨a, cap, e, h1, h2, h4, h5⟩ := h
  refine ⟨a, cap, e, h1, h2, ?_, fun x hx => (h5 x hx).go hb hB⟩
  rcases h4 with h4 | ⟨g, off, ea, hg, hc⟩
  · exact Or.inl h4
  · refine Or.inr ⟨g, off, ea, Nat.lt_of_lt_of_le hg hB, fun j hj => ?_⟩
    obtain ⟨x0, x1, x2⟩ := hc j hj
    have e := fun o => hb.cell (p := ⟨g, o, none⟩) hg
    exact ⟨(e _).trans x0, (e _).trans x1, (e _).trans x2⟩
section
variable {H : Type} {enc : TypeId × Value → H} {W : World} {b0 : Nat}
theorem cellsOwner : Try.prog.cellsOf 31 = 3 := by kernel_rfl
theorem three_of {α : Type} (l : List α) (h : l.length = 3) : ∃ x0 x1 x2, l = [x0, x1, x2] := by
  match l, h with
  | [x0, x1, x2], _ => exact ⟨_, _, _, rfl⟩
/-- an owner's three cells -/
theorem open_ownerF {fuel : Nat} {cs : List Value} {x : DataW H × List MemPlace} (hlen : cs.length = 3) (hf : DataW.trod enc Try.prog W 0 (fun _ => true) true fuel 31 cs = some x) :
    ∃ y : Ow, cs = [.string (bs y.nm), .int .i64 y.gate, .slice y.na y.nn y.nc] ∧ OwOk (· < W.heap.size) W y ∧ y.nm.length ≤ Rows.uptoBulk x.1 ∧ (∀ s ∈ y.ns, s.length ≤ Rows.uptoBulk x.1) ∧ y.ns.length ≤ Rows.uptoBulk x.1 := by
  obtain ⟨xs, n, _, hd, _, hx, hg⟩ := DataW.trod_struct Try.underlying31 hf
  obtain ⟨c1, c2, c3, rfl⟩ := three_of cs hlen
  obtain ⟨y1, k1, h1⟩ := field_at (ty := 9) (t := 0) hx hg 0 _ rfl rfl rfl cellsStr
  obtain ⟨y2, k2, h2⟩ := field_at (ty := 3) (t := 0) hx hg 1 _ rfl rfl rfl cellsInt
  obtain ⟨y3, k3, h3⟩ := field_at (ty := 23) (t := 0) hx hg 2 _ rfl rfl rfl cellsStrs
  obtain ⟨s, e1, hs1, _⟩ := DataW.trod_string Try.underlying9 h1
  obtain rfl : c1 = .string s := List.head_eq_of_cons_eq e1
  obtain ⟨G, e2, _, wG⟩ := DataW.trod_int Try.underlying3 h2
  obtain rfl : c2 = .int .i64 G := List.head_eq_of_cons_eq e2
  obtain ⟨l, a, nn, nc, rfl, rl, bl, ll, _⟩ := open_strsF h3
  have hb : ∀ (i : Nat) (y : DataW H × List MemPlace), xs[i]? = some y → Rows.uptoBulk y.1 ≤ Rows.uptoBulk x.1 := fun i y hy => by
    rw [hd]
    simp only [Rows.uptoBulk]
    have := bulk_mem (ds := xs.map (·.1)) (List.mem_map.2 ⟨y, List.mem_of_getElem? hy, rfl⟩)
    omega
  have hb1 := hb 0 _ k1
  have hb3 := hb 2 _ k3
  have hsl : s.data.toList.length + 1 ≤ Rows.uptoBulk y1.1 := by rw [hs1]; simp [Rows.uptoBulk]
  exact ⟨⟨s.data.toList, G, a, nn, nc, l⟩, rfl, ⟨LW.wf_i64 wG, rl⟩, by simp only; omega, fun t ht => Nat.le_trans (bl t ht) hb3, Nat.le_trans ll hb3⟩
/-- many owners -/
theorem open_owners {v : Value} {d : DataW H} {p : List MemPlace} (hv : Value.okWide Try.prog W .any b0 22 v) (h : DataW.Trod enc Try.prog W 0 (fun _ => true) true 22 v d p) :
    ∃ (l : List Ow) (a : Option Addr) (n c : Nat), v = .slice a n c ∧ ReadsO (· < W.heap.size) W (.slice a n c) l ∧ (∀ x ∈ l, x.nm.length ≤ Rows.uptoBulk d ∧ (∀ s ∈ x.ns, s.length ≤ Rows.uptoBulk d) ∧ x.ns.length ≤ Rows.uptoBulk d) := by
  obtain ⟨a0, len0, cap0, rfl⟩ := okWide_slice Try.underlying22 hv
  obtain ⟨fuel, hf⟩ := h
  replace hf : DataW.trod enc Try.prog W 0 (fun _ => true) true fuel 22 [.slice a0 len0 cap0] = some (d, p) := hf
  rcases Go.Deep.open_slice Try.underlying22 hf with ⟨hcs, hx⟩ | ⟨a, len, cap, m, nf, D, Pl, hcs, hb, hl, hm, hmm, hx, hel⟩
  · have := List.head_eq_of_cons_eq hcs
    simp only [Value.slice.injEq] at this
    obtain ⟨rfl, rfl, rfl⟩ := this
    exact ⟨[], none, 0, 0, rfl, ⟨none, 0, rfl, Nat.le_refl _, by simp [maxLen], Or.inl rfl, fun x hx => (by cases hx)⟩, fun x hx => (by cases hx)⟩
  · have := List.head_eq_of_cons_eq hcs
    simp only [Value.slice.injEq] at this
    obtain ⟨rfl, rfl, rfl⟩ := this
    simp only [if_true] at hmm
    subst hmm
    have each : ∀ i, i < len0 → ∃ y : Ow, (OwOk (· < W.heap.size) W y ∧ y.nm.length ≤ Rows.uptoBulk d ∧ (∀ s ∈ y.ns, s.length ≤ Rows.uptoBulk d) ∧ y.ns.length ≤ Rows.uptoBulk d) ∧ W.cell? (a.add (i * 3)) = some (.string (bs y.nm)) ∧ W.cell? (a.add (i * 3 + 1)) = some (.int .i64 y.gate) ∧ W.cell? (a.add (i * 3 + 2)) = some (.slice y.na y.nn y.nc) := by
      intro i hi
      obtain ⟨cs', h1, h2⟩ := hel i (by omega)
      rw [cellsOwner] at h1
      obtain ⟨_, hlen2, hc⟩ := World.cells?_some h1
      obtain ⟨y, e, h3, h4, h5, h6⟩ := open_ownerF (by simpa using hlen2) h2
      have hbd : Rows.uptoBulk (D i) ≤ Rows.uptoBulk d := by
        have hd := (Prod.mk.inj hx).1
        rw [hd]
        simp only [Rows.uptoBulk]
        have := bulk_mem (ds := (List.range len0).map D) (List.mem_map.2 ⟨i, List.mem_range.2 hi, rfl⟩)
        omega
      subst e
      have g0 := hc 0 (by simp)
      have g1 := hc 1 (by simp)
      have g2 := hc 2 (by simp)
      rw [add_twice] at g0 g1 g2
      exact ⟨y, ⟨h3, Nat.le_trans h4 hbd, fun s hs => Nat.le_trans (h5 s hs) hbd, Nat.le_trans h6 hbd⟩, g0, g1, g2⟩
    haveI : Inhabited Ow := ⟨ow0⟩
    obtain ⟨F, hF⟩ := Go.Deep.choose_lt each
    have eF : ∀ j, j < len0 → ((List.range len0).map F).getD j ow0 = F j := fun j hj => by
      rw [List.getD_eq_getElem?_getD, List.getElem?_map, List.getElem?_range hj]
      rfl
    refine ⟨(List.range len0).map F, some a, len0, _, rfl, ⟨some a, _, by rw [List.length_map, List.length_range], by rw [List.length_map, List.length_range]; exact hl, hm, ?_, fun x hx => ?_⟩, fun x hx => ?_⟩
    · by_cases h0 : len0 = 0
      · left; subst h0; simp
      · right
        have hc0 := (hF 0 (by omega)).2.1
        rw [Nat.zero_mul] at hc0
        have hsp := no_spot hc0 (by rw [hc0]; simp)
        refine ⟨a.block, a.off, by rw [← hsp], block_lt hc0, fun j hj => ?_⟩
        rw [List.length_map, List.length_range] at hj
        rw [eF j hj]
        obtain ⟨_, k0, k1, k2⟩ := hF j hj
        rw [hsp, add_off] at k0 k1 k2
        exact ⟨k0, by rw [Nat.add_assoc]; exact k1, by rw [Nat.add_assoc]; exact k2⟩
    · obtain ⟨i, hi, rfl⟩ := List.mem_map.1 hx
      exact (hF i (List.mem_range.1 hi)).1.1
    · obtain ⟨i, hi, rfl⟩ := List.mem_map.1 hx
      exact (hF i (List.mem_range.1 hi)).1.2
end
end Go.Proofs.Ytajidaicojekdaa.KO
