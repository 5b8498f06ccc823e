/-
  Joined texts: ObjBit, ObjRel, ObjCopyP, ObjCopyQ. Nothing here is a statement of the seed.
-/
import Derived.Test.YtajidaicojekdaaObjA
import Derived.Deep.RegionHeld3
import Derived.Deep.CutRange
import Derived.ArgAppend
import Derived.Test.YtajidaicojekdaaObjSameM
import Derived.Deep.Upon
set_option linter.unusedSimpArgs false
set_option linter.unusedVariables false
/-
  Cells of a module's box and of a relocation's. Nothing here is a statement of the seed.
-/
namespace Go.Proofs.Ytajidaicojekdaa.OR
open Go.RowKit WM NR OM
set_option maxHeartbeats 4000000
set_option maxRecDepth 10000
abbrev MC (b : Nat) (x : ByteArray) (ea : Option Addr) (en ec : Nat) (ia : Option Addr) (im ic : Nat) (ca : Option Addr) (cn cc : Nat) (da : Option Addr) (dn dc : Nat) (ra : Option Addr) (rn rc : Nat) (w : World) : Prop := w.cell? ⟨b, 0, none⟩ = some (.string x) ∧ w.cell? ⟨b, 1, none⟩ = some (.slice ea en ec) ∧ w.cell? ⟨b, 2, none⟩ = some (.slice ia im ic) ∧ w.cell? ⟨b, 3, none⟩ = some (.slice ca cn cc) ∧ w.cell? ⟨b, 4, none⟩ = some (.slice da dn dc) ∧ w.cell? ⟨b, 5, none⟩ = some (.slice ra rn rc)
theorem rel_cells {w : World} {b : Nat} {x y z : Value} (h : Whole w b 76 #[x, y, z]) : w.cell? ⟨b, 0, none⟩ = some x ∧ w.cell? ⟨b, 1, none⟩ = some y ∧ w.cell? ⟨b, 2, none⟩ = some z := ⟨h.cell 0, h.cell 1, h.cell 2⟩
theorem mc_of {W0 u : World} {b : Nat} {x : ByteArray} {ea : Option Addr} {en ec : Nat} {ia : Option Addr} {im ic : Nat} {ca : Option Addr} {cn cc : Nat} {da : Option Addr} {dn dc : Nat} {ra : Option Addr} {rn rc : Nat} (h : Whole W0 b 45 (mCs x ea en ec ia im ic ca cn cc da dn dc ra rn rc)) (hb : Below W0.heap.size W0 u) : MC b x ea en ec ia im ic ca cn cc da dn dc ra rn rc u := mod_cells (h.belowS hb)
end Go.Proofs.Ytajidaicojekdaa.OR

/-
  Rows of relocations, three cells each; an append onto nothing. Nothing here is a statement of the seed.
-/
namespace Go.Proofs.Ytajidaicojekdaa.OR
open Go.RowKit WM NR OM
set_option maxHeartbeats 4000000
set_option maxRecDepth 10000
def relC : List Rl → List Value
  | [] => []
  | r :: l => .int .u8 (r.kind : Int) :: .int .u16 (r.at_ : Int) :: .int .u16 (r.wh : Int) :: relC l
theorem relC_len : ∀ l : List Rl, (relC l).length = l.length * 3
  | [] => rfl
  | r :: l => by simp only [relC, List.length_cons, relC_len l]; omega
theorem relC_append : ∀ a b : List Rl, relC (a ++ b) = relC a ++ relC b
  | [], b => rfl
  | r :: a, b => by simp only [List.cons_append, relC, relC_append a b]
theorem relC_one (l : List Rl) : ∀ u ∈ relC l, u.oneCell' = true := by
  induction l with
  | nil => intro u hu; cases hu
  | cons r l ih =>
    intro u hu
    simp only [relC, List.mem_cons] at hu
    rcases hu with rfl | rfl | rfl | hu
    · rfl
    · rfl
    · rfl
    · exact ih u hu
theorem relC_at : ∀ (l : List Rl) (j : Nat), j < l.length → (relC l)[j * 3]? = some (.int .u8 ((l.getD j ⟨0, 0, 0⟩).kind : Int)) ∧ (relC l)[j * 3 + 1]? = some (.int .u16 ((l.getD j ⟨0, 0, 0⟩).at_ : Int)) ∧ (relC l)[j * 3 + 2]? = some (.int .u16 ((l.getD j ⟨0, 0, 0⟩).wh : Int))
  | [], j, h => by simp at h
  | r :: l, 0, h => ⟨rfl, rfl, rfl⟩
  | r :: l, j + 1, h => by
    have ih := relC_at l j (by simpa using h)
    have e : (j + 1) * 3 = j * 3 + 3 := by omega
    rw [e]
    simp only [relC, List.getD_cons_succ]
    exact ih
theorem relC_get {l : List Rl} {i : Nat} {u : Value} (h : (relC l)[i]? = some u) : ∃ j, j < l.length ∧ ((i = j * 3 ∧ u = .int .u8 ((l.getD j ⟨0, 0, 0⟩).kind : Int)) ∨ (i = j * 3 + 1 ∧ u = .int .u16 ((l.getD j ⟨0, 0, 0⟩).at_ : Int)) ∨ (i = j * 3 + 2 ∧ u = .int .u16 ((l.getD j ⟨0, 0, 0⟩).wh : Int))) := by
  have hlt := (List.getElem?_eq_some_iff.1 h).1
  rw [relC_len] at hlt
  obtain ⟨h1, h2, h3⟩ := relC_at l (i / 3) (by omega)
  refine ⟨i / 3, by omega, ?_⟩
  rcases (show i = i / 3 * 3 ∨ i = i / 3 * 3 + 1 ∨ i = i / 3 * 3 + 2 by omega) with e | e | e
  · refine Or.inl ⟨e, ?_⟩
    rw [← e, h] at h1
    exact Option.some.inj h1
  · refine Or.inr (Or.inl ⟨e, ?_⟩)
    rw [← e, h] at h2
    exact Option.some.inj h2
  · refine Or.inr (Or.inr ⟨e, ?_⟩)
    rw [← e, h] at h3
    exact Option.some.inj h3
/-- a slice of relocations behind an address, as cells -/
theorem ReadsR.cells {G : Nat → Prop} {w : World} {p : Addr} {n c : Nat} {l : List Rl} (h : ReadsR G w (.slice (some p) n c) l) : ∀ j u, (relC l)[j]? = some u → w.cell? (p.add j) = some u := by
  obtain ⟨a, cap, e, h1, h2, h3, h4⟩ := h
  simp only [Value.slice.injEq] at e
  obtain ⟨rfl, rfl, rfl⟩ := e
  intro i u hi
  obtain ⟨j, hj, hh⟩ := relC_get hi
  rcases h4 with h4 | ⟨g, off, ea, hg, hc⟩
  · subst h4; simp at hj
  · obtain rfl := Option.some.inj ea
    obtain ⟨c0, c1, c2⟩ := hc j hj
    rw [Addr.add_lit]
    rcases hh with ⟨rfl, rfl⟩ | ⟨rfl, rfl⟩ | ⟨rfl, rfl⟩
    · exact c0
    · rw [← Nat.add_assoc]; exact c1
    · rw [← Nat.add_assoc]; exact c2
/-- a row of a call's own, told -/
theorem ReadsR.of_owns {B : Nat} {w : World} {v : Value} {l : List Rl} (h : w.ownsRow B 76 3 v l.length (relC l)) : ReadsR (fun g => B ≤ g ∧ v.ownBlock = some g) w v l := by
  rcases h.2 with ⟨rfl, h0⟩ | ⟨g, cap, cur, rfl, hg, hcell, hcap, hcm, hsz, hcur⟩
  · have hx : l = [] := List.length_eq_zero_iff.1 h0
    subst hx
    exact ReadsR.nil _ _
  · refine ⟨_, cap, rfl, hcap, hcm, (fun h => by cases h), Or.inr ⟨g, 0, rfl, ⟨hg, rfl⟩, fun j hj => ?_⟩⟩
    obtain ⟨h1, h2, h3⟩ := relC_at l j hj
    rw [Nat.zero_add]
    exact ⟨(h.cellAt _ (by omega)).trans h1, (h.cellAt _ (by omega)).trans h2, (h.cellAt _ (by omega)).trans h3⟩
theorem infoRel : (Try.prog.info? 76).map (fun i => (i.zero, i.size, i.bytes)) = some (some (.agg #[.int .u8 0, .int .u16 0, .int .u16 0]), 3, 6) := by kernel_rfl
theorem infoWord : (Try.prog.info? 46).map (fun i => (i.zero, i.size, i.bytes)) = some (some (.int .u32 0), 1, 4) := by kernel_rfl
theorem infoStr : (Try.prog.info? 9).map (fun i => (i.zero, i.size, i.bytes)) = some (some (.string ⟨#[]⟩), 1, 16) := by kernel_rfl
/-- appended to an empty slice: what is told, in a world that only grew -/
theorem run_onto_none {t ty e : TypeId} {size bytes : Nat} {z : Value} (hi5 : (Try.prog.info? e).map (fun i => (i.zero, i.size, i.bytes)) = some (some z, size, bytes)) (ht : Try.prog.underlying t = some (.slice e)) (hzs : z.cells.size = size) (hsz : 0 < size) (u : World) (g : Nat) (p : Addr) (n c : Nat) (ys : List Value) (hl : ys.length = n * size) (hc : ∀ j x, ys[j]? = some x → u.cell? (p.add j) = some x) (h1 : ∀ x ∈ ys, x.oneCell' = true) (hm : n ≤ maxLen) (hb : n * bytes ≤ 140737488355328) :
    ∃ v' u', (Builtin.append_ #[t, t] ty #[.slice (some ⟨g, 0, none⟩) 0 0, .slice (some p) n c]).run Try.prog u = .ok v' u' ∧ Below u.heap.size u u' ∧ (n = 0 ∧ v' = .slice (some ⟨g, 0, none⟩) 0 0 ∨ 0 < n ∧ u'.ownsRow u.heap.size e size v' n ys) := by
  obtain ⟨i0, hi, hz0, hz1, hz2⟩ := info_parts hi5
  by_cases h0 : n = 0
  · subst h0
    have hy : ys = [] := List.length_eq_zero_iff.1 (by omega)
    subst hy
    refine ⟨_, u, run_append_nothing u t t ty e i0 ht hi (some ⟨g, 0, none⟩) 0 0 (Nat.le_refl _) (.slice (some p) 0 c) (by rw [hz1]; exact Src.ofSlice u ht p 0 c [] (by simp) hc h1), Below.refl _ _, Or.inl ⟨rfl, rfl⟩⟩
  · obtain ⟨v', u', hr, ho, hg⟩ := run_append_arg_grows (P := Try.prog) u t ty e i0 z size bytes ht hi hz0 hz1 hz2 hzs hsz ⟨g, 0, none⟩ 0 0 [] (by simp) (fun j x hx => by simp at hx) p n c ys hl hc (by omega) (by omega) (by rw [Nat.zero_add]; exact hb)
    rw [Nat.zero_add, List.nil_append] at ho
    exact ⟨v', u', hr, (Below.refl _ _).grown hg (Nat.le_refl _) (fun k hk => by cases hk), Or.inr ⟨by omega, ho⟩⟩
/-- the same where the second one is nil -/
theorem run_onto_nil {t ty e : TypeId} {size bytes : Nat} {z : Value} (hi5 : (Try.prog.info? e).map (fun i => (i.zero, i.size, i.bytes)) = some (some z, size, bytes)) (ht : Try.prog.underlying t = some (.slice e)) (u : World) (g c : Nat) :
    (Builtin.append_ #[t, t] ty #[.slice (some ⟨g, 0, none⟩) 0 0, .slice none 0 c]).run Try.prog u = .ok (.slice (some ⟨g, 0, none⟩) 0 0) u := by
  obtain ⟨i0, hi, hz0, hz1, hz2⟩ := info_parts hi5
  exact run_append_nothing u t t ty e i0 ht hi (some ⟨g, 0, none⟩) 0 0 (Nat.le_refl _) (.slice none 0 c) (Src.ofNil u ht c)
end Go.Proofs.Ytajidaicojekdaa.OR

/-
  A module copied, as the program does. Nothing here is a statement of the seed.
-/
namespace Go.Proofs.Ytajidaicojekdaa.OR
open Go.RowKit WM NR OM
set_option maxHeartbeats 4000000
set_option maxRecDepth 10000
end Go.Proofs.Ytajidaicojekdaa.OR

/-
  A module copied whole, as the program does. Nothing here is a statement of the seed.
-/
namespace Go.Proofs.Ytajidaicojekdaa.OR
open Go.RowKit WM NR OM
set_option maxHeartbeats 4000000
set_option maxRecDepth 10000
theorem owns_form {w : World} {B : Nat} {e : TypeId} {size n : Nat} {v : Value} {xs : List Value} (h : w.ownsRow B e size v n xs) : ∃ a c, v = .slice a n c := by
  rcases h.2 with ⟨rfl, rfl⟩ | ⟨g, cap, cur, rfl, _⟩
  · exact ⟨none, 0, rfl⟩
  · exact ⟨_, cap, rfl⟩
theorem owns_set {w : World} {B : Nat} {e : TypeId} {size n : Nat} {v : Value} {xs : List Value} (h : w.ownsRow B e size v n xs) {p i : Nat} (hp : p < B) (u : Value) : (w.setCell ⟨p, i, none⟩ u).ownsRow B e size v n xs :=
  h.kept (w' := w.setCell ⟨p, i, none⟩ u) (row := some p) ⟨rfl, rfl, rfl, by simp, fun g hg hr => Below.heap_setCell _ _ _ _ (fun e => hr (by rw [e]))⟩ (by
    cases hv : v.ownBlock with
    | none => exact Or.inl rfl
    | some g =>
      refine Or.inr fun hh => ?_
      have h1 := (h.lt g hv).1
      have h2 := Option.some.inj hh
      omega)
abbrev zCs : Array Value := #[.string ⟨#[]⟩, .slice none 0 0, .slice none 0 0, .slice none 0 0, .slice none 0 0, .slice none 0 0]
/-- the copy's box and the result's, on the way -/
structure CJ (w : World) (cs : Array Value) (u : World) : Prop where
  X : Whole u w.heap.size 45 cs
  Y : Whole u (w.heap.size + 1) 45 zCs
  B : Below w.heap.size w u
  sz : w.heap.size + 2 ≤ u.heap.size
theorem CJ.belowS {w u u' : World} {cs : Array Value} (h : CJ w cs u) (hb : Below u.heap.size u u') : CJ w cs u' := ⟨h.X.belowS hb, h.Y.belowS hb, h.B.trans (hb.mono h.B.size), Nat.le_trans h.sz hb.size⟩
theorem CJ.set_ {w u : World} {cs : Array Value} (h : CJ w cs u) (i : Nat) (v : Value) : CJ w (cs.setIfInBounds i v) (u.setCell ⟨w.heap.size, i, none⟩ v) := ⟨h.X.set_ i v, h.Y.far (by simp) v, h.B.setCell (by simp) v, by simpa using h.sz⟩
theorem CJ.new (w : World) (cs : Array Value) : CJ w cs ((w.alloc (.cells cs 45)).alloc (.cells zCs 45)) := by
  obtain ⟨h1, h2, h3⟩ := two_mods w cs zCs
  exact ⟨h2, h3, h1, by simp⟩
/-- what a copy's lists are -/
structure Own5 (B : Nat) (m : Md) (w : World) (ea : Option Addr) (en ec : Nat) (ia : Option Addr) (im ic : Nat) (ca : Option Addr) (cn cc : Nat) (da : Option Addr) (dn dc : Nat) (ra : Option Addr) (rn rc : Nat) : Prop where
  ex : w.ownsRow B 9 1 (.slice ea en ec) en (strs m.exps)
  im : w.ownsRow B 9 1 (.slice ia im ic) im (strs m.imps)
  cd : w.ownsRow B 46 1 (.slice ca cn cc) cn (u32s m.code)
  dt : w.ownsRow B 46 1 (.slice da dn dc) dn (u32s m.data)
  rl : w.ownsRow B 76 3 (.slice ra rn rc) rn (relC m.rels)
theorem readsR_owns {B n : Nat} {w : World} {v : Value} {l : List Rl} (h : w.ownsRow B 76 3 v n (relC l)) : ReadsR (fun g => B ≤ g ∧ v.ownBlock = some g) w v l := by
  have e : l.length = n := by have := h.1; rw [relC_len] at this; omega
  subst e
  exact ReadsR.of_owns h
section
variable {w : World} {ea : Option Addr} {en ec : Nat} {ia : Option Addr} {im ic : Nat} {ca : Option Addr} {cn cc : Nat} {da : Option Addr} {dn dc : Nat} {ra : Option Addr} {rn rc : Nat} {m : Md}
theorem Own5.reads {B : Nat} (h : Own5 B m w ea en ec ia im ic ca cn cc da dn dc ra rn rc) : RdM (fun g => B ≤ g) w ea en ec ia im ic ca cn cc da dn dc ra rn rc m :=
  ⟨(Reads.of_owns h.ex).mono fun g hg => hg.1, (Reads.of_owns h.im).mono fun g hg => hg.1, (Reads.of_owns h.cd).mono fun g hg => hg.1, (Reads.of_owns h.dt).mono fun g hg => hg.1, (readsR_owns h.rl).mono fun g hg => hg.1⟩
theorem Own5.belowS {B : Nat} {w' : World} (h : Own5 B m w ea en ec ia im ic ca cn cc da dn dc ra rn rc) (hb : Below w.heap.size w w') : Own5 B m w' ea en ec ia im ic ca cn cc da dn dc ra rn rc := ⟨owns_below h.ex hb, owns_below h.im hb, owns_below h.cd hb, owns_below h.dt hb, owns_below h.rl hb⟩
end
end Go.Proofs.Ytajidaicojekdaa.OR
