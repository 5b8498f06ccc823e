/-
  The tables that the rows of layer 5 list: what a walk reads of them, and a world for the witness. Plain lemmas on the form.
-/
import Derived.Test.YtoohfmkhjhcopaaGreatDoorRows
import Derived.Test.YtoohfmkhjhcopaaGreatDoorAsmFn
import Derived.Lib.LaidTab
import Derived.Stop.LaidErr
import Derived.KernelRfl
set_option linter.unusedSimpArgs false
set_option linter.unusedVariables false
namespace Go.Proofs.YtoohfmkhjhcopaaGreatDoor.LL
open Go.RowKit Go.ChangeShapes AM AF

abbrev list : List (String × DataW Unit) := Rows.asmPrintsRow.laid
theorem vars_at {P : Program} {w : World} : ∀ {l : List (String × DataW Unit)} {ps : List MemPlace} (i : Nat) {n : String} {d : DataW Unit}, DataW.LaidVars P w l ps → l[i]? = some (n, d) →
    ∃ g t cs fuel p, P.globalNamed n = some g ∧ (P.globals[g]?).map (·.type) = some t ∧ w.var? P n = some cs ∧ DataW.trod (fun _ => ()) P w 0 (fun _ => true) false fuel t cs.toList = some (d, p)
  | [], _, i, n, d, _, h => by simp at h
  | (n', d') :: r, ps, 0, n, d, hv, h => by
    obtain ⟨g, t, cs, fuel, p, q, h1, h2, h3, h4, _, _⟩ := hv
    simp only [List.getElem?_cons_zero, Option.some.injEq, Prod.mk.injEq] at h
    obtain ⟨rfl, rfl⟩ := h
    exact ⟨g, t, cs, fuel, p, h1, h2, h3, h4⟩
  | _ :: r, ps, i + 1, n, d, hv, h => by
    obtain ⟨_, _, _, _, _, q, _, _, _, _, hr, _⟩ := hv
    exact vars_at i hr (by simpa using h)
/-- a table that stands anywhere on the list -/
theorem tab_at {P : Program} {W : World} {l : List (String × DataW Unit)} {name : String} {k : IntKind} {zs : List Int} {g : Nat} {t e : TypeId} {n : Nat} (i : Nat)
    (hg : P.globalNamed name = some g) (hty : (P.globals[g]?).map (·.type) = some t) (ht : P.underlying t = some (.array n e)) (he : P.underlying e = some (.int k)) (hce : P.cellsOf e = 1) (hct : P.cellsOf t = n)
    (h : laidMet P l W) (hi : l[i]? = some (name, Lib.tabData k zs)) : Lib.TabIs P W name k zs := by
  obtain ⟨ps, hv, _⟩ := h
  obtain ⟨g', t', cs, fuel, p, hg', ht', hvar, hd⟩ := vars_at i hv hi
  obtain rfl := Option.some.inj (hg.symm.trans hg')
  obtain rfl := Option.some.inj (hty.symm.trans ht')
  unfold Lib.TabIs
  rw [hvar, ← Lib.cells_of_tab ht he hce hct hd]
/-- an array of texts that reads as these holds them, cell for cell -/
theorem cells_of_texts {P : Program} {w : World} {base : Nat} {sp : Nat → Bool} {held : Bool} {fuel : Nat} {t e : TypeId} {n : Nat} {cs : List Value} {ts : List (List UInt8)} {p : List MemPlace}
    (ht : P.underlying t = some (.array n e)) (he : P.underlying e = some .string) (hce : P.cellsOf e = 1) (hct : P.cellsOf t = n)
    (h : DataW.trod (fun _ => ()) P w base sp held fuel t cs = some (.agg (ts.map fun l => .lit (.string l)), p)) : cs = ts.map fun l => Value.string (bs l) := by
  cases fuel with
  | zero => simp [DataW.trod] at h
  | succ fuel =>
    simp only [DataW.trod, ht, hce, hct, Nat.mul_one] at h
    split at h
    · rename_i hl
      obtain ⟨xs, hm, hx⟩ := Option.map_eq_some_iff.1 h
      have hxs : xs.map (·.1) = ts.map fun l => (DataW.lit (.string l) : DataW Unit) := by simpa using congrArg Prod.fst hx
      have hxl : xs.length = n := by simpa using Lib.mapM_length hm
      have hzl : ts.length = n := by
        have := congrArg List.length hxs
        simp at this
        omega
      apply List.ext_getElem?
      intro i
      by_cases hi : i < n
      · obtain ⟨b, hb, hf⟩ := Lib.mapM_at hm i i (by simp [hi])
        have h2 : (xs.map (·.1))[i]? = some b.1 := by simp [hb]
        rw [hxs] at h2
        simp only [List.getElem?_map, Option.map_eq_some_iff] at h2
        obtain ⟨l, hl2, e2⟩ := h2
        obtain ⟨d, q⟩ := b
        simp only at e2
        subst e2
        obtain ⟨x, hc, he2, _⟩ := DataW.trod_string he hf
        have h1 : cs[i]? = some (.string x) := by
          have := congrArg (·[0]?) hc
          simpa [List.getElem?_take, List.getElem?_drop] using this
        have hx2 : l = x.data.toList := by simpa using congrArg Prod.fst he2
        rw [h1, List.getElem?_map, hl2, hx2]
        rfl
      · rw [List.getElem?_eq_none (by omega), List.getElem?_eq_none (by simp; omega)]
    · cases h
theorem texts_at {P : Program} {W : World} {l : List (String × DataW Unit)} {name : String} {ts : List (List UInt8)} {g : Nat} {t e : TypeId} {n : Nat} (i : Nat)
    (hg : P.globalNamed name = some g) (hty : (P.globals[g]?).map (·.type) = some t) (ht : P.underlying t = some (.array n e)) (he : P.underlying e = some .string) (hce : P.cellsOf e = 1) (hct : P.cellsOf t = n)
    (h : laidMet P l W) (hi : l[i]? = some (name, .agg (ts.map fun l => .lit (.string l)))) : W.var? P name = some (ts.map fun l => Value.string (bs l)).toArray := by
  obtain ⟨ps, hv, _⟩ := h
  obtain ⟨g', t', cs, fuel, p, hg', ht', hvar, hd⟩ := vars_at i hv hi
  obtain rfl := Option.some.inj (hg.symm.trans hg')
  obtain rfl := Option.some.inj (hty.symm.trans ht')
  rw [hvar, ← cells_of_texts ht he hce hct hd]
theorem pow10_data : (Rows.laid_internal_strconv_uint64pow10 : DataW Unit) = Lib.tabData .u64 Lib.pow10Tab := by rfl
theorem mnem_data : (Rows.laid_budwood_asm_mnemonics : DataW Unit) = .agg (mnL.map fun l => .lit (.string l)) := by rfl
theorem star : "*" ++ "errors.errorString" = "*errors.errorString" := by decide
theorem row_err (u : TypeId) (h : Tryz.prog.typeName? 3 u = some "*errors.errorString") : u = 162 :=
  typeName_ptr_named (nm := "errors.errorString") (by rw [star]; kernel_rfl) (by kernel_rfl) (by decide) u (by rw [star]; exact h)
theorem met {W : World} (h : laidMetH Tryz.prog list W) : laidMet Tryz.prog list W := h
theorem rng_at {W : World} (h : laidMet Tryz.prog list W) : ∃ tp p, W.var? Tryz.prog "strconv.ErrRange" = some #[.iface tp p] := by
  obtain ⟨a, s, hv, _⟩ := laid_sentinel (laidMet.tail (laidMet.tail (laidMet.tail (laidMet.tail h)))) (g := 6) (ti := 67) (tp := 162) (te := 164) (ts := 9) (by kernel_rfl) (by kernel_rfl) Tryz.underlying67 row_err Tryz.underlying162 Tryz.underlying164 rfl rfl Tryz.underlying9 (by kernel_rfl) (by kernel_rfl)
  exact ⟨_, _, hv⟩
theorem syn_at {W : World} (h : laidMet Tryz.prog list W) : ∃ tp p, W.var? Tryz.prog "strconv.ErrSyntax" = some #[.iface tp p] := by
  obtain ⟨a, s, hv, _⟩ := laid_sentinel (laidMet.tail (laidMet.tail (laidMet.tail (laidMet.tail (laidMet.tail h))))) (g := 5) (ti := 67) (tp := 162) (te := 164) (ts := 9) (by kernel_rfl) (by kernel_rfl) Tryz.underlying67 row_err Tryz.underlying162 Tryz.underlying164 rfl rfl Tryz.underlying9 (by kernel_rfl) (by kernel_rfl)
  exact ⟨_, _, hv⟩
theorem table {W : World} (h : laidMetH Tryz.prog list W) : Tab W where
  pow := tab_at (l := list) (g := 1) (t := 127) (e := 100) (n := 20) 2 (by kernel_rfl) (by kernel_rfl) Tryz.underlying127 Tryz.underlying100 (by kernel_rfl) (by kernel_rfl) (met h) (by rw [← pow10_data]; rfl)
  mns := texts_at (l := list) (g := 0) (t := 55) (e := 9) (n := 22) 6 (by kernel_rfl) (by kernel_rfl) Tryz.underlying55 Tryz.underlying9 (by kernel_rfl) (by kernel_rfl) (met h) (by rw [← mnem_data]; rfl)
  syn := syn_at (met h)
  rng := rng_at (met h)
/-! a world for the witness -/
def cellOf : DataW Unit → Value
  | .lit (.int k z) => .int k z
  | .lit (.string s) => .string ⟨s.toArray⟩
  | _ => undef
def rowOf : DataW Unit → List Value
  | .agg l => l.map cellOf
  | _ => []
def row2Of : DataW Unit → List Value
  | .agg l => l.flatMap rowOf
  | _ => []
def put (h : Array Obj) (g : Nat) (cs : Array Value) : Array Obj := h.modify g fun
  | .cells _ t frozen => .cells cs t frozen
  | o => o
def rngS : ByteArray := ⟨#[118, 97, 108, 117, 101, 32, 111, 117, 116, 32, 111, 102, 32, 114, 97, 110, 103, 101]⟩
def synS : ByteArray := ⟨#[105, 110, 118, 97, 108, 105, 100, 32, 115, 121, 110, 116, 97, 120]⟩
noncomputable def low : Nat := (World.holding Tryz.prog default ⟨#[], #[], []⟩).heap.size
/-- the settled world, the tables holding what their initialisers lay -/
noncomputable def laidWorld (os : Os) : World :=
  let w0 := World.holding Tryz.prog os ⟨#[.cells #[.string rngS] 164, .cells #[.string synS] 164], #[], []⟩
  { w0 with heap := put (put (put (put (put (put (put (put w0.heap 3 (rowOf Rows.laid_math_bits_deBruijn32tab).toArray) 4 (rowOf Rows.laid_math_bits_deBruijn64tab).toArray)
    1 (rowOf Rows.laid_internal_strconv_uint64pow10).toArray) 8 (row2Of Rows.laid_unicode_utf8_acceptRanges).toArray) 6 #[.iface 162 (.pointer (some ⟨low, 0, none⟩))])
    5 #[.iface 162 (.pointer (some ⟨low + 1, 0, none⟩))]) 0 (rowOf Rows.laid_budwood_asm_mnemonics).toArray) 7 (rowOf Rows.laid_unicode_utf8_first).toArray }
end Go.Proofs.YtoohfmkhjhcopaaGreatDoor.LL
