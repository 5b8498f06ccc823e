/-
  Places, slots, half words that come in: what they read as. Plain lemmas on the form.
-/
import Derived.Test.YtajidaicojekdaaObjOpen
import Derived.Test.YtajidaicojekdaaLinkWrd
import Derived.Test.YtajidaicojekdaaLinkB
set_option linter.unusedSimpArgs false
set_option linter.unusedVariables false
set_option maxRecDepth 20000
namespace Go.Proofs.Ytajidaicojekdaa.KQ
open Go.ChangeShapes Go.WideShapes Go.ChangeAt Go.RowKit WM NR OM OR OQ RF KF
section
variable {H : Type} {enc : TypeId × Value → H} {W : World} {b0 : Nat}
theorem cellsPlace : Try.prog.cellsOf 48 = 2 := by kernel_rfl
theorem two_of {α : Type} (l : List α) (h : l.length = 2) : ∃ x0 x1, l = [x0, x1] := by
  match l, h with
  | [x0, x1], _ => exact ⟨_, _, rfl⟩
theorem three_of {α : Type} (l : List α) (h : l.length = 3) : ∃ x0 x1 x2, l = [x0, x1, x2] := by
  match l, h with
  | [x0, x1, x2], _ => exact ⟨_, _, _, rfl⟩
/-- a place's two cells -/
theorem open_placeF {fuel : Nat} {cs : List Value} {x : DataW H × List MemPlace} (hlen : cs.length = 2) (hf : DataW.trod enc Try.prog W 0 (fun _ => true) true fuel 48 cs = some x) :
    ∃ c d : Int, cs = [.int .u32 c, .int .u32 d] ∧ (0 ≤ c ∧ c ≤ 4294967295) ∧ 0 ≤ d ∧ d ≤ 4294967295 := by
  obtain ⟨xs, n, _, hd, _, hx, hg⟩ := DataW.trod_struct Try.underlying48 hf
  obtain ⟨c0, c1, rfl⟩ := two_of cs hlen
  obtain ⟨y0, k0, h0⟩ := field_at (ty := 46) (t := 0) hx hg 0 _ rfl rfl rfl cellsWord
  obtain ⟨y1, k1, h1⟩ := field_at (ty := 46) (t := 0) hx hg 1 _ rfl rfl rfl cellsWord
  obtain ⟨c, e0, _, wc⟩ := DataW.trod_int Try.underlying46 h0
  obtain rfl : c0 = .int .u32 c := List.head_eq_of_cons_eq e0
  obtain ⟨d, e1, _, wd⟩ := DataW.trod_int Try.underlying46 h1
  obtain rfl : c1 = .int .u32 d := List.head_eq_of_cons_eq e1
  exact ⟨c, d, rfl, LW.wf_u32 wc, LW.wf_u32 wd⟩
theorem open_place {v : Value} {d : DataW H} {p : List MemPlace} (hv : Value.okWide Try.prog W .any b0 48 v) (h : DataW.Trod enc Try.prog W 0 (fun _ => true) true 48 v d p) :
    ∃ c e : Int, v = plV c e ∧ (0 ≤ c ∧ c ≤ 4294967295) ∧ 0 ≤ e ∧ e ≤ 4294967295 := by
  obtain ⟨cs, rfl, hsz⟩ := okWide_struct Try.underlying48 hv
  rw [cellsPlace] at hsz
  obtain ⟨fuel, hf⟩ := h
  replace hf : DataW.trod enc Try.prog W 0 (fun _ => true) true fuel 48 cs.toList = some (d, p) := hf
  obtain ⟨c, e, h1, h2, h3⟩ := open_placeF (x := (d, p)) (by simpa using hsz) hf
  refine ⟨c, e, ?_, h2, h3⟩
  show Value.agg cs = _
  congr 1
  apply Array.ext'
  rw [h1]
theorem cellsWhere : Try.prog.cellsOf 50 = 3 := by kernel_rfl
theorem open_where {v : Value} {d : DataW H} {p : List MemPlace} (hv : Value.okWide Try.prog W .any b0 50 v) (h : DataW.Trod enc Try.prog W 0 (fun _ => true) true 50 v d p) :
    ∃ (c e : Int) (l : List Nat) (s : Value), v = WK.whV c e s ∧ (0 ≤ c ∧ c ≤ 4294967295) ∧ (0 ≤ e ∧ e ≤ 4294967295) ∧ Slots W s l ∧ ∀ x ∈ l, x < 4294967296 := by
  obtain ⟨cs, rfl, hsz⟩ := okWide_struct Try.underlying50 hv
  rw [cellsWhere] at hsz
  obtain ⟨fuel, hf⟩ := h
  replace hf : DataW.trod enc Try.prog W 0 (fun _ => true) true fuel 50 cs.toList = some (d, p) := hf
  obtain ⟨xs, n, _, hd, _, hx, hg⟩ := DataW.trod_struct Try.underlying50 hf
  obtain ⟨x0, x1, x2, hl⟩ := three_of cs.toList (by simpa using hsz)
  rw [hl] at hg
  obtain ⟨y0, k0, h0⟩ := field_at (ty := 48) (t := 0) hx hg 0 _ rfl rfl rfl cellsPlace
  obtain ⟨y1, k1, h1⟩ := field_at (ty := 36) (t := 0) hx hg 1 _ rfl rfl rfl cellsWords
  obtain ⟨c, e, h2, h3, h4⟩ := open_placeF (cs := [x0, x1]) rfl h0
  simp only [List.cons.injEq, and_true] at h2
  obtain ⟨rfl, rfl⟩ := h2
  obtain ⟨l, a, n1, c1, rfl, hr, hb⟩ := open_wordsF (cl := x2) h1
  refine ⟨c, e, l, _, ?_, h3, h4, ⟨hr⟩, hb⟩
  show Value.agg cs = _
  congr 1
  apply Array.ext'
  rw [hl]
theorem cellsHalf : Try.prog.cellsOf 65 = 1 := by kernel_rfl
theorem open_u16s {v : Value} {d : DataW H} {p : List MemPlace} (hv : Value.okWide Try.prog W .any b0 63 v) (h : DataW.Trod enc Try.prog W 0 (fun _ => true) true 63 v d p) :
    ∃ l : List Nat, Reads (· < W.heap.size) W v (u16s l) ∧ ∀ x ∈ l, x < 65536 := by
  obtain ⟨zs, h1, h2, h3⟩ := open_nums Try.underlying63 Try.underlying65 cellsHalf hv h
  have hbs : ∀ z ∈ zs, 0 ≤ z ∧ z ≤ 65535 := fun z hz => by
    have hw := h2 z hz
    simpa [Lit.wf, IntKind.min, IntKind.max, IntKind.signed, IntKind.bits] using hw
  have e : u16s (zs.map Int.toNat) = zs.map (Value.int .u16) := by
    unfold u16s
    rw [List.map_map]
    apply List.map_congr_left
    intro z hz
    have hb := hbs z hz
    simp only [Function.comp]
    congr 1
    omega
  refine ⟨zs.map Int.toNat, by rw [e]; exact h1, ?_⟩
  intro x hx
  obtain ⟨z, hz, rfl⟩ := List.mem_map.1 hx
  have := hbs z hz
  omega
end
end Go.Proofs.Ytajidaicojekdaa.KQ
