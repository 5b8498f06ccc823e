/-
  Two functions of the library's sort that compare nothing, by the shelf's contracts; and one round of the whole, told. Nothing here is a statement of the seed.
-/
import Derived.Test.YtleggfofgpiabaaSortA
import Derived.Test.YtleggfofgpiabaaShelf
import Derived.Shelf.SlSortFuncK.BreakPatternsK
import Derived.Sort.Walk13a
import Derived.Sort.AssemblyPlain
set_option linter.unusedSimpArgs false
set_option linter.unusedVariables false
namespace Go.Proofs.Ytleggfofgpiabaa.SO
open Go.RowKit Go.Lib Go.Sort WM NR OM OR
variable {α : Type} [Inhabited α]
set_option maxHeartbeats 4000000
set_option maxRecDepth 100000
theorem sortWorld_grown (enc : α → List Value) (k : Nat) (u : World) (blk off n : Nat) (d : Array α) (os : Array Obj) : u.grownBy (sortWorldK enc k u blk off n d os) (some blk) := by
  refine ⟨rfl, rfl, rfl, ?_, ?_⟩
  · unfold sortWorldK
    rw [size_grow, size_putRowK]
    show u.heap.size ≤ u.heap.size + os.size
    omega
  · intro i hi hne
    have hne' : ¬ blk = i := fun e => hne (by rw [e])
    unfold sortWorldK putRowK putRow mapBlock Sort.ahead grow
    simp only
    rw [Array.getElem?_append_left (by simpa using hi), Array.getElem?_modify]
    simp [hne']
theorem sortWorld_form (enc : α → List Value) (k : Nat) (u : World) (blk off n : Nat) (d : Array α) (os : Array Obj) {cs : Array Value} {t : TypeId} (h : u.heap[blk]? = some (.cells cs t (0, 0))) : ∃ cs', (sortWorldK enc k u blk off n d os).heap[blk]? = some (.cells cs' t (0, 0)) ∧ cs'.size = cs.size := by
  have hlt : blk < u.heap.size := (Array.getElem?_eq_some_iff.1 h).1
  refine ⟨putCells id off (flatK enc k d) cs, ?_, by simp [putCells]⟩
  unfold sortWorldK putRowK putRow mapBlock Sort.ahead grow
  simp only
  rw [Array.getElem?_append_left (by simpa using hlt), Array.getElem?_modify]
  simp only [if_true]
  rw [h]
  rfl
theorem St.In.world {s : St α} {w0 W u : World} {B : Nat} {d d' : Array α} (h : s.In w0 W B d u) (hs : d'.size = s.size) (O : s.Ok w0) {n : Nat} {os : Array Obj} : s.In w0 W B d' (sortWorldK s.enc s.k u s.blk s.off n d' os) := by
  have hg := sortWorld_grown s.enc s.k u s.blk s.off n d' os
  obtain ⟨r1, cs, r2, r3⟩ := h.1.2.1
  obtain ⟨cs', r4, r5⟩ := sortWorld_form s.enc s.k u s.blk s.off n d' os r2
  exact h.step hg (h.1.step hg ⟨holdsK_sortWorldK s.enc s.k u s.blk s.off n d d' os (h.1.lt O) r1 (by rw [hs, h.1.2.2]), cs', r4, r5.trans r3⟩ hs)
theorem break_in {s : St α} {w0 W : World} (O : s.Ok w0) (hk : ∀ x, (s.enc x).length = s.k) (K : SwapSwapsK Try.prog s.sf s.sb s.enc s.k s.blk s.off s.size) {B : Nat} {d : Array α} {u : World} (h : s.In w0 W B d u) {a b : Nat} (hab : a ≤ b) (hb : b ≤ s.size) (hs : (breakPatterns d a b).size = s.size) :
    Calls Try.prog 50 #[s.v, .int .i64 a, .int .i64 b] u fun e w' => e = .returned (.tuple #[]) ∧ s.In w0 W B (breakPatterns d a b) w' := by
  have c := Any.breakPatterns_func_cells_w (P := Try.prog) (ρ := Try.laysGg6_ren) { Try.laysGg6 with } s.enc s.k hk (.func s.g) #[] s.lb s.sf s.sb s.blk s.off a b d u (by rw [h.1.2.2]; exact K) h.1.2.1.1 (h.1.lt O) hab (by rw [h.1.2.2]; exact hb) (by rw [h.1.2.2]; exact O.big)
  change Calls Try.prog 50 _ _ _ at c
  refine c.mono ?_
  rintro e w' ⟨he, n, os, rfl⟩
  exact ⟨he, h.world hs O⟩
theorem reverse_in {s : St α} {w0 W : World} (O : s.Ok w0) (hk : ∀ x, (s.enc x).length = s.k) (K : SwapSwapsK Try.prog s.sf s.sb s.enc s.k s.blk s.off s.size) {B : Nat} {d : Array α} {u : World} (h : s.In w0 W B d u) {a b : Nat} (hab : a ≤ b) (hb : b ≤ s.size) (hs : (reverseRange d a b).size = s.size) :
    Calls Try.prog 52 #[s.v, .int .i64 a, .int .i64 b] u fun e w' => e = .returned (.tuple #[]) ∧ s.In w0 W B (reverseRange d a b) w' := by
  have c := Try.reverseRange_func_cells_w s.enc s.k hk (.func s.g) #[] s.lb s.sf s.sb s.blk s.off a b d u (by rw [h.1.2.2]; exact K) h.1.2.1.1 (h.1.lt O) hab (by rw [h.1.2.2]; exact hb) (by rw [h.1.2.2]; exact O.big)
  refine c.mono ?_
  rintro e w' ⟨he, n, os, rfl⟩
  exact ⟨he, h.world hs O⟩
/-- one round, told -/
structure Rnd (lt : α → α → Bool) (d : Array α) (a b limit : Nat) (wb wp : Bool) (R : Rd α) : Prop where
  no : wb = false → R.d1 = breakPatterns d a b ∧ R.lim = limit - 1
  yes : wb = true → R.d1 = d ∧ R.lim = limit
  lim : R.lim ≤ limit
  c : R.c = choosePivot lt R.d1 a b
  dec : R.c.2 = .decreasing → R.d2 = reverseRange R.d1 a b ∧ R.pivot = (b - 1) - (R.c.1 - a) ∧ R.hint = .increasing
  other : R.c.2 ≠ .decreasing → R.d2 = R.d1 ∧ R.pivot = R.c.1 ∧ R.hint = R.c.2
  py : (wb && wp && decide (R.hint = .increasing)) = true → R.pi = partialInsertionSort lt R.d2 a b
  pn : (wb && wp && decide (R.hint = .increasing)) = false → R.pi = (R.d2, false)
  facts : R.d1.size = d.size ∧ Sort.Below lt a b R.d1 ∧ (a ≤ R.c.1 ∧ R.c.1 < b) ∧ R.d2.size = d.size ∧ Sort.Below lt a b R.d2 ∧ (a ≤ R.pivot ∧ R.pivot < b) ∧ R.pi.1.size = d.size ∧ Sort.Below lt a b R.pi.1
  done : R.pi.2 = true → pdq lt d a b limit wb wp = R.pi.1
  eq : R.pi.2 = false → (decide (a > 0) && !lt R.pi.1[a - 1]! R.pi.1[R.pivot]!) = true → a < (partitionEqual lt R.pi.1 a b R.pivot).1 ∧ (partitionEqual lt R.pi.1 a b R.pivot).1 ≤ b →
    pdq lt d a b limit wb wp = pdq lt (partitionEqual lt R.pi.1 a b R.pivot).2 (partitionEqual lt R.pi.1 a b R.pivot).1 b R.lim wb wp
  left : R.pi.2 = false → (decide (a > 0) && !lt R.pi.1[a - 1]! R.pi.1[R.pivot]!) = false → a ≤ (partition lt R.pi.1 a b R.pivot).1 ∧ (partition lt R.pi.1 a b R.pivot).1 < b → (partition lt R.pi.1 a b R.pivot).1 - a < b - (partition lt R.pi.1 a b R.pivot).1 →
    pdq lt d a b limit wb wp = pdq lt (pdq lt (partition lt R.pi.1 a b R.pivot).2.2 a (partition lt R.pi.1 a b R.pivot).1 R.lim true true) ((partition lt R.pi.1 a b R.pivot).1 + 1) b R.lim (decide ((partition lt R.pi.1 a b R.pivot).1 - a ≥ (b - a) / 8)) (partition lt R.pi.1 a b R.pivot).2.1
  right : R.pi.2 = false → (decide (a > 0) && !lt R.pi.1[a - 1]! R.pi.1[R.pivot]!) = false → a ≤ (partition lt R.pi.1 a b R.pivot).1 ∧ (partition lt R.pi.1 a b R.pivot).1 < b → ¬ (partition lt R.pi.1 a b R.pivot).1 - a < b - (partition lt R.pi.1 a b R.pivot).1 →
    pdq lt d a b limit wb wp = pdq lt (pdq lt (partition lt R.pi.1 a b R.pivot).2.2 ((partition lt R.pi.1 a b R.pivot).1 + 1) b R.lim true true) a (partition lt R.pi.1 a b R.pivot).1 R.lim (decide (b - (partition lt R.pi.1 a b R.pivot).1 ≥ (b - a) / 8)) (partition lt R.pi.1 a b R.pivot).2.1
theorem rnd_any {lt : α → α → Bool} (hO : SWO lt) {d : Array α} {a b limit : Nat} {wb wp : Bool} (hab : a < b) (hb : b ≤ d.size) (hB : Sort.Below lt a b d) (h12 : ¬ b - a ≤ 12) (h0 : ¬ limit = 0) : ∃ R, Rnd lt d a b limit wb wp R := by
  refine ⟨rd lt d a b limit wb wp, ?_, ?_, rd_lim_le, rd_c, rd_dec, rd_not, rd_pi_yes, rd_pi_no, rd_facts hO partialInsertionSort_holds reverseRange_holds hab hb hB, pdq_done h12 h0, pdq_eq h12 h0, pdq_left h12 h0, pdq_right h12 h0⟩
  · rintro rfl; exact rd_false
  · rintro rfl; exact rd_true
end Go.Proofs.Ytleggfofgpiabaa.SO
