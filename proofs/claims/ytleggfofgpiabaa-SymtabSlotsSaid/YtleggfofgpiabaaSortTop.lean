/-
  sort.Slice of a slice of entries, over a comparison that makes memory of its own. Nothing here is a statement of the seed.
-/
import Derived.Test.YtleggfofgpiabaaSortPdq
import Derived.Shelf.GgSortFunc.Tiny
set_option linter.unusedSimpArgs false
set_option linter.unusedVariables false
namespace Go.Proofs.Ytleggfofgpiabaa.SO
open Go.Shelf Go.RowKit Go.Lib Go.Sort WM NR OM OR
variable {α : Type} [Inhabited α]
set_option maxHeartbeats 4000000
set_option maxRecDepth 100000
noncomputable def infoS : TypeInfo := (Try.prog.info? 28).get (by kernel_rfl)
noncomputable def infoE : TypeInfo := (Try.prog.info? 33).get (by kernel_rfl)
theorem infoK (n : Nat) (h2 : 2 ≤ n) : Lib.swapperK n infoE 25 = 9 := by
  have a : infoE.hasPointers = true := by kernel_rfl
  have b : infoE.bytes = 56 := by kernel_rfl
  have c : (n == 0) = false := by simp; omega
  have d : (n == 1) = false := by simp; omega
  simp [Lib.swapperK, a, b, c, d]
theorem swap_run (enc : α → List Value) (hk : ∀ x, (enc x).length = 5) (h1 : ∀ x, ∀ v ∈ enc x, v.oneCell' = true) (blk off n c : Nat) :
    SwapSwapsK Try.prog 45 #[.slice (some ⟨blk, off, none⟩) n c, typeHandle Try.prog 33] enc 5 blk off n :=
  swapSwapsK_of_literal false 45 (fun args W => run_callFunc_extern Try.func45 (by kernel_rfl) (by kernel_rfl) (by kernel_rfl) (e := Extern.ReflectliteSwapper.swap false) (by kernel_rfl) args W)
    33 infoE (by kernel_rfl) enc 5 hk (by kernel_rfl) (fun _ => by kernel_rfl) h1 blk off n c
theorem swap_told {s : St α} (hk : ∀ x, (s.enc x).length = s.k) (K : SwapSwapsK Try.prog s.sf s.sb s.enc s.k s.blk s.off s.size) (W : World) (d : Array α) (h : s.Row W d) (hs : d.size = s.size) (i j : Nat) (hi : i < s.size) (hj : j < s.size) :
    ∃ W', (callFunc s.sf (#[.int .i64 i, .int .i64 j] ++ s.sb)).run Try.prog W = .ok (.value (.tuple #[])) W' ∧ W.grownBy W' (some s.blk) ∧ s.Row W' (swp d i j) := by
  obtain ⟨r1, cs, r2, r3⟩ := h
  have hr := K W d r1 hs i j hi hj
  have e1 := putRowK_self s.enc s.k W s.blk s.off d r1
  have e2 := putRowK_swp s.enc s.k hk W s.blk s.off d i j (by omega) (by omega)
  rw [e1] at e2
  rw [e2] at hr
  have e3 : sortWorldK s.enc s.k W s.blk s.off 0 (swp d i j) #[] = putRowK s.enc s.k W s.blk s.off (swp d i j) := by
    unfold sortWorldK
    rw [grow_empty]
    rfl
  refine ⟨_, hr, by rw [← e3]; exact sortWorld_grown _ _ _ _ _ _ _ _, holdsK_putRowK s.enc s.k W s.blk s.off d _ r1 (by rw [size_swp]), ?_⟩
  obtain ⟨cs', r4, r5⟩ := sortWorld_form s.enc s.k W s.blk s.off 0 (swp d i j) #[] r2
  rw [e3] at r4
  exact ⟨cs', r4, r5.trans r3⟩
theorem slice_any (enc : α → List Value) (hk : ∀ x, (enc x).length = 5) (h1 : ∀ x, ∀ v ∈ enc x, v.oneCell' = true) (lt : α → α → Bool) (hO : SWO lt) (g : Nat) (lb : Array Value) (eg : ∀ args w, (callFunc g args).run Try.prog w = .ok (.enter g args) w)
    (blk off c : Nat) (d : Array α) (h2 : 2 ≤ d.size) (hsz : d.size < 4611686018427387904) (w : World) {cs : Array Value} (hf : w.heap[blk]? = some (.cells cs 33 (0, 0))) (hH : HoldsK enc 5 w blk off d)
    (hless : ∀ (W : World) (d' : Array α), w.grownBy W (some blk) → HoldsK enc 5 W blk off d' → d'.size = d.size → ∀ i j : Nat, i < d.size → j < d.size → Calls Try.prog g (#[.int .i64 i, .int .i64 j] ++ lb) W fun e w' => e = .returned (.bool (lt d'[i]! d'[j]!)) ∧ Go.RowKit.Below W.heap.size W w') :
    Calls Try.prog 15 #[.iface 28 (.slice (some ⟨blk, off, none⟩) d.size c), .func (.func g) #[] lb] w fun e w' =>
      e = .returned (.tuple #[]) ∧ ∃ d', PermIn 0 d.size d d' ∧ SortedIn lt 0 d.size d' ∧ w.grownBy w' (some blk) ∧ HoldsK enc 5 w' blk off d' ∧ ∃ cs', w'.heap[blk]? = some (.cells cs' 33 (0, 0)) ∧ cs'.size = cs.size := by
  have hblk : blk < w.heap.size := (Array.getElem?_eq_some_iff.1 hf).1
  have hc := Any.sort_Slice_of_pdq (P := Try.prog) (ρ := Try.laysGg6_ren) { Try.laysGg6 with } 28 33 infoS infoE (by kernel_rfl) (by kernel_rfl) (by kernel_rfl) (by kernel_rfl) 25 (fun _ => by kernel_rfl)
    (some ⟨blk, off, none⟩) d.size c hsz 45 (by rw [infoK _ h2]; kernel_rfl) (.func g) #[] lb w
    (fun w' => ∃ d', PermIn 0 d.size d d' ∧ SortedIn lt 0 d.size d' ∧ w.grownBy w' (some blk) ∧ HoldsK enc 5 w' blk off d' ∧ ∃ cs', w'.heap[blk]? = some (.cells cs' 33 (0, 0)) ∧ cs'.size = cs.size) ?_
  · change Calls Try.prog 15 _ _ _ at hc
    exact hc
  have hB : sliceBound Try.prog 33 infoE 25 (some ⟨blk, off, none⟩) d.size c = #[.slice (some ⟨blk, off, none⟩) d.size c, typeHandle Try.prog 33] := by
    unfold sliceBound; rw [infoK _ h2]; rfl
  rw [hB]
  obtain ⟨w0, hw0⟩ : ∃ w0, w0 = sliceWorld Try.prog Try.laysGg6_ren 28 (some ⟨blk, off, none⟩) d.size c w := ⟨_, rfl⟩
  have hb0 : Go.RowKit.Below w.heap.size w w0 := by
    rw [hw0]
    unfold sliceWorld
    exact ((Below.refl _ _).alloc (Nat.le_refl _) _).alloc (by simp) _
  rw [← hw0]
  clear hw0
  have hg0 : w.grownBy w0 (some blk) := grownBy_below _ hb0
  let s : St α := ⟨g, lb, 45, #[.slice (some ⟨blk, off, none⟩) d.size c, typeHandle Try.prog 33], enc, 5, lt, blk, off, d.size, 33, cs.size⟩
  have K : SwapSwapsK Try.prog s.sf s.sb s.enc s.k s.blk s.off s.size := swap_run enc hk h1 blk off d.size c
  have O : s.Ok w0 := ⟨eg, fun W d' hA i j hi hj => hless W d' (grownBy_trans hg0 hA.1) hA.2.1.1 hA.2.2 i j hi hj, swap_told hk K, Nat.lt_of_lt_of_le hblk hb0.size, hsz⟩
  have hA : s.At w0 d w0 := by
    have e := hb0.block blk hblk
    exact ⟨grownBy_refl _ _, ⟨holdsK_same hH e, cs, by show w0.heap[blk]? = _; rw [e]; exact hf, rfl⟩, rfl⟩
  have hlim : Lib.bitLen d.size < 4611686018427387904 := Nat.lt_of_le_of_lt (Lib.bitLen_le d.size 62 (by omega) (by omega)) (by omega)
  have hp := pdq_any (s := s) O hO hk K (d.size + 1) 0 d.size (Lib.bitLen d.size) d w0 (by omega) hA (Nat.zero_le _) (Nat.le_refl _) hlim (Or.inl rfl)
  obtain ⟨q1, q2⟩ := pdq_sorts lt hO d 0 d.size (Lib.bitLen d.size) true true (Nat.zero_le _) (Nat.le_refl _) (Or.inl rfl)
  change Calls Try.prog 29 _ _ _
  refine hp.mono ?_
  rintro e w' ⟨he, hA2, hg2⟩
  obtain ⟨r1, cs', r2, r3⟩ := hA2.2.1
  exact ⟨he, _, q1, q2, grownBy_trans hg0 hg2, r1, cs', r2, r3⟩
end Go.Proofs.Ytleggfofgpiabaa.SO
