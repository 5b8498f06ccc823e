/-
  What stays of a hart and of a memory's words through a step; memories of eight pages. Plain mathematics; nothing here is a statement of the seed.
-/
import Derived.Test.YtihcellcdkhadaaGreatHartMath
set_option linter.unusedSimpArgs false
set_option linter.unusedVariables false
namespace Go.Proofs.YtihcellcdkhadaaGreat.HM
open Go.RowKit PM MM IM

theorem getD_ok {l : List Int} (h : ∀ x ∈ l, B32 x) (k : Nat) : B32 (l.getD k 0) := by
  rw [List.getD_eq_getElem?_getD]
  cases e : l[k]? with
  | none => exact b32_zero
  | some x => exact h x (List.mem_of_getElem? e)
theorem slotW_ok {k : Int} (h : 0 ≤ k ∧ k < 64) : B32 (slotW k) := by
  unfold slotW
  exact enc_bd (by unfold InsOk; omega)
theorem peek_ok {M : Mm} (ok : WOk M) {a : Int} (ha : 0 ≤ a) : B32 (peek M a) := by
  unfold peek
  split
  · exact slotW_ok ⟨ha, by assumption⟩
  · split
    · exact ok.gt _
    · split
      · exact getD_ok ok.ws _
      · exact b32_zero
theorem fetchW_ok {M : Mm} (ok : WOk M) {a : Int} (ha : 0 ≤ a) (e : Int) : B32 (fetchW M a e) := by
  unfold fetchW
  split
  · exact peek_ok ok ha
  · exact b32_zero
theorem loadW_ok {M : Mm} (ok : WOk M) {a : Int} (ha : 0 ≤ a) (e : Int) : B32 (loadW M a e) := by
  unfold loadW
  split
  · exact peek_ok ok ha
  · exact b32_zero
theorem gate_ok {M : Mm} (ok : WOk M) (g : Int) : B32 (gate M g) := by
  unfold gate
  split
  · exact b32_zero
  · exact ok.gt _
theorem mem_set {l : List Int} {k : Nat} {x y : Int} (h : y ∈ l.set k x) : y = x ∨ y ∈ l := by
  rcases List.mem_or_eq_of_mem_set h with h | h
  · exact Or.inr h
  · exact Or.inl h
theorem WOk.sto {M : Mm} (ok : WOk M) (a : Int) {x : Int} (hx : B32 x) (e o : Int) : WOk (stoM M a x e o) := by
  unfold stoM
  split
  · refine ⟨ok.gt, fun y hy => ?_⟩
    rcases mem_set hy with rfl | h
    · exact hx
    · exact ok.ws _ h
  · exact ok
/-- all that a step needs stays -/
structure ROk (r : Res) : Prop where
  h : HOk r.h
  m : MOk r.m
  w : WOk r.m
theorem goX_ok (t o m : Int) : B32 (goX t o m) := by unfold goX; split <;> exact b32_mod _
theorem ite_ok {c : Prop} [Decidable c] {a b : Res} (ha : c → ROk a) (hb : ¬ c → ROk b) : ROk (if c then a else b) := by
  by_cases h : c
  · rw [if_pos h]; exact ha h
  · rw [if_neg h]; exact hb h
theorem ite_b32 {c : Prop} [Decidable c] {a b : Int} (ha : B32 a) (hb : B32 b) : B32 (if c then a else b) := by split <;> assumption
section
variable {h : Ht} {M : Mm} (ok : HOk h) (mk : MOk M) (wk : WOk M)
include ok mk wk
theorem still_ok (y : Int) : ROk (stillR h M y) := ⟨⟨ok.pc, ok.r, ok.sk, ok.home⟩, mk, wk⟩
theorem turn_ok {t : Int} (ht : B32 t) : ROk (turnR h M t) := ⟨⟨ht, ok.r, ok.sk, ok.home⟩, mk, wk⟩
theorem set_ok (i : Int) {x : Int} (hx : B32 x) : ROk (setR h M i x) := ⟨⟨b32_mod _, putR_ok ok.r i hx, ok.sk, ok.home⟩, mk, wk⟩
theorem pass_ok (e y : Int) : ROk (passR h M e y) := by
  unfold passR
  split
  · exact still_ok ok mk wk y
  · exact ⟨⟨ok.home, ok.r, ok.sk, ok.home⟩, mk, wk⟩
theorem do_ok (own e o d a b m : Int) : ROk (doR h M own e o d a b m) := by
  have hA : B32 (addr h a m) := b32_mod _
  unfold doR
  refine ite_ok (fun _ => still_ok ok mk wk 1) fun _ => ?_
  refine ite_ok (fun _ => turn_ok ok mk wk (b32_mod _)) fun _ => ?_
  refine ite_ok (fun _ => set_ok ok mk wk d (b32_mod _)) fun _ => ?_
  refine ite_ok (fun _ => set_ok ok mk wk d (reck_ok _ (getR_ok ok a) (getR_ok ok b))) fun _ => ?_
  refine ite_ok (fun _ => set_ok ok mk wk d hA) fun _ => ?_
  refine ite_ok (fun _ => ite_ok (fun _ => set_ok ok mk wk d (loadW_ok wk hA.1 _)) fun _ => still_ok ok mk wk 4) fun _ => ?_
  refine ite_ok (fun _ => ite_ok (fun _ => ⟨⟨b32_mod _, ok.r, ok.sk, ok.home⟩, mk.sto _ _ _ _, wk.sto _ (getR_ok ok d) _ _⟩) fun _ => still_ok ok mk wk 5) fun _ => ?_
  refine ite_ok (fun _ => turn_ok ok mk wk (goX_ok _ _ _)) fun _ => ?_
  refine ite_ok (fun _ => turn_ok ok mk wk (ite_b32 (goX_ok _ _ _) (b32_mod _))) fun _ => ?_
  refine ite_ok (fun _ => turn_ok ok mk wk (ite_b32 (b32_mod _) (goX_ok _ _ _))) fun _ => ?_
  refine ite_ok (fun _ => ite_ok (fun _ => still_ok ok mk wk 6) fun _ => ⟨⟨b32_mod _, ok.r, fun x hx => ?_, ok.home⟩, mk, wk⟩) fun _ => ?_
  · rcases List.mem_append.1 hx with hx | hx
    · exact ok.sk x hx
    · rw [List.mem_singleton] at hx
      rw [hx]
      exact b32_mod _
  refine ite_ok (fun _ => ite_ok (fun _ => ⟨⟨getD_ok ok.sk _, ok.r, fun x hx => ok.sk x (List.mem_of_mem_take hx), ok.home⟩, mk, wk⟩) fun _ => pass_ok ok mk wk _ _) fun _ => ?_
  refine ite_ok (fun _ => turn_ok ok mk wk (getR_ok ok a)) fun _ => ?_
  refine ite_ok (fun _ => pass_ok ok mk wk _ _) fun _ => ?_
  exact ite_ok (fun _ => pass_ok ok mk wk _ _) fun _ => turn_ok ok mk wk (b32_mod _)
theorem step_ok (e : Int) : ROk (stepR h M e) := by
  unfold stepR
  exact ite_ok (fun _ => ite_ok (fun _ => ite_ok (fun _ => do_ok ok mk wk ..) fun _ => still_ok ok mk wk 3) fun _ => still_ok ok mk wk 2) fun _ => ⟨ok, mk, wk⟩
end
end Go.Proofs.YtihcellcdkhadaaGreat.HM
