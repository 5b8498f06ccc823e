/-
  What a step may change: one word that its note names, in data; a safepoint is passed with an empty stack, at home. Plain mathematics; nothing here is a statement of the seed.
-/
import Derived.Test.YtihcellcdkhadaaGreatHartMath2
set_option linter.unusedSimpArgs false
set_option linter.unusedVariables false
namespace Go.Proofs.YtihcellcdkhadaaGreat.HM
open Go.RowKit PM MM IM
set_option maxRecDepth 20000
/-- what a step leaves of the hart -/
def GdH (h : Ht) (xe : Int) (r : Res) : Prop :=
  (r.sf = true ∧ r.h.ep = xe ∧ r.h.pc = h.home ∧ r.h.sk = [] ∧ h.sk = [] ∧ r.h.why = 0 ∧ r.h.home = h.home) ∨
  (r.sf = false ∧ r.h.ep = h.ep ∧ r.h.home = h.home ∧ (r.h.why = 0 ∨ r.h.pc = h.pc) ∧ (r.h.sk.length ≤ h.sk.length ∨ r.h.sk.length ≤ 16))
/-- what it leaves of the memory -/
def GdM (M : Mm) (r : Res) : Prop :=
  r.m.pg = M.pg ∧ r.m.ws.length = M.ws.length ∧ ∀ k : Int, 0 ≤ k → peek r.m k = peek M k ∨ (r.st = true ∧ r.nt = k ∧ peek r.m k = r.nx ∧ (gPm M.pg (pageOf k)).wr = true ∧ (gPm M.pg (pageOf k)).ex = false)
structure Gd (h : Ht) (M : Mm) (xe : Int) (r : Res) : Prop where
  h : GdH h xe r
  m : GdM M r
theorem gdm_same {M : Mm} {r : Res} (h : r.m = M) : GdM M r := ⟨by rw [h], by rw [h], fun k _ => Or.inl (by rw [h])⟩
theorem ite_gd {h : Ht} {M : Mm} {xe : Int} {c : Prop} [Decidable c] {a b : Res} (ha : c → Gd h M xe a) (hb : ¬ c → Gd h M xe b) : Gd h M xe (if c then a else b) := by
  by_cases h : c
  · rw [if_pos h]; exact ha h
  · rw [if_neg h]; exact hb h
section
variable {h : Ht} {M : Mm} (mk : MOk M) (hw : h.why = 0) (xe : Int)
theorem still_gd (h : Ht) (M : Mm) (xe y : Int) : Gd h M xe (stillR h M y) := ⟨Or.inr ⟨rfl, rfl, rfl, Or.inr rfl, Or.inl (Nat.le_refl _)⟩, gdm_same rfl⟩
include hw
theorem turn_gd (t : Int) : Gd h M xe (turnR h M t) := ⟨Or.inr ⟨rfl, rfl, rfl, Or.inl hw, Or.inl (Nat.le_refl _)⟩, gdm_same rfl⟩
theorem set_gd (i x : Int) : Gd h M xe (setR h M i x) := ⟨Or.inr ⟨rfl, rfl, rfl, Or.inl hw, Or.inl (Nat.le_refl _)⟩, gdm_same rfl⟩
theorem pass_gd (y : Int) : Gd h M xe (passR h M xe y) := by
  unfold passR
  by_cases hs : 0 < h.sk.length
  · rw [if_pos hs]; exact still_gd h M xe y
  · rw [if_neg hs]
    have e : h.sk = [] := List.length_eq_zero_iff.1 (by omega)
    exact ⟨Or.inl ⟨rfl, rfl, rfl, e, e, hw, rfl⟩, gdm_same rfl⟩
include mk
theorem do_gd (own o d a b m : Int) : Gd h M xe (doR h M own xe o d a b m) := by
  unfold doR
  refine ite_gd (fun _ => still_gd h M xe 1) fun _ => ?_
  refine ite_gd (fun _ => turn_gd hw xe _) fun _ => ?_
  refine ite_gd (fun _ => set_gd hw xe d _) fun _ => ?_
  refine ite_gd (fun _ => set_gd hw xe d _) fun _ => ?_
  refine ite_gd (fun _ => set_gd hw xe d _) fun _ => ?_
  refine ite_gd (fun _ => ite_gd (fun _ => set_gd hw xe d _) fun _ => still_gd h M xe 4) fun _ => ?_
  refine ite_gd (fun _ => ite_gd (fun hs => ?_) fun _ => still_gd h M xe 5) fun _ => ?_
  · obtain ⟨p1, p2, _, p4⟩ := sto_page mk hs
    refine ⟨Or.inr ⟨rfl, rfl, rfl, Or.inl hw, Or.inl (Nat.le_refl _)⟩, ?_, ?_, fun k hk => ?_⟩
    · show (stoM M _ _ _ _).pg = M.pg
      unfold stoM; rw [if_pos hs]; rfl
    · show (stoM M _ _ _ _).ws.length = M.ws.length
      unfold stoM; rw [if_pos hs]; simp [setW]
    · have hA : B32 (addr h a m) := b32_mod _
      by_cases e : k = addr h a m
      · subst e
        exact Or.inr ⟨rfl, rfl, sto_at _ hs p4, p1, p2⟩
      · exact Or.inl (sto_other _ e hk hA.1)
  refine ite_gd (fun _ => turn_gd hw xe _) fun _ => ?_
  refine ite_gd (fun _ => turn_gd hw xe _) fun _ => ?_
  refine ite_gd (fun _ => turn_gd hw xe _) fun _ => ?_
  refine ite_gd (fun _ => ite_gd (fun _ => still_gd h M xe 6) fun hs => ⟨Or.inr ⟨rfl, rfl, rfl, Or.inl hw, Or.inr ?_⟩, gdm_same rfl⟩) fun _ => ?_
  · show (h.sk ++ [up h.pc]).length ≤ 16
    simp; omega
  refine ite_gd (fun _ => ite_gd (fun _ => ⟨Or.inr ⟨rfl, rfl, rfl, Or.inl hw, Or.inl ?_⟩, gdm_same rfl⟩) fun _ => pass_gd hw xe _) fun _ => ?_
  · show (h.sk.take (h.sk.length - 1)).length ≤ h.sk.length
    rw [List.length_take]; omega
  refine ite_gd (fun _ => turn_gd hw xe _) fun _ => ?_
  refine ite_gd (fun _ => pass_gd hw xe _) fun _ => ?_
  exact ite_gd (fun _ => pass_gd hw xe _) fun _ => turn_gd hw xe _
end
theorem step_gd {h : Ht} {M : Mm} (mk : MOk M) (xe : Int) : Gd h M xe (stepR h M xe) := by
  unfold stepR
  refine ite_gd (fun hw => ite_gd (fun _ => ite_gd (fun _ => do_gd mk hw xe ..) fun _ => still_gd h M xe 3) fun _ => still_gd h M xe 2) fun hw => ?_
  exact ⟨Or.inr ⟨rfl, rfl, rfl, Or.inr rfl, Or.inl (Nat.le_refl _)⟩, gdm_same rfl⟩
end Go.Proofs.YtihcellcdkhadaaGreat.HM
