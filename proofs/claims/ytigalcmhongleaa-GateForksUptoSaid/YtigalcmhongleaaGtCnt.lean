/-
  What a call does to the gate of its module and to the gates that are free. Lists alone.
-/
import Derived.Test.YtigalcmhongleaaGtInv
set_option linter.unusedSimpArgs false
set_option linter.unusedVariables false
namespace Go.Proofs.Ytigalcmhongleaa.GA
open Go.RowKit WM NR OM OR
theorem place_at {f : Tb} (h : Inv f) {k : Nat} (hk : k < 8) {m : List UInt8} (h1 : (f k).ow ≠ 0) (h2 : (f k).nm = m) : place f m = (k : Int) := by
  rcases place_cases f m with ⟨_, hn⟩ | ⟨j, hj, e, h3, h4⟩
  · exact absurd h2 (hn k hk h1)
  · by_cases ej : j = k
    · rw [← ej]; exact e
    · exact absurd (h4.trans h2.symm) (h.one j k hj hk ej h3 h1).2
/-- the four ways: nothing changed; a module's gate turned; given; taken -/
inductive Way (f f' : Tb) (x : Ac) : Prop where
  | no (e : f' = f)
  | turn (k : Nat) (hk : k < 8) (p : place f x.b.nm = (k : Int)) (q : place f' x.b.nm = (k : Int)) (fr : freeM f' = freeM f) (nm : (f' k).nm = x.b.nm)
  | give (k : Nat) (hk : k < 8) (p : place f x.b.nm = -1) (q : place f' x.b.nm = (k : Int)) (fr : freeM f' = freeM f - 1) (kd : x.kind % 5 ≠ 2 ∧ x.kind % 5 ≠ 3 ∧ x.kind % 5 ≠ 4)
  | take (k : Nat) (hk : k < 8) (p : place f x.b.nm = (k : Int)) (q : place f' x.b.nm = -1) (fr : freeM f' = freeM f + 1) (kd : x.kind % 5 = 3)
theorem act_way {f : Tb} (h : Inv f) (x : Ac) : Way f (actM f x) x := by
  have hi := inv_act h x
  unfold actM actR at hi ⊢
  by_cases h2 : x.kind % 5 = 2
  · rw [if_pos h2] at hi ⊢
    rcases turn_what f x.b with e | ⟨k, hk, e, ho, h5, h6, hn⟩
    · exact .no e
    · rw [e] at hi ⊢
      refine .turn k hk (place_at h hk h5 h6) (place_at hi hk (by rw [setT_same]; exact ho) (by rw [setT_same])) ?_ (by rw [setT_same])
      rw [free_set hk, if_neg ho, if_neg h5]; omega
  · rw [if_neg h2] at hi ⊢
    by_cases h3 : x.kind % 5 = 3
    · rw [if_pos h3] at hi ⊢
      rcases close_what f x.b.nm with ⟨e, -⟩ | ⟨k, hk, e, h5, h6⟩
      · exact .no e
      · rw [e] at hi ⊢
        refine .take k hk (place_at h hk h5 h6) ?_ ?_ h3
        · rcases place_cases (setT f k b0) x.b.nm with ⟨e2, _⟩ | ⟨j, hj, _, h7, h8⟩
          · exact e2
          · by_cases ej : j = k
            · subst ej; rw [setT_same] at h7; exact absurd rfl h7
            · rw [setT_other ej] at h7 h8
              exact absurd (h8.trans h6.symm) (h.one j k hj hk ej h7 h5).2
        · rw [free_set hk, if_pos (show b0.ow = 0 from rfl), if_neg h5]; omega
    · rw [if_neg h3] at hi ⊢
      by_cases h4 : x.kind % 5 = 4
      · rw [if_pos h4]
        exact .no (by unfold findM; split <;> rfl)
      · rw [if_neg h4] at hi ⊢
        rcases open_what f x.b with e | ⟨k, hk, e, ho, hz, hp, hn⟩
        · exact .no e
        · rw [e] at hi ⊢
          refine .give k hk hp (place_at hi hk (by rw [setT_same]; exact ho) (by rw [setT_same])) ?_ ⟨h2, h3, h4⟩
          rw [free_set hk, if_neg ho, if_pos hz]; omega
/-- what the law Counts asks of a call -/
theorem counts {f : Tb} (h : Inv f) (x : Ac) (hk : 0 ≤ x.kind) : (freeM (actM f x) = freeM f ∧ (place f x.b.nm < 0 ↔ place (actM f x) x.b.nm < 0)) ∨ (freeM (actM f x) = freeM f + 1 ∧ 0 ≤ place f x.b.nm ∧ place (actM f x) x.b.nm < 0 ∧ x.kind % 5 = 3) ∨ (freeM (actM f x) = freeM f - 1 ∧ place f x.b.nm < 0 ∧ 0 ≤ place (actM f x) x.b.nm ∧ x.kind % 5 ≤ 1) := by
  rcases act_way h x with e | ⟨k, _, p, q, fr, _⟩ | ⟨k, _, p, q, fr, a, b, c⟩ | ⟨k, _, p, q, fr, kd⟩
  · left; rw [e]; exact ⟨rfl, Iff.rfl⟩
  · left; rw [p, q]; exact ⟨fr, Iff.rfl⟩
  · right; right; rw [p, q]; exact ⟨fr, by omega, by omega, by omega⟩
  · right; left; rw [p, q]; exact ⟨fr, by omega, by omega, kd⟩
/-- what the law Keeps asks of a call -/
theorem keeps {f : Tb} (h : Inv f) (x : Ac) (h1 : 0 ≤ place f x.b.nm) (h2 : 0 ≤ place (actM f x) x.b.nm) : place f x.b.nm = place (actM f x) x.b.nm ∧ ((actM f x) (place (actM f x) x.b.nm).toNat).nm = x.b.nm := by
  have nm : ∀ (g : Tb) (m : List UInt8), 0 ≤ place g m → (g (place g m).toNat).nm = m := fun g m hp => by
    rcases place_cases g m with ⟨e, _⟩ | ⟨k, _, e, _, h4⟩
    · omega
    · rw [e, Int.toNat_natCast]; exact h4
  refine ⟨?_, nm _ _ h2⟩
  rcases act_way h x with e | ⟨k, _, p, q, fr, _⟩ | ⟨k, _, p, q, fr, a, b, c⟩ | ⟨k, _, p, q, fr, kd⟩
  · rw [e]
  · rw [p, q]
  · omega
  · omega
end Go.Proofs.Ytigalcmhongleaa.GA
