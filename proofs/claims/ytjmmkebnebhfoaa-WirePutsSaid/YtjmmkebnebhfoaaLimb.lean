/-
  Two calls, each with a conversion behind it, in whatever order: one way behind them.
-/
import Derived.Deep.RegionHeld3
set_option linter.unusedSimpArgs false
set_option linter.unusedVariables false
namespace Go.Proofs.Ytjmmkebnebhfoaa.LM
open Go
section
variable {P : Program} {ops : Array Oper} {Q : Exit → Act → World → Prop} {md : Region.Mode} {S : World → Prop}

theorem put_comm (a : Act) {p q : Tmp} (x y : Value) (h : p ≠ q) : (a.put (some p) x).put (some q) y = (a.put (some q) y).put (some p) x := by
  show ({ a with tmps := (a.tmps.setIfInBounds p x).setIfInBounds q y } : Act) = { a with tmps := (a.tmps.setIfInBounds q y).setIfInBounds p x }
  rw [Array.setIfInBounds_comm x y h]
/-- one step of an operation -/
def Step (P : Program) (ops : Array Oper) (Q : Exit → Act → World → Prop) (o : Oper) (a : Act) (w : World) (K : Act → World → Prop) : Prop :=
  if Region.wanted o (yielded ops a.tmps) = true then Oper.wp P o a w K Q else K (a.put o.dst undef) w
theorem limb {fuel : Nat} {listed : Array Bool} {a : Act} {w : World} (i j k m : Nat) {oi oj ok om : Oper} {pi p q r : Tmp} (A B : Value → World → Prop) (x y : Value)
    (hi : ops[i]? = some oi) (hj : ops[j]? = some oj) (hk : ops[k]? = some ok) (hm : ops[m]? = some om)
    (di : oi.dst = some pi) (dj : oj.dst = some p) (dk : ok.dst = some q) (dm : om.dst = some r) (hpq : p ≠ q) (hpr : p ≠ r) (hjk : j ≠ k) (hjm : j ≠ m)
    (r1 : Region.ready md ops listed = [i]) (r2 : Region.ready md ops (listed.setIfInBounds i true) = [j, k])
    (r3 : Region.ready md ops ((listed.setIfInBounds i true).setIfInBounds j true) = [k])
    (r4 : Region.ready md ops (((listed.setIfInBounds i true).setIfInBounds j true).setIfInBounds k true) = [m])
    (r5 : Region.ready md ops ((listed.setIfInBounds i true).setIfInBounds k true) = [j, m])
    (r6 : Region.ready md ops (((listed.setIfInBounds i true).setIfInBounds k true).setIfInBounds m true) = [j])
    (s1 : ∀ K, (∀ v a1 u, a1 = a.put (some pi) v → S u → A v u → K a1 u) → Step P ops Q oi a w K)
    (s2 : ∀ v u, S u → A v u → ∀ K, (∀ a1, a1 = (a.put (some pi) v).put (some p) x → K a1 u) → Step P ops Q oj (a.put (some pi) v) u K)
    (s3 : ∀ v u, S u → A v u → ∀ K, (∀ v' a1 u', a1 = ((a.put (some pi) v).put (some p) x).put (some q) v' → S u' → A v u' → B v' u' → K a1 u') → Step P ops Q ok ((a.put (some pi) v).put (some p) x) u K)
    (s4 : ∀ v v' u, S u → B v' u → ∀ K, (∀ a1, a1 = (((a.put (some pi) v).put (some p) x).put (some q) v').put (some r) y → K a1 u) → Step P ops Q om (((a.put (some pi) v).put (some p) x).put (some q) v') u K)
    (t3 : ∀ v u, S u → A v u → ∀ K, (∀ v' a1 u', a1 = (a.put (some pi) v).put (some q) v' → S u' → A v u' → B v' u' → K a1 u') → Step P ops Q ok (a.put (some pi) v) u K)
    (t2 : ∀ v v' u, S u → A v u → ∀ K, (∀ a1, a1 = ((a.put (some pi) v).put (some q) v').put (some p) x → K a1 u) → Step P ops Q oj ((a.put (some pi) v).put (some q) v') u K)
    (t4 : ∀ v v' u, S u → B v' u → ∀ K, (∀ a1, a1 = ((a.put (some pi) v).put (some q) v').put (some r) y → K a1 u) → Step P ops Q om ((a.put (some pi) v).put (some q) v') u K)
    (u2 : ∀ v v' u, S u → A v u → ∀ K, (∀ a1, a1 = (((a.put (some pi) v).put (some q) v').put (some r) y).put (some p) x → K a1 u) → Step P ops Q oj (((a.put (some pi) v).put (some q) v').put (some r) y) u K)
    (tail : ∀ v v' u, S u → wpAnyH P md ops Q S fuel ((((listed.setIfInBounds i true).setIfInBounds j true).setIfInBounds k true).setIfInBounds m true) ((((a.put (some pi) v).put (some p) x).put (some q) v').put (some r) y) u) :
    wpAnyH P md ops Q S (fuel + 4) listed a w := by
  refine wpAnyH_ready r1 (by simp) ?_
  refine AllReadyH.cons hi (fun K hK => s1 K ?_) AllReadyH.nil
  rintro v a1 u rfl hS hA
  rw [← di]
  refine hK.out _ _ hS (fun _ => ?_)
  rw [di]
  refine wpAnyH_ready r2 (by simp) ?_
  refine AllReadyH.cons hj (fun K hK => s2 v u hS hA K ?_) (AllReadyH.cons hk (fun K hK => t3 v u hS hA K ?_) AllReadyH.nil)
  · rintro a2 rfl
    refine hK.out _ _ hS (fun _ => ?_)
    refine wpAnyH_ready r3 (by simp) ?_
    refine AllReadyH.cons hk (fun K hK => s3 v u hS hA K ?_) AllReadyH.nil
    rintro v' a3 u' rfl hS' hA' hB'
    refine hK.out _ _ hS' (fun _ => ?_)
    refine wpAnyH_ready r4 (by simp) ?_
    refine AllReadyH.cons hm (fun K hK => s4 v v' u' hS' hB' K ?_) AllReadyH.nil
    rintro a4 rfl
    exact hK.out _ _ hS' (fun _ => tail v v' u' hS')
  · rintro v' a3 u' rfl hS' hA' hB'
    refine hK.out _ _ hS' (fun _ => ?_)
    refine wpAnyH_ready r5 (by simp) ?_
    refine AllReadyH.cons hj (fun K hK => t2 v v' u' hS' hA' K ?_) (AllReadyH.cons hm (fun K hK => t4 v v' u' hS' hB' K ?_) AllReadyH.nil)
    · rintro a2 rfl
      refine hK.out _ _ hS' (fun _ => ?_)
      rw [put_comm _ v' x (Ne.symm hpq), Array.setIfInBounds_comm true true (Ne.symm hjk)]
      refine wpAnyH_ready r4 (by simp) ?_
      refine AllReadyH.cons hm (fun K hK => s4 v v' u' hS' hB' K ?_) AllReadyH.nil
      rintro a4 rfl
      exact hK.out _ _ hS' (fun _ => tail v v' u' hS')
    · rintro a4 rfl
      refine hK.out _ _ hS' (fun _ => ?_)
      refine wpAnyH_ready r6 (by simp) ?_
      refine AllReadyH.cons hj (fun K hK => u2 v v' u' hS' hA' K ?_) AllReadyH.nil
      rintro a2 rfl
      refine hK.out _ _ hS' (fun _ => ?_)
      rw [put_comm _ y x (Ne.symm hpr), put_comm _ v' x (Ne.symm hpq), Array.setIfInBounds_comm true true (Ne.symm hjm), Array.setIfInBounds_comm true true (Ne.symm hjk)]
      exact tail v v' u' hS'
end
end Go.Proofs.Ytjmmkebnebhfoaa.LM
