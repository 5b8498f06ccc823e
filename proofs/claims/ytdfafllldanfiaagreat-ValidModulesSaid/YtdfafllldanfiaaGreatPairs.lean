/-
  A region whose operations come in whatever order, walked by one post for each operation and a relation between what any two leave: over any program. Nothing here is a statement of the seed.
-/
import Derived.Test.YtdfafllldanfiaaGreatPosts
set_option linter.unusedSimpArgs false
set_option linter.unusedVariables false
namespace Go.Proofs.YtdfafllldanfiaaGreat.PO
open Go
section
variable {P : Program} {ops : Array Oper} {Q : Exit → Act → World → Prop} {md : Region.Mode} {S : World → Prop}
theorem wpAnyH_pairs0 {l0 : Array Bool} {a0 : Act} {w0 : World} {fuel : Nat} (R : Nat → Value → World → Prop) (J : World → Prop) (D : Nat → Nat → Value → Value → Prop) (hsym : ∀ i j v v', D i j v v' → D j i v' v)
    (hok : okAll md ops l0 a0.tmps.size = true) (hfuel : left l0 ≤ fuel) (hJ : J w0) (hS : ∀ u, J u → S u)
    (step : ∀ i ∈ (List.range ops.size).filter (fun i => !l0.getD i true), ∀ o, ops[i]? = some o → ∀ (a : Act) (u : World), J u →
      (∀ t, outside ops l0 t = true → a.eval (.tmp t) = a0.eval (.tmp t)) →
      (∀ j, (waits md ops l0 i).contains j = true → R j (valOf ops a j) u) →
      (∀ j k, (waits md ops l0 i).contains j = true → (waits md ops l0 i).contains k = true → j ≠ k → D j k (valOf ops a j) (valOf ops a k)) →
      ∀ K : Act → World → Prop, (∀ v u', J u' → (∀ j v, j ≠ i → R j v u → R j v u') → R i (valBy o v) u' → (∀ j vj, j ≠ i → R j vj u → (∀ k, (waits md ops l0 i).contains k = true → k ≠ j → D k j (valOf ops a k) vj) → D i j (valBy o v) vj) → K (a.put o.dst v) u') → o.wp P a u K Q)
    (done : ∀ a u, J u → (∀ t, outside ops l0 t = true → a.tmps[t]? = a0.tmps[t]?) → a.tmps.size = a0.tmps.size → a.defers = a0.defers → (∀ i, l0.getD i true = false → R i (valOf ops a i) u) → Q .normal a u) :
    wpAnyH P md ops Q S fuel l0 a0 w0 := by
  obtain ⟨hsz, hsp⟩ := okAll_spec hok
  have main : ∀ (fuel : Nat) (listed : Array Bool) (a : Act) (w : World), Inv ops l0 a0 R J listed a w → (∀ i j, l0.getD i true = false → listed.getD i true = true → l0.getD j true = false → listed.getD j true = true → i ≠ j → D i j (valOf ops a i) (valOf ops a j)) → left listed ≤ fuel → wpAnyH P md ops Q S fuel listed a w := by
    intro fuel
    induction fuel with
    | zero =>
      intro listed a w I ID hf
      have hnone : Region.ready md ops listed = [] := by
        apply List.eq_nil_iff_forall_not_mem.2
        intro i hi
        have := count_pos (getD_false (mem_ready.1 hi).1)
        unfold left at hf
        omega
      exact ⟨hnone, done a w I.J I.out I.asz I.df fun i hi => I.R i hi (all_listed hok I.size I.sub hnone (i + 1) i (by omega) hi)⟩
    | succ fuel ih =>
      intro listed a w I ID hf
      refine ⟨fun hnone => done a w I.J I.out I.asz I.df fun i hi => I.R i hi (all_listed hok I.size I.sub hnone (i + 1) i (by omega) hi), fun i hi => ?_⟩
      obtain ⟨hun, o, ho, hall⟩ := mem_ready.1 hi
      have h0 : l0.getD i true = false := by
        cases h : l0.getD i true with
        | false => rfl
        | true => rw [I.sub i h] at hun; cases hun
      obtain ⟨o', ho', hg, hdn, hback, hne⟩ := hsp i h0
      obtain rfl : o = o' := Option.some.inj (ho.symm.trans ho')
      have hilt : i < ops.size := (Array.getElem?_eq_some_iff.1 ho).1
      unfold wpOp
      simp only [ho]
      rw [if_pos (by simp [Region.wanted, hg])]
      have hwl : ∀ j, (waits md ops l0 i).contains j = true → l0.getD j true = false ∧ listed.getD j true = true := fun j hj => by
        unfold waits at hj
        rw [ho] at hj
        simp only [List.contains_eq_mem, decide_eq_true_eq, List.mem_map, List.mem_filter, Bool.and_eq_true, Bool.not_eq_true'] at hj
        obtain ⟨e, ⟨he, hb, hl⟩, rfl⟩ := hj
        have hT := hall e (by simpa using he) hb
        refine ⟨hl, ?_⟩
        rcases Nat.lt_or_ge e.on listed.size with h' | h'
        · simp [h'] at hT
          simp [h', hT]
        · simp [Array.getElem?_eq_none h'] at hT
      refine .inl (step i (by simp [hilt]; simpa using h0) o ho a w I.J (fun t ht => ?_) (fun j hj => I.R j (hwl j hj).1 (hwl j hj).2) (fun j k hj hk hjk => ID j k (hwl j hj).1 (hwl j hj).2 (hwl k hk).1 (hwl k hk).2 hjk) _ (fun v u' hJ' hLe hR hD => ⟨hS _ hJ', ih _ _ _ ?_ ?_ ?_⟩))
      · simp only [Act.eval, Array.getD_eq_getD_getElem?]
        rw [I.out t ht]
      · have eself : valOf ops (a.put o.dst v) i = valBy o v := by
          unfold valOf valBy
          rw [ho]
          simp only [Option.bind_some]
          cases hd : o.dst with
          | none => rfl
          | some d =>
            have : d < a.tmps.size := by rw [I.asz]; exact hdn d hd
            simp [Act.eval, Act.put, this]
        have eother : ∀ j, l0.getD j true = false → i ≠ j → valOf ops (a.put o.dst v) j = valOf ops a j := by
          intro j hj hij
          obtain ⟨oj, hoj, _, _, _, hnej⟩ := hsp j hj
          unfold valOf
          rw [hoj]
          simp only [Option.bind_some]
          cases hdj : oj.dst with
          | none => rfl
          | some dj =>
            refine Act.eval_put fun d hd hx => ?_
            have hdd : d = dj := by simpa using hx.symm
            subst hdd
            rcases Nat.lt_or_gt_of_ne hij with h' | h'
            · exact hnej i o d h' h0 ho hd hdj
            · exact hne j oj d h' hj hoj hdj hd
        refine ⟨hJ', fun j hj => ?_, by rw [Array.size_setIfInBounds]; exact I.size, fun t ht => ?_, ?_, ?_, fun j hj hjl => ?_⟩
        · by_cases hij : i = j
          · subst hij; rw [hj] at h0; cases h0
          · rw [getD_set_ne true hij]; exact I.sub j hj
        · cases hd : o.dst with
          | none => exact I.out t ht
          | some d =>
            have hdt : d ≠ t := by
              unfold outside hasDst dstOf at ht
              simp only [List.all_eq_true, List.mem_range, Bool.or_eq_true, bne_iff_ne, Bool.not_eq_true'] at ht
              rcases ht i hilt with (x | x) | x
              · rw [h0] at x; cases x
              · rw [ho] at x; simp [hd] at x
              · rw [ho] at x; simpa [hd] using x
            simp only [Act.put]
            rw [Array.getElem?_setIfInBounds_ne hdt]
            exact I.out t ht
        · cases hd : o.dst with
          | none => exact I.asz
          | some d => simp [Act.put, I.asz]
        · cases hd : o.dst with
          | none => exact I.df
          | some d => exact I.df
        · by_cases hij : i = j
          · subst hij
            rw [eself]
            exact hR
          · rw [getD_set_ne true hij] at hjl
            rw [eother j hj hij]
            exact hLe j _ (Ne.symm hij) (I.R j hj hjl)
      · have eself : valOf ops (a.put o.dst v) i = valBy o v := by
          unfold valOf valBy
          rw [ho]
          simp only [Option.bind_some]
          cases hd : o.dst with
          | none => rfl
          | some d =>
            have : d < a.tmps.size := by rw [I.asz]; exact hdn d hd
            simp [Act.eval, Act.put, this]
        have eother : ∀ j, l0.getD j true = false → i ≠ j → valOf ops (a.put o.dst v) j = valOf ops a j := by
          intro j hj hij
          obtain ⟨oj, hoj, _, _, _, hnej⟩ := hsp j hj
          unfold valOf
          rw [hoj]
          simp only [Option.bind_some]
          cases hdj : oj.dst with
          | none => rfl
          | some dj =>
            refine Act.eval_put fun d hd hx => ?_
            have hdd : d = dj := by simpa using hx.symm
            subst hdd
            rcases Nat.lt_or_gt_of_ne hij with h' | h'
            · exact hnej i o d h' h0 ho hd hdj
            · exact hne j oj d h' hj hoj hdj hd
        intro i1 j1 hi1 li1 hj1 lj1 hne1
        by_cases e1 : i = i1
        · subst e1
          rw [getD_set_ne true hne1] at lj1
          rw [eself, eother j1 hj1 hne1]
          exact hD j1 _ (Ne.symm hne1) (I.R j1 hj1 lj1) (fun k hk hkj => ID k j1 (hwl k hk).1 (hwl k hk).2 hj1 lj1 hkj)
        · rw [getD_set_ne true e1] at li1
          by_cases e2 : i = j1
          · subst e2
            rw [eself, eother i1 hi1 e1]
            exact hsym _ _ _ _ (hD i1 _ (Ne.symm e1) (I.R i1 hi1 li1) (fun k hk hkj => ID k i1 (hwl k hk).1 (hwl k hk).2 hi1 li1 hkj))
          · rw [getD_set_ne true e2] at lj1
            rw [eother i1 hi1 e1, eother j1 hj1 e2]
            exact ID i1 j1 hi1 li1 hj1 lj1 hne1
      · have h1 := count_set (getD_false hun)
        unfold left at hf ⊢
        rw [Array.toList_setIfInBounds]
        omega
  exact main fuel l0 a0 w0 ⟨hJ, fun _ h => h, rfl, fun _ _ => rfl, rfl, rfl, fun j h1 h2 => by rw [h1] at h2; cases h2⟩ (fun i j h1 h2 => by rw [h1] at h2; cases h2) hfuel
/-- the steps, one operation after the other -/
def Steps2 (P : Program) (md : Region.Mode) (ops : Array Oper) (Q : Exit → Act → World → Prop) (l0 : Array Bool) (a0 : Act) (R : Nat → Value → World → Prop) (J : World → Prop) (D : Nat → Nat → Value → Value → Prop) (is : List Nat) : Prop :=
  ∀ i ∈ is, ∀ o, ops[i]? = some o → ∀ (a : Act) (u : World), J u →
      (∀ t, outside ops l0 t = true → a.eval (.tmp t) = a0.eval (.tmp t)) →
      (∀ j, (waits md ops l0 i).contains j = true → R j (valOf ops a j) u) →
      (∀ j k, (waits md ops l0 i).contains j = true → (waits md ops l0 i).contains k = true → j ≠ k → D j k (valOf ops a j) (valOf ops a k)) →
      ∀ K : Act → World → Prop, (∀ v u', J u' → (∀ j v, j ≠ i → R j v u → R j v u') → R i (valBy o v) u' → (∀ j vj, j ≠ i → R j vj u → (∀ k, (waits md ops l0 i).contains k = true → k ≠ j → D k j (valOf ops a k) vj) → D i j (valBy o v) vj) → K (a.put o.dst v) u') → o.wp P a u K Q
theorem Steps2.nil {l0 : Array Bool} {a0 : Act} {R : Nat → Value → World → Prop} {J : World → Prop} {D : Nat → Nat → Value → Value → Prop} : Steps2 P md ops Q l0 a0 R J D [] := fun i hi => by cases hi
theorem Steps2.cons {l0 : Array Bool} {a0 : Act} {R : Nat → Value → World → Prop} {J : World → Prop} {D : Nat → Nat → Value → Value → Prop} {i : Nat} {is : List Nat} {o : Oper} (ho : ops[i]? = some o)
    (h : ∀ (a : Act) (u : World), J u →
      (∀ t, outside ops l0 t = true → a.eval (.tmp t) = a0.eval (.tmp t)) →
      (∀ j, (waits md ops l0 i).contains j = true → R j (valOf ops a j) u) →
      (∀ j k, (waits md ops l0 i).contains j = true → (waits md ops l0 i).contains k = true → j ≠ k → D j k (valOf ops a j) (valOf ops a k)) →
      ∀ K : Act → World → Prop, Shut (∀ v u', J u' → (∀ j v, j ≠ i → R j v u → R j v u') → R i (valBy o v) u' → (∀ j vj, j ≠ i → R j vj u → (∀ k, (waits md ops l0 i).contains k = true → k ≠ j → D k j (valOf ops a k) vj) → D i j (valBy o v) vj) → K (a.put o.dst v) u') → o.wp P a u K Q)
    (hs : Steps2 P md ops Q l0 a0 R J D is) : Steps2 P md ops Q l0 a0 R J D (i :: is) := fun j hj o' ho' a u => by
  rcases List.mem_cons.1 hj with rfl | hj
  · obtain rfl := Option.some.inj (ho.symm.trans ho')
    exact fun h1 h2 h3 h4 K hK => h a u h1 h2 h3 h4 K hK
  · exact hs j hj o' ho' a u
theorem wpAnyH_pairs {l0 : Array Bool} {a0 : Act} {w0 : World} {fuel : Nat} (R : Nat → Value → World → Prop) (J : World → Prop) (D : Nat → Nat → Value → Value → Prop) (hsym : ∀ i j v v', D i j v v' → D j i v' v) (is : List Nat)
    (hok : okAll md ops l0 a0.tmps.size = true) (hfuel : decide (left l0 ≤ fuel) = true) (his : (List.range ops.size).filter (fun i => !l0.getD i true) = is) (hJ : J w0) (hS : ∀ u, J u → S u)
    (step : Steps2 P md ops Q l0 a0 R J D is)
    (done : ∀ a u, J u → (∀ t, outside ops l0 t = true → a.tmps[t]? = a0.tmps[t]?) → a.tmps.size = a0.tmps.size → a.defers = a0.defers → (∀ i, l0.getD i true = false → R i (valOf ops a i) u) → Q .normal a u) :
    wpAnyH P md ops Q S fuel l0 a0 w0 :=
  wpAnyH_pairs0 R J D hsym hok (of_decide_eq_true hfuel) hJ hS (by rw [his]; exact step) done
end
end Go.Proofs.YtdfafllldanfiaaGreat.PO
