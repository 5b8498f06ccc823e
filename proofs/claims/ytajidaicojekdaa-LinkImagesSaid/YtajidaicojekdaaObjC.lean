/-
  Joined texts: Posts, Pairs, ObjCopyO. Nothing here is a statement of the seed.
-/
import Derived.Test.YtajidaicojekdaaWireA
import Derived.Deep.RegionHeld3
import Derived.Test.YtajidaicojekdaaObjK
import Derived.Lib.AppendZerosOnto
set_option linter.unusedSimpArgs false
set_option linter.unusedVariables false
/-
  A region whose operations come in whatever order, walked by one post for each operation: over any program. Nothing here is a statement of the seed.
-/
namespace Go.Proofs.Ytajidaicojekdaa.PO
open Go
section
variable {P : Program} {ops : Array Oper} {Q : Exit → Act → World → Prop} {md : Region.Mode} {S : World → Prop}
def dstOf (ops : Array Oper) (i : Nat) : Tmp := ((ops[i]?).bind (·.dst)).getD 0
/-- does it write a slot -/
def hasDst (ops : Array Oper) (i : Nat) : Bool := ((ops[i]?).bind (·.dst)).isSome
/-- what it has left in its slot -/
def valOf (ops : Array Oper) (a : Act) (i : Nat) : Value := match (ops[i]?).bind (·.dst) with
  | some d => a.eval (.tmp d)
  | none => undef
def valBy (o : Oper) (v : Value) : Value := match o.dst with
  | some _ => v
  | none => undef
/-- the operations that have not come up yet and that i waits for -/
def waits (md : Region.Mode) (ops : Array Oper) (l0 : Array Bool) (i : Nat) : List Nat := match ops[i]? with
  | some o => (o.after.toList.filter fun e => Region.binds md e && !l0.getD e.on true).map (·.on)
  | none => []
def okOp (md : Region.Mode) (ops : Array Oper) (l0 : Array Bool) (n i : Nat) : Bool := l0.getD i true || match ops[i]? with
  | some o => o.guard.isNone && (!hasDst ops i || decide (dstOf ops i < n)) && o.after.all (fun e => !Region.binds md e || decide (e.on < i)) && (List.range i).all (fun j => l0.getD j true || !hasDst ops j || !hasDst ops i || dstOf ops j != dstOf ops i)
  | none => false
def okAll (md : Region.Mode) (ops : Array Oper) (l0 : Array Bool) (n : Nat) : Bool := decide (l0.size = ops.size) && (List.range ops.size).all (okOp md ops l0 n)
/-- a slot that no operation writes which has not come up yet -/
def outside (ops : Array Oper) (l0 : Array Bool) (t : Tmp) : Bool := (List.range ops.size).all fun j => l0.getD j true || !hasDst ops j || dstOf ops j != t
def left (l : Array Bool) : Nat := l.toList.count false
theorem okAll_spec {l0 : Array Bool} {n : Nat} (h : okAll md ops l0 n = true) : l0.size = ops.size ∧ ∀ i, l0.getD i true = false → ∃ o, ops[i]? = some o ∧ o.guard = none ∧ (∀ d, o.dst = some d → d < n) ∧ (∀ e ∈ o.after, Region.binds md e = true → e.on < i) ∧ ∀ j oj d, j < i → l0.getD j true = false → ops[j]? = some oj → oj.dst = some d → o.dst ≠ some d := by
  unfold okAll at h
  simp only [Bool.and_eq_true, decide_eq_true_eq, List.all_eq_true, List.mem_range] at h
  refine ⟨h.1, fun i hi => ?_⟩
  have hlt : i < ops.size := by
    rw [← h.1]
    rcases Nat.lt_or_ge i l0.size with h' | h'
    · exact h'
    · simp [Array.getElem?_eq_none h'] at hi
  have h2 := h.2 i hlt
  unfold okOp at h2
  rw [hi, Bool.false_or] at h2
  have ho : ops[i]? = some ops[i] := by simp [hlt]
  rw [ho] at h2
  simp only [Bool.and_eq_true, Bool.or_eq_true, decide_eq_true_eq, List.all_eq_true, List.mem_range, bne_iff_ne, Option.isNone_iff_eq_none, Bool.not_eq_true'] at h2
  obtain ⟨⟨⟨g1, g3⟩, g4⟩, g5⟩ := h2
  refine ⟨ops[i], ho, g1, fun d hd => ?_, fun e he hb => ?_, fun j oj d hj hj0 hoj hd hd' => ?_⟩
  · rcases g3 with g3 | g3
    · unfold hasDst at g3
      rw [ho] at g3
      simp [hd] at g3
    · unfold dstOf at g3
      rw [ho] at g3
      simpa [hd] using g3
  · have := Array.all_eq_true_iff_forall_mem.1 g4 e he
    simp only [hb, Bool.not_true, Bool.false_or, decide_eq_true_eq] at this
    exact this
  · have x := g5 j hj
    unfold hasDst dstOf at x
    rw [ho, hoj] at x
    simp [hd, hd'] at x
    simp [x] at hj0
theorem count_set {l : List Bool} {i : Nat} (h : l[i]? = some false) : (l.set i true).count false + 1 = l.count false := by
  induction l generalizing i with
  | nil => simp at h
  | cons b l ih =>
    cases i with
    | zero =>
      simp at h
      subst h
      simp
    | succ i =>
      simp only [List.getElem?_cons_succ] at h
      have := ih h
      rw [List.set_cons_succ, List.count_cons, List.count_cons]
      omega
theorem count_pos {l : List Bool} {i : Nat} (h : l[i]? = some false) : 0 < l.count false := List.count_pos_iff.2 (List.mem_of_getElem? h)
theorem getD_false {l : Array Bool} {i : Nat} (h : l.getD i true = false) : l.toList[i]? = some false := by
  rcases Nat.lt_or_ge i l.size with h' | h'
  · simp [h'] at h
    simp [h', h]
  · simp [Array.getElem?_eq_none h'] at h
/-- what holds on the way -/
structure Inv (ops : Array Oper) (l0 : Array Bool) (a0 : Act) (R : Nat → Value → World → Prop) (J : World → Prop) (listed : Array Bool) (a : Act) (w : World) : Prop where
  J : J w
  sub : ∀ j, l0.getD j true = true → listed.getD j true = true
  size : listed.size = l0.size
  out : ∀ t, outside ops l0 t = true → a.tmps[t]? = a0.tmps[t]?
  asz : a.tmps.size = a0.tmps.size
  df : a.defers = a0.defers
  R : ∀ j, l0.getD j true = false → listed.getD j true = true → R j (valOf ops a j) w
theorem getD_set_self {l : Array Bool} {i : Nat} (h : l.getD i true = false) : (l.setIfInBounds i true).getD i true = true := by
  rcases Nat.lt_or_ge i l.size with h' | h'
  · simp [h']
  · simp [Array.getElem?_eq_none h'] at h
/-- when nothing may come up all has come up -/
theorem all_listed {l0 listed : Array Bool} {n : Nat} (hok : okAll md ops l0 n = true) (hs : listed.size = l0.size) (hsub : ∀ j, l0.getD j true = true → listed.getD j true = true) (hr : Region.ready md ops listed = []) : ∀ (k i : Nat), i < k → l0.getD i true = false → listed.getD i true = true := by
  intro k
  induction k with
  | zero => intro i hi; omega
  | succ k ih =>
    intro i hi h0
    obtain ⟨hsz, hsp⟩ := okAll_spec hok
    obtain ⟨o, ho, _, _, hback, _⟩ := hsp i h0
    cases hl : listed.getD i true with
    | true => rfl
    | false =>
      have : i ∈ Region.ready md ops listed := mem_ready.2 ⟨hl, o, ho, fun e he hb => by
        have hlt := hback e he hb
        have hil : i < listed.size := by
          rcases Nat.lt_or_ge i listed.size with h' | h'
          · exact h'
          · simp [Array.getElem?_eq_none h'] at hl
        have hel : e.on < listed.size := by omega
        have hT : listed.getD e.on true = true := by
          cases h1 : l0.getD e.on true with
          | true => exact hsub _ h1
          | false => exact ih e.on (by omega) h1
        simp [hel] at hT
        simp [hel, hT]⟩
      rw [hr] at this
      cases this
theorem wpAnyH_posts {l0 : Array Bool} {a0 : Act} {w0 : World} {fuel : Nat} (R : Nat → Value → World → Prop) (J : World → Prop)
    (hok : okAll md ops l0 a0.tmps.size = true) (hfuel : left l0 ≤ fuel) (hJ : J w0) (hS : ∀ u, J u → S u)
    (step : ∀ i ∈ (List.range ops.size).filter (fun i => !l0.getD i true), ∀ o, ops[i]? = some o → ∀ (a : Act) (u : World), J u →
      (∀ t, outside ops l0 t = true → a.eval (.tmp t) = a0.eval (.tmp t)) →
      (∀ j, (waits md ops l0 i).contains j = true → R j (valOf ops a j) u) →
      ∀ K : Act → World → Prop, (∀ v u', J u' → (∀ j v, j ≠ i → R j v u → R j v u') → R i (valBy o v) u' → K (a.put o.dst v) u') → o.wp P a u K Q)
    (done : ∀ a u, J u → (∀ t, outside ops l0 t = true → a.tmps[t]? = a0.tmps[t]?) → a.tmps.size = a0.tmps.size → a.defers = a0.defers → (∀ i, l0.getD i true = false → R i (valOf ops a i) u) → Q .normal a u) :
    wpAnyH P md ops Q S fuel l0 a0 w0 := by
  obtain ⟨hsz, hsp⟩ := okAll_spec hok
  have main : ∀ (fuel : Nat) (listed : Array Bool) (a : Act) (w : World), Inv ops l0 a0 R J listed a w → left listed ≤ fuel → wpAnyH P md ops Q S fuel listed a w := by
    intro fuel
    induction fuel with
    | zero =>
      intro listed a w I hf
      have hnone : Region.ready md ops listed = [] := by
        apply List.eq_nil_iff_forall_not_mem.2
        intro i hi
        have := count_pos (getD_false (mem_ready.1 hi).1)
        unfold left at hf
        omega
      exact ⟨hnone, done a w I.J I.out I.asz I.df fun i hi => I.R i hi (all_listed hok I.size I.sub hnone (i + 1) i (by omega) hi)⟩
    | succ fuel ih =>
      intro listed a w I hf
      refine ⟨fun hnone => done a w I.J I.out I.asz I.df fun i hi => I.R i hi (all_listed hok I.size I.sub hnone (i + 1) i (by omega) hi), fun i hi => ?_⟩
      obtain ⟨hun, o, ho, hall⟩ := mem_ready.1 hi
      have h0 : l0.getD i true = false := by
        cases h : l0.getD i true with
        | false => rfl
        | true => rw [I.sub i h] at hun; cases hun
      obtain ⟨o', ho', hg, hdn, hback, hne⟩ := hsp i h0
      obtain rfl : o = o' := Option.some.inj (ho.symm.trans ho')
      have hilt : i < ops.size := (Array.getElem?_eq_some_iff.1 ho).1
      unfold wpOp
      simp only [ho]
      rw [if_pos (by simp [Region.wanted, hg])]
      refine .inl (step i (by simp [hilt]; simpa using h0) o ho a w I.J (fun t ht => ?_) (fun j hj => ?_) _ (fun v u' hJ' hLe hR => ⟨hS _ hJ', ih _ _ _ ?_ ?_⟩))
      · simp only [Act.eval, Array.getD_eq_getD_getElem?]
        rw [I.out t ht]
      · unfold waits at hj
        rw [ho] at hj
        simp only [List.contains_eq_mem, decide_eq_true_eq, List.mem_map, List.mem_filter, Bool.and_eq_true, Bool.not_eq_true'] at hj
        obtain ⟨e, ⟨he, hb, hl⟩, rfl⟩ := hj
        have hT := hall e (by simpa using he) hb
        refine I.R e.on hl ?_
        rcases Nat.lt_or_ge e.on listed.size with h' | h'
        · simp [h'] at hT
          simp [h', hT]
        · simp [Array.getElem?_eq_none h'] at hT
      · have eself : valOf ops (a.put o.dst v) i = valBy o v := by
          unfold valOf valBy
          rw [ho]
          simp only [Option.bind_some]
          cases hd : o.dst with
          | none => rfl
          | some d =>
            have : d < a.tmps.size := by rw [I.asz]; exact hdn d hd
            simp [Act.eval, Act.put, this]
        have eother : ∀ j, l0.getD j true = false → i ≠ j → valOf ops (a.put o.dst v) j = valOf ops a j := by
          intro j hj hij
          obtain ⟨oj, hoj, _, _, _, hnej⟩ := hsp j hj
          unfold valOf
          rw [hoj]
          simp only [Option.bind_some]
          cases hdj : oj.dst with
          | none => rfl
          | some dj =>
            refine Act.eval_put fun d hd hx => ?_
            have hdd : d = dj := by simpa using hx.symm
            subst hdd
            rcases Nat.lt_or_gt_of_ne hij with h' | h'
            · exact hnej i o d h' h0 ho hd hdj
            · exact hne j oj d h' hj hoj hdj hd
        refine ⟨hJ', fun j hj => ?_, by rw [Array.size_setIfInBounds]; exact I.size, fun t ht => ?_, ?_, ?_, fun j hj hjl => ?_⟩
        · by_cases hij : i = j
          · subst hij; rw [hj] at h0; cases h0
          · rw [getD_set_ne true hij]; exact I.sub j hj
        · cases hd : o.dst with
          | none => exact I.out t ht
          | some d =>
            have hdt : d ≠ t := by
              unfold outside hasDst dstOf at ht
              simp only [List.all_eq_true, List.mem_range, Bool.or_eq_true, bne_iff_ne, Bool.not_eq_true'] at ht
              rcases ht i hilt with (x | x) | x
              · rw [h0] at x; cases x
              · rw [ho] at x; simp [hd] at x
              · rw [ho] at x; simpa [hd] using x
            simp only [Act.put]
            rw [Array.getElem?_setIfInBounds_ne hdt]
            exact I.out t ht
        · cases hd : o.dst with
          | none => exact I.asz
          | some d => simp [Act.put, I.asz]
        · cases hd : o.dst with
          | none => exact I.df
          | some d => exact I.df
        · by_cases hij : i = j
          · subst hij
            rw [eself]
            exact hR
          · rw [getD_set_ne true hij] at hjl
            rw [eother j hj hij]
            exact hLe j _ (Ne.symm hij) (I.R j hj hjl)
      · have h1 := count_set (getD_false hun)
        unfold left at hf ⊢
        rw [Array.toList_setIfInBounds]
        omega
  exact main fuel l0 a0 w0 ⟨hJ, fun _ h => h, rfl, fun _ _ => rfl, rfl, rfl, fun j h1 h2 => by rw [h1] at h2; cases h2⟩ hfuel
/-- the steps, one operation after the other -/
def Steps (P : Program) (md : Region.Mode) (ops : Array Oper) (Q : Exit → Act → World → Prop) (l0 : Array Bool) (a0 : Act) (R : Nat → Value → World → Prop) (J : World → Prop) (is : List Nat) : Prop :=
  ∀ i ∈ is, ∀ o, ops[i]? = some o → ∀ (a : Act) (u : World), J u →
      (∀ t, outside ops l0 t = true → a.eval (.tmp t) = a0.eval (.tmp t)) →
      (∀ j, (waits md ops l0 i).contains j = true → R j (valOf ops a j) u) →
      ∀ K : Act → World → Prop, (∀ v u', J u' → (∀ j v, j ≠ i → R j v u → R j v u') → R i (valBy o v) u' → K (a.put o.dst v) u') → o.wp P a u K Q
theorem Steps.nil {l0 : Array Bool} {a0 : Act} {R : Nat → Value → World → Prop} {J : World → Prop} : Steps P md ops Q l0 a0 R J [] := fun i hi => by cases hi
theorem Steps.cons {l0 : Array Bool} {a0 : Act} {R : Nat → Value → World → Prop} {J : World → Prop} {i : Nat} {is : List Nat} {o : Oper} (ho : ops[i]? = some o)
    (h : ∀ (a : Act) (u : World), J u →
      (∀ t, outside ops l0 t = true → a.eval (.tmp t) = a0.eval (.tmp t)) →
      (∀ j, (waits md ops l0 i).contains j = true → R j (valOf ops a j) u) →
      ∀ K : Act → World → Prop, Shut (∀ v u', J u' → (∀ j v, j ≠ i → R j v u → R j v u') → R i (valBy o v) u' → K (a.put o.dst v) u') → o.wp P a u K Q)
    (hs : Steps P md ops Q l0 a0 R J is) : Steps P md ops Q l0 a0 R J (i :: is) := fun j hj o' ho' a u => by
  rcases List.mem_cons.1 hj with rfl | hj
  · obtain rfl := Option.some.inj (ho.symm.trans ho')
    exact fun h1 h2 h3 K hK => h a u h1 h2 h3 K hK
  · exact hs j hj o' ho' a u
theorem wpAnyH_steps {l0 : Array Bool} {a0 : Act} {w0 : World} {fuel : Nat} (R : Nat → Value → World → Prop) (J : World → Prop) (is : List Nat)
    (hok : okAll md ops l0 a0.tmps.size = true) (hfuel : decide (left l0 ≤ fuel) = true) (his : (List.range ops.size).filter (fun i => !l0.getD i true) = is) (hJ : J w0) (hS : ∀ u, J u → S u)
    (step : Steps P md ops Q l0 a0 R J is)
    (done : ∀ a u, J u → (∀ t, outside ops l0 t = true → a.tmps[t]? = a0.tmps[t]?) → a.tmps.size = a0.tmps.size → a.defers = a0.defers → (∀ i, l0.getD i true = false → R i (valOf ops a i) u) → Q .normal a u) :
    wpAnyH P md ops Q S fuel l0 a0 w0 :=
  wpAnyH_posts R J hok (of_decide_eq_true hfuel) hJ hS (by rw [his]; exact step) done
end
end Go.Proofs.Ytajidaicojekdaa.PO

/-
  A region whose operations come in whatever order, walked by one post for each operation and a relation between what any two leave: over any program. Nothing here is a statement of the seed.
-/
namespace Go.Proofs.Ytajidaicojekdaa.PO
open Go
section
variable {P : Program} {ops : Array Oper} {Q : Exit → Act → World → Prop} {md : Region.Mode} {S : World → Prop}
theorem wpAnyH_pairs0 {l0 : Array Bool} {a0 : Act} {w0 : World} {fuel : Nat} (R : Nat → Value → World → Prop) (J : World → Prop) (D : Nat → Nat → Value → Value → Prop) (hsym : ∀ i j v v', D i j v v' → D j i v' v)
    (hok : okAll md ops l0 a0.tmps.size = true) (hfuel : left l0 ≤ fuel) (hJ : J w0) (hS : ∀ u, J u → S u)
    (step : ∀ i ∈ (List.range ops.size).filter (fun i => !l0.getD i true), ∀ o, ops[i]? = some o → ∀ (a : Act) (u : World), J u →
      (∀ t, outside ops l0 t = true → a.eval (.tmp t) = a0.eval (.tmp t)) →
      (∀ j, (waits md ops l0 i).contains j = true → R j (valOf ops a j) u) →
      (∀ j k, (waits md ops l0 i).contains j = true → (waits md ops l0 i).contains k = true → j ≠ k → D j k (valOf ops a j) (valOf ops a k)) →
      ∀ K : Act → World → Prop, (∀ v u', J u' → (∀ j v, j ≠ i → R j v u → R j v u') → R i (valBy o v) u' → (∀ j vj, j ≠ i → R j vj u → (∀ k, (waits md ops l0 i).contains k = true → k ≠ j → D k j (valOf ops a k) vj) → D i j (valBy o v) vj) → K (a.put o.dst v) u') → o.wp P a u K Q)
    (done : ∀ a u, J u → (∀ t, outside ops l0 t = true → a.tmps[t]? = a0.tmps[t]?) → a.tmps.size = a0.tmps.size → a.defers = a0.defers → (∀ i, l0.getD i true = false → R i (valOf ops a i) u) → Q .normal a u) :
    wpAnyH P md ops Q S fuel l0 a0 w0 := by
  obtain ⟨hsz, hsp⟩ := okAll_spec hok
  have main : ∀ (fuel : Nat) (listed : Array Bool) (a : Act) (w : World), Inv ops l0 a0 R J listed a w → (∀ i j, l0.getD i true = false → listed.getD i true = true → l0.getD j true = false → listed.getD j true = true → i ≠ j → D i j (valOf ops a i) (valOf ops a j)) → left listed ≤ fuel → wpAnyH P md ops Q S fuel listed a w := by
    intro fuel
    induction fuel with
    | zero =>
      intro listed a w I ID hf
      have hnone : Region.ready md ops listed = [] := by
        apply List.eq_nil_iff_forall_not_mem.2
        intro i hi
        have := count_pos (getD_false (mem_ready.1 hi).1)
        unfold left at hf
        omega
      exact ⟨hnone, done a w I.J I.out I.asz I.df fun i hi => I.R i hi (all_listed hok I.size I.sub hnone (i + 1) i (by omega) hi)⟩
    | succ fuel ih =>
      intro listed a w I ID hf
      refine ⟨fun hnone => done a w I.J I.out I.asz I.df fun i hi => I.R i hi (all_listed hok I.size I.sub hnone (i + 1) i (by omega) hi), fun i hi => ?_⟩
      obtain ⟨hun, o, ho, hall⟩ := mem_ready.1 hi
      have h0 : l0.getD i true = false := by
        cases h : l0.getD i true with
        | false => rfl
        | true => rw [I.sub i h] at hun; cases hun
      obtain ⟨o', ho', hg, hdn, hback, hne⟩ := hsp i h0
      obtain rfl : o = o' := Option.some.inj (ho.symm.trans ho')
      have hilt : i < ops.size := (Array.getElem?_eq_some_iff.1 ho).1
      unfold wpOp
      simp only [ho]
      rw [if_pos (by simp [Region.wanted, hg])]
      have hwl : ∀ j, (waits md ops l0 i).contains j = true → l0.getD j true = false ∧ listed.getD j true = true := fun j hj => by
        unfold waits at hj
        rw [ho] at hj
        simp only [List.contains_eq_mem, decide_eq_true_eq, List.mem_map, List.mem_filter, Bool.and_eq_true, Bool.not_eq_true'] at hj
        obtain ⟨e, ⟨he, hb, hl⟩, rfl⟩ := hj
        have hT := hall e (by simpa using he) hb
        refine ⟨hl, ?_⟩
        rcases Nat.lt_or_ge e.on listed.size with h' | h'
        · simp [h'] at hT
          simp [h', hT]
        · simp [Array.getElem?_eq_none h'] at hT
      refine .inl (step i (by simp [hilt]; simpa using h0) o ho a w I.J (fun t ht => ?_) (fun j hj => I.R j (hwl j hj).1 (hwl j hj).2) (fun j k hj hk hjk => ID j k (hwl j hj).1 (hwl j hj).2 (hwl k hk).1 (hwl k hk).2 hjk) _ (fun v u' hJ' hLe hR hD => ⟨hS _ hJ', ih _ _ _ ?_ ?_ ?_⟩))
      · simp only [Act.eval, Array.getD_eq_getD_getElem?]
        rw [I.out t ht]
      · have eself : valOf ops (a.put o.dst v) i = valBy o v := by
          unfold valOf valBy
          rw [ho]
          simp only [Option.bind_some]
          cases hd : o.dst with
          | none => rfl
          | some d =>
            have : d < a.tmps.size := by rw [I.asz]; exact hdn d hd
            simp [Act.eval, Act.put, this]
        have eother : ∀ j, l0.getD j true = false → i ≠ j → valOf ops (a.put o.dst v) j = valOf ops a j := by
          intro j hj hij
          obtain ⟨oj, hoj, _, _, _, hnej⟩ := hsp j hj
          unfold valOf
          rw [hoj]
          simp only [Option.bind_some]
          cases hdj : oj.dst with
          | none => rfl
          | some dj =>
            refine Act.eval_put fun d hd hx => ?_
            have hdd : d = dj := by simpa using hx.symm
            subst hdd
            rcases Nat.lt_or_gt_of_ne hij with h' | h'
            · exact hnej i o d h' h0 ho hd hdj
            · exact hne j oj d h' hj hoj hdj hd
        refine ⟨hJ', fun j hj => ?_, by rw [Array.size_setIfInBounds]; exact I.size, fun t ht => ?_, ?_, ?_, fun j hj hjl => ?_⟩
        · by_cases hij : i = j
          · subst hij; rw [hj] at h0; cases h0
          · rw [getD_set_ne true hij]; exact I.sub j hj
        · cases hd : o.dst with
          | none => exact I.out t ht
          | some d =>
            have hdt : d ≠ t := by
              unfold outside hasDst dstOf at ht
              simp only [List.all_eq_true, List.mem_range, Bool.or_eq_true, bne_iff_ne, Bool.not_eq_true'] at ht
              rcases ht i hilt with (x | x) | x
              · rw [h0] at x; cases x
              · rw [ho] at x; simp [hd] at x
              · rw [ho] at x; simpa [hd] using x
            simp only [Act.put]
            rw [Array.getElem?_setIfInBounds_ne hdt]
            exact I.out t ht
        · cases hd : o.dst with
          | none => exact I.asz
          | some d => simp [Act.put, I.asz]
        · cases hd : o.dst with
          | none => exact I.df
          | some d => exact I.df
        · by_cases hij : i = j
          · subst hij
            rw [eself]
            exact hR
          · rw [getD_set_ne true hij] at hjl
            rw [eother j hj hij]
            exact hLe j _ (Ne.symm hij) (I.R j hj hjl)
      · have eself : valOf ops (a.put o.dst v) i = valBy o v := by
          unfold valOf valBy
          rw [ho]
          simp only [Option.bind_some]
          cases hd : o.dst with
          | none => rfl
          | some d =>
            have : d < a.tmps.size := by rw [I.asz]; exact hdn d hd
            simp [Act.eval, Act.put, this]
        have eother : ∀ j, l0.getD j true = false → i ≠ j → valOf ops (a.put o.dst v) j = valOf ops a j := by
          intro j hj hij
          obtain ⟨oj, hoj, _, _, _, hnej⟩ := hsp j hj
          unfold valOf
          rw [hoj]
          simp only [Option.bind_some]
          cases hdj : oj.dst with
          | none => rfl
          | some dj =>
            refine Act.eval_put fun d hd hx => ?_
            have hdd : d = dj := by simpa using hx.symm
            subst hdd
            rcases Nat.lt_or_gt_of_ne hij with h' | h'
            · exact hnej i o d h' h0 ho hd hdj
            · exact hne j oj d h' hj hoj hdj hd
        intro i1 j1 hi1 li1 hj1 lj1 hne1
        by_cases e1 : i = i1
        · subst e1
          rw [getD_set_ne true hne1] at lj1
          rw [eself, eother j1 hj1 hne1]
          exact hD j1 _ (Ne.symm hne1) (I.R j1 hj1 lj1) (fun k hk hkj => ID k j1 (hwl k hk).1 (hwl k hk).2 hj1 lj1 hkj)
        · rw [getD_set_ne true e1] at li1
          by_cases e2 : i = j1
          · subst e2
            rw [eself, eother i1 hi1 e1]
            exact hsym _ _ _ _ (hD i1 _ (Ne.symm e1) (I.R i1 hi1 li1) (fun k hk hkj => ID k i1 (hwl k hk).1 (hwl k hk).2 hi1 li1 hkj))
          · rw [getD_set_ne true e2] at lj1
            rw [eother i1 hi1 e1, eother j1 hj1 e2]
            exact ID i1 j1 hi1 li1 hj1 lj1 hne1
      · have h1 := count_set (getD_false hun)
        unfold left at hf ⊢
        rw [Array.toList_setIfInBounds]
        omega
  exact main fuel l0 a0 w0 ⟨hJ, fun _ h => h, rfl, fun _ _ => rfl, rfl, rfl, fun j h1 h2 => by rw [h1] at h2; cases h2⟩ (fun i j h1 h2 => by rw [h1] at h2; cases h2) hfuel
/-- the steps, one operation after the other -/
def Steps2 (P : Program) (md : Region.Mode) (ops : Array Oper) (Q : Exit → Act → World → Prop) (l0 : Array Bool) (a0 : Act) (R : Nat → Value → World → Prop) (J : World → Prop) (D : Nat → Nat → Value → Value → Prop) (is : List Nat) : Prop :=
  ∀ i ∈ is, ∀ o, ops[i]? = some o → ∀ (a : Act) (u : World), J u →
      (∀ t, outside ops l0 t = true → a.eval (.tmp t) = a0.eval (.tmp t)) →
      (∀ j, (waits md ops l0 i).contains j = true → R j (valOf ops a j) u) →
      (∀ j k, (waits md ops l0 i).contains j = true → (waits md ops l0 i).contains k = true → j ≠ k → D j k (valOf ops a j) (valOf ops a k)) →
      ∀ K : Act → World → Prop, (∀ v u', J u' → (∀ j v, j ≠ i → R j v u → R j v u') → R i (valBy o v) u' → (∀ j vj, j ≠ i → R j vj u → (∀ k, (waits md ops l0 i).contains k = true → k ≠ j → D k j (valOf ops a k) vj) → D i j (valBy o v) vj) → K (a.put o.dst v) u') → o.wp P a u K Q
theorem Steps2.nil {l0 : Array Bool} {a0 : Act} {R : Nat → Value → World → Prop} {J : World → Prop} {D : Nat → Nat → Value → Value → Prop} : Steps2 P md ops Q l0 a0 R J D [] := fun i hi => by cases hi
theorem Steps2.cons {l0 : Array Bool} {a0 : Act} {R : Nat → Value → World → Prop} {J : World → Prop} {D : Nat → Nat → Value → Value → Prop} {i : Nat} {is : List Nat} {o : Oper} (ho : ops[i]? = some o)
    (h : ∀ (a : Act) (u : World), J u →
      (∀ t, outside ops l0 t = true → a.eval (.tmp t) = a0.eval (.tmp t)) →
      (∀ j, (waits md ops l0 i).contains j = true → R j (valOf ops a j) u) →
      (∀ j k, (waits md ops l0 i).contains j = true → (waits md ops l0 i).contains k = true → j ≠ k → D j k (valOf ops a j) (valOf ops a k)) →
      ∀ K : Act → World → Prop, Shut (∀ v u', J u' → (∀ j v, j ≠ i → R j v u → R j v u') → R i (valBy o v) u' → (∀ j vj, j ≠ i → R j vj u → (∀ k, (waits md ops l0 i).contains k = true → k ≠ j → D k j (valOf ops a k) vj) → D i j (valBy o v) vj) → K (a.put o.dst v) u') → o.wp P a u K Q)
    (hs : Steps2 P md ops Q l0 a0 R J D is) : Steps2 P md ops Q l0 a0 R J D (i :: is) := fun j hj o' ho' a u => by
  rcases List.mem_cons.1 hj with rfl | hj
  · obtain rfl := Option.some.inj (ho.symm.trans ho')
    exact fun h1 h2 h3 h4 K hK => h a u h1 h2 h3 h4 K hK
  · exact hs j hj o' ho' a u
theorem wpAnyH_pairs {l0 : Array Bool} {a0 : Act} {w0 : World} {fuel : Nat} (R : Nat → Value → World → Prop) (J : World → Prop) (D : Nat → Nat → Value → Value → Prop) (hsym : ∀ i j v v', D i j v v' → D j i v' v) (is : List Nat)
    (hok : okAll md ops l0 a0.tmps.size = true) (hfuel : decide (left l0 ≤ fuel) = true) (his : (List.range ops.size).filter (fun i => !l0.getD i true) = is) (hJ : J w0) (hS : ∀ u, J u → S u)
    (step : Steps2 P md ops Q l0 a0 R J D is)
    (done : ∀ a u, J u → (∀ t, outside ops l0 t = true → a.tmps[t]? = a0.tmps[t]?) → a.tmps.size = a0.tmps.size → a.defers = a0.defers → (∀ i, l0.getD i true = false → R i (valOf ops a i) u) → Q .normal a u) :
    wpAnyH P md ops Q S fuel l0 a0 w0 :=
  wpAnyH_pairs0 R J D hsym hok (of_decide_eq_true hfuel) hJ hS (by rw [his]; exact step) done
end
end Go.Proofs.Ytajidaicojekdaa.PO

/-
  A module copied, as the reference does: the copy's rows are its own. Nothing here is a statement of the seed.
-/
namespace Go.Proofs.Ytajidaicojekdaa.OR
open Go.RowKit WM NR OM
set_option maxHeartbeats 4000000
set_option maxRecDepth 10000
/-- what holds all the way of the reference's Copy -/
structure KJ (w : World) (cs : Array Value) (u : World) : Prop where
  X : Whole u w.heap.size 45 cs
  Y : ∃ y0 y1 y2 y3 y4 y5, Whole u (w.heap.size + 1) 45 #[y0, y1, y2, y3, y4, y5]
  B : Below w.heap.size w u
  sz : w.heap.size + 2 ≤ u.heap.size
theorem KJ.belowS {w u u' : World} {cs : Array Value} (h : KJ w cs u) (hb : Below u.heap.size u u') : KJ w cs u' := by
  obtain ⟨y0, y1, y2, y3, y4, y5, hY⟩ := h.Y
  exact ⟨h.X.belowS hb, ⟨y0, y1, y2, y3, y4, y5, hY.belowS hb⟩, h.B.trans (hb.mono h.B.size), Nat.le_trans h.sz hb.size⟩
theorem KJ.of {w u : World} {cs : Array Value} (h : CJ w cs u) : KJ w cs u := ⟨h.X, ⟨_, _, _, _, _, _, h.Y⟩, h.B, h.sz⟩
abbrev onTwo (w : World) : Nat → Prop := fun g => w.heap.size + 2 ≤ g
theorem owns_keepG {u u' : World} {B : Nat} {e : TypeId} {size n : Nat} {v : Value} {xs : List Value} (h : u.ownsRow B e size v n xs) (hk : ∀ g, B ≤ g → g < u.heap.size → u'.heap[g]? = u.heap[g]?) : u'.ownsRow B e size v n xs := by
  refine ⟨h.1, ?_⟩
  rcases h.2 with h0 | ⟨g, cap, cur, e1, hb, hg, h3, h4, h5, h6⟩
  · exact Or.inl h0
  · exact Or.inr ⟨g, cap, cur, e1, hb, by rw [hk g hb (Array.getElem?_eq_some_iff.1 hg).1]; exact hg, h3, h4, h5, h6⟩
theorem owns_lt {u : World} {B : Nat} {e : TypeId} {size n : Nat} {v : Value} {xs : List Value} (h : u.ownsRow B e size v n xs) {g : Nat} (hg : v.ownBlock = some g) : B ≤ g ∧ g < u.heap.size := by
  rcases h.2 with ⟨rfl, _⟩ | ⟨g', cap, cur, rfl, hb, hh, _⟩
  · simp [Value.ownBlock] at hg
  · simp [Value.ownBlock] at hg
    subst hg
    exact ⟨hb, (Array.getElem?_eq_some_iff.1 hh).1⟩
/-- rows of its own, those of one type apart -/
structure OwnD (B : Nat) (m : Md) (w : World) (ea : Option Addr) (en ec : Nat) (ia : Option Addr) (im ic : Nat) (ca : Option Addr) (cn cc : Nat) (da : Option Addr) (dn dc : Nat) (ra : Option Addr) (rn rc : Nat) : Prop where
  own : Own5 B m w ea en ec ia im ic ca cn cc da dn dc ra rn rc
  ei : ∀ g, (Value.slice ea en ec).ownBlock = some g → (Value.slice ia im ic).ownBlock ≠ some g
  cd : ∀ g, (Value.slice ca cn cc).ownBlock = some g → (Value.slice da dn dc).ownBlock ≠ some g
theorem OwnD.keep {B : Nat} {u u' : World} {ea : Option Addr} {en ec : Nat} {ia : Option Addr} {im ic : Nat} {ca : Option Addr} {cn cc : Nat} {da : Option Addr} {dn dc : Nat} {ra : Option Addr} {rn rc : Nat} {m : Md} (h : OwnD B m u ea en ec ia im ic ca cn cc da dn dc ra rn rc) (hk : ∀ g, B ≤ g → g < u.heap.size → u'.heap[g]? = u.heap[g]?) : OwnD B m u' ea en ec ia im ic ca cn cc da dn dc ra rn rc :=
  ⟨⟨owns_keepG h.own.ex hk, owns_keepG h.own.im hk, owns_keepG h.own.cd hk, owns_keepG h.own.dt hk, owns_keepG h.own.rl hk⟩, h.ei, h.cd⟩
/-- what each operation of Copy's region leaves -/
def RC (w : World) (x : ByteArray) (m : Md) : Nat → Value → World → Prop
  | 2 => fun v u => ∃ g, v = .slice (some ⟨g, 0, none⟩) 0 0 ∧ u.ownsRow (w.heap.size + 2) 9 1 v 0 []
  | 5 => fun v u => u.ownsRow (w.heap.size + 2) 9 1 v m.exps.length (strs m.exps)
  | 6 => fun v u => ∃ g, v = .slice (some ⟨g, 0, none⟩) 0 0 ∧ u.ownsRow (w.heap.size + 2) 9 1 v 0 []
  | 9 => fun v u => u.ownsRow (w.heap.size + 2) 9 1 v m.imps.length (strs m.imps)
  | 10 => fun v u => ∃ g, v = .slice (some ⟨g, 0, none⟩) 0 0 ∧ u.ownsRow (w.heap.size + 2) 46 1 v 0 []
  | 13 => fun v u => u.ownsRow (w.heap.size + 2) 46 1 v m.code.length (u32s m.code)
  | 14 => fun v u => ∃ g, v = .slice (some ⟨g, 0, none⟩) 0 0 ∧ u.ownsRow (w.heap.size + 2) 46 1 v 0 []
  | 17 => fun v u => u.ownsRow (w.heap.size + 2) 46 1 v m.data.length (u32s m.data)
  | 18 => fun v u => ∃ g, v = .slice (some ⟨g, 0, none⟩) 0 0 ∧ u.ownsRow (w.heap.size + 2) 76 3 v 0 []
  | 21 => fun v u => u.ownsRow (w.heap.size + 2) 76 3 v m.rels.length (relC m.rels)
  | 22 => fun v u => ∃ ea en ec ia im ic ca cn cc da dn dc ra rn rc, v = mV x ea en ec ia im ic ca cn cc da dn dc ra rn rc ∧ OwnD (w.heap.size + 2) m u ea en ec ia im ic ca cn cc da dn dc ra rn rc
  | 23 => fun v u => ∃ ea en ec ia im ic ca cn cc da dn dc ra rn rc, Whole u (w.heap.size + 1) 45 (mCs x ea en ec ia im ic ca cn cc da dn dc ra rn rc) ∧ OwnD (w.heap.size + 2) m u ea en ec ia im ic ca cn cc da dn dc ra rn rc
  | _ => fun _ _ => True
theorem RdM.keep {G : Nat → Prop} {u u' : World} {ea : Option Addr} {en ec : Nat} {ia : Option Addr} {im ic : Nat} {ca : Option Addr} {cn cc : Nat} {da : Option Addr} {dn dc : Nat} {ra : Option Addr} {rn rc : Nat} {m : Md} (h : RdM G u ea en ec ia im ic ca cn cc da dn dc ra rn rc m) (hk : ∀ g, G g → g < u.heap.size → u'.heap[g]? = u.heap[g]?) : RdM G u' ea en ec ia im ic ca cn cc da dn dc ra rn rc m := ⟨h.ex.keep hk, h.im.keep hk, h.cd.keep hk, h.dt.keep hk, h.rl.keep hk⟩
theorem RC.keep {w : World} {x : ByteArray} {m : Md} {j : Nat} {v : Value} {u u' : World} (h : RC w x m j v u) (hk : ∀ g, onTwo w g → g < u.heap.size → u'.heap[g]? = u.heap[g]?) (h23 : j = 23 → ∀ cs, Whole u (w.heap.size + 1) 45 cs → Whole u' (w.heap.size + 1) 45 cs) : RC w x m j v u' := by
  unfold RC at h ⊢
  split at h
  all_goals first | exact h | exact owns_keepG h hk | (obtain ⟨g, e, h1⟩ := h; exact ⟨g, e, owns_keepG h1 hk⟩) | skip
  · obtain ⟨ea, en, ec, ia, im, ic, ca, cn, cc, da, dn, dc, ra, rn, rc, h1, h2⟩ := h
    exact ⟨ea, en, ec, ia, im, ic, ca, cn, cc, da, dn, dc, ra, rn, rc, h1, h2.keep hk⟩
  · obtain ⟨ea, en, ec, ia, im, ic, ca, cn, cc, da, dn, dc, ra, rn, rc, h1, h2⟩ := h
    exact ⟨ea, en, ec, ia, im, ic, ca, cn, cc, da, dn, dc, ra, rn, rc, h23 rfl _ h1, h2.keep hk⟩
/-- which list an operation is about -/
def fam : Nat → Nat
  | 2 => 1 | 5 => 1 | 6 => 2 | 9 => 2 | 10 => 3 | 13 => 3 | 14 => 4 | 17 => 4 | 18 => 5 | 21 => 5 | _ => 0
/-- rows of two lists are two blocks -/
def DC (i j : Nat) (v v' : Value) : Prop := fam i ≠ 0 → fam j ≠ 0 → fam i ≠ fam j → ∀ g, v.ownBlock = some g → v'.ownBlock ≠ some g
theorem DC.symm (i j : Nat) (v v' : Value) (h : DC i j v v') : DC j i v' v := fun h1 h2 h3 g hg hg' => h h2 h1 (fun e => h3 e.symm) g hg' hg
theorem RC.lt {w : World} {x : ByteArray} {m : Md} {j : Nat} {v : Value} {u : World} (h : RC w x m j v u) (hf : fam j ≠ 0) {g : Nat} (hg : v.ownBlock = some g) : g < u.heap.size := by
  unfold RC at h
  split at h
  all_goals first | exact (owns_lt h hg).2 | (obtain ⟨_, _, h1⟩ := h; exact (owns_lt h1 hg).2) | skip
  · exact absurd rfl hf
  · exact absurd rfl hf
  · exfalso
    apply hf
    unfold fam
    split <;> first | (exfalso; simp_all; done) | rfl
theorem dc_new {w : World} {x : ByteArray} {m : Md} {i j : Nat} {v vj : Value} {u : World} (h : RC w x m j vj u) (hn : ∀ b, v.ownBlock = some b → u.heap.size ≤ b) : DC i j v vj := fun _ hj _ g hg hg' => by
  have h1 := hn g hg
  have h2 := h.lt hj hg'
  omega
theorem dc_off {i j : Nat} {v vj : Value} (h : fam i = 0) : DC i j v vj := fun h1 => absurd h h1
/-- what an append onto an empty row leaves -/
theorem dc_onto {w : World} {x : ByteArray} {m : Md} {i j k : Nat} {v v0 vj : Value} {u : World} (h : RC w x m j vj u) (hik : fam i = fam k) (hn : v = v0 ∨ ∀ b, v.ownBlock = some b → u.heap.size ≤ b) (hk : k ≠ j → DC k j v0 vj) : DC i j v vj := by
  rcases hn with rfl | hn
  · intro h1 h2 h3
    rw [hik] at h1 h3
    exact hk (fun e => h3 (by rw [e])) h1 h2 h3
  · exact dc_new h hn
theorem RC.belowS {w : World} {x : ByteArray} {m : Md} {j : Nat} {v : Value} {u u' : World} (h : RC w x m j v u) (hb : Below u.heap.size u u') : RC w x m j v u' :=
  h.keep (fun g _ hg => hb.block g hg) (fun _ cs hc => hc.belowS hb)
theorem readsN {G : Nat → Prop} {w : World} {n c : Nat} {xs : List Value} (h : Reads G w (.slice none n c) xs) : c = 0 := by
  obtain ⟨a', cap, e, _, _, h3, _⟩ := h
  simp only [Value.slice.injEq] at e
  obtain ⟨rfl, _, rfl⟩ := e
  exact h3 rfl
theorem readsRN {G : Nat → Prop} {w : World} {n c : Nat} {l : List Rl} (h : ReadsR G w (.slice none n c) l) : c = 0 := by
  obtain ⟨a', cap, e, _, _, h3, _⟩ := h
  simp only [Value.slice.injEq] at e
  obtain ⟨rfl, _, rfl⟩ := e
  exact h3 rfl
theorem readsC {B : Nat} {w : World} {p : Addr} {n c : Nat} {xs : List Value} (h : Reads (· < B) w (.slice (some p) n c) xs) : ∀ j u, xs[j]? = some u → w.cell? (p.add j) = some u := by
  obtain ⟨a', cap, e, h1, h2, h3, h4⟩ := h
  simp only [Value.slice.injEq] at e
  obtain ⟨rfl, rfl, rfl⟩ := e
  intro j u hj
  have hlt := (List.getElem?_eq_some_iff.1 hj).1
  rcases h4 with h4 | ⟨g, off, ea, hg, hc⟩
  · rw [h4] at hj; simp at hj
  · obtain rfl := Option.some.inj ea
    rw [Addr.add_lit, hc j hlt, hj]
/-- an append onto an empty row -/
theorem onto_owns {t ty e : TypeId} {size bytes : Nat} {z : Value} (hi5 : (Try.prog.info? e).map (fun i => (i.zero, i.size, i.bytes)) = some (some z, size, bytes)) (ht : Try.prog.underlying t = some (.slice e)) (hzs : z.cells.size = size) (hsz : 0 < size) {u : World} {B g : Nat} (hB : B ≤ u.heap.size) (ho : u.ownsRow B e size (.slice (some ⟨g, 0, none⟩) 0 0) 0 []) {a : Option Addr} {n c : Nat} {ys : List Value} (hl : ys.length = n * size) (hc0 : a = none → n = 0 ∧ c = 0) (hc : ∀ p, a = some p → ∀ j x, ys[j]? = some x → u.cell? (p.add j) = some x) (h1 : ∀ x ∈ ys, x.oneCell' = true) (hm : n ≤ maxLen) (hb : n * bytes ≤ 140737488355328) :
    ∃ v' u', (Builtin.append_ #[t, t] ty #[.slice (some ⟨g, 0, none⟩) 0 0, .slice a n c]).run Try.prog u = .ok v' u' ∧ Below u.heap.size u u' ∧ u'.ownsRow B e size v' n ys ∧ (v' = .slice (some ⟨g, 0, none⟩) 0 0 ∨ ∀ b, v'.ownBlock = some b → u.heap.size ≤ b) := by
  cases a with
  | none =>
    obtain ⟨rfl, rfl⟩ := hc0 rfl
    obtain rfl : ys = [] := List.length_eq_zero_iff.1 (by omega)
    exact ⟨_, u, run_onto_nil hi5 ht u g 0, Below.refl _ _, ho, Or.inl rfl⟩
  | some p =>
    obtain ⟨v', u', hr, hbl, hh⟩ := run_onto_none (ty := ty) hi5 ht hzs hsz u g p n c ys hl (hc p rfl) h1 hm hb
    rcases hh with ⟨rfl, rfl⟩ | ⟨_, hh⟩
    · obtain rfl : ys = [] := List.length_eq_zero_iff.1 (by omega)
      exact ⟨_, u', hr, hbl, owns_below ho hbl, Or.inl rfl⟩
    · exact ⟨v', u', hr, hbl, owns_base hh hB, Or.inr fun b hb' => (owns_lt hh hb').1⟩
theorem reads_src {B : Nat} {u : World} {a : Option Addr} {n c : Nat} {xs : List Value} (h : Reads (· < B) u (.slice a n c) xs) : xs.length = n * 1 ∧ (a = none → n = 0 ∧ c = 0) ∧ (∀ p, a = some p → ∀ j x, xs[j]? = some x → u.cell? (p.add j) = some x) ∧ n ≤ maxLen := by
  obtain ⟨n1, m1, m2⟩ := reads_len h
  refine ⟨by omega, fun e => ?_, fun p e => ?_, by omega⟩
  · subst e
    have := readsN h
    omega
  · subst e
    exact readsC h
theorem readsR_src {B : Nat} {u : World} {a : Option Addr} {n c : Nat} {l : List Rl} (h : ReadsR (· < B) u (.slice a n c) l) : (relC l).length = n * 3 ∧ (a = none → n = 0 ∧ c = 0) ∧ (∀ p, a = some p → ∀ j x, (relC l)[j]? = some x → u.cell? (p.add j) = some x) ∧ n ≤ maxLen := by
  obtain ⟨n1, m1, m2⟩ := h.len
  refine ⟨by rw [relC_len]; omega, fun e => ?_, fun p e => ?_, by omega⟩
  · subst e
    have := readsRN h
    omega
  · subst e
    exact h.cells
section
variable {w : World} {ea : Option Addr} {en ec : Nat} {ia : Option Addr} {im ic : Nat} {ca : Option Addr} {cn cc : Nat} {da : Option Addr} {dn dc : Nat} {ra : Option Addr} {rn rc : Nat} {m : Md}
theorem refCopyO_any (h : RdM (· < w.heap.size) w ea en ec ia im ic ca cn cc da dn dc ra rn rc m) (hl : en ≤ 65536 ∧ im ≤ 65536 ∧ cn ≤ 65536 ∧ dn ≤ 65536 ∧ rn ≤ 65536) :
    Calls Try.prog 19 #[mV (bs m.name) ea en ec ia im ic ca cn cc da dn dc ra rn rc] w fun e w' => ∃ ea2 en2 ec2 ia2 im2 ic2 ca2 cn2 cc2 da2 dn2 dc2 ra2 rn2 rc2, e = .returned (mV (bs m.name) ea2 en2 ec2 ia2 im2 ic2 ca2 cn2 cc2 da2 dn2 dc2 ra2 rn2 rc2) ∧ OwnD w.heap.size m w' ea2 en2 ec2 ia2 im2 ic2 ca2 cn2 cc2 da2 dn2 dc2 ra2 rn2 rc2 ∧ Below w.heap.size w w' := by
  obtain ⟨hl1, hl2, hl3, hl4, hl5⟩ := hl
  have H := Lib.hid h
  obtain ⟨L1, L2, L3, L4, L5⟩ := h.lens
  have HL := Lib.hid (And.intro L1 (And.intro L2 (And.intro L3 (And.intro L4 L5))))
  clear L1 L2 L3 L4 L5
  have J0 := Lib.hid (CJ.new w (mCs (bs m.name) ea en ec ia im ic ca cn cc da dn dc ra rn rc))
  clear h
  generalize bs m.name = x at *
  go_enter Try.func19, Try.ntmps19
  go_upto_region 1 with fail
  generalize (w.alloc (.cells (mCs x ea en ec ia im ic ca cn cc da dn dc ra rn rc) 45)).alloc (.cells zCs 45) = W0 at *
  have J1 := Lib.hid (KJ.of (J0.out.belowS (Below.refl _ _).drew))
  have SX : MC w.heap.size x ea en ec ia im ic ca cn cc da dn dc ra rn rc W0.drew := mod_cells J1.out.X
  refine wp_region_held_drew (S := fun u => MC w.heap.size x ea en ec ia im ic ca cn cc da dn dc ra rn rc u) (by kernel_rfl) SX (fun hHeld => ?_)
  refine wpAnyH_take (i := 0) (v := ?tkv1) rfl (by kernel_rfl) (by kernel_rfl) (by kernel_rfl) (fun _ _ _ h => h) (Or.inl ⟨by rfl, ?tky1⟩) (by assumption) ?tkr1
  case tky1 =>
    intro u hSu
    obtain ⟨s0, s1, s2, s3, s4, s5⟩ := hSu
    go_simp
    try with_reducible rfl
  try simp only [Act.put, List.getElem_toArray, List.getElem_cons_succ, List.getElem_cons_zero, List.setIfInBounds_toArray, List.set_cons_zero, List.set_cons_succ]
  refine wpAnyH_take (i := 1) (v := ?tkv2) rfl (by kernel_rfl) (by kernel_rfl) (by kernel_rfl) (fun _ _ _ h => h) (Or.inl ⟨by rfl, ?tky2⟩) (by assumption) ?tkr2
  case tky2 =>
    intro u hSu
    obtain ⟨s0, s1, s2, s3, s4, s5⟩ := hSu
    go_simp
    try with_reducible rfl
  try simp only [Act.put, List.getElem_toArray, List.getElem_cons_succ, List.getElem_cons_zero, List.setIfInBounds_toArray, List.set_cons_zero, List.set_cons_succ]
  refine wpAnyH_take (i := 3) (v := ?tkv3) rfl (by kernel_rfl) (by kernel_rfl) (by kernel_rfl) (fun _ _ _ h => h) (Or.inl ⟨by rfl, ?tky3⟩) (by assumption) ?tkr3
  case tky3 =>
    intro u hSu
    obtain ⟨s0, s1, s2, s3, s4, s5⟩ := hSu
    go_simp
    try with_reducible rfl
  try simp only [Act.put, List.getElem_toArray, List.getElem_cons_succ, List.getElem_cons_zero, List.setIfInBounds_toArray, List.set_cons_zero, List.set_cons_succ]
  refine wpAnyH_take (i := 4) (v := ?tkv4) rfl (by kernel_rfl) (by kernel_rfl) (by kernel_rfl) (fun _ _ _ h => h) (Or.inl ⟨by rfl, ?tky4⟩) (by assumption) ?tkr4
  case tky4 =>
    intro u hSu
    obtain ⟨s0, s1, s2, s3, s4, s5⟩ := hSu
    go_simp
    try with_reducible rfl
  try simp only [Act.put, List.getElem_toArray, List.getElem_cons_succ, List.getElem_cons_zero, List.setIfInBounds_toArray, List.set_cons_zero, List.set_cons_succ]
  refine wpAnyH_take (i := 7) (v := ?tkv5) rfl (by kernel_rfl) (by kernel_rfl) (by kernel_rfl) (fun _ _ _ h => h) (Or.inl ⟨by rfl, ?tky5⟩) (by assumption) ?tkr5
  case tky5 =>
    intro u hSu
    obtain ⟨s0, s1, s2, s3, s4, s5⟩ := hSu
    go_simp
    try with_reducible rfl
  try simp only [Act.put, List.getElem_toArray, List.getElem_cons_succ, List.getElem_cons_zero, List.setIfInBounds_toArray, List.set_cons_zero, List.set_cons_succ]
  refine wpAnyH_take (i := 8) (v := ?tkv6) rfl (by kernel_rfl) (by kernel_rfl) (by kernel_rfl) (fun _ _ _ h => h) (Or.inl ⟨by rfl, ?tky6⟩) (by assumption) ?tkr6
  case tky6 =>
    intro u hSu
    obtain ⟨s0, s1, s2, s3, s4, s5⟩ := hSu
    go_simp
    try with_reducible rfl
  try simp only [Act.put, List.getElem_toArray, List.getElem_cons_succ, List.getElem_cons_zero, List.setIfInBounds_toArray, List.set_cons_zero, List.set_cons_succ]
  refine wpAnyH_take (i := 11) (v := ?tkv7) rfl (by kernel_rfl) (by kernel_rfl) (by kernel_rfl) (fun _ _ _ h => h) (Or.inl ⟨by rfl, ?tky7⟩) (by assumption) ?tkr7
  case tky7 =>
    intro u hSu
    obtain ⟨s0, s1, s2, s3, s4, s5⟩ := hSu
    go_simp
    try with_reducible rfl
  try simp only [Act.put, List.getElem_toArray, List.getElem_cons_succ, List.getElem_cons_zero, List.setIfInBounds_toArray, List.set_cons_zero, List.set_cons_succ]
  refine wpAnyH_take (i := 12) (v := ?tkv8) rfl (by kernel_rfl) (by kernel_rfl) (by kernel_rfl) (fun _ _ _ h => h) (Or.inl ⟨by rfl, ?tky8⟩) (by assumption) ?tkr8
  case tky8 =>
    intro u hSu
    obtain ⟨s0, s1, s2, s3, s4, s5⟩ := hSu
    go_simp
    try with_reducible rfl
  try simp only [Act.put, List.getElem_toArray, List.getElem_cons_succ, List.getElem_cons_zero, List.setIfInBounds_toArray, List.set_cons_zero, List.set_cons_succ]
  refine wpAnyH_take (i := 15) (v := ?tkv9) rfl (by kernel_rfl) (by kernel_rfl) (by kernel_rfl) (fun _ _ _ h => h) (Or.inl ⟨by rfl, ?tky9⟩) (by assumption) ?tkr9
  case tky9 =>
    intro u hSu
    obtain ⟨s0, s1, s2, s3, s4, s5⟩ := hSu
    go_simp
    try with_reducible rfl
  try simp only [Act.put, List.getElem_toArray, List.getElem_cons_succ, List.getElem_cons_zero, List.setIfInBounds_toArray, List.set_cons_zero, List.set_cons_succ]
  refine wpAnyH_take (i := 16) (v := ?tkv10) rfl (by kernel_rfl) (by kernel_rfl) (by kernel_rfl) (fun _ _ _ h => h) (Or.inl ⟨by rfl, ?tky10⟩) (by assumption) ?tkr10
  case tky10 =>
    intro u hSu
    obtain ⟨s0, s1, s2, s3, s4, s5⟩ := hSu
    go_simp
    try with_reducible rfl
  try simp only [Act.put, List.getElem_toArray, List.getElem_cons_succ, List.getElem_cons_zero, List.setIfInBounds_toArray, List.set_cons_zero, List.set_cons_succ]
  refine wpAnyH_take (i := 19) (v := ?tkv11) rfl (by kernel_rfl) (by kernel_rfl) (by kernel_rfl) (fun _ _ _ h => h) (Or.inl ⟨by rfl, ?tky11⟩) (by assumption) ?tkr11
  case tky11 =>
    intro u hSu
    obtain ⟨s0, s1, s2, s3, s4, s5⟩ := hSu
    go_simp
    try with_reducible rfl
  try simp only [Act.put, List.getElem_toArray, List.getElem_cons_succ, List.getElem_cons_zero, List.setIfInBounds_toArray, List.set_cons_zero, List.set_cons_succ]
  refine wpAnyH_take (i := 20) (v := ?tkv12) rfl (by kernel_rfl) (by kernel_rfl) (by kernel_rfl) (fun _ _ _ h => h) (Or.inl ⟨by rfl, ?tky12⟩) (by assumption) ?tkr12
  case tky12 =>
    intro u hSu
    obtain ⟨s0, s1, s2, s3, s4, s5⟩ := hSu
    go_simp
    try with_reducible rfl
  try simp only [Act.put, List.getElem_toArray, List.getElem_cons_succ, List.getElem_cons_zero, List.setIfInBounds_toArray, List.set_cons_zero, List.set_cons_succ]
  refine PO.wpAnyH_pairs (RC w x m) (KJ w (mCs x ea en ec ia im ic ca cn cc da dn dc ra rn rc)) DC DC.symm [2, 5, 6, 9, 10, 13, 14, 17, 18, 21, 22, 23] (by kernel_rfl) (by kernel_rfl) (by kernel_rfl) J1.out (fun u hu => mod_cells hu.X) ?step ?done
  case step =>
    refine PO.Steps2.cons rfl (fun a u hJ hout hR hP K hK => ?s2) ?_
    case s2 =>
      clear hout hR hP
      go_simp
      exact hK.out _ _ (hJ.belowS (below_new u _)) (fun _ _ _ h => h.belowS (below_new u _)) ⟨u.heap.size, rfl, World.ownsRow_lit u #[] 0 hJ.sz (by simp [maxLen]) (by simp)⟩ (fun j vj _ hj _ => dc_new hj (fun b hb => by simp [PO.valBy, Value.ownBlock] at hb; omega))
    refine PO.Steps2.cons rfl (fun a u hJ hout hR hP K hK => ?s5) ?_
    case s5 =>
      obtain ⟨g, r0, ho0⟩ := (show ∃ g, a.eval (.tmp 5) = .slice (some ⟨g, 0, none⟩) 0 0 ∧ u.ownsRow (w.heap.size + 2) 9 1 (a.eval (.tmp 5)) 0 [] from hR 2 (by kernel_rfl))
      rw [r0] at ho0
      have o0 : a.eval (.tmp 7) = .slice ea en ec := hout 7 (by kernel_rfl)
      obtain ⟨q1, q2, q3, q4⟩ := reads_src (H.out.ex.below hJ.B)
      obtain ⟨v', u', hr, hb, ho, hn⟩ := onto_owns (ty := 23) infoStr Try.underlying23 rfl (by decide) hJ.sz ho0 q1 q2 q3 (strs_one _) q4 (by omega)
      rw [← HL.out.1] at ho
      exact Lib.wp_append_run _ _ _ _ _ rfl _ _ r0 o0 _ _ hr (hK.out _ _ (hJ.belowS hb) (fun _ _ _ h => h.belowS hb) ho (fun j vj _ hj hk => dc_onto (k := 2) hj rfl hn (fun hne => by rw [← r0]; exact hk 2 (by kernel_rfl) hne)))
    refine PO.Steps2.cons rfl (fun a u hJ hout hR hP K hK => ?s6) ?_
    case s6 =>
      clear hout hR hP
      go_simp
      exact hK.out _ _ (hJ.belowS (below_new u _)) (fun _ _ _ h => h.belowS (below_new u _)) ⟨u.heap.size, rfl, World.ownsRow_lit u #[] 0 hJ.sz (by simp [maxLen]) (by simp)⟩ (fun j vj _ hj _ => dc_new hj (fun b hb => by simp [PO.valBy, Value.ownBlock] at hb; omega))
    refine PO.Steps2.cons rfl (fun a u hJ hout hR hP K hK => ?s9) ?_
    case s9 =>
      obtain ⟨g, r0, ho0⟩ := (show ∃ g, a.eval (.tmp 9) = .slice (some ⟨g, 0, none⟩) 0 0 ∧ u.ownsRow (w.heap.size + 2) 9 1 (a.eval (.tmp 9)) 0 [] from hR 6 (by kernel_rfl))
      rw [r0] at ho0
      have o0 : a.eval (.tmp 11) = .slice ia im ic := hout 11 (by kernel_rfl)
      obtain ⟨q1, q2, q3, q4⟩ := reads_src (H.out.im.below hJ.B)
      obtain ⟨v', u', hr, hb, ho, hn⟩ := onto_owns (ty := 23) infoStr Try.underlying23 rfl (by decide) hJ.sz ho0 q1 q2 q3 (strs_one _) q4 (by omega)
      rw [← HL.out.2.1] at ho
      exact Lib.wp_append_run _ _ _ _ _ rfl _ _ r0 o0 _ _ hr (hK.out _ _ (hJ.belowS hb) (fun _ _ _ h => h.belowS hb) ho (fun j vj _ hj hk => dc_onto (k := 6) hj rfl hn (fun hne => by rw [← r0]; exact hk 6 (by kernel_rfl) hne)))
    refine PO.Steps2.cons rfl (fun a u hJ hout hR hP K hK => ?s10) ?_
    case s10 =>
      clear hout hR hP
      go_simp
      exact hK.out _ _ (hJ.belowS (below_new u _)) (fun _ _ _ h => h.belowS (below_new u _)) ⟨u.heap.size, rfl, World.ownsRow_lit u #[] 0 hJ.sz (by simp [maxLen]) (by simp)⟩ (fun j vj _ hj _ => dc_new hj (fun b hb => by simp [PO.valBy, Value.ownBlock] at hb; omega))
    refine PO.Steps2.cons rfl (fun a u hJ hout hR hP K hK => ?s13) ?_
    case s13 =>
      obtain ⟨g, r0, ho0⟩ := (show ∃ g, a.eval (.tmp 13) = .slice (some ⟨g, 0, none⟩) 0 0 ∧ u.ownsRow (w.heap.size + 2) 46 1 (a.eval (.tmp 13)) 0 [] from hR 10 (by kernel_rfl))
      rw [r0] at ho0
      have o0 : a.eval (.tmp 15) = .slice ca cn cc := hout 15 (by kernel_rfl)
      obtain ⟨q1, q2, q3, q4⟩ := reads_src (H.out.cd.below hJ.B)
      obtain ⟨v', u', hr, hb, ho, hn⟩ := onto_owns (ty := 36) infoWord Try.underlying36 rfl (by decide) hJ.sz ho0 q1 q2 q3 (u32s_one _) q4 (by omega)
      rw [← HL.out.2.2.1] at ho
      exact Lib.wp_append_run _ _ _ _ _ rfl _ _ r0 o0 _ _ hr (hK.out _ _ (hJ.belowS hb) (fun _ _ _ h => h.belowS hb) ho (fun j vj _ hj hk => dc_onto (k := 10) hj rfl hn (fun hne => by rw [← r0]; exact hk 10 (by kernel_rfl) hne)))
    refine PO.Steps2.cons rfl (fun a u hJ hout hR hP K hK => ?s14) ?_
    case s14 =>
      clear hout hR hP
      go_simp
      exact hK.out _ _ (hJ.belowS (below_new u _)) (fun _ _ _ h => h.belowS (below_new u _)) ⟨u.heap.size, rfl, World.ownsRow_lit u #[] 0 hJ.sz (by simp [maxLen]) (by simp)⟩ (fun j vj _ hj _ => dc_new hj (fun b hb => by simp [PO.valBy, Value.ownBlock] at hb; omega))
    refine PO.Steps2.cons rfl (fun a u hJ hout hR hP K hK => ?s17) ?_
    case s17 =>
      obtain ⟨g, r0, ho0⟩ := (show ∃ g, a.eval (.tmp 17) = .slice (some ⟨g, 0, none⟩) 0 0 ∧ u.ownsRow (w.heap.size + 2) 46 1 (a.eval (.tmp 17)) 0 [] from hR 14 (by kernel_rfl))
      rw [r0] at ho0
      have o0 : a.eval (.tmp 19) = .slice da dn dc := hout 19 (by kernel_rfl)
      obtain ⟨q1, q2, q3, q4⟩ := reads_src (H.out.dt.below hJ.B)
      obtain ⟨v', u', hr, hb, ho, hn⟩ := onto_owns (ty := 36) infoWord Try.underlying36 rfl (by decide) hJ.sz ho0 q1 q2 q3 (u32s_one _) q4 (by omega)
      rw [← HL.out.2.2.2.1] at ho
      exact Lib.wp_append_run _ _ _ _ _ rfl _ _ r0 o0 _ _ hr (hK.out _ _ (hJ.belowS hb) (fun _ _ _ h => h.belowS hb) ho (fun j vj _ hj hk => dc_onto (k := 14) hj rfl hn (fun hne => by rw [← r0]; exact hk 14 (by kernel_rfl) hne)))
    refine PO.Steps2.cons rfl (fun a u hJ hout hR hP K hK => ?s18) ?_
    case s18 =>
      clear hout hR hP
      go_simp
      exact hK.out _ _ (hJ.belowS (below_new u _)) (fun _ _ _ h => h.belowS (below_new u _)) ⟨u.heap.size, rfl, World.ownsRow_lit u #[] 0 hJ.sz (by simp [maxLen]) (by simp)⟩ (fun j vj _ hj _ => dc_new hj (fun b hb => by simp [PO.valBy, Value.ownBlock] at hb; omega))
    refine PO.Steps2.cons rfl (fun a u hJ hout hR hP K hK => ?s21) ?_
    case s21 =>
      obtain ⟨g, r0, ho0⟩ := (show ∃ g, a.eval (.tmp 21) = .slice (some ⟨g, 0, none⟩) 0 0 ∧ u.ownsRow (w.heap.size + 2) 76 3 (a.eval (.tmp 21)) 0 [] from hR 18 (by kernel_rfl))
      rw [r0] at ho0
      have o0 : a.eval (.tmp 23) = .slice ra rn rc := hout 23 (by kernel_rfl)
      obtain ⟨q1, q2, q3, q4⟩ := readsR_src (H.out.rl.below hJ.B)
      obtain ⟨v', u', hr, hb, ho, hn⟩ := onto_owns (ty := 43) infoRel Try.underlying43 rfl (by decide) hJ.sz ho0 q1 q2 q3 (relC_one _) q4 (by omega)
      rw [← HL.out.2.2.2.2] at ho
      exact Lib.wp_append_run _ _ _ _ _ rfl _ _ r0 o0 _ _ hr (hK.out _ _ (hJ.belowS hb) (fun _ _ _ h => h.belowS hb) ho (fun j vj _ hj hk => dc_onto (k := 18) hj rfl hn (fun hne => by rw [← r0]; exact hk 18 (by kernel_rfl) hne)))
    refine PO.Steps2.cons rfl (fun a u hJ hout hR hP K hK => ?s22) ?_
    case s22 =>
      have o4 : a.tmps.getD 4 undef = .string x := hout 4 (by kernel_rfl)
      have p1 : ∀ g, (a.tmps.getD 8 undef).ownBlock = some g → (a.tmps.getD 12 undef).ownBlock ≠ some g := hP 5 9 (by kernel_rfl) (by kernel_rfl) (by decide) (by decide) (by decide) (by decide)
      have p2 : ∀ g, (a.tmps.getD 16 undef).ownBlock = some g → (a.tmps.getD 20 undef).ownBlock ≠ some g := hP 13 17 (by kernel_rfl) (by kernel_rfl) (by decide) (by decide) (by decide) (by decide)
      have r8 : u.ownsRow (w.heap.size + 2) 9 1 (a.tmps.getD 8 undef) m.exps.length (strs m.exps) := hR 5 (by kernel_rfl)
      obtain ⟨a8, c8, e8⟩ := owns_form r8
      rw [e8] at r8 p1
      have r12 : u.ownsRow (w.heap.size + 2) 9 1 (a.tmps.getD 12 undef) m.imps.length (strs m.imps) := hR 9 (by kernel_rfl)
      obtain ⟨a12, c12, e12⟩ := owns_form r12
      rw [e12] at r12 p1
      have r16 : u.ownsRow (w.heap.size + 2) 46 1 (a.tmps.getD 16 undef) m.code.length (u32s m.code) := hR 13 (by kernel_rfl)
      obtain ⟨a16, c16, e16⟩ := owns_form r16
      rw [e16] at r16 p2
      have r20 : u.ownsRow (w.heap.size + 2) 46 1 (a.tmps.getD 20 undef) m.data.length (u32s m.data) := hR 17 (by kernel_rfl)
      obtain ⟨a20, c20, e20⟩ := owns_form r20
      rw [e20] at r20 p2
      have r24 : u.ownsRow (w.heap.size + 2) 76 3 (a.tmps.getD 24 undef) m.rels.length (relC m.rels) := hR 21 (by kernel_rfl)
      obtain ⟨a24, c24, e24⟩ := owns_form r24
      rw [e24] at r24
      simp only [Array.getD_eq_getD_getElem?] at o4 e8 e12 e16 e20 e24
      clear hout hR hP
      go_simp
      exact hK.out _ _ hJ (fun _ _ _ h => h) ⟨_, _, _, _, _, _, _, _, _, _, _, _, _, _, _, rfl, ⟨⟨r8, r12, r16, r20, r24⟩, p1, p2⟩⟩ (fun _ _ _ _ _ => dc_off rfl)
    refine PO.Steps2.cons rfl (fun a u hJ hout hR hP K hK => ?s23) PO.Steps2.nil
    case s23 =>
      have o2 : a.tmps.getD 2 undef = .pointer (some ⟨w.heap.size + 1, 0, none⟩) := hout 2 (by kernel_rfl)
      obtain ⟨ea2, en2, ec2, ia2, im2, ic2, ca2, cn2, cc2, da2, dn2, dc2, ra2, rn2, rc2, e25, hrd⟩ := (show ∃ ea en ec ia im ic ca cn cc da dn dc ra rn rc, a.tmps.getD 25 undef = mV x ea en ec ia im ic ca cn cc da dn dc ra rn rc ∧ OwnD (w.heap.size + 2) m u ea en ec ia im ic ca cn cc da dn dc ra rn rc from hR 22 (by kernel_rfl))
      simp only [Array.getD_eq_getD_getElem?] at o2 e25
      obtain ⟨y0, y1, y2, y3, y4, y5, hY⟩ := hJ.Y
      have c0 := hY.cell 0
      have c1 := hY.cell 1
      have c2 := hY.cell 2
      have c3 := hY.cell 3
      have c4 := hY.cell 4
      have c5 := hY.cell 5
      simp at c0 c1 c2 c3 c4 c5
      have f0 := hY.frozen 0
      have f1 := hY.frozen 1
      have f2 := hY.frozen 2
      have f3 := hY.frozen 3
      have f4 := hY.frozen 4
      have f5 := hY.frozen 5
      have hJh := Lib.hid hJ
      have hYh := Lib.hid hY
      have hrdh := Lib.hid hrd
      clear hout hR hP hJ hY hrd
      go_simp
      have FY : Whole ((((((u.setCell ⟨w.heap.size + 1, 0, none⟩ (.string x)).setCell ⟨w.heap.size + 1, 1, none⟩ (.slice ea2 en2 ec2)).setCell ⟨w.heap.size + 1, 2, none⟩ (.slice ia2 im2 ic2)).setCell ⟨w.heap.size + 1, 3, none⟩ (.slice ca2 cn2 cc2)).setCell ⟨w.heap.size + 1, 4, none⟩ (.slice da2 dn2 dc2)).setCell ⟨w.heap.size + 1, 5, none⟩ (.slice ra2 rn2 rc2)) (w.heap.size + 1) 45 (mCs x ea2 en2 ec2 ia2 im2 ic2 ca2 cn2 cc2 da2 dn2 dc2 ra2 rn2 rc2) := ((((((hYh.out.set_ 0 (.string x)).set_ 1 (.slice ea2 en2 ec2)).set_ 2 (.slice ia2 im2 ic2)).set_ 3 (.slice ca2 cn2 cc2)).set_ 4 (.slice da2 dn2 dc2)).set_ 5 (.slice ra2 rn2 rc2))
      have FX : Whole ((((((u.setCell ⟨w.heap.size + 1, 0, none⟩ (.string x)).setCell ⟨w.heap.size + 1, 1, none⟩ (.slice ea2 en2 ec2)).setCell ⟨w.heap.size + 1, 2, none⟩ (.slice ia2 im2 ic2)).setCell ⟨w.heap.size + 1, 3, none⟩ (.slice ca2 cn2 cc2)).setCell ⟨w.heap.size + 1, 4, none⟩ (.slice da2 dn2 dc2)).setCell ⟨w.heap.size + 1, 5, none⟩ (.slice ra2 rn2 rc2)) w.heap.size 45 (mCs x ea en ec ia im ic ca cn cc da dn dc ra rn rc) := ((((((hJh.out.X.far (p := ⟨w.heap.size + 1, 0, none⟩) (by simp) (.string x)).far (p := ⟨w.heap.size + 1, 1, none⟩) (by simp) (.slice ea2 en2 ec2)).far (p := ⟨w.heap.size + 1, 2, none⟩) (by simp) (.slice ia2 im2 ic2)).far (p := ⟨w.heap.size + 1, 3, none⟩) (by simp) (.slice ca2 cn2 cc2)).far (p := ⟨w.heap.size + 1, 4, none⟩) (by simp) (.slice da2 dn2 dc2)).far (p := ⟨w.heap.size + 1, 5, none⟩) (by simp) (.slice ra2 rn2 rc2))
      have FB : Below w.heap.size w ((((((u.setCell ⟨w.heap.size + 1, 0, none⟩ (.string x)).setCell ⟨w.heap.size + 1, 1, none⟩ (.slice ea2 en2 ec2)).setCell ⟨w.heap.size + 1, 2, none⟩ (.slice ia2 im2 ic2)).setCell ⟨w.heap.size + 1, 3, none⟩ (.slice ca2 cn2 cc2)).setCell ⟨w.heap.size + 1, 4, none⟩ (.slice da2 dn2 dc2)).setCell ⟨w.heap.size + 1, 5, none⟩ (.slice ra2 rn2 rc2)) := ((((((hJh.out.B.setCell (p := ⟨w.heap.size + 1, 0, none⟩) (by simp) (.string x)).setCell (p := ⟨w.heap.size + 1, 1, none⟩) (by simp) (.slice ea2 en2 ec2)).setCell (p := ⟨w.heap.size + 1, 2, none⟩) (by simp) (.slice ia2 im2 ic2)).setCell (p := ⟨w.heap.size + 1, 3, none⟩) (by simp) (.slice ca2 cn2 cc2)).setCell (p := ⟨w.heap.size + 1, 4, none⟩) (by simp) (.slice da2 dn2 dc2)).setCell (p := ⟨w.heap.size + 1, 5, none⟩) (by simp) (.slice ra2 rn2 rc2))
      have FS : ((((((u.setCell ⟨w.heap.size + 1, 0, none⟩ (.string x)).setCell ⟨w.heap.size + 1, 1, none⟩ (.slice ea2 en2 ec2)).setCell ⟨w.heap.size + 1, 2, none⟩ (.slice ia2 im2 ic2)).setCell ⟨w.heap.size + 1, 3, none⟩ (.slice ca2 cn2 cc2)).setCell ⟨w.heap.size + 1, 4, none⟩ (.slice da2 dn2 dc2)).setCell ⟨w.heap.size + 1, 5, none⟩ (.slice ra2 rn2 rc2)).heap.size = u.heap.size := by simp
      have FK : ∀ g, onTwo w g → g < u.heap.size → ((((((u.setCell ⟨w.heap.size + 1, 0, none⟩ (.string x)).setCell ⟨w.heap.size + 1, 1, none⟩ (.slice ea2 en2 ec2)).setCell ⟨w.heap.size + 1, 2, none⟩ (.slice ia2 im2 ic2)).setCell ⟨w.heap.size + 1, 3, none⟩ (.slice ca2 cn2 cc2)).setCell ⟨w.heap.size + 1, 4, none⟩ (.slice da2 dn2 dc2)).setCell ⟨w.heap.size + 1, 5, none⟩ (.slice ra2 rn2 rc2)).heap[g]? = u.heap[g]? := fun g hg _ => by
        have hne : g ≠ w.heap.size + 1 := by have : w.heap.size + 2 ≤ g := hg; omega
        rw [Below.heap_setCell _ _ _ _ hne, Below.heap_setCell _ _ _ _ hne, Below.heap_setCell _ _ _ _ hne, Below.heap_setCell _ _ _ _ hne, Below.heap_setCell _ _ _ _ hne, Below.heap_setCell _ _ _ _ hne]
      generalize ((((((u.setCell ⟨w.heap.size + 1, 0, none⟩ (.string x)).setCell ⟨w.heap.size + 1, 1, none⟩ (.slice ea2 en2 ec2)).setCell ⟨w.heap.size + 1, 2, none⟩ (.slice ia2 im2 ic2)).setCell ⟨w.heap.size + 1, 3, none⟩ (.slice ca2 cn2 cc2)).setCell ⟨w.heap.size + 1, 4, none⟩ (.slice da2 dn2 dc2)).setCell ⟨w.heap.size + 1, 5, none⟩ (.slice ra2 rn2 rc2)) = U at *
      exact hK.out undef _ ⟨FX, ⟨_, _, _, _, _, _, FY⟩, FB, by rw [FS]; exact hJh.out.sz⟩ (fun j v hj h => h.keep FK (fun e => absurd e hj)) ⟨_, _, _, _, _, _, _, _, _, _, _, _, _, _, _, FY, hrdh.out.keep FK⟩ (fun _ _ _ _ _ => dc_off rfl)
  case done =>
    intro a u hJ hout hsz hdf hR
    have o2 : a.tmps[2]? = some (.pointer (some ⟨w.heap.size + 1, 0, none⟩)) := hout 2 (by kernel_rfl)
    obtain ⟨ea2, en2, ec2, ia2, im2, ic2, ca2, cn2, cc2, da2, dn2, dc2, ra2, rn2, rc2, hY, hrd⟩ := (show ∃ ea en ec ia im ic ca cn cc da dn dc ra rn rc, Whole u (w.heap.size + 1) 45 (mCs x ea en ec ia im ic ca cn cc da dn dc ra rn rc) ∧ OwnD (w.heap.size + 2) m u ea en ec ia im ic ca cn cc da dn dc ra rn rc from hR 23 rfl)
    have hJh := Lib.hid hJ
    have hrd' := Lib.hid hrd
    clear hout hR hJ hrd hHeld SX
    go_wp2_with fail
    obtain ⟨g0, g1, g2, g3, g4, g5⟩ := mod_cells hY
    have R5 := hrd'.out
    exact bodyPost_ret (v := mV x ea2 en2 ec2 ia2 im2 ic2 ca2 cn2 cc2 da2 dn2 dc2 ra2 rn2 rc2) (by simp [results, Try.results19, go_sem, o2, g0, g1, g2, g3, g4, g5]) hdf ⟨_, _, _, _, _, _, _, _, _, _, _, _, _, _, _, rfl, ⟨⟨owns_base R5.own.ex (by omega), owns_base R5.own.im (by omega), owns_base R5.own.cd (by omega), owns_base R5.own.dt (by omega), owns_base R5.own.rl (by omega)⟩, R5.ei, R5.cd⟩, hJh.out.B⟩
end
end Go.Proofs.Ytajidaicojekdaa.OR
