/-
  A region whose operations come in whatever order, walked by one post for each operation: over any program. Nothing here is a statement of the seed.
-/
import Derived.Test.YtdfafllldanfiaaGreatWireA
import Derived.Deep.RegionHeld3
set_option linter.unusedSimpArgs false
set_option linter.unusedVariables false
namespace Go.Proofs.YtdfafllldanfiaaGreat.PO
open Go
section
variable {P : Program} {ops : Array Oper} {Q : Exit → Act → World → Prop} {md : Region.Mode} {S : World → Prop}
def dstOf (ops : Array Oper) (i : Nat) : Tmp := ((ops[i]?).bind (·.dst)).getD 0
/-- does it write a slot -/
def hasDst (ops : Array Oper) (i : Nat) : Bool := ((ops[i]?).bind (·.dst)).isSome
/-- what it has left in its slot -/
def valOf (ops : Array Oper) (a : Act) (i : Nat) : Value := match (ops[i]?).bind (·.dst) with
  | some d => a.eval (.tmp d)
  | none => undef
def valBy (o : Oper) (v : Value) : Value := match o.dst with
  | some _ => v
  | none => undef
/-- the operations that have not come up yet and that i waits for -/
def waits (md : Region.Mode) (ops : Array Oper) (l0 : Array Bool) (i : Nat) : List Nat := match ops[i]? with
  | some o => (o.after.toList.filter fun e => Region.binds md e && !l0.getD e.on true).map (·.on)
  | none => []
def okOp (md : Region.Mode) (ops : Array Oper) (l0 : Array Bool) (n i : Nat) : Bool := l0.getD i true || match ops[i]? with
  | some o => o.guard.isNone && (!hasDst ops i || decide (dstOf ops i < n)) && o.after.all (fun e => !Region.binds md e || decide (e.on < i)) && (List.range i).all (fun j => l0.getD j true || !hasDst ops j || !hasDst ops i || dstOf ops j != dstOf ops i)
  | none => false
def okAll (md : Region.Mode) (ops : Array Oper) (l0 : Array Bool) (n : Nat) : Bool := decide (l0.size = ops.size) && (List.range ops.size).all (okOp md ops l0 n)
/-- a slot that no operation writes which has not come up yet -/
def outside (ops : Array Oper) (l0 : Array Bool) (t : Tmp) : Bool := (List.range ops.size).all fun j => l0.getD j true || !hasDst ops j || dstOf ops j != t
def left (l : Array Bool) : Nat := l.toList.count false
theorem okAll_spec {l0 : Array Bool} {n : Nat} (h : okAll md ops l0 n = true) : l0.size = ops.size ∧ ∀ i, l0.getD i true = false → ∃ o, ops[i]? = some o ∧ o.guard = none ∧ (∀ d, o.dst = some d → d < n) ∧ (∀ e ∈ o.after, Region.binds md e = true → e.on < i) ∧ ∀ j oj d, j < i → l0.getD j true = false → ops[j]? = some oj → oj.dst = some d → o.dst ≠ some d := by
  unfold okAll at h
  simp only [Bool.and_eq_true, decide_eq_true_eq, List.all_eq_true, List.mem_range] at h
  refine ⟨h.1, fun i hi => ?_⟩
  have hlt : i < ops.size := by
    rw [← h.1]
    rcases Nat.lt_or_ge i l0.size with h' | h'
    · exact h'
    · simp [Array.getElem?_eq_none h'] at hi
  have h2 := h.2 i hlt
  unfold okOp at h2
  rw [hi, Bool.false_or] at h2
  have ho : ops[i]? = some ops[i] := by simp [hlt]
  rw [ho] at h2
  simp only [Bool.and_eq_true, Bool.or_eq_true, decide_eq_true_eq, List.all_eq_true, List.mem_range, bne_iff_ne, Option.isNone_iff_eq_none, Bool.not_eq_true'] at h2
  obtain ⟨⟨⟨g1, g3⟩, g4⟩, g5⟩ := h2
  refine ⟨ops[i], ho, g1, fun d hd => ?_, fun e he hb => ?_, fun j oj d hj hj0 hoj hd hd' => ?_⟩
  · rcases g3 with g3 | g3
    · unfold hasDst at g3
      rw [ho] at g3
      simp [hd] at g3
    · unfold dstOf at g3
      rw [ho] at g3
      simpa [hd] using g3
  · have := Array.all_eq_true_iff_forall_mem.1 g4 e he
    simp only [hb, Bool.not_true, Bool.false_or, decide_eq_true_eq] at this
    exact this
  · have x := g5 j hj
    unfold hasDst dstOf at x
    rw [ho, hoj] at x
    simp [hd, hd'] at x
    simp [x] at hj0
theorem count_set {l : List Bool} {i : Nat} (h : l[i]? = some false) : (l.set i true).count false + 1 = l.count false := by
  induction l generalizing i with
  | nil => simp at h
  | cons b l ih =>
    cases i with
    | zero =>
      simp at h
      subst h
      simp
    | succ i =>
      simp only [List.getElem?_cons_succ] at h
      have := ih h
      rw [List.set_cons_succ, List.count_cons, List.count_cons]
      omega
theorem count_pos {l : List Bool} {i : Nat} (h : l[i]? = some false) : 0 < l.count false := List.count_pos_iff.2 (List.mem_of_getElem? h)
theorem getD_false {l : Array Bool} {i : Nat} (h : l.getD i true = false) : l.toList[i]? = some false := by
  rcases Nat.lt_or_ge i l.size with h' | h'
  · simp [h'] at h
    simp [h', h]
  · simp [Array.getElem?_eq_none h'] at h
/-- what holds on the way -/
structure Inv (ops : Array Oper) (l0 : Array Bool) (a0 : Act) (R : Nat → Value → World → Prop) (J : World → Prop) (listed : Array Bool) (a : Act) (w : World) : Prop where
  J : J w
  sub : ∀ j, l0.getD j true = true → listed.getD j true = true
  size : listed.size = l0.size
  out : ∀ t, outside ops l0 t = true → a.tmps[t]? = a0.tmps[t]?
  asz : a.tmps.size = a0.tmps.size
  df : a.defers = a0.defers
  R : ∀ j, l0.getD j true = false → listed.getD j true = true → R j (valOf ops a j) w
theorem getD_set_self {l : Array Bool} {i : Nat} (h : l.getD i true = false) : (l.setIfInBounds i true).getD i true = true := by
  rcases Nat.lt_or_ge i l.size with h' | h'
  · simp [h']
  · simp [Array.getElem?_eq_none h'] at h
/-- when nothing may come up all has come up -/
theorem all_listed {l0 listed : Array Bool} {n : Nat} (hok : okAll md ops l0 n = true) (hs : listed.size = l0.size) (hsub : ∀ j, l0.getD j true = true → listed.getD j true = true) (hr : Region.ready md ops listed = []) : ∀ (k i : Nat), i < k → l0.getD i true = false → listed.getD i true = true := by
  intro k
  induction k with
  | zero => intro i hi; omega
  | succ k ih =>
    intro i hi h0
    obtain ⟨hsz, hsp⟩ := okAll_spec hok
    obtain ⟨o, ho, _, _, hback, _⟩ := hsp i h0
    cases hl : listed.getD i true with
    | true => rfl
    | false =>
      have : i ∈ Region.ready md ops listed := mem_ready.2 ⟨hl, o, ho, fun e he hb => by
        have hlt := hback e he hb
        have hil : i < listed.size := by
          rcases Nat.lt_or_ge i listed.size with h' | h'
          · exact h'
          · simp [Array.getElem?_eq_none h'] at hl
        have hel : e.on < listed.size := by omega
        have hT : listed.getD e.on true = true := by
          cases h1 : l0.getD e.on true with
          | true => exact hsub _ h1
          | false => exact ih e.on (by omega) h1
        simp [hel] at hT
        simp [hel, hT]⟩
      rw [hr] at this
      cases this
theorem wpAnyH_posts {l0 : Array Bool} {a0 : Act} {w0 : World} {fuel : Nat} (R : Nat → Value → World → Prop) (J : World → Prop)
    (hok : okAll md ops l0 a0.tmps.size = true) (hfuel : left l0 ≤ fuel) (hJ : J w0) (hS : ∀ u, J u → S u)
    (step : ∀ i ∈ (List.range ops.size).filter (fun i => !l0.getD i true), ∀ o, ops[i]? = some o → ∀ (a : Act) (u : World), J u →
      (∀ t, outside ops l0 t = true → a.eval (.tmp t) = a0.eval (.tmp t)) →
      (∀ j, (waits md ops l0 i).contains j = true → R j (valOf ops a j) u) →
      ∀ K : Act → World → Prop, (∀ v u', J u' → (∀ j v, j ≠ i → R j v u → R j v u') → R i (valBy o v) u' → K (a.put o.dst v) u') → o.wp P a u K Q)
    (done : ∀ a u, J u → (∀ t, outside ops l0 t = true → a.tmps[t]? = a0.tmps[t]?) → a.tmps.size = a0.tmps.size → a.defers = a0.defers → (∀ i, l0.getD i true = false → R i (valOf ops a i) u) → Q .normal a u) :
    wpAnyH P md ops Q S fuel l0 a0 w0 := by
  obtain ⟨hsz, hsp⟩ := okAll_spec hok
  have main : ∀ (fuel : Nat) (listed : Array Bool) (a : Act) (w : World), Inv ops l0 a0 R J listed a w → left listed ≤ fuel → wpAnyH P md ops Q S fuel listed a w := by
    intro fuel
    induction fuel with
    | zero =>
      intro listed a w I hf
      have hnone : Region.ready md ops listed = [] := by
        apply List.eq_nil_iff_forall_not_mem.2
        intro i hi
        have := count_pos (getD_false (mem_ready.1 hi).1)
        unfold left at hf
        omega
      exact ⟨hnone, done a w I.J I.out I.asz I.df fun i hi => I.R i hi (all_listed hok I.size I.sub hnone (i + 1) i (by omega) hi)⟩
    | succ fuel ih =>
      intro listed a w I hf
      refine ⟨fun hnone => done a w I.J I.out I.asz I.df fun i hi => I.R i hi (all_listed hok I.size I.sub hnone (i + 1) i (by omega) hi), fun i hi => ?_⟩
      obtain ⟨hun, o, ho, hall⟩ := mem_ready.1 hi
      have h0 : l0.getD i true = false := by
        cases h : l0.getD i true with
        | false => rfl
        | true => rw [I.sub i h] at hun; cases hun
      obtain ⟨o', ho', hg, hdn, hback, hne⟩ := hsp i h0
      obtain rfl : o = o' := Option.some.inj (ho.symm.trans ho')
      have hilt : i < ops.size := (Array.getElem?_eq_some_iff.1 ho).1
      unfold wpOp
      simp only [ho]
      rw [if_pos (by simp [Region.wanted, hg])]
      refine .inl (step i (by simp [hilt]; simpa using h0) o ho a w I.J (fun t ht => ?_) (fun j hj => ?_) _ (fun v u' hJ' hLe hR => ⟨hS _ hJ', ih _ _ _ ?_ ?_⟩))
      · simp only [Act.eval, Array.getD_eq_getD_getElem?]
        rw [I.out t ht]
      · unfold waits at hj
        rw [ho] at hj
        simp only [List.contains_eq_mem, decide_eq_true_eq, List.mem_map, List.mem_filter, Bool.and_eq_true, Bool.not_eq_true'] at hj
        obtain ⟨e, ⟨he, hb, hl⟩, rfl⟩ := hj
        have hT := hall e (by simpa using he) hb
        refine I.R e.on hl ?_
        rcases Nat.lt_or_ge e.on listed.size with h' | h'
        · simp [h'] at hT
          simp [h', hT]
        · simp [Array.getElem?_eq_none h'] at hT
      · have eself : valOf ops (a.put o.dst v) i = valBy o v := by
          unfold valOf valBy
          rw [ho]
          simp only [Option.bind_some]
          cases hd : o.dst with
          | none => rfl
          | some d =>
            have : d < a.tmps.size := by rw [I.asz]; exact hdn d hd
            simp [Act.eval, Act.put, this]
        have eother : ∀ j, l0.getD j true = false → i ≠ j → valOf ops (a.put o.dst v) j = valOf ops a j := by
          intro j hj hij
          obtain ⟨oj, hoj, _, _, _, hnej⟩ := hsp j hj
          unfold valOf
          rw [hoj]
          simp only [Option.bind_some]
          cases hdj : oj.dst with
          | none => rfl
          | some dj =>
            refine Act.eval_put fun d hd hx => ?_
            have hdd : d = dj := by simpa using hx.symm
            subst hdd
            rcases Nat.lt_or_gt_of_ne hij with h' | h'
            · exact hnej i o d h' h0 ho hd hdj
            · exact hne j oj d h' hj hoj hdj hd
        refine ⟨hJ', fun j hj => ?_, by rw [Array.size_setIfInBounds]; exact I.size, fun t ht => ?_, ?_, ?_, fun j hj hjl => ?_⟩
        · by_cases hij : i = j
          · subst hij; rw [hj] at h0; cases h0
          · rw [getD_set_ne true hij]; exact I.sub j hj
        · cases hd : o.dst with
          | none => exact I.out t ht
          | some d =>
            have hdt : d ≠ t := by
              unfold outside hasDst dstOf at ht
              simp only [List.all_eq_true, List.mem_range, Bool.or_eq_true, bne_iff_ne, Bool.not_eq_true'] at ht
              rcases ht i hilt with (x | x) | x
              · rw [h0] at x; cases x
              · rw [ho] at x; simp [hd] at x
              · rw [ho] at x; simpa [hd] using x
            simp only [Act.put]
            rw [Array.getElem?_setIfInBounds_ne hdt]
            exact I.out t ht
        · cases hd : o.dst with
          | none => exact I.asz
          | some d => simp [Act.put, I.asz]
        · cases hd : o.dst with
          | none => exact I.df
          | some d => exact I.df
        · by_cases hij : i = j
          · subst hij
            rw [eself]
            exact hR
          · rw [getD_set_ne true hij] at hjl
            rw [eother j hj hij]
            exact hLe j _ (Ne.symm hij) (I.R j hj hjl)
      · have h1 := count_set (getD_false hun)
        unfold left at hf ⊢
        rw [Array.toList_setIfInBounds]
        omega
  exact main fuel l0 a0 w0 ⟨hJ, fun _ h => h, rfl, fun _ _ => rfl, rfl, rfl, fun j h1 h2 => by rw [h1] at h2; cases h2⟩ hfuel
/-- the steps, one operation after the other -/
def Steps (P : Program) (md : Region.Mode) (ops : Array Oper) (Q : Exit → Act → World → Prop) (l0 : Array Bool) (a0 : Act) (R : Nat → Value → World → Prop) (J : World → Prop) (is : List Nat) : Prop :=
  ∀ i ∈ is, ∀ o, ops[i]? = some o → ∀ (a : Act) (u : World), J u →
      (∀ t, outside ops l0 t = true → a.eval (.tmp t) = a0.eval (.tmp t)) →
      (∀ j, (waits md ops l0 i).contains j = true → R j (valOf ops a j) u) →
      ∀ K : Act → World → Prop, (∀ v u', J u' → (∀ j v, j ≠ i → R j v u → R j v u') → R i (valBy o v) u' → K (a.put o.dst v) u') → o.wp P a u K Q
theorem Steps.nil {l0 : Array Bool} {a0 : Act} {R : Nat → Value → World → Prop} {J : World → Prop} : Steps P md ops Q l0 a0 R J [] := fun i hi => by cases hi
theorem Steps.cons {l0 : Array Bool} {a0 : Act} {R : Nat → Value → World → Prop} {J : World → Prop} {i : Nat} {is : List Nat} {o : Oper} (ho : ops[i]? = some o)
    (h : ∀ (a : Act) (u : World), J u →
      (∀ t, outside ops l0 t = true → a.eval (.tmp t) = a0.eval (.tmp t)) →
      (∀ j, (waits md ops l0 i).contains j = true → R j (valOf ops a j) u) →
      ∀ K : Act → World → Prop, Shut (∀ v u', J u' → (∀ j v, j ≠ i → R j v u → R j v u') → R i (valBy o v) u' → K (a.put o.dst v) u') → o.wp P a u K Q)
    (hs : Steps P md ops Q l0 a0 R J is) : Steps P md ops Q l0 a0 R J (i :: is) := fun j hj o' ho' a u => by
  rcases List.mem_cons.1 hj with rfl | hj
  · obtain rfl := Option.some.inj (ho.symm.trans ho')
    exact fun h1 h2 h3 K hK => h a u h1 h2 h3 K hK
  · exact hs j hj o' ho' a u
theorem wpAnyH_steps {l0 : Array Bool} {a0 : Act} {w0 : World} {fuel : Nat} (R : Nat → Value → World → Prop) (J : World → Prop) (is : List Nat)
    (hok : okAll md ops l0 a0.tmps.size = true) (hfuel : decide (left l0 ≤ fuel) = true) (his : (List.range ops.size).filter (fun i => !l0.getD i true) = is) (hJ : J w0) (hS : ∀ u, J u → S u)
    (step : Steps P md ops Q l0 a0 R J is)
    (done : ∀ a u, J u → (∀ t, outside ops l0 t = true → a.tmps[t]? = a0.tmps[t]?) → a.tmps.size = a0.tmps.size → a.defers = a0.defers → (∀ i, l0.getD i true = false → R i (valOf ops a i) u) → Q .normal a u) :
    wpAnyH P md ops Q S fuel l0 a0 w0 :=
  wpAnyH_posts R J hok (of_decide_eq_true hfuel) hJ hS (by rw [his]; exact step) done
end
end Go.Proofs.YtdfafllldanfiaaGreat.PO
