/-
  Pages as numbers: what becomes of lists of them. Plain mathematics; nothing here is a statement of the seed.
-/
set_option linter.unusedSimpArgs false
set_option linter.unusedVariables false
namespace Go.Proofs.Ytkmjacpcpchjoaa.PM

/-- a page: its state, whether it runs, whether it is written, its owner, its epoch -/
structure Pg where
  st : Int
  ex : Bool
  wr : Bool
  ow : Int
  ep : Int
def zero : Pg := ⟨0, false, false, 0, 0⟩
def usedB (p : Pg) : Bool := !(decide (p.st = 0) && !p.ex && !p.wr && decide (p.ow = 0) && decide (p.ep = 0))
theorem used_no {p : Pg} : usedB p = false ↔ p = zero := by
  obtain ⟨st, ex, wr, ow, ep⟩ := p
  cases ex <;> cases wr <;> simp [usedB, zero, Pg.mk.injEq] <;> omega
def seenB (p : Pg) (e : Int) : Bool := decide (p.st = 2) || (decide (p.st = 3) && decide (e < p.ep))
def runsB (p : Pg) (e : Int) : Bool := seenB p e && p.ex
def writesB (p : Pg) (e o : Int) : Bool := seenB p e && p.wr && decide (p.ow = o) && decide (o ≠ 0)
theorem getD_in {l : List Pg} {j : Nat} (h : j < l.length) : l.getD j zero = l[j] := by simp [h]
/-- the numbers below m of the pages that c takes -/
def idx (c : Pg → Bool) (l : List Pg) (m : Nat) : List Nat := (List.range m).filter fun j => c (l.getD j zero)
def rank (c : Pg → Bool) (l : List Pg) (m : Nat) : Nat := (idx c l m).length
theorem idx_zero (c : Pg → Bool) (l : List Pg) : idx c l 0 = [] := rfl
theorem idx_succ (c : Pg → Bool) (l : List Pg) (m : Nat) : idx c l (m + 1) = idx c l m ++ if c (l.getD m zero) then [m] else [] := by
  unfold idx
  rw [List.range_succ, List.filter_append]
  congr 1
  rw [List.filter_cons]
  split <;> rfl
theorem rank_zero (c : Pg → Bool) (l : List Pg) : rank c l 0 = 0 := rfl
theorem rank_yes {c : Pg → Bool} {l : List Pg} {m : Nat} (h : c (l.getD m zero) = true) : rank c l (m + 1) = rank c l m + 1 := by
  unfold rank; rw [idx_succ, if_pos h]; simp
theorem rank_no {c : Pg → Bool} {l : List Pg} {m : Nat} (h : c (l.getD m zero) = false) : rank c l (m + 1) = rank c l m := by
  unfold rank; rw [idx_succ, h]; simp
theorem rank_step (c : Pg → Bool) (l : List Pg) (m : Nat) : rank c l m ≤ rank c l (m + 1) ∧ rank c l (m + 1) ≤ rank c l m + 1 := by
  cases h : c (l.getD m zero)
  · rw [rank_no h]; omega
  · rw [rank_yes h]; omega
theorem rank_le (c : Pg → Bool) (l : List Pg) (m : Nat) : rank c l m ≤ m := by
  induction m with
  | zero => simp [rank_zero]
  | succ m ih => have := rank_step c l m; omega
theorem rank_mono (c : Pg → Bool) (l : List Pg) {i m : Nat} (h : i ≤ m) : rank c l i ≤ rank c l m := by
  induction m with
  | zero => have : i = 0 := by omega
            subst this; exact Nat.le_refl _
  | succ m ih =>
    by_cases h' : i ≤ m
    · have := rank_step c l m; have := ih h'; omega
    · have : i = m + 1 := by omega
      subst this; exact Nat.le_refl _
theorem rank_lt {c : Pg → Bool} {l : List Pg} {i m : Nat} (h : i < m) (hc : c (l.getD i zero) = true) : rank c l i < rank c l m := by
  have h1 := rank_yes hc
  have h2 := rank_mono c l (show i + 1 ≤ m by omega)
  omega
theorem idx_at (c : Pg → Bool) (l : List Pg) : ∀ (m n : Nat), n < (idx c l m).length → ∃ i, i < m ∧ (idx c l m)[n]? = some i ∧ c (l.getD i zero) = true ∧ rank c l i = n
  | 0, n, h => by simp [idx_zero] at h
  | m + 1, n, h => by
    rw [idx_succ] at h ⊢
    by_cases hn : n < (idx c l m).length
    · obtain ⟨i, h1, h2, h3, h4⟩ := idx_at c l m n hn
      exact ⟨i, by omega, by rw [List.getElem?_append_left hn]; exact h2, h3, h4⟩
    · cases hc : c (l.getD m zero)
      · rw [hc] at h; simp at h; omega
      · rw [hc] at h
        simp at h
        have e : n = (idx c l m).length := by omega
        refine ⟨m, by omega, ?_, hc, e.symm⟩
        rw [List.getElem?_append_right (by omega), e]
        simp
theorem any_rank (c : Pg → Bool) (l : List Pg) : rank c l l.length = 0 ↔ ∀ j, j < l.length → c (l.getD j zero) = false := by
  constructor
  · intro h j hj
    cases hc : c (l.getD j zero)
    · rfl
    · have := rank_lt hj hc; omega
  · intro h
    have : ∀ m, m ≤ l.length → rank c l m = 0 := by
      intro m
      induction m with
      | zero => intro _; rfl
      | succ m ih => intro hm; rw [rank_no (h m (by omega))]; exact ih (by omega)
    exact this _ (Nat.le_refl _)

/-- the pages that c takes, and q lets, turned by f -/
def updQ (q : Nat → Bool) (c : Pg → Bool) (f : Nat → Pg → Pg) (l : List Pg) : List Pg := l.mapIdx fun j p => if c p && q j then f (rank c l j) p else p
def upd (c : Pg → Bool) (f : Nat → Pg → Pg) (l : List Pg) : List Pg := updQ (fun _ => true) c f l
theorem updQ_len (q : Nat → Bool) (c : Pg → Bool) (f : Nat → Pg → Pg) (l : List Pg) : (updQ q c f l).length = l.length := by simp [updQ]
theorem upd_len (c : Pg → Bool) (f : Nat → Pg → Pg) (l : List Pg) : (upd c f l).length = l.length := updQ_len ..
theorem updQ_at {q : Nat → Bool} {c : Pg → Bool} {f : Nat → Pg → Pg} {l : List Pg} {j : Nat} (h : j < l.length) : (updQ q c f l).getD j zero = if c (l.getD j zero) && q j then f (rank c l j) (l.getD j zero) else l.getD j zero := by
  rw [getD_in (by rw [updQ_len]; exact h), getD_in h]
  simp [updQ]
theorem upd_at {c : Pg → Bool} {f : Nat → Pg → Pg} {l : List Pg} {j : Nat} (h : j < l.length) : (upd c f l).getD j zero = if c (l.getD j zero) then f (rank c l j) (l.getD j zero) else l.getD j zero := by
  unfold upd
  rw [updQ_at h, Bool.and_true]
theorem ext_getD {a b : List Pg} (h : a.length = b.length) (hj : ∀ j, j < a.length → a.getD j zero = b.getD j zero) : a = b := by
  apply List.ext_getElem h
  intro j h1 h2
  have := hj j h1
  rwa [getD_in h1, getD_in h2] at this
theorem set_at {l : List Pg} {i j : Nat} {x : Pg} (h : j < l.length) : (l.set i x).getD j zero = if i = j then x else l.getD j zero := by
  rw [getD_in (by rw [List.length_set]; exact h), getD_in h, List.getElem_set]
theorem updQ_none {q : Nat → Bool} {c : Pg → Bool} {f : Nat → Pg → Pg} {l : List Pg} (h : ∀ j, j < l.length → c (l.getD j zero) = true → q j = false) : updQ q c f l = l := by
  refine ext_getD (updQ_len ..) fun j hj => ?_
  rw [updQ_len] at hj
  rw [updQ_at hj]
  cases hc : c (l.getD j zero)
  · rfl
  · rw [h j hj hc]; rfl
theorem updQ_set {q q' : Nat → Bool} {c : Pg → Bool} {f : Nat → Pg → Pg} {l : List Pg} {i : Nat} (hi : i < l.length) (hc : c (l.getD i zero) = true)
    (h : ∀ j, j < l.length → c (l.getD j zero) = true → q' j = (q j || decide (i = j))) : (updQ q c f l).set i (f (rank c l i) (l.getD i zero)) = updQ q' c f l := by
  refine ext_getD (by rw [List.length_set, updQ_len, updQ_len]) fun j hj => ?_
  rw [List.length_set, updQ_len] at hj
  rw [set_at (by rw [updQ_len]; exact hj), updQ_at hj, updQ_at hj]
  by_cases e : i = j
  · subst e
    rw [if_pos rfl, h i hi hc, hc]; simp
  · rw [if_neg e]
    cases hcj : c (l.getD j zero)
    · rfl
    · rw [h j hj hcj]; simp [e]
theorem updQ_same {q q' : Nat → Bool} {c : Pg → Bool} {f g : Nat → Pg → Pg} {l : List Pg} (h : ∀ j, j < l.length → c (l.getD j zero) = true → q j = q' j ∧ f (rank c l j) (l.getD j zero) = g (rank c l j) (l.getD j zero)) : updQ q c f l = updQ q' c g l := by
  refine ext_getD (by rw [updQ_len, updQ_len]) fun j hj => ?_
  rw [updQ_len] at hj
  rw [updQ_at hj, updQ_at hj]
  cases hc : c (l.getD j zero)
  · rfl
  · obtain ⟨h1, h2⟩ := h j hj hc
    rw [h1, h2]

/-- n pages from a on are x -/
def fill (l : List Pg) (a n : Nat) (x : Pg) : List Pg := l.mapIdx fun j p => if a ≤ j ∧ j < a + n then x else p
theorem fill_len (l : List Pg) (a n : Nat) (x : Pg) : (fill l a n x).length = l.length := by simp [fill]
theorem fill_at {l : List Pg} {a n : Nat} {x : Pg} {j : Nat} (h : j < l.length) : (fill l a n x).getD j zero = if a ≤ j ∧ j < a + n then x else l.getD j zero := by
  rw [getD_in (by rw [fill_len]; exact h), getD_in h]
  simp [fill]
theorem fill_zero (l : List Pg) (a : Nat) (x : Pg) : fill l a 0 x = l := by
  refine ext_getD (fill_len ..) fun j hj => ?_
  rw [fill_len] at hj
  rw [fill_at hj, if_neg (by omega)]
theorem fill_set {l : List Pg} {a n : Nat} {x : Pg} (h : a + n < l.length) : (fill l a n x).set (a + n) x = fill l a (n + 1) x := by
  refine ext_getD (by rw [List.length_set, fill_len, fill_len]) fun j hj => ?_
  rw [List.length_set, fill_len] at hj
  rw [set_at (by rw [fill_len]; exact hj), fill_at hj, fill_at hj]
  by_cases e : a + n = j
  · rw [if_pos e, if_pos (by omega)]
  · rw [if_neg e]
    by_cases h2 : a ≤ j ∧ j < a + n
    · rw [if_pos h2, if_pos (by omega)]
    · rw [if_neg h2, if_neg (by omega)]

/-! the calls -/
def ownS (o a b : Int) (p : Pg) : Bool := decide (p.ow = o) && (decide (p.st = a) || decide (p.st = b))
def ownB (o : Int) (p : Pg) : Bool := decide (p.ow = o)
def pubF (code : Int) (k : Nat) (p : Pg) : Pg := ⟨2, decide ((k : Int) < code), !decide ((k : Int) < code), p.ow, p.ep⟩
def retF (e : Int) (_ : Nat) (p : Pg) : Pg := ⟨3, p.ex, p.wr, p.ow, e⟩
def relF (_ : Nat) (_ : Pg) : Pg := zero
def stg (o : Int) : Pg := ⟨1, false, false, o, 0⟩
def ths (l : List Pg) (a n o : Int) : Bool := ((l.drop a.toNat).take n.toNat).any usedB || l.any (ownB o)
def stageE (l : List Pg) (a n o : Int) : Int := if o = 0 ∨ n < 1 then 2 else if a < 0 ∨ (l.length : Int) - n < a then 11 else if ths l a n o = true then 9 else 0
def stageL (l : List Pg) (a n o : Int) : List Pg := if stageE l a n o = 0 then fill l a.toNat n.toNat (stg o) else l
def num (c : Pg → Bool) (l : List Pg) : Nat := rank c l l.length
def pubE (l : List Pg) (o code : Int) : Int := if num (ownS o 1 1) l = 0 then 8 else if code < 0 ∨ (num (ownS o 1 1) l : Int) < code then 2 else 0
def pubL (l : List Pg) (o code : Int) : List Pg := if pubE l o code = 0 then upd (ownS o 1 1) (pubF code) l else l
def retE (l : List Pg) (o : Int) : Int := if num (ownS o 2 2) l = 0 then 8 else 0
def retL (l : List Pg) (o e : Int) : List Pg := upd (ownS o 2 2) (retF e) l
def relE (l : List Pg) (o : Int) : Int := if num (ownS o 1 3) l = 0 then 8 else 0
def relL (l : List Pg) (o : Int) : List Pg := upd (ownS o 1 3) relF l
theorem stageL_len (l : List Pg) (a n o : Int) : (stageL l a n o).length = l.length := by unfold stageL; split; exact fill_len ..; rfl
theorem pubL_len (l : List Pg) (o c : Int) : (pubL l o c).length = l.length := by unfold pubL; split; exact upd_len ..; rfl
theorem retL_len (l : List Pg) (o e : Int) : (retL l o e).length = l.length := upd_len ..
theorem relL_len (l : List Pg) (o : Int) : (relL l o).length = l.length := upd_len ..

/-- what every table's pages are like -/
def Fine (p : Pg) : Prop := p.st = 0 ∧ p = zero ∨ p.st = 1 ∧ p.ow ≠ 0 ∧ p = stg p.ow ∨ (p.st = 2 ∨ p.st = 3) ∧ p.ow ≠ 0 ∧ p.wr = !p.ex
def FineL (l : List Pg) : Prop := ∀ j, j < l.length → Fine (l.getD j zero)
theorem fine_zero : Fine zero := Or.inl ⟨rfl, rfl⟩
theorem fine_stg {o : Int} (h : o ≠ 0) : Fine (stg o) := Or.inr (Or.inl ⟨rfl, h, rfl⟩)
theorem Fine.used {p : Pg} (h : Fine p) : usedB p = decide (p.st ≠ 0) := by
  rcases h with ⟨h, rfl⟩ | ⟨h, _, e⟩ | ⟨h, _, _⟩
  · rfl
  · rw [e]; rfl
  · have : ¬ p.st = 0 := by omega
    simp [usedB, this]
theorem FineL.upd {c : Pg → Bool} {f : Nat → Pg → Pg} {l : List Pg} (h : FineL l) (hf : ∀ k p, Fine p → c p = true → Fine (f k p)) : FineL (upd c f l) := by
  intro j hj
  rw [upd_len] at hj
  rw [upd_at hj]
  split
  · exact hf _ _ (h j hj) ‹_›
  · exact h j hj
theorem stage_o {l : List Pg} {a n o : Int} (h : stageE l a n o = 0) : o ≠ 0 ∧ 1 ≤ n ∧ 0 ≤ a ∧ a + n ≤ l.length ∧ ths l a n o = false := by
  unfold stageE at h
  split at h
  · cases h
  · split at h
    · cases h
    · split at h
      · cases h
      · rename_i h1 h2 h3
        exact ⟨by omega, by omega, by omega, by omega, by simpa using h3⟩
theorem FineL.stage {l : List Pg} (h : FineL l) (a n o : Int) : FineL (stageL l a n o) := by
  unfold stageL
  split
  · rename_i h0
    intro j hj
    rw [fill_len] at hj
    rw [fill_at hj]
    split
    · exact fine_stg (stage_o h0).1
    · exact h j hj
  · exact h
theorem ownS_st {o a b : Int} {p : Pg} (h : ownS o a b p = true) : p.ow = o ∧ (p.st = a ∨ p.st = b) := by simpa [ownS] using h
theorem FineL.pub {l : List Pg} (h : FineL l) (o c : Int) : FineL (pubL l o c) := by
  unfold pubL
  split
  · refine FineL.upd h fun k p hp hc => ?_
    obtain ⟨_, h1⟩ := ownS_st hc
    rcases hp with ⟨h, _⟩ | ⟨h, ho, e⟩ | ⟨h, _, _⟩
    · omega
    · exact Or.inr (Or.inr ⟨Or.inl rfl, ho, rfl⟩)
    · omega
  · exact h
theorem FineL.ret {l : List Pg} (h : FineL l) (o e : Int) : FineL (retL l o e) := by
  refine FineL.upd h fun k p hp hc => ?_
  obtain ⟨_, h1⟩ := ownS_st hc
  rcases hp with ⟨h, _⟩ | ⟨h, ho, e⟩ | ⟨h, h2, h3⟩
  · omega
  · omega
  · exact Or.inr (Or.inr ⟨Or.inr rfl, h2, h3⟩)
theorem FineL.rel {l : List Pg} (h : FineL l) (o : Int) : FineL (relL l o) := FineL.upd h fun _ _ _ _ => fine_zero
def zeros (n : Nat) : List Pg := List.replicate n zero
theorem zeros_at (n j : Nat) : (zeros n).getD j zero = zero := by
  unfold zeros
  rw [List.getD_eq_getElem?_getD, List.getElem?_replicate]
  split <;> rfl
theorem fine_zeros (n : Nat) : FineL (zeros n) := fun j _ => by rw [zeros_at]; exact fine_zero

/-! one call -/
structure Ac where
  kind : Int
  a : Int
  n : Int
  o : Int
  e : Int
def actE (l : List Pg) (x : Ac) : Int := if x.kind % 4 = 0 then stageE l x.a x.n x.o else if x.kind % 4 = 1 then pubE l x.o x.n else if x.kind % 4 = 2 then retE l x.o else relE l x.o
def actL (l : List Pg) (x : Ac) : List Pg := if x.kind % 4 = 0 then stageL l x.a x.n x.o else if x.kind % 4 = 1 then pubL l x.o x.n else if x.kind % 4 = 2 then retL l x.o x.e else relL l x.o
theorem actL_len (l : List Pg) (x : Ac) : (actL l x).length = l.length := by
  unfold actL
  split
  · exact stageL_len ..
  · split
    · exact pubL_len ..
    · split
      · exact retL_len ..
      · exact relL_len ..
theorem FineL.act {l : List Pg} (h : FineL l) (x : Ac) : FineL (actL l x) := by
  unfold actL
  split
  · exact h.stage _ _ _
  · split
    · exact h.pub _ _
    · split
      · exact h.ret _ _
      · exact h.rel _
end Go.Proofs.Ytkmjacpcpchjoaa.PM
