/-
  Joined texts: PageMath, PageMath2, PageRow, PageFn, PageSt, PageIdx, PageClo. Nothing here is a statement of the seed.
-/
import Derived.Test.YtihcellcdkhadaaGreatProg
import Derived.WalkKit
import Derived.WalkSmall
import Derived.BigQuiet
import Derived.Deep.QuietTactic
import Derived.Lib.Hide
import Derived.Lib.OthersKept
import Derived.Laws.AppendOwn
import Derived.Laws.AppendOwnNone
import Derived.Deep.MidRow
set_option linter.unusedSimpArgs false
set_option linter.unusedVariables false
/-
  Pages as numbers: what becomes of lists of them. Plain mathematics; nothing here is a statement of the seed.
-/
namespace Go.Proofs.YtihcellcdkhadaaGreat.PM

/-- a page: its state, whether it runs, whether it is written, its owner, its epoch -/
structure Pg where
  st : Int
  ex : Bool
  wr : Bool
  ow : Int
  ep : Int
def zero : Pg := ⟨0, false, false, 0, 0⟩
def usedB (p : Pg) : Bool := !(decide (p.st = 0) && !p.ex && !p.wr && decide (p.ow = 0) && decide (p.ep = 0))
theorem used_no {p : Pg} : usedB p = false ↔ p = zero := by
  obtain ⟨st, ex, wr, ow, ep⟩ := p
  cases ex <;> cases wr <;> simp [usedB, zero, Pg.mk.injEq] <;> omega
def seenB (p : Pg) (e : Int) : Bool := decide (p.st = 2) || (decide (p.st = 3) && decide (e < p.ep))
def runsB (p : Pg) (e : Int) : Bool := seenB p e && p.ex
def writesB (p : Pg) (e o : Int) : Bool := seenB p e && p.wr && decide (p.ow = o) && decide (o ≠ 0)
theorem getD_in {l : List Pg} {j : Nat} (h : j < l.length) : l.getD j zero = l[j] := by simp [h]
/-- the numbers below m of the pages that c takes -/
def idx (c : Pg → Bool) (l : List Pg) (m : Nat) : List Nat := (List.range m).filter fun j => c (l.getD j zero)
def rank (c : Pg → Bool) (l : List Pg) (m : Nat) : Nat := (idx c l m).length
theorem idx_zero (c : Pg → Bool) (l : List Pg) : idx c l 0 = [] := rfl
theorem idx_succ (c : Pg → Bool) (l : List Pg) (m : Nat) : idx c l (m + 1) = idx c l m ++ if c (l.getD m zero) then [m] else [] := by
  unfold idx
  rw [List.range_succ, List.filter_append]
  congr 1
  rw [List.filter_cons]
  split <;> rfl
theorem rank_zero (c : Pg → Bool) (l : List Pg) : rank c l 0 = 0 := rfl
theorem rank_yes {c : Pg → Bool} {l : List Pg} {m : Nat} (h : c (l.getD m zero) = true) : rank c l (m + 1) = rank c l m + 1 := by
  unfold rank; rw [idx_succ, if_pos h]; simp
theorem rank_no {c : Pg → Bool} {l : List Pg} {m : Nat} (h : c (l.getD m zero) = false) : rank c l (m + 1) = rank c l m := by
  unfold rank; rw [idx_succ, h]; simp
theorem rank_step (c : Pg → Bool) (l : List Pg) (m : Nat) : rank c l m ≤ rank c l (m + 1) ∧ rank c l (m + 1) ≤ rank c l m + 1 := by
  cases h : c (l.getD m zero)
  · rw [rank_no h]; omega
  · rw [rank_yes h]; omega
theorem rank_le (c : Pg → Bool) (l : List Pg) (m : Nat) : rank c l m ≤ m := by
  induction m with
  | zero => simp [rank_zero]
  | succ m ih => have := rank_step c l m; omega
theorem rank_mono (c : Pg → Bool) (l : List Pg) {i m : Nat} (h : i ≤ m) : rank c l i ≤ rank c l m := by
  induction m with
  | zero => have : i = 0 := by omega
            subst this; exact Nat.le_refl _
  | succ m ih =>
    by_cases h' : i ≤ m
    · have := rank_step c l m; have := ih h'; omega
    · have : i = m + 1 := by omega
      subst this; exact Nat.le_refl _
theorem rank_lt {c : Pg → Bool} {l : List Pg} {i m : Nat} (h : i < m) (hc : c (l.getD i zero) = true) : rank c l i < rank c l m := by
  have h1 := rank_yes hc
  have h2 := rank_mono c l (show i + 1 ≤ m by omega)
  omega
theorem idx_at (c : Pg → Bool) (l : List Pg) : ∀ (m n : Nat), n < (idx c l m).length → ∃ i, i < m ∧ (idx c l m)[n]? = some i ∧ c (l.getD i zero) = true ∧ rank c l i = n
  | 0, n, h => by simp [idx_zero] at h
  | m + 1, n, h => by
    rw [idx_succ] at h ⊢
    by_cases hn : n < (idx c l m).length
    · obtain ⟨i, h1, h2, h3, h4⟩ := idx_at c l m n hn
      exact ⟨i, by omega, by rw [List.getElem?_append_left hn]; exact h2, h3, h4⟩
    · cases hc : c (l.getD m zero)
      · rw [hc] at h; simp at h; omega
      · rw [hc] at h
        simp at h
        have e : n = (idx c l m).length := by omega
        refine ⟨m, by omega, ?_, hc, e.symm⟩
        rw [List.getElem?_append_right (by omega), e]
        simp
theorem any_rank (c : Pg → Bool) (l : List Pg) : rank c l l.length = 0 ↔ ∀ j, j < l.length → c (l.getD j zero) = false := by
  constructor
  · intro h j hj
    cases hc : c (l.getD j zero)
    · rfl
    · have := rank_lt hj hc; omega
  · intro h
    have : ∀ m, m ≤ l.length → rank c l m = 0 := by
      intro m
      induction m with
      | zero => intro _; rfl
      | succ m ih => intro hm; rw [rank_no (h m (by omega))]; exact ih (by omega)
    exact this _ (Nat.le_refl _)

/-- the pages that c takes, and q lets, turned by f -/
def updQ (q : Nat → Bool) (c : Pg → Bool) (f : Nat → Pg → Pg) (l : List Pg) : List Pg := l.mapIdx fun j p => if c p && q j then f (rank c l j) p else p
def upd (c : Pg → Bool) (f : Nat → Pg → Pg) (l : List Pg) : List Pg := updQ (fun _ => true) c f l
theorem updQ_len (q : Nat → Bool) (c : Pg → Bool) (f : Nat → Pg → Pg) (l : List Pg) : (updQ q c f l).length = l.length := by simp [updQ]
theorem upd_len (c : Pg → Bool) (f : Nat → Pg → Pg) (l : List Pg) : (upd c f l).length = l.length := updQ_len ..
theorem updQ_at {q : Nat → Bool} {c : Pg → Bool} {f : Nat → Pg → Pg} {l : List Pg} {j : Nat} (h : j < l.length) : (updQ q c f l).getD j zero = if c (l.getD j zero) && q j then f (rank c l j) (l.getD j zero) else l.getD j zero := by
  rw [getD_in (by rw [updQ_len]; exact h), getD_in h]
  simp [updQ]
theorem upd_at {c : Pg → Bool} {f : Nat → Pg → Pg} {l : List Pg} {j : Nat} (h : j < l.length) : (upd c f l).getD j zero = if c (l.getD j zero) then f (rank c l j) (l.getD j zero) else l.getD j zero := by
  unfold upd
  rw [updQ_at h, Bool.and_true]
theorem ext_getD {a b : List Pg} (h : a.length = b.length) (hj : ∀ j, j < a.length → a.getD j zero = b.getD j zero) : a = b := by
  apply List.ext_getElem h
  intro j h1 h2
  have := hj j h1
  rwa [getD_in h1, getD_in h2] at this
theorem set_at {l : List Pg} {i j : Nat} {x : Pg} (h : j < l.length) : (l.set i x).getD j zero = if i = j then x else l.getD j zero := by
  rw [getD_in (by rw [List.length_set]; exact h), getD_in h, List.getElem_set]
theorem updQ_none {q : Nat → Bool} {c : Pg → Bool} {f : Nat → Pg → Pg} {l : List Pg} (h : ∀ j, j < l.length → c (l.getD j zero) = true → q j = false) : updQ q c f l = l := by
  refine ext_getD (updQ_len ..) fun j hj => ?_
  rw [updQ_len] at hj
  rw [updQ_at hj]
  cases hc : c (l.getD j zero)
  · rfl
  · rw [h j hj hc]; rfl
theorem updQ_set {q q' : Nat → Bool} {c : Pg → Bool} {f : Nat → Pg → Pg} {l : List Pg} {i : Nat} (hi : i < l.length) (hc : c (l.getD i zero) = true)
    (h : ∀ j, j < l.length → c (l.getD j zero) = true → q' j = (q j || decide (i = j))) : (updQ q c f l).set i (f (rank c l i) (l.getD i zero)) = updQ q' c f l := by
  refine ext_getD (by rw [List.length_set, updQ_len, updQ_len]) fun j hj => ?_
  rw [List.length_set, updQ_len] at hj
  rw [set_at (by rw [updQ_len]; exact hj), updQ_at hj, updQ_at hj]
  by_cases e : i = j
  · subst e
    rw [if_pos rfl, h i hi hc, hc]; simp
  · rw [if_neg e]
    cases hcj : c (l.getD j zero)
    · rfl
    · rw [h j hj hcj]; simp [e]
theorem updQ_same {q q' : Nat → Bool} {c : Pg → Bool} {f g : Nat → Pg → Pg} {l : List Pg} (h : ∀ j, j < l.length → c (l.getD j zero) = true → q j = q' j ∧ f (rank c l j) (l.getD j zero) = g (rank c l j) (l.getD j zero)) : updQ q c f l = updQ q' c g l := by
  refine ext_getD (by rw [updQ_len, updQ_len]) fun j hj => ?_
  rw [updQ_len] at hj
  rw [updQ_at hj, updQ_at hj]
  cases hc : c (l.getD j zero)
  · rfl
  · obtain ⟨h1, h2⟩ := h j hj hc
    rw [h1, h2]

/-- n pages from a on are x -/
def fill (l : List Pg) (a n : Nat) (x : Pg) : List Pg := l.mapIdx fun j p => if a ≤ j ∧ j < a + n then x else p
theorem fill_len (l : List Pg) (a n : Nat) (x : Pg) : (fill l a n x).length = l.length := by simp [fill]
theorem fill_at {l : List Pg} {a n : Nat} {x : Pg} {j : Nat} (h : j < l.length) : (fill l a n x).getD j zero = if a ≤ j ∧ j < a + n then x else l.getD j zero := by
  rw [getD_in (by rw [fill_len]; exact h), getD_in h]
  simp [fill]
theorem fill_zero (l : List Pg) (a : Nat) (x : Pg) : fill l a 0 x = l := by
  refine ext_getD (fill_len ..) fun j hj => ?_
  rw [fill_len] at hj
  rw [fill_at hj, if_neg (by omega)]
theorem fill_set {l : List Pg} {a n : Nat} {x : Pg} (h : a + n < l.length) : (fill l a n x).set (a + n) x = fill l a (n + 1) x := by
  refine ext_getD (by rw [List.length_set, fill_len, fill_len]) fun j hj => ?_
  rw [List.length_set, fill_len] at hj
  rw [set_at (by rw [fill_len]; exact hj), fill_at hj, fill_at hj]
  by_cases e : a + n = j
  · rw [if_pos e, if_pos (by omega)]
  · rw [if_neg e]
    by_cases h2 : a ≤ j ∧ j < a + n
    · rw [if_pos h2, if_pos (by omega)]
    · rw [if_neg h2, if_neg (by omega)]

/-! the calls -/
def ownS (o a b : Int) (p : Pg) : Bool := decide (p.ow = o) && (decide (p.st = a) || decide (p.st = b))
def ownB (o : Int) (p : Pg) : Bool := decide (p.ow = o)
def pubF (code : Int) (k : Nat) (p : Pg) : Pg := ⟨2, decide ((k : Int) < code), !decide ((k : Int) < code), p.ow, p.ep⟩
def retF (e : Int) (_ : Nat) (p : Pg) : Pg := ⟨3, p.ex, p.wr, p.ow, e⟩
def relF (_ : Nat) (_ : Pg) : Pg := zero
def stg (o : Int) : Pg := ⟨1, false, false, o, 0⟩
def ths (l : List Pg) (a n o : Int) : Bool := ((l.drop a.toNat).take n.toNat).any usedB || l.any (ownB o)
def stageE (l : List Pg) (a n o : Int) : Int := if o = 0 ∨ n < 1 then 2 else if a < 0 ∨ (l.length : Int) - n < a then 11 else if ths l a n o = true then 9 else 0
def stageL (l : List Pg) (a n o : Int) : List Pg := if stageE l a n o = 0 then fill l a.toNat n.toNat (stg o) else l
def num (c : Pg → Bool) (l : List Pg) : Nat := rank c l l.length
def pubE (l : List Pg) (o code : Int) : Int := if num (ownS o 1 1) l = 0 then 8 else if code < 0 ∨ (num (ownS o 1 1) l : Int) < code then 2 else 0
def pubL (l : List Pg) (o code : Int) : List Pg := if pubE l o code = 0 then upd (ownS o 1 1) (pubF code) l else l
def retE (l : List Pg) (o : Int) : Int := if num (ownS o 2 2) l = 0 then 8 else 0
def retL (l : List Pg) (o e : Int) : List Pg := upd (ownS o 2 2) (retF e) l
def relE (l : List Pg) (o : Int) : Int := if num (ownS o 1 3) l = 0 then 8 else 0
def relL (l : List Pg) (o : Int) : List Pg := upd (ownS o 1 3) relF l
theorem stageL_len (l : List Pg) (a n o : Int) : (stageL l a n o).length = l.length := by unfold stageL; split; exact fill_len ..; rfl
theorem pubL_len (l : List Pg) (o c : Int) : (pubL l o c).length = l.length := by unfold pubL; split; exact upd_len ..; rfl
theorem retL_len (l : List Pg) (o e : Int) : (retL l o e).length = l.length := upd_len ..
theorem relL_len (l : List Pg) (o : Int) : (relL l o).length = l.length := upd_len ..

/-- what every table's pages are like -/
def Fine (p : Pg) : Prop := p.st = 0 ∧ p = zero ∨ p.st = 1 ∧ p.ow ≠ 0 ∧ p = stg p.ow ∨ (p.st = 2 ∨ p.st = 3) ∧ p.ow ≠ 0 ∧ p.wr = !p.ex
def FineL (l : List Pg) : Prop := ∀ j, j < l.length → Fine (l.getD j zero)
theorem fine_zero : Fine zero := Or.inl ⟨rfl, rfl⟩
theorem fine_stg {o : Int} (h : o ≠ 0) : Fine (stg o) := Or.inr (Or.inl ⟨rfl, h, rfl⟩)
theorem Fine.used {p : Pg} (h : Fine p) : usedB p = decide (p.st ≠ 0) := by
  rcases h with ⟨h, rfl⟩ | ⟨h, _, e⟩ | ⟨h, _, _⟩
  · rfl
  · rw [e]; rfl
  · have : ¬ p.st = 0 := by omega
    simp [usedB, this]
theorem FineL.upd {c : Pg → Bool} {f : Nat → Pg → Pg} {l : List Pg} (h : FineL l) (hf : ∀ k p, Fine p → c p = true → Fine (f k p)) : FineL (upd c f l) := by
  intro j hj
  rw [upd_len] at hj
  rw [upd_at hj]
  split
  · exact hf _ _ (h j hj) ‹_›
  · exact h j hj
theorem stage_o {l : List Pg} {a n o : Int} (h : stageE l a n o = 0) : o ≠ 0 ∧ 1 ≤ n ∧ 0 ≤ a ∧ a + n ≤ l.length ∧ ths l a n o = false := by
  unfold stageE at h
  split at h
  · cases h
  · split at h
    · cases h
    · split at h
      · cases h
      · rename_i h1 h2 h3
        exact ⟨by omega, by omega, by omega, by omega, by simpa using h3⟩
theorem FineL.stage {l : List Pg} (h : FineL l) (a n o : Int) : FineL (stageL l a n o) := by
  unfold stageL
  split
  · rename_i h0
    intro j hj
    rw [fill_len] at hj
    rw [fill_at hj]
    split
    · exact fine_stg (stage_o h0).1
    · exact h j hj
  · exact h
theorem ownS_st {o a b : Int} {p : Pg} (h : ownS o a b p = true) : p.ow = o ∧ (p.st = a ∨ p.st = b) := by simpa [ownS] using h
theorem FineL.pub {l : List Pg} (h : FineL l) (o c : Int) : FineL (pubL l o c) := by
  unfold pubL
  split
  · refine FineL.upd h fun k p hp hc => ?_
    obtain ⟨_, h1⟩ := ownS_st hc
    rcases hp with ⟨h, _⟩ | ⟨h, ho, e⟩ | ⟨h, _, _⟩
    · omega
    · exact Or.inr (Or.inr ⟨Or.inl rfl, ho, rfl⟩)
    · omega
  · exact h
theorem FineL.ret {l : List Pg} (h : FineL l) (o e : Int) : FineL (retL l o e) := by
  refine FineL.upd h fun k p hp hc => ?_
  obtain ⟨_, h1⟩ := ownS_st hc
  rcases hp with ⟨h, _⟩ | ⟨h, ho, e⟩ | ⟨h, h2, h3⟩
  · omega
  · omega
  · exact Or.inr (Or.inr ⟨Or.inr rfl, h2, h3⟩)
theorem FineL.rel {l : List Pg} (h : FineL l) (o : Int) : FineL (relL l o) := FineL.upd h fun _ _ _ _ => fine_zero
def zeros (n : Nat) : List Pg := List.replicate n zero
theorem zeros_at (n j : Nat) : (zeros n).getD j zero = zero := by
  unfold zeros
  rw [List.getD_eq_getElem?_getD, List.getElem?_replicate]
  split <;> rfl
theorem fine_zeros (n : Nat) : FineL (zeros n) := fun j _ => by rw [zeros_at]; exact fine_zero

/-! one call -/
structure Ac where
  kind : Int
  a : Int
  n : Int
  o : Int
  e : Int
def actE (l : List Pg) (x : Ac) : Int := if x.kind % 4 = 0 then stageE l x.a x.n x.o else if x.kind % 4 = 1 then pubE l x.o x.n else if x.kind % 4 = 2 then retE l x.o else relE l x.o
def actL (l : List Pg) (x : Ac) : List Pg := if x.kind % 4 = 0 then stageL l x.a x.n x.o else if x.kind % 4 = 1 then pubL l x.o x.n else if x.kind % 4 = 2 then retL l x.o x.e else relL l x.o
theorem actL_len (l : List Pg) (x : Ac) : (actL l x).length = l.length := by
  unfold actL
  split
  · exact stageL_len ..
  · split
    · exact pubL_len ..
    · split
      · exact retL_len ..
      · exact relL_len ..
theorem FineL.act {l : List Pg} (h : FineL l) (x : Ac) : FineL (actL l x) := by
  unfold actL
  split
  · exact h.stage _ _ _
  · split
    · exact h.pub _ _
    · split
      · exact h.ret _ _
      · exact h.rel _
end Go.Proofs.YtihcellcdkhadaaGreat.PM

/-
  The same calls as the reference reckons them. Plain mathematics.
-/
namespace Go.Proofs.YtihcellcdkhadaaGreat.PM

/-- what the reference asks of page j -/
def inWay (l : List Pg) (A N : Nat) (o : Int) (j : Nat) : Prop := (l.getD j zero).st ≠ 0 ∧ ((l.getD j zero).ow = o ∨ (A ≤ j ∧ j < A + N))
theorem any_iff (c : Pg → Bool) (l : List Pg) : l.any c = true ↔ ∃ j, j < l.length ∧ c (l.getD j zero) = true := by
  rw [List.any_eq_true]
  constructor
  · rintro ⟨x, hx, h⟩
    obtain ⟨j, hj, rfl⟩ := List.getElem_of_mem hx
    exact ⟨j, hj, by rw [getD_in hj]; exact h⟩
  · rintro ⟨j, hj, h⟩
    rw [getD_in hj] at h
    exact ⟨l[j], List.getElem_mem hj, h⟩
theorem ths_iff {l : List Pg} (hf : FineL l) {A N : Nat} {o : Int} (ho : o ≠ 0) (hAN : A + N ≤ l.length) : ths l A N o = true ↔ ∃ j, j < l.length ∧ inWay l A N o j := by
  unfold ths
  rw [Bool.or_eq_true, any_iff, any_iff]
  simp only [Int.toNat_natCast]
  constructor
  · rintro (⟨j, hj, h⟩ | ⟨j, hj, h⟩)
    · rw [List.length_take, List.length_drop] at hj
      have e : ((l.drop A).take N).getD j zero = l.getD (A + j) zero := by
        rw [List.getD_eq_getElem?_getD, List.getD_eq_getElem?_getD, List.getElem?_take_of_lt (by omega), List.getElem?_drop]
      rw [e, (hf (A + j) (by omega)).used] at h
      exact ⟨A + j, by omega, by simpa using h, Or.inr ⟨by omega, by omega⟩⟩
    · have h1 : (l.getD j zero).ow = o := by simpa [ownB] using h
      refine ⟨j, hj, ?_, Or.inl h1⟩
      rcases hf j hj with ⟨_, h2⟩ | ⟨h2, _⟩ | ⟨h2, _⟩
      · rw [h2] at h1; exact absurd h1.symm ho
      · omega
      · omega
  · rintro ⟨j, hj, h1, h2⟩
    rcases h2 with h2 | ⟨h2, h3⟩
    · exact Or.inr ⟨j, hj, by simpa [ownB] using h2⟩
    · refine Or.inl ⟨j - A, by rw [List.length_take, List.length_drop]; omega, ?_⟩
      have e : ((l.drop A).take N).getD (j - A) zero = l.getD j zero := by
        rw [List.getD_eq_getElem?_getD, List.getD_eq_getElem?_getD, List.getElem?_take_of_lt (by omega), List.getElem?_drop, show A + (j - A) = j by omega]
      rw [e, (hf j hj).used]
      simpa using h1
/-- the first n of an owner's pages turned -/
def firsts (c : Pg → Bool) (f : Nat → Pg → Pg) (l : List Pg) (n : Nat) : List Pg := updQ (fun j => decide (rank c l j < n)) c f l
theorem firsts_len (c : Pg → Bool) (f : Nat → Pg → Pg) (l : List Pg) (n : Nat) : (firsts c f l n).length = l.length := updQ_len ..
theorem firsts_zero (c : Pg → Bool) (f : Nat → Pg → Pg) (l : List Pg) : firsts c f l 0 = l := updQ_none (by intros; simp)
theorem firsts_end (c : Pg → Bool) (f : Nat → Pg → Pg) (l : List Pg) : firsts c f l (num c l) = upd c f l :=
  updQ_same fun j hj hc => ⟨decide_eq_true (rank_lt hj hc), rfl⟩
theorem firsts_at {c : Pg → Bool} {f : Nat → Pg → Pg} {l : List Pg} {n i : Nat} (hi : i < l.length) (hr : rank c l i = n) : (firsts c f l n).getD i zero = l.getD i zero := by
  unfold firsts
  rw [updQ_at hi, hr]; simp
theorem firsts_set {c : Pg → Bool} {f : Nat → Pg → Pg} {l : List Pg} {n i : Nat} (hi : i < l.length) (hc : c (l.getD i zero) = true) (hr : rank c l i = n) : (firsts c f l n).set i (f n (l.getD i zero)) = firsts c f l (n + 1) := by
  subst hr
  refine updQ_set hi hc fun j hj hcj => ?_
  by_cases e : i = j
  · subst e; simp
  · have : rank c l j ≠ rank c l i := by
      intro h
      rcases Nat.lt_or_ge i j with h' | h'
      · have := rank_lt h' hc; omega
      · have := rank_lt (show j < i by omega) hcj; omega
    simp [e]; omega
end Go.Proofs.YtihcellcdkhadaaGreat.PM

/-
  Pages in memory: a block that holds them; a table and its block. Nothing here is a statement of the seed.
-/
namespace Go.Proofs.YtihcellcdkhadaaGreat.PR
open Go.RowKit PM

theorem bcell {W w1 : World} (hb : Below W.heap.size W w1) : (∀ b o, b < W.heap.size → w1.cell? ⟨b, o, none⟩ = W.cell? ⟨b, o, none⟩) ∧ (∀ b o, b < W.heap.size → w1.frozen? ⟨b, o, none⟩ = W.frozen? ⟨b, o, none⟩) :=
  ⟨fun b o h => hb.cell (p := ⟨b, o, none⟩) h, fun b o h => hb.frozen (p := ⟨b, o, none⟩) h⟩
/-- a call tells a value, and nothing that was there turns -/
def Says (P : Program) (f : FuncId) (args : Array Value) (v : Value) : Prop := ∀ w : World, Calls P f args w fun e w' => e = .returned v ∧ Below w.heap.size w w'
theorem Says.at {P : Program} {f : FuncId} {args : Array Value} {v : Value} (h : Says P f args v) (w : World) : Calls P f args w fun e w' => e = .returned v ∧ Below w.heap.size w w' := h w
theorem inw {P : Program} {f : FuncId} {args : Array Value} {v : Value} (h : Says P f args v) (W0 u : World) (hb : Below W0.heap.size W0 u) :
    Calls P f args u fun e w' => e = .returned v ∧ Below W0.heap.size W0 w' := (h u).mono fun _ _ ⟨he, h2⟩ => ⟨he, hb.trans (h2.mono hb.size)⟩
theorem says_same {P : Program} {f : FuncId} {args : Array Value} {v : Value} (h : ∀ w, Calls P f args w fun e w' => e = .returned v ∧ w = w') : Says P f args v :=
  fun w => (h w).mono fun _ _ ⟨he, hw⟩ => ⟨he, hw ▸ Below.refl _ _⟩
theorem ret_bool {a b : Bool} (h : a = b) : Ending.returned (.bool a) = .returned (.bool b) := by rw [h]
theorem ret_int {k : IntKind} {a b : Int} (h : a = b) : Ending.returned (.int k a) = .returned (.int k b) := by rw [h]
/-- of the blocks that were there, those of S alone may have turned -/
structure Fr (S : Nat → Prop) (w w' : World) : Prop where
  os : w'.os = w.os
  tape : w'.tape = w.tape
  output : w'.output = w.output
  size : w.heap.size ≤ w'.heap.size
  block : ∀ k, k < w.heap.size → ¬ S k → w'.heap[k]? = w.heap[k]?
section
variable {S S' : Nat → Prop} {a b c w w' : World}
theorem Fr.refl (S : Nat → Prop) (w : World) : Fr S w w := ⟨rfl, rfl, rfl, Nat.le_refl _, fun _ _ _ => rfl⟩
theorem Fr.of_below (h : Below w.heap.size w w') : Fr S w w' := ⟨h.os, h.tape, h.output, h.size, fun k hk _ => h.block k hk⟩
theorem Fr.trans (h : Fr S a b) (k : Fr S' b c) (hS : ∀ i, S' i → S i ∨ a.heap.size ≤ i) : Fr S a c :=
  ⟨k.os.trans h.os, k.tape.trans h.tape, k.output.trans h.output, Nat.le_trans h.size k.size, fun i hi hn => (k.block i (Nat.lt_of_lt_of_le hi h.size) (fun h' => (hS i h').elim hn (by omega))).trans (h.block i hi hn)⟩
theorem Fr.then (h : Fr S a b) (k : Below b.heap.size b c) : Fr S a c := h.trans (S' := fun _ => False) (Fr.of_below k) (fun _ h => h.elim)
theorem Fr.alloc (h : Fr S a b) (o : Obj) : Fr S a (b.alloc o) := h.then ((Below.refl _ _).alloc (Nat.le_refl _) o)
theorem Fr.set (h : Fr S a b) {p : Addr} (hp : S p.block ∨ a.heap.size ≤ p.block) (u : Value) : Fr S a (b.setCell p u) :=
  ⟨h.os, h.tape, h.output, Nat.le_trans h.size (by simp), fun i hi hn => (Below.heap_setCell b p u i (by rintro rfl; exact hp.elim hn (by omega))).trans (h.block i hi hn)⟩
theorem Fr.drewN (h : Fr S a b) (n : Nat) : Fr S a (b.drewN n) := ⟨h.os, h.tape, h.output, h.size, h.block⟩
theorem Fr.drew (h : Fr S a b) : Fr S a b.drew := ⟨h.os, h.tape, h.output, h.size, h.block⟩
theorem Fr.mono (h : Fr S a b) (hS : ∀ i, S i → S' i ∨ a.heap.size ≤ i) : Fr S' a b := ⟨h.os, h.tape, h.output, h.size, fun i hi hn => h.block i hi (fun h' => (hS i h').elim hn (by omega))⟩
theorem Fr.below {B : Nat} (h : Fr S a b) (hB : B ≤ a.heap.size) (hS : ∀ i, S i → B ≤ i) : Below B a b := ⟨h.os, h.tape, h.output, h.size, fun i hi => h.block i (by omega) (fun h' => by have := hS i h'; omega)⟩
theorem Below.fr {B : Nat} (h : Below B a b) (k : Fr S b c) (hB : B ≤ b.heap.size) (hS : ∀ i, S i → B ≤ i) : Below B a c := h.trans (k.below hB hS)
end
theorem below_of {w0 a b : World} (h : Below w0.heap.size w0 a) (k : Below a.heap.size a b) : Below w0.heap.size w0 b := h.trans (k.mono h.size)
theorem below_new (w : World) (o : Obj) : Below w.heap.size w (w.alloc o) := (Below.refl _ _).alloc (Nat.le_refl _) o

/-! a block, all of whose cells are known -/
/-- block g of the heap: the cells cs, of type t, all of them open to stores -/
def Whole (w : World) (g : Nat) (t : TypeId) (cs : Array Value) : Prop := w.heap[g]? = some (.cells cs t (0, 0))
section
variable {w w' : World} {g g' : Nat} {t t' : TypeId} {cs cs' : Array Value}
/-- it is there in a heap that has the same block -/
theorem Whole.as (h : Whole w g t cs) (e : w'.heap[g]? = w.heap[g]?) : Whole w' g t cs := by
  show w'.heap[g]? = _
  rw [e]
  exact h
theorem Whole.lt (h : Whole w g t cs) : g < w.heap.size := (Array.getElem?_eq_some_iff.1 h).1
theorem Whole.cell (h : Whole w g t cs) (i : Nat) : w.cell? ⟨g, i, none⟩ = cs[i]? := cell_of_row w g i cs t (0, 0) h
theorem Whole.frozen (h : Whole w g t cs) (i : Nat) : w.frozen? ⟨g, i, none⟩ = false := by
  have e : w.heap[g]? = some (.cells cs t (0, 0)) := h
  simp [World.frozen?, e]
theorem Whole.new (w : World) (t : TypeId) (cs : Array Value) : Whole (w.alloc (.cells cs t)) w.heap.size t cs := heap_alloc_new w _
theorem Whole.alloc (h : Whole w g t cs) (o : Obj) : Whole (w.alloc o) g t cs := h.as (Below.heap_alloc w o g h.lt)
theorem Whole.far (h : Whole w g t cs) {p : Addr} (hp : g ≠ p.block) (u : Value) : Whole (w.setCell p u) g t cs := h.as (Below.heap_setCell w p u g hp)
theorem Whole.set_ (h : Whole w g t cs) (i : Nat) (u : Value) : Whole (w.setCell ⟨g, i, none⟩ u) g t (cs.setIfInBounds i u) := by
  have e : w.heap[g]? = some (.cells cs t (0, 0)) := h
  show (w.setCell ⟨g, i, none⟩ u).heap[g]? = _
  simp [World.setCell, Array.getElem?_modify, e]
theorem Whole.below {B : Nat} (h : Whole w g t cs) (hb : Below B w w') (hg : g < B) : Whole w' g t cs := h.as (hb.block g hg)
theorem Whole.belowS (h : Whole w g t cs) (hb : Below w.heap.size w w') : Whole w' g t cs := h.as (hb.block g h.lt)
theorem Whole.fr {S : Nat → Prop} (h : Whole w g t cs) (hb : Fr S w w') (hg : ¬ S g) : Whole w' g t cs := h.as (hb.block g h.lt hg)
/-- blocks of unlike types are two -/
theorem Whole.ne_ (h : Whole w g t cs) (h' : Whole w g' t' cs') (hne : t ≠ t') : g ≠ g' := fun e => by
  subst e
  have e1 : w.heap[g]? = some (.cells cs t (0, 0)) := h
  have e2 : w.heap[g]? = some (.cells cs' t' (0, 0)) := h'
  have e3 := Option.some.inj (e1.symm.trans e2)
  simp only [Obj.cells.injEq] at e3
  exact hne e3.2.1
end

/-! pages -/
abbrev pgV (st : Int) (ex wr : Bool) (ow ep : Int) : Value := .agg #[.int .u8 st, .bool ex, .bool wr, .int .u16 ow, .int .u64 ep]
abbrev pV (p : Pg) : Value := pgV p.st p.ex p.wr p.ow p.ep
def pcs (p : Pg) : List Value := [.int .u8 p.st, .bool p.ex, .bool p.wr, .int .u16 p.ow, .int .u64 p.ep]
def cs (l : List Pg) : List Value := l.flatMap pcs
theorem cs_len : ∀ l : List Pg, (cs l).length = l.length * 5
  | [] => rfl
  | p :: t => by
    have := cs_len t
    simp only [cs, List.flatMap_cons, List.length_append, List.length_cons] at this ⊢
    rw [this]
    simp [pcs]
    omega
theorem cs_at : ∀ (l : List Pg) (k j : Nat), k < l.length → j < 5 → (cs l)[k * 5 + j]? = (pcs (l.getD k zero))[j]?
  | p :: t, 0, j, _, hj => by
    simp only [cs, List.flatMap_cons]
    rw [List.getElem?_append_left (by simp [pcs]; omega)]
    simp
  | p :: t, k + 1, j, hk, hj => by
    have h := cs_at t k j (by simpa using hk) hj
    simp only [cs, List.flatMap_cons] at h ⊢
    rw [List.getElem?_append_right (by simp [pcs]; omega)]
    have e : (k + 1) * 5 + j - (pcs p).length = k * 5 + j := by simp [pcs]; omega
    rw [e, h]
    simp
theorem cs_append (a b : List Pg) : cs (a ++ b) = cs a ++ cs b := by simp [cs]
theorem cs_set (l : List Pg) (k : Nat) (p : Pg) (hk : k < l.length) (r : List Value) :
    (((((cs l ++ r).set (k * 5) (.int .u8 p.st)).set (k * 5 + 1) (.bool p.ex)).set (k * 5 + 2) (.bool p.wr)).set (k * 5 + 3) (.int .u16 p.ow)).set (k * 5 + 4) (.int .u64 p.ep) = cs (l.set k p) ++ r := by
  have hl := cs_len l
  have hl2 := cs_len (l.set k p)
  rw [List.length_set] at hl2
  apply List.ext_getElem?
  intro i
  simp only [List.getElem?_set, List.length_set, List.length_append, hl]
  by_cases hi : i < l.length * 5
  · have hq : i / 5 < l.length := by omega
    have e : i = i / 5 * 5 + i % 5 := by omega
    have hm : i % 5 < 5 := by omega
    have h1 := cs_at l (i / 5) (i % 5) hq hm
    have h2 := cs_at (l.set k p) (i / 5) (i % 5) (by rw [List.length_set]; exact hq) hm
    rw [← e] at h1 h2
    rw [List.getElem?_append_left (by omega), List.getElem?_append_left (by omega), h1, h2, set_at hq]
    by_cases hk2 : k = i / 5
    · rw [if_pos hk2]
      have : i % 5 = 0 ∨ i % 5 = 1 ∨ i % 5 = 2 ∨ i % 5 = 3 ∨ i % 5 = 4 := by omega
      rcases this with h | h | h | h | h <;> rw [h] <;> simp [pcs] <;> repeat (first | rw [if_neg (by omega)] | rw [if_pos (by omega)])
    · rw [if_neg hk2, if_neg (by omega), if_neg (by omega), if_neg (by omega), if_neg (by omega), if_neg (by omega)]
  · rw [if_neg (by omega), if_neg (by omega), if_neg (by omega), if_neg (by omega), if_neg (by omega), List.getElem?_append_right (by omega), List.getElem?_append_right (by omega), hl, hl2]

/-- block g holds the pages l, and more room perhaps -/
def Row (w : World) (g : Nat) (l : List Pg) : Prop := ∃ r : List Value, Whole w g 107 (cs l ++ r).toArray
section
variable {w w' : World} {g k : Nat} {l : List Pg}
theorem Row.lt (h : Row w g l) : g < w.heap.size := h.elim fun _ h => h.lt
theorem Row.cellj (h : Row w g l) (hk : k < l.length) {j : Nat} (hj : j < 5) : w.cell? ⟨g, k * 5 + j, none⟩ = (pcs (l.getD k zero))[j]? := by
  obtain ⟨r, h⟩ := h
  rw [h.cell, List.getElem?_toArray, List.getElem?_append_left (by rw [cs_len]; omega), cs_at l k j hk hj]
theorem Row.five (h : Row w g l) (hk : k < l.length) {p : Pg} (hp : l.getD k zero = p) : w.cell? ⟨g, k * 5, none⟩ = some (.int .u8 p.st) ∧ w.cell? ⟨g, k * 5 + 1, none⟩ = some (.bool p.ex) ∧ w.cell? ⟨g, k * 5 + 2, none⟩ = some (.bool p.wr) ∧
    w.cell? ⟨g, k * 5 + 3, none⟩ = some (.int .u16 p.ow) ∧ w.cell? ⟨g, k * 5 + 4, none⟩ = some (.int .u64 p.ep) := by
  subst hp
  exact ⟨h.cellj hk (j := 0) (by omega), h.cellj hk (by omega), h.cellj hk (by omega), h.cellj hk (by omega), h.cellj hk (by omega)⟩
theorem Row.frozen (h : Row w g l) (i : Nat) : w.frozen? ⟨g, i, none⟩ = false := h.elim fun _ h => h.frozen i
theorem Row.below {B : Nat} (h : Row w g l) (hb : Below B w w') (hg : g < B) : Row w' g l := h.elim fun r h => ⟨r, h.below hb hg⟩
theorem Row.belowS (h : Row w g l) (hb : Below w.heap.size w w') : Row w' g l := h.elim fun r h => ⟨r, h.belowS hb⟩
theorem Row.fr {S : Nat → Prop} (h : Row w g l) (hb : Fr S w w') (hg : ¬ S g) : Row w' g l := h.elim fun r h => ⟨r, h.fr hb hg⟩
theorem Row.alloc (h : Row w g l) (o : Obj) : Row (w.alloc o) g l := h.elim fun r h => ⟨r, h.alloc o⟩
theorem Row.far (h : Row w g l) {p : Addr} (hp : g ≠ p.block) (u : Value) : Row (w.setCell p u) g l := h.elim fun r h => ⟨r, h.far hp u⟩
theorem Row.set5 (h : Row w g l) (hk : k < l.length) (p : Pg) :
    Row (((((w.setCell ⟨g, k * 5, none⟩ (.int .u8 p.st)).setCell ⟨g, k * 5 + 1, none⟩ (.bool p.ex)).setCell ⟨g, k * 5 + 2, none⟩ (.bool p.wr)).setCell ⟨g, k * 5 + 3, none⟩ (.int .u16 p.ow)).setCell ⟨g, k * 5 + 4, none⟩ (.int .u64 p.ep)) g (l.set k p) := by
  obtain ⟨r, h⟩ := h
  refine ⟨r, ?_⟩
  have := ((((h.set_ (k * 5) (.int .u8 p.st)).set_ (k * 5 + 1) (.bool p.ex)).set_ (k * 5 + 2) (.bool p.wr)).set_ (k * 5 + 3) (.int .u16 p.ow)).set_ (k * 5 + 4) (.int .u64 p.ep)
  rw [← cs_set l k p hk r]
  simpa using this
/-- a page is laid -/
def put5 (w : World) (g o : Nat) (st : Int) (ex wr : Bool) (ow ep : Int) : World := w.setCells g o [.int .u8 st, .bool ex, .bool wr, .int .u16 ow, .int .u64 ep]
theorem put_eq (w : World) (g o : Nat) (st : Int) (ex wr : Bool) (ow ep : Int) : (((((w.setCell ⟨g, o, none⟩ (.int .u8 st)).setCell ⟨g, o + 1, none⟩ (.bool ex)).setCell ⟨g, o + 2, none⟩ (.bool wr)).setCell ⟨g, o + 3, none⟩ (.int .u16 ow)).setCell ⟨g, o + 4, none⟩ (.int .u64 ep)) = put5 w g o st ex wr ow ep := rfl
theorem Row.there (h : Row w g l) (hk : k < l.length) : (∃ v0 v1 v2 v3 v4, w.cell? ⟨g, k * 5, none⟩ = some v0 ∧ w.cell? ⟨g, k * 5 + 1, none⟩ = some v1 ∧ w.cell? ⟨g, k * 5 + 2, none⟩ = some v2 ∧ w.cell? ⟨g, k * 5 + 3, none⟩ = some v3 ∧ w.cell? ⟨g, k * 5 + 4, none⟩ = some v4) ∧
      w.frozen? ⟨g, k * 5, none⟩ = false ∧ w.frozen? ⟨g, k * 5 + 1, none⟩ = false ∧ w.frozen? ⟨g, k * 5 + 2, none⟩ = false ∧ w.frozen? ⟨g, k * 5 + 3, none⟩ = false ∧ w.frozen? ⟨g, k * 5 + 4, none⟩ = false := by
  obtain ⟨c0, c1, c2, c3, c4⟩ := h.five hk rfl
  exact ⟨⟨_, _, _, _, _, c0, c1, c2, c3, c4⟩, h.frozen _, h.frozen _, h.frozen _, h.frozen _, h.frozen _⟩
theorem Row.put (h : Row w g l) (hk : k < l.length) (p : Pg) : Row (put5 w g (k * 5) p.st p.ex p.wr p.ow p.ep) g (l.set k p) := h.set5 hk p
theorem infoPage : (Tryz.prog.info? 107).map (·.size) = some 5 := by kernel_rfl
theorem Row.run (h : Row w g l) (hk : k < l.length) (st : Int) (ex wr : Bool) (ow ep : Int) :
    (Instr.storeAt 107 (.pointer (some ⟨g, k * 5, none⟩)) (.agg #[.int .u8 st, .bool ex, .bool wr, .int .u16 ow, .int .u64 ep])).run Tryz.prog w = .ok () (put5 w g (k * 5) st ex wr ow ep) := by
  refine run_storeAt_mid w g (k * 5) _ _ (fun j hj => ?_) infoPage (by simp [Value.oneCell'])
  refine ⟨?_, h.frozen _⟩
  rw [h.cellj hk (by simpa using hj)]
  simp only [List.size_toArray, List.length_cons, List.length_nil, Nat.zero_add, Nat.reduceAdd] at hj
  rw [List.getElem?_eq_getElem (by simpa [pcs] using hj)]
  rfl
theorem Fr.put {S : Nat → Prop} {a b : World} (h : Fr S a b) (hg : S g ∨ a.heap.size ≤ g) (o : Nat) (st : Int) (ex wr : Bool) (ow ep : Int) : Fr S a (put5 b g o st ex wr ow ep) :=
  ((((h.set (p := ⟨g, o, none⟩) hg _).set (p := ⟨g, o + 1, none⟩) hg _).set (p := ⟨g, o + 1 + 1, none⟩) hg _).set (p := ⟨g, o + 1 + 1 + 1, none⟩) hg _).set (p := ⟨g, o + 1 + 1 + 1 + 1, none⟩) hg _
theorem put_far {p o' : Nat} {o : Nat} {st : Int} {ex wr : Bool} {ow ep : Int} {v : Option Value} (hne : p ≠ g) (hc : w.cell? ⟨p, o', none⟩ = v) : (put5 w g o st ex wr ow ep).cell? ⟨p, o', none⟩ = v := by
  have hf := Fr.put (Fr.refl (fun i => i = g) w) (Or.inl rfl) o st ex wr ow ep
  rcases Nat.lt_or_ge p w.heap.size with h | h
  · rw [← hc]
    exact World.cell?_of_block (hf.block p h hne)
  · rw [← hc]
    have hx : ∀ i, (⟨g, i, none⟩ : Addr) ≠ ⟨p, o', none⟩ := fun i e => hne (congrArg Addr.block e).symm
    unfold put5
    simp only [World.setCells]
    rw [World.cell?_setCell_other _ _ _ _ (hx _), World.cell?_setCell_other _ _ _ _ (hx _), World.cell?_setCell_other _ _ _ _ (hx _), World.cell?_setCell_other _ _ _ _ (hx _), World.cell?_setCell_other _ _ _ _ (hx _)]
theorem Row.of_owns {B n : Nat} {v : Value} (h : w.ownsRow B 107 5 v n (cs l)) (hv : v ≠ .slice none 0 0) : ∃ g c, v = .slice (some ⟨g, 0, none⟩) l.length c ∧ n = l.length ∧ B ≤ g ∧ l.length ≤ c ∧ c ≤ maxLen ∧ Row w g l := by
  have hl := h.1
  rw [cs_len] at hl
  have hn : l.length = n := by omega
  subst hn
  rcases h.2 with ⟨e, _⟩ | ⟨g, cap, cur, e, hg, hcell, hcap, hcm, hsz, hcur⟩
  · exact absurd e (by intro e'; apply hv; rw [e'] )
  · refine ⟨g, cap, e, rfl, hg, hcap, hcm, cur.toList.drop (cs l).length, ?_⟩
    have e2 : (cs l ++ cur.toList.drop (cs l).length).toArray = cur := by
      have h3 : cur.toList.take (cs l).length = cs l := by rw [cs_len]; exact hcur
      conv => lhs; rw [← h3]
      have hle : (cs l).length ≤ cur.toList.length := by
        have h5 : cur.toList.length = cap * 5 := hsz
        rw [cs_len, h5]; omega
      rw [List.length_take, Nat.min_eq_left hle, List.take_append_drop]
    rw [e2]
    exact hcell
end

/-- a table at p, its pages in block g -/
def Tb (w : World) (p g : Nat) (l : List Pg) : Prop := l.length ≤ 256 ∧ Row w g l ∧ ∃ c, l.length ≤ c ∧ c ≤ maxLen ∧ Whole w p 103 #[.slice (some ⟨g, 0, none⟩) l.length c]
section
variable {w w' : World} {p g : Nat} {l : List Pg}
theorem Tb.row (h : Tb w p g l) : Row w g l := h.2.1
theorem Tb.lt (h : Tb w p g l) : g < w.heap.size ∧ p < w.heap.size ∧ p ≠ g := by
  obtain ⟨_, h1, c, _, _, h2⟩ := h
  exact ⟨h1.lt, h2.lt, h1.elim fun r h1 => h2.ne_ h1 (by decide)⟩
theorem Tb.below {B : Nat} (h : Tb w p g l) (hb : Below B w w') (hg : g < B) (hp : p < B) : Tb w' p g l := by
  obtain ⟨h0, h1, c, h3, h4, h2⟩ := h
  exact ⟨h0, h1.below hb hg, c, h3, h4, h2.below hb hp⟩
theorem Tb.belowS (h : Tb w p g l) (hb : Below w.heap.size w w') : Tb w' p g l := h.below hb h.lt.1 h.lt.2.1
theorem Tb.fr {S : Nat → Prop} (h : Tb w p g l) (hb : Fr S w w') (hg : ¬ S g) (hp : ¬ S p) : Tb w' p g l := by
  obtain ⟨h0, h1, c, h3, h4, h2⟩ := h
  exact ⟨h0, h1.fr hb hg, c, h3, h4, h2.fr hb hp⟩
/-- the pages turned, the table's own block kept -/
theorem Tb.turn {S : Nat → Prop} {l' : List Pg} (h : Tb w p g l) (hb : Fr S w w') (hp : ¬ S p) (hl : l'.length = l.length) (hr : Row w' g l') : Tb w' p g l' := by
  obtain ⟨h0, h1, c, h3, h4, h2⟩ := h
  rw [← hl] at h0 h3 h2
  exact ⟨h0, hr, c, h3, h4, h2.fr hb hp⟩
theorem Tb.cell (h : Tb w p g l) : ∃ c, l.length ≤ 256 ∧ l.length ≤ c ∧ c ≤ maxLen ∧ w.cell? ⟨p, 0, none⟩ = some (.slice (some ⟨g, 0, none⟩) l.length c) := by
  obtain ⟨h0, h1, c, h3, h4, h2⟩ := h
  exact ⟨c, h0, h3, h4, h2.cell 0⟩
end
/-- a reference's table: a value -/
def Rt (w : World) (g : Nat) (l : List Pg) (v : Value) : Prop := l.length ≤ 256 ∧ Row w g l ∧ ∃ c, l.length ≤ c ∧ c ≤ maxLen ∧ v = .slice (some ⟨g, 0, none⟩) l.length c
theorem Rt.belowS {w w' : World} {g : Nat} {l : List Pg} {v : Value} (h : Rt w g l v) (hb : Below w.heap.size w w') : Rt w' g l v := ⟨h.1, h.2.1.belowS hb, h.2.2⟩
theorem Rt.fr {S : Nat → Prop} {w w' : World} {g : Nat} {l : List Pg} {v : Value} (h : Rt w g l v) (hb : Fr S w w') (hg : ¬ S g) : Rt w' g l v := ⟨h.1, h.2.1.fr hb hg, h.2.2⟩
end Go.Proofs.YtihcellcdkhadaaGreat.PR

/-
  What is asked of one page: the program's and the reference's. Nothing here is a statement of the seed.
-/
namespace Go.Proofs.YtihcellcdkhadaaGreat.PF
open Go.RowKit PM PR

theorem isUsed_any (p : Pg) : Says Tryz.prog 54 #[pV p] (.bool (usedB p)) := by
  intro w
  cases hu : usedB p
  · have e := used_no.1 hu
    subst e
    clear hu
    show Calls _ _ #[pgV 0 false false 0 0] _ _
    go_enter Tryz.func54, Tryz.ntmps54
    go_wp2_with fail
    go_ret
    exact ⟨rfl, below_new _ _⟩
  · have hne : p ≠ zero := fun e => by rw [used_no.2 e] at hu; cases hu
    obtain ⟨st, ex, wr, ow, ep⟩ := p
    clear hu
    show Calls _ _ #[pgV st ex wr ow ep] _ _
    go_enter Tryz.func54, Tryz.ntmps54
    go_wp2_with fail
    all_goals (first | (go_ret; exact ⟨rfl, below_new _ _⟩) | (exfalso; apply hne; simp_all [zero]))
theorem ownedBy1_any (p : Pg) (o : Int) (b : Nat) (w : World) (h : Whole w b 59 #[.int .u16 o]) :
    Calls Tryz.prog 94 #[pV p, .pointer (some ⟨b, 0, none⟩)] w fun e w' => e = .returned (.bool (ownB o p)) ∧ Below w.heap.size w w' := by
  have hc := h.cell 0
  have hb := h.lt
  obtain ⟨st, ex, wr, ow, ep⟩ := p
  show Calls _ _ #[pgV st ex wr ow ep, _] _ _
  simp only [List.getElem?_toArray, List.getElem?_cons_zero] at hc
  have HH := Lib.hid h
  clear h
  go_enter Tryz.func94, Tryz.ntmps94
  go_wp2_with fail
  go_ret
  exact ⟨by unfold ownB; rfl, below_new _ _⟩
theorem reads_any (p : Pg) (e : Int) : Says Tryz.prog 99 #[pV p, .int .u64 e] (.bool (seenB p e)) := by
  intro w
  obtain ⟨st, ex, wr, ow, ep⟩ := p
  show Calls _ _ #[pgV st ex wr ow ep, _] _ _
  by_cases h2 : st = 2
  · subst h2
    go_enter Tryz.func99, Tryz.ntmps99
    go_wp2_with fail
    go_ret
    exact ⟨by simp [seenB], below_new _ _⟩
  · by_cases h3 : st = 3
    · subst h3
      go_enter Tryz.func99, Tryz.ntmps99
      go_wp2_with fail
      go_ret
      exact ⟨by simp [seenB], below_new _ _⟩
    · have h2' : (st == 2) = false := by simpa using h2
      have h3' : (st == 3) = false := by simpa using h3
      go_enter Tryz.func99, Tryz.ntmps99
      go_wp2_with fail
      go_ret
      exact ⟨by simp [seenB, h2, h3], below_new _ _⟩
theorem refSeen_any (p : Pg) (e : Int) : Says Tryz.prog 110 #[pV p, .int .u64 e] (.bool (seenB p e)) := by
  intro w
  obtain ⟨st, ex, wr, ow, ep⟩ := p
  show Calls _ _ #[pgV st ex wr ow ep, _] _ _
  go_enter Tryz.func110, Tryz.ntmps110
  go_wp2_with fail
  all_goals (go_ret; exact ⟨by simp [seenB, *], below_new _ _⟩)
theorem refReads_any (p : Pg) (e : Int) : Says Tryz.prog 91 #[pV p, .int .u64 e] (.bool (seenB p e)) := by
  intro w
  have C := Lib.hid (refSeen_any p e)
  generalize seenB p e = r at *
  obtain ⟨st, ex, wr, ow, ep⟩ := p
  change Hid (Says _ _ #[pgV st ex wr ow ep, _] _) at C
  show Calls _ _ #[pgV st ex wr ow ep, _] _ _
  have hb := below_new w (.cells #[.int .u8 st, .bool ex, .bool wr, .int .u16 ow, .int .u64 ep] 107)
  go_enter Tryz.func91, Tryz.ntmps91
  go_wp2_with (go_at_call 110; refine (inw C.out w _ hb).mono ?_; rintro e w1 ⟨rfl, hb⟩)
  go_ret
  exact ⟨rfl, hb⟩
theorem runs_any (p : Pg) (e : Int) : Says Tryz.prog 71 #[pV p, .int .u64 e] (.bool (runsB p e)) := by
  intro w
  have C := Lib.hid (reads_any p e)
  unfold runsB
  cases hs : seenB p e
  all_goals
    rw [hs] at C
    clear hs
    obtain ⟨st, ex, wr, ow, ep⟩ := p
    change Hid (Says _ _ #[pgV st ex wr ow ep, _] _) at C
    show Calls _ _ #[pgV st ex wr ow ep, _] _ _
    have hb := below_new w (.cells #[.int .u8 st, .bool ex, .bool wr, .int .u16 ow, .int .u64 ep] 107)
    go_enter Tryz.func71, Tryz.ntmps71
    go_wp2_with (go_at_call 99; refine (C.out _).mono ?_; rintro e w1 ⟨rfl, hb1⟩; obtain ⟨hc, hf⟩ := bcell hb1)
    go_ret
    exact ⟨by simp, below_of hb hb1⟩
theorem refRuns_any (p : Pg) (e : Int) : Says Tryz.prog 85 #[pV p, .int .u64 e] (.bool (runsB p e)) := by
  intro w
  have C := Lib.hid (refSeen_any p e)
  unfold runsB
  cases hs : seenB p e
  all_goals
    rw [hs] at C
    clear hs
    obtain ⟨st, ex, wr, ow, ep⟩ := p
    change Hid (Says _ _ #[pgV st ex wr ow ep, _] _) at C
    show Calls _ _ #[pgV st ex wr ow ep, _] _ _
    have hb := below_new w (.cells #[.int .u8 st, .bool ex, .bool wr, .int .u16 ow, .int .u64 ep] 107)
    go_enter Tryz.func85, Tryz.ntmps85
    go_wp2_with (go_at_call 110; refine (C.out _).mono ?_; rintro e w1 ⟨rfl, hb1⟩; obtain ⟨hc, hf⟩ := bcell hb1)
    go_ret
    exact ⟨by simp, below_of hb hb1⟩
theorem writes_any (p : Pg) (e o : Int) : Says Tryz.prog 123 #[pV p, .int .u64 e, .int .u16 o] (.bool (writesB p e o)) := by
  intro w
  have C := Lib.hid (reads_any p e)
  unfold writesB
  cases hs : seenB p e
  all_goals
    rw [hs] at C
    clear hs
    obtain ⟨st, ex, wr, ow, ep⟩ := p
    change Hid (Says _ _ #[pgV st ex wr ow ep, _] _) at C
    show Calls _ _ #[pgV st ex wr ow ep, _, _] _ _
    have hb := below_new w (.cells #[.int .u8 st, .bool ex, .bool wr, .int .u16 ow, .int .u64 ep] 107)
    go_enter Tryz.func123, Tryz.ntmps123
    go_wp2_with (go_at_call 99; refine (C.out _).mono ?_; rintro e w1 ⟨rfl, hb1⟩; obtain ⟨hc, hf⟩ := bcell hb1)
    all_goals (go_ret; exact ⟨by (first | (simp_all [eq_comm]; done) | (simp_all [eq_comm]; rfl)), below_of hb hb1⟩)
theorem refWrites_any (p : Pg) (e o : Int) : Says Tryz.prog 92 #[pV p, .int .u64 e, .int .u16 o] (.bool (writesB p e o)) := by
  intro w
  have C := Lib.hid (refSeen_any p e)
  unfold writesB
  cases hs : seenB p e
  all_goals
    rw [hs] at C
    clear hs
    obtain ⟨st, ex, wr, ow, ep⟩ := p
    change Hid (Says _ _ #[pgV st ex wr ow ep, _] _) at C
    show Calls _ _ #[pgV st ex wr ow ep, _, _] _ _
    have hb := below_new w (.cells #[.int .u8 st, .bool ex, .bool wr, .int .u16 ow, .int .u64 ep] 107)
    go_enter Tryz.func92, Tryz.ntmps92
    go_wp2_with (go_at_call 110; refine (C.out _).mono ?_; rintro e w1 ⟨rfl, hb1⟩; obtain ⟨hc, hf⟩ := bcell hb1)
    all_goals (go_ret; exact ⟨by (first | (simp_all [eq_comm]; done) | (simp_all [eq_comm]; rfl)), below_of hb hb1⟩)
theorem unless_any (n : Nat) (w : World) : Calls Tryz.prog 67 #[.int .i64 (n : Int)] w fun e w' => e = .returned (.int .i64 (if n = 0 then 8 else 0)) ∧ w = w' := by
  by_cases h : n = 0
  · subst h
    rw [if_pos rfl]
    show Calls _ _ #[.int .i64 0] _ _
    go_enter Tryz.func67, Tryz.ntmps67
    go_wp2_with fail
    go_ret
    exact ⟨rfl, rfl⟩
  · rw [if_neg h]
    have h' : ((n : Int) == 0) = false := by simp; omega
    clear h
    generalize (n : Int) = x at *
    go_enter Tryz.func67, Tryz.ntmps67
    go_wp2_with fail
    go_ret
    exact ⟨rfl, rfl⟩
end Go.Proofs.YtihcellcdkhadaaGreat.PF

/-
  A few states, asked for one. Nothing here is a statement of the seed.
-/
namespace Go.Proofs.YtihcellcdkhadaaGreat.PF
open Go.RowKit PM PR

/-- the states a and b (or a alone) in block g -/
def Sts (w : World) (v : Value) (g : Nat) (a b : Int) : Prop :=
  (v = .slice (some ⟨g, 0, none⟩) 1 1 ∧ a = b ∧ Whole w g 105 #[.int .u8 a]) ∨ (v = .slice (some ⟨g, 0, none⟩) 2 2 ∧ Whole w g 105 #[.int .u8 a, .int .u8 b])
theorem Sts.belowS {w w' : World} {v : Value} {g : Nat} {a b : Int} (h : Sts w v g a b) (hb : Below w.heap.size w w') : Sts w' v g a b := by
  rcases h with ⟨h1, h2, h3⟩ | ⟨h1, h3⟩
  · exact Or.inl ⟨h1, h2, h3.belowS hb⟩
  · exact Or.inr ⟨h1, h3.belowS hb⟩
theorem Sts.fr {S : Nat → Prop} {w w' : World} {v : Value} {g : Nat} {a b : Int} (h : Sts w v g a b) (hb : Fr S w w') (hg : ¬ S g) : Sts w' v g a b := by
  rcases h with ⟨h1, h2, h3⟩ | ⟨h1, h3⟩
  · exact Or.inl ⟨h1, h2, h3.fr hb hg⟩
  · exact Or.inr ⟨h1, h3.fr hb hg⟩
theorem Sts.lt {w : World} {v : Value} {g : Nat} {a b : Int} (h : Sts w v g a b) : g < w.heap.size := by
  rcases h with ⟨h1, h2, h3⟩ | ⟨h1, h3⟩ <;> exact h3.lt
theorem Sts.ne_ {w : World} {v : Value} {g k : Nat} {a b : Int} {t : TypeId} {cs : Array Value} (h : Sts w v g a b) (hk : Whole w k t cs) (ht : t ≠ 105) : k ≠ g := by
  rcases h with ⟨h1, h2, h3⟩ | ⟨h1, h3⟩ <;> exact hk.ne_ h3 ht
theorem index1 (a st : Int) (g : Nat) (w : World) (h : Whole w g 105 #[.int .u8 a]) :
    Calls Tryz.prog 116 #[.slice (some ⟨g, 0, none⟩) 1 1, .int .u8 st] w fun e w' => e = .returned (.int .i64 (if st = a then 0 else -1)) ∧ w = w' := by
  have hc := h.cell 0
  simp only [List.getElem?_toArray, List.getElem?_cons_zero] at hc
  clear h
  by_cases h1 : st = a
  · subst h1
    rw [if_pos rfl]
    go_enter Tryz.func116, Tryz.ntmps116
    go_wp2_with fail
    refine wp_loop_rounds 1 ?_
    rw [rounds_succ]
    go_wp2_with fail
    go_ret
    exact ⟨rfl, rfl⟩
  · rw [if_neg h1]
    have h1' : (st == a) = false := by simpa using h1
    clear h1
    go_enter Tryz.func116, Tryz.ntmps116
    go_wp2_with fail
    refine wp_loop_rounds 2 ?_
    rw [rounds_succ]
    go_wp2_with fail
    rw [rounds_succ]
    go_wp2_with fail
    go_ret
    exact ⟨rfl, rfl⟩
theorem index2 (a b st : Int) (g : Nat) (w : World) (h : Whole w g 105 #[.int .u8 a, .int .u8 b]) :
    Calls Tryz.prog 116 #[.slice (some ⟨g, 0, none⟩) 2 2, .int .u8 st] w fun e w' => e = .returned (.int .i64 (if st = a then 0 else if st = b then 1 else -1)) ∧ w = w' := by
  have hc := h.cell 0
  have hc2 := h.cell 1
  simp only [List.getElem?_toArray, List.getElem?_cons_zero, List.getElem?_cons_succ] at hc hc2
  clear h
  by_cases h1 : st = a
  · subst h1
    rw [if_pos rfl]
    go_enter Tryz.func116, Tryz.ntmps116
    go_wp2_with fail
    refine wp_loop_rounds 1 ?_
    rw [rounds_succ]
    go_wp2_with fail
    go_ret
    exact ⟨rfl, rfl⟩
  · rw [if_neg h1]
    have h1' : (st == a) = false := by simpa using h1
    clear h1
    by_cases h2 : st = b
    · subst h2
      rw [if_pos rfl]
      go_enter Tryz.func116, Tryz.ntmps116
      go_wp2_with fail
      refine wp_loop_rounds 2 ?_
      rw [rounds_succ]
      go_wp2_with fail
      rw [rounds_succ]
      go_wp2_with fail
      go_ret
      exact ⟨rfl, rfl⟩
    · rw [if_neg h2]
      have h2' : (st == b) = false := by simpa using h2
      clear h2
      go_enter Tryz.func116, Tryz.ntmps116
      go_wp2_with fail
      refine wp_loop_rounds 3 ?_
      rw [rounds_succ]
      go_wp2_with fail
      rw [rounds_succ]
      go_wp2_with fail
      rw [rounds_succ]
      go_wp2_with fail
      go_ret
      exact ⟨rfl, rfl⟩
theorem contains_way (v : Value) (st r : Int) (w : World) (C : Calls Tryz.prog 116 #[v, .int .u8 st] w fun e w' => e = .returned (.int .i64 r) ∧ w = w') (q : Bool) (hq : decide (0 ≤ r) = q) :
    Calls Tryz.prog 98 #[v, .int .u8 st] w fun e w' => e = .returned (.bool q) ∧ w = w' := by
  have C1 := Lib.hid C
  clear C
  go_enter Tryz.func98, Tryz.ntmps98
  go_wp2_with (go_at_call 116; refine C1.out.mono ?_; rintro e w1 ⟨rfl, rfl⟩)
  go_ret
  exact ⟨by rw [← hq]; rfl, rfl⟩
theorem contains_any (v : Value) (g : Nat) (a b st : Int) (w : World) (h : Sts w v g a b) :
    Calls Tryz.prog 98 #[v, .int .u8 st] w fun e w' => e = .returned (.bool (decide (st = a) || decide (st = b))) ∧ w = w' := by
  rcases h with ⟨rfl, rfl, h3⟩ | ⟨rfl, h3⟩
  · refine contains_way _ _ _ _ (index1 a st g w h3) _ ?_
    by_cases h : st = a <;> simp [h]
  · refine contains_way _ _ _ _ (index2 a b st g w h3) _ ?_
    by_cases h : st = a
    · rw [if_pos h]; simp [h]
    · rw [if_neg h]
      by_cases h' : st = b
      · rw [if_pos h']; simp [h']
      · rw [if_neg h']; simp [h, h']
end Go.Proofs.YtihcellcdkhadaaGreat.PF

/-
  Pages, asked for one of a kind. Nothing here is a statement of the seed.
-/
namespace Go.Proofs.YtihcellcdkhadaaGreat.PF
open Go.RowKit PM PR

theorem ownedBy_any (o : Int) (w : World) : Calls Tryz.prog 55 #[.int .u16 o] w fun e w' => e = .returned (.func (.func 94) #[] #[.pointer (some ⟨w.heap.size, 0, none⟩)]) ∧ w' = w.alloc (.cells #[.int .u16 o] 59) := by
  go_enter Tryz.func55, Tryz.ntmps55
  go_wp2_with fail
  go_ret
  exact ⟨rfl, rfl⟩
/-- the pages l stand in block g, from off on -/
def Piece (w : World) (g off : Nat) (l : List Pg) : Prop := ∀ k, k < l.length → w.cell? ⟨g, off + k * 5, none⟩ = some (.int .u8 (l.getD k zero).st) ∧ w.cell? ⟨g, off + k * 5 + 1, none⟩ = some (.bool (l.getD k zero).ex) ∧ w.cell? ⟨g, off + k * 5 + 2, none⟩ = some (.bool (l.getD k zero).wr) ∧
    w.cell? ⟨g, off + k * 5 + 3, none⟩ = some (.int .u16 (l.getD k zero).ow) ∧ w.cell? ⟨g, off + k * 5 + 4, none⟩ = some (.int .u64 (l.getD k zero).ep)
theorem Piece.below {w w' : World} {g off B : Nat} {l : List Pg} (h : Piece w g off l) (hb : Below B w w') (hg : g < B) : Piece w' g off l := fun k hk => by
  obtain ⟨h0, h1, h2, h3, h4⟩ := h k hk
  exact ⟨(hb.cell (p := ⟨g, _, none⟩) hg).trans h0, (hb.cell (p := ⟨g, _, none⟩) hg).trans h1, (hb.cell (p := ⟨g, _, none⟩) hg).trans h2, (hb.cell (p := ⟨g, _, none⟩) hg).trans h3, (hb.cell (p := ⟨g, _, none⟩) hg).trans h4⟩
theorem Row.piece {w : World} {g : Nat} {l : List Pg} (h : Row w g l) : Piece w g 0 l := fun k hk => by
  simp only [Nat.zero_add]
  exact h.five hk rfl
theorem Row.part {w : World} {g : Nat} {l : List Pg} (h : Row w g l) (a n : Nat) (hl : a + n ≤ l.length) : Piece w g (a * 5) ((l.drop a).take n) := fun k hk => by
  rw [List.length_take, List.length_drop] at hk
  have e : ((l.drop a).take n).getD k zero = l.getD (a + k) zero := by
    rw [List.getD_eq_getElem?_getD, List.getD_eq_getElem?_getD, List.getElem?_take_of_lt (by omega), List.getElem?_drop]
  have := h.five (k := a + k) (by omega) rfl
  rw [Nat.add_mul] at this
  rw [e]
  exact this
def Found (c : Pg → Bool) (l : List Pg) (e : Ending) : Prop := ∃ r : Int, e = .returned (.int .i64 r) ∧ decide (0 ≤ r) = l.any c
theorem any_no {c : Pg → Bool} {l : List Pg} (h : ∀ j, j < l.length → c (l.getD j zero) = false) : l.any c = false := by
  rw [List.any_eq_false]
  intro x hx
  obtain ⟨j, hj, rfl⟩ := List.getElem_of_mem hx
  have := h j hj
  rw [getD_in hj] at this
  rw [this]; simp
theorem any_yes {c : Pg → Bool} {l : List Pg} {j : Nat} (hj : j < l.length) (h : c (l.getD j zero) = true) : l.any c = true := by
  rw [List.any_eq_true]
  refine ⟨l[j], List.getElem_mem hj, ?_⟩
  rwa [getD_in hj] at h
set_option maxHeartbeats 1000000 in
theorem indexUsed (l : List Pg) (g off cp : Nat) (w : World) (hl : l.length ≤ 256) (hg : g < w.heap.size) (h : Piece w g off l) :
    Calls Tryz.prog 93 #[.slice (some ⟨g, off, none⟩) l.length cp, .func (.func 54) #[] #[]] w fun e w' => Found usedB l e ∧ Below w.heap.size w w' := by
  have H := Lib.hid h
  clear h
  generalize hn : l.length = n at *
  have HN := Lib.hid hn
  clear hn
  go_enter Tryz.func93, Tryz.ntmps93
  go_wp2_with fail
  go_loopw [8] (fun i wr => ∃ k : Nat, k ≤ n ∧ i = .int .i64 (k : Int) ∧ Below w.heap.size w wr ∧ Hid (∀ j, j < k → usedB (l.getD j zero) = false)) (fun i _ => n - (intOf i).toNat)
  case atStart => exact ⟨0, by omega, rfl, Below.refl _ _, Lib.hid fun j hj => by omega⟩
  case round =>
    obtain ⟨k, hk, rfl, hb, hno⟩ := hrel
    by_cases hlt : k < n
    · have hlt' : (k : Int) < n := by omega
      obtain ⟨c0, c1, c2, c3, c4⟩ := (H.out.below hb hg) k (by rw [HN.out]; exact hlt)
      have hC := Lib.hid (isUsed_any (l.getD k zero))
      cases hu : usedB (l.getD k zero)
      all_goals
        rw [hu] at hC
        have HU := Lib.hid hu
        clear hu
        generalize hp : l.getD k zero = p at *
        have HP := Lib.hid hp
        clear hp
        obtain ⟨st, ex, wr', ow, ep⟩ := p
        simp only at c0 c1 c2 c3 c4
        change Hid (Says _ _ #[pgV st ex wr' ow ep] _) at hC
        go_wp2_with (go_at_call 54; refine (inw hC.out w _ hb).mono ?_; rintro e w1 ⟨rfl, hb⟩)
      · go_roundw
        case rel => exact ⟨k + 1, by omega, by go_num, hb, Lib.hid fun j hj => by
          by_cases hj' : j < k
          · exact hno.out j hj'
          · obtain rfl : j = k := by omega
            rw [HP.out]; exact HU.out⟩
        case measure => simp [intOf]; omega
      · go_ret
        exact ⟨⟨k, rfl, by rw [any_yes (by rw [HN.out]; exact hlt) (by rw [HP.out]; exact HU.out)]; simp⟩, hb⟩
    · obtain rfl : k = n := by omega
      go_wp2_with fail
      go_ret
      exact ⟨⟨-1, rfl, by rw [any_no (by rw [HN.out]; exact hno.out)]; rfl⟩, hb⟩
set_option maxHeartbeats 1000000 in
theorem indexOwned (l : List Pg) (o : Int) (b g off cp : Nat) (w : World) (hl : l.length ≤ 256) (hg : g < w.heap.size) (h : Piece w g off l) (hB : Whole w b 59 #[.int .u16 o]) :
    Calls Tryz.prog 93 #[.slice (some ⟨g, off, none⟩) l.length cp, .func (.func 94) #[] #[.pointer (some ⟨b, 0, none⟩)]] w fun e w' => Found (ownB o) l e ∧ Below w.heap.size w w' := by
  have H := Lib.hid h
  have HB := Lib.hid hB
  clear h hB
  generalize hn : l.length = n at *
  have HN := Lib.hid hn
  clear hn
  go_enter Tryz.func93, Tryz.ntmps93
  go_wp2_with fail
  go_loopw [8] (fun i wr => ∃ k : Nat, k ≤ n ∧ i = .int .i64 (k : Int) ∧ Below w.heap.size w wr ∧ Hid (∀ j, j < k → ownB o (l.getD j zero) = false)) (fun i _ => n - (intOf i).toNat)
  case atStart => exact ⟨0, by omega, rfl, Below.refl _ _, Lib.hid fun j hj => by omega⟩
  case round =>
    obtain ⟨k, hk, rfl, hb, hno⟩ := hrel
    by_cases hlt : k < n
    · have hlt' : (k : Int) < n := by omega
      obtain ⟨c0, c1, c2, c3, c4⟩ := (H.out.below hb hg) k (by rw [HN.out]; exact hlt)
      have hC := Lib.hid (fun u hu => ownedBy1_any (l.getD k zero) o b u hu)
      cases hu : ownB o (l.getD k zero)
      all_goals
        rw [hu] at hC
        have HU := Lib.hid hu
        clear hu
        generalize hp : l.getD k zero = p at *
        have HP := Lib.hid hp
        clear hp
        obtain ⟨st, ex, wr', ow, ep⟩ := p
        simp only at c0 c1 c2 c3 c4
        change Hid (∀ u, Whole u b 59 #[.int .u16 o] → Calls _ _ #[pgV st ex wr' ow ep, _] u _) at hC
        go_wp2_with (go_at_call 94; refine (hC.out _ (HB.out.belowS hb)).mono ?_; rintro e w1 ⟨rfl, hb1⟩; have hb := below_of hb hb1)
      · go_roundw
        case rel => exact ⟨k + 1, by omega, by go_num, hb, Lib.hid fun j hj => by
          by_cases hj' : j < k
          · exact hno.out j hj'
          · obtain rfl : j = k := by omega
            rw [HP.out]; exact HU.out⟩
        case measure => simp [intOf]; omega
      · go_ret
        exact ⟨⟨k, rfl, by rw [any_yes (by rw [HN.out]; exact hlt) (by rw [HP.out]; exact HU.out)]; simp⟩, hb⟩
    · obtain rfl : k = n := by omega
      go_wp2_with fail
      go_ret
      exact ⟨⟨-1, rfl, by rw [any_no (by rw [HN.out]; exact hno.out)]; rfl⟩, hb⟩
theorem containsUsed (l : List Pg) (g off cp : Nat) (w : World) (hl : l.length ≤ 256) (hg : g < w.heap.size) (h : Piece w g off l) :
    Calls Tryz.prog 53 #[.slice (some ⟨g, off, none⟩) l.length cp, .func (.func 54) #[] #[]] w fun e w' => e = .returned (.bool (l.any usedB)) ∧ Below w.heap.size w w' := by
  have C := Lib.hid (indexUsed l g off cp w hl hg h)
  clear h
  generalize hn : l.length = n at *
  have HN := Lib.hid hn
  clear hn
  generalize ha : l.any usedB = q at *
  have HA := Lib.hid ha
  clear ha
  go_enter Tryz.func53, Tryz.ntmps53
  go_wp2_with (go_at_call 93; refine C.out.mono ?_; rintro e w1 ⟨⟨r, rfl, hr⟩, hb⟩; have HR := Lib.hid hr; clear hr)
  go_ret
  exact ⟨ret_bool (HR.out.trans HA.out), hb⟩
theorem containsOwned (l : List Pg) (o : Int) (b g off cp : Nat) (w : World) (hl : l.length ≤ 256) (hg : g < w.heap.size) (h : Piece w g off l) (hB : Whole w b 59 #[.int .u16 o]) :
    Calls Tryz.prog 53 #[.slice (some ⟨g, off, none⟩) l.length cp, .func (.func 94) #[] #[.pointer (some ⟨b, 0, none⟩)]] w fun e w' => e = .returned (.bool (l.any (ownB o))) ∧ Below w.heap.size w w' := by
  have C := Lib.hid (indexOwned l o b g off cp w hl hg h hB)
  clear h hB
  generalize hn : l.length = n at *
  have HN := Lib.hid hn
  clear hn
  generalize ha : l.any (ownB o) = q at *
  have HA := Lib.hid ha
  clear ha
  go_enter Tryz.func53, Tryz.ntmps53
  go_wp2_with (go_at_call 93; refine C.out.mono ?_; rintro e w1 ⟨⟨r, rfl, hr⟩, hb⟩; have HR := Lib.hid hr; clear hr)
  go_ret
  exact ⟨ret_bool (HR.out.trans HA.out), hb⟩
end Go.Proofs.YtihcellcdkhadaaGreat.PF

/-
  What is done with an owner's page: four closures. Nothing here is a statement of the seed.
-/
namespace Go.Proofs.YtihcellcdkhadaaGreat.PF
open Go.RowKit PM PR

theorem two_new (w : World) (o o' : Obj) : Below w.heap.size w ((w.alloc o).alloc o') := (below_new w o).alloc (by simp) o'
theorem asItIs_any (p : Pg) : Says Tryz.prog 63 #[pV p] (pV p) := by
  intro w
  obtain ⟨st, ex, wr, ow, ep⟩ := p
  show Calls _ _ #[pgV st ex wr ow ep] _ _
  go_enter Tryz.func63, Tryz.ntmps63
  go_wp2_with fail
  exact bodyPost_ret (v := pgV st ex wr ow ep) (by simp [results, Tryz.results63, go_sem]) rfl ⟨rfl, two_new _ _ _⟩
theorem retire1_any (p : Pg) (ee : Int) (k E : Nat) (w : World) (hE : Whole w E 28 #[.int .u64 ee]) :
    Calls Tryz.prog 68 #[pV p, .pointer (some ⟨E, 0, none⟩)] w fun e w' => e = .returned (pV (retF ee k p)) ∧ Below w.heap.size w w' := by
  have hc := hE.cell 0
  simp only [List.getElem?_toArray, List.getElem?_cons_zero] at hc
  have hlt := hE.lt
  have hne : E ≠ w.heap.size := by omega
  have hne2 : E ≠ w.heap.size + 1 := by omega
  have hlt2 : E < w.heap.size + 1 := by omega
  have hlt3 : E < w.heap.size + 1 + 1 := by omega
  clear hE
  obtain ⟨st, ex, wr, ow, ep⟩ := p
  show Calls _ _ #[pgV st ex wr ow ep, _] _ _
  go_enter Tryz.func68, Tryz.ntmps68
  go_wp2_with fail
  exact bodyPost_ret (v := pgV 3 ex wr ow ee) (by simp [results, Tryz.results68, go_sem]) rfl ⟨rfl, two_new _ _ _⟩
theorem publish1_any (p : Pg) (code : Int) (k D E : Nat) (w : World) (hk : k ≤ 256) (hD : Whole w D 3 #[.int .i64 (k : Int)]) (hE : Whole w E 3 #[.int .i64 code]) (hDE : D ≠ E) :
    Calls Tryz.prog 64 #[pV p, .pointer (some ⟨D, 0, none⟩), .pointer (some ⟨E, 0, none⟩)] w fun e w' => e = .returned (pV (pubF code k p)) ∧ Fr (· = D) w w' ∧ Whole w' D 3 #[.int .i64 ((k + 1 : Nat) : Int)] := by
  have hc := hD.cell 0
  have hc2 := hE.cell 0
  simp only [List.getElem?_toArray, List.getElem?_cons_zero] at hc hc2
  have hf := hD.frozen 0
  have hlt := hD.lt
  have hne : D ≠ w.heap.size := by omega
  have hne2 : D ≠ w.heap.size + 1 := by omega
  have hlt2 : D < w.heap.size + 1 := by omega
  have hlt3 : D < w.heap.size + 1 + 1 := by omega
  have klt := hE.lt
  have kne : E ≠ w.heap.size := by omega
  have kne2 : E ≠ w.heap.size + 1 := by omega
  have klt2 : E < w.heap.size + 1 := by omega
  have klt3 : E < w.heap.size + 1 + 1 := by omega
  have HD := Lib.hid hD
  clear hD hE
  obtain ⟨st, ex, wr, ow, ep⟩ := p
  show Calls _ _ #[pgV st ex wr ow ep, _, _] _ fun e w' => e = .returned (pgV 2 (decide ((k : Int) < code)) (!decide ((k : Int) < code)) ow ep) ∧ _
  generalize hz : (k : Int) = x at *
  have HZ := Lib.hid hz
  have hx0 : 0 ≤ x := by omega
  have hx1 : x ≤ 256 := by omega
  clear hz hk
  go_enter Tryz.func64, Tryz.ntmps64
  go_wp2_with fail
  refine bodyPost_ret (v := pgV 2 (decide (x < code)) (!decide (x < code)) ow ep) (by simp [results, Tryz.results64, go_sem]) rfl ⟨rfl, (((Fr.refl (fun i => i = D) w).set (p := ⟨D, 0, none⟩) (Or.inl rfl) _).alloc _).alloc _, ?_⟩
  rw [show ((k + 1 : Nat) : Int) = x + 1 by have := HZ.out; omega]
  exact ((HD.out.set_ 0 _).alloc _).alloc _
end Go.Proofs.YtihcellcdkhadaaGreat.PF
